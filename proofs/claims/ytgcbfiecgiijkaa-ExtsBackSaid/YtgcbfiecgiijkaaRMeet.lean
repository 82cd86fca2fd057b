/- Meet, Minus. -/
import Derived.Test.YtgcbfiecgiijkaaRFuncs
namespace Go.Proofs.Ytgcbfiecgiijkaa
set_option linter.unusedVariables false
open Go.RowKit Go.Shelf

def lenOf : Value → Nat
  | .slice _ n _ => n
  | _ => 0
/-- a slice without its first run -/
theorem runsIn_tail {g o cap : Nat} {r : Int × Int} {l : List (Int × Int)} {w : World} (hcap : l.length + 1 ≤ cap) (hm : cap ≤ 9223372036854775807) (hg : g < w.heap.size)
    (hc : ∀ k (h : k < (r :: l).length), w.cell? ⟨g, o + k * 2, none⟩ = some (.int .i64 (r :: l)[k].1) ∧ w.cell? ⟨g, o + k * 2 + 1, none⟩ = some (.int .i64 (r :: l)[k].2)) :
    RunsIn (.slice (if cap = 1 then some ⟨g, o, none⟩ else some ⟨g, o + 2, none⟩) l.length (cap - 1)) l w := by
  refine ⟨_, _, rfl, by omega, by unfold maxLen; omega, fun hp => ?_, fun h => by split at h <;> cases h⟩
  refine ⟨g, o + 2, by rw [if_neg (by omega)], hg, fun k hk => ?_⟩
  have h := hc (k + 1) (by simp; omega)
  rw [show o + 2 + k * 2 = o + (k + 1) * 2 by omega]
  simpa using h

theorem meetGo_pair (x1 x2 y1 y2 : Int) (a b : List (Int × Int)) : meetGo ((x1, x2) :: a) ((y1, y2) :: b) = (if max x1 y1 < min (x1 + x2) (y1 + y2) then [(max x1 y1, min (x1 + x2) (y1 + y2) - max x1 y1)] else []) ++
      if x1 + x2 = min (x1 + x2) (y1 + y2) then meetGo a ((y1, y2) :: b) else meetGo ((x1, x2) :: a) b := meetGo_cons _ _ _ _
theorem runsIn_head {v : Value} {x1 x2 : Int} {l : List (Int × Int)} {w : World} (h : RunsIn v ((x1, x2) :: l) w) : ∃ g o cap, v = .slice (some ⟨g, o, none⟩) (l.length + 1) cap ∧ l.length + 1 ≤ cap ∧ cap ≤ 9223372036854775807 ∧ g < w.heap.size ∧
    w.cell? ⟨g, o, none⟩ = some (.int .i64 x1) ∧ w.cell? ⟨g, o + 1, none⟩ = some (.int .i64 x2) ∧
    ∀ k (h : k < ((x1, x2) :: l).length), w.cell? ⟨g, o + k * 2, none⟩ = some (.int .i64 ((x1, x2) :: l)[k].1) ∧ w.cell? ⟨g, o + k * 2 + 1, none⟩ = some (.int .i64 ((x1, x2) :: l)[k].2) := by
  obtain ⟨ad, cap, rfl, h1, h2, h3, h4⟩ := h
  obtain ⟨g, o, rfl, hg, hc⟩ := h3 (by simp)
  obtain ⟨c1, c2⟩ := hc 0 (by simp)
  simp only [List.getElem_cons_zero, Nat.zero_mul, Nat.add_zero] at c1 c2
  exact ⟨g, o, cap, rfl, h1, h2, hg, c1, c2, hc⟩
set_option maxRecDepth 100000 in
set_option maxHeartbeats 4000000 in
theorem meet_any (a b : List (Int × Int)) (hfa : fitR a) (hfb : fitR b) (hl : a.length + b.length ≤ 1000000) (va vb : Value) (w : World) (ha : RunsIn va a w) (hb : RunsIn vb b w) :
    Calls Try.prog 33 #[va, vb] w fun e w' => ∃ v', e = .returned v' ∧ RunsAt w.heap.size v' (meetR a b) w' ∧ Below w.heap.size w w' := by
  have mixed : Try.prog.follows .mixedOrders = true := by kernel_rfl
  have N1 := Lib.hid (norm_any a hfa (by omega) va w ha)
  have N2 := Lib.hid (fun W hv => norm_any b hfb (by omega) vb W hv)
  have HM := Lib.hid (meet_go (a := a) (b := b))
  have hoa : ∀ r ∈ normR a, okR r := fun r hr => ((norm_norm a).mem r hr).1
  have hob : ∀ r ∈ normR b, okR r := fun r hr => ((norm_norm b).mem r hr).1
  have hla := norm_len a
  have hlb := norm_len b
  generalize normR a = A at *
  generalize normR b = B at *
  generalize meetR a b = R at *
  go_enter Try.func33, Try.ntmps33
  go_wp2_with fail
  refine N1.out.mono ?_; rintro e w1 ⟨v1, rfl, hA, hb1⟩
  go_wp2_with fail
  refine (N2.out _ (runsIn_kept hb hb1)).mono ?_; rintro e w2 ⟨v2, rfl, hB, hb2⟩
  have hA2 := runsIn_kept (runsAt_in hA) hb2
  have hB2 := runsAt_in hB
  have hbw := bnext hb1 hb2
  have hlab : A.length + B.length ≤ 1000000 := by omega
  clear N1 N2 hA hB hb1 hb2 ha hb hla hlb
  go_wp2
  go_loopw [0, 1, 5] (fun sa sb vm wr => ∃ al bl out, RunsIn sa al w2 ∧ RunsIn sb bl w2 ∧ (∀ r ∈ al, okR r) ∧ (∀ r ∈ bl, okR r) ∧ out.length + (al.length + bl.length) ≤ A.length + B.length ∧ Hid (out ++ meetGo al bl = R) ∧ RunsAt w2.heap.size vm out wr ∧ Below w2.heap.size w2 wr) (fun sa sb _ _ => lenOf sa + lenOf sb)
  case atStart => exact ⟨A, B, [], hA2, hB2, hoa, hob, by simp, HM, World.ownsRow_nil _ _ _ _, Below.refl _ _⟩
  case round =>
    obtain ⟨al, bl, out, hA0, hB0, hoA, hoB, hlen, HR, hown, hbr⟩ := hrel
    have hAr := runsIn_kept hA0 hbr
    have hBr := runsIn_kept hB0 hbr
    clear hoa hob HM hA2 hB2
    obtain ⟨ada, capa, rfl, p1, p2, p3, p4⟩ := id hA0
    obtain ⟨adb, capb, rfl, q1, q2, q3, q4⟩ := id hB0
    have p2 : capa ≤ 9223372036854775807 := p2
    have q2 : capb ≤ 9223372036854775807 := q2
    cases al with
    | nil =>
      have HE : Hid (out = R) := Lib.hid (by have := HR.out; rwa [meetGo_nil, List.append_nil] at this)
      rw [HE.out] at hown
      clear p3 p4 q3 q4 hAr hBr hA0 hB0
      go_wp2
      go_ret
      exact ⟨_, rfl, row_down hbw.size hown, bnext hbw hbr⟩
    | cons x al =>
      cases bl with
      | nil =>
        have HE : Hid (out = R) := Lib.hid (by have := HR.out; rwa [meetGo_nil', List.append_nil] at this)
        rw [HE.out] at hown
        clear p3 p4 q3 q4 hAr hBr hA0 hB0
        go_wp2
        go_ret
        exact ⟨_, rfl, row_down hbw.size hown, bnext hbw hbr⟩
      | cons y bl =>
        obtain ⟨x1, x2⟩ := x
        obtain ⟨y1, y2⟩ := y
        obtain ⟨(x1p : 0 ≤ x1), (x2p : 1 ≤ x2), (x3p : x1 + x2 ≤ 9223372036854775807)⟩ := hoA (x1, x2) (by simp)
        obtain ⟨(y1p : 0 ≤ y1), (y2p : 1 ≤ y2), (y3p : y1 + y2 ≤ 9223372036854775807)⟩ := hoB (y1, y2) (by simp)
        have hoA' : ∀ r ∈ al, okR r := fun r hr => hoA r (by simp [hr])
        have hoB' : ∀ r ∈ bl, okR r := fun r hr => hoB r (by simp [hr])
        rw [meetGo_pair] at HR
        clear p3 p4 q3 q4
        obtain ⟨ga, oa, ca, ea, ra1, ra2, hga, cx1, cx2, -⟩ := runsIn_head hAr
        obtain ⟨gb, ob, cb, eb, rb1, rb2, hgb, cy1, cy2, -⟩ := runsIn_head hBr
        cases ea
        cases eb
        have hiX : I64 (x1 + x2) := ⟨by omega, by omega⟩
        have hiY : I64 (y1 + y2) := ⟨by omega, by omega⟩
        obtain ⟨s, hs⟩ : ∃ s, max x1 y1 = s := ⟨_, rfl⟩
        obtain ⟨t, ht⟩ : ∃ t, min (x1 + x2) (y1 + y2) = t := ⟨_, rfl⟩
        rw [hs, ht] at HR
        have ds : (if x1 < y1 then y1 else x1) = s := by rw [← hs]; split <;> omega
        have dt1 : (if x1 + x2 < y1 + y2 then x1 + x2 else y1 + y2) = t := by rw [← ht]; split <;> omega
        have dt2 : (if y1 + y2 < x1 + x2 then y1 + y2 else x1 + x2) = t := by rw [← ht]; split <;> omega
        have hst : I64 (t - s) := ⟨by omega, by omega⟩
        have EX := Lib.hid (end_gr x1 x2 hiX)
        have EY := Lib.hid (end_gr y1 y2 hiY)
        have z1 := cell_gr (a := ⟨ga, oa, none⟩) hga cx1
        have z2 := cell_gr (a := ⟨ga, oa + 1, none⟩) hga cx2
        have z3 := cell_gr (a := ⟨gb, ob, none⟩) hgb cy1
        have z4 := cell_gr (a := ⟨gb, ob + 1, none⟩) hgb cy2
        clear cx1 cx2 cy1 cy2
        go_wp2
        refine wp_region_quiet_grown mixed (by kernel_rfl) ?_
        repeat (go_big_quiet_step (first | (go_at_call_of 50 (Value.agg #[.int .i64 x1, .int .i64 x2]); refine Calls.grown_of (EX.out _)) | (go_at_call_of 50 (Value.agg #[.int .i64 y1, .int .i64 y2]); refine Calls.grown_of (EY.out _))))
        refine wpQuiet_nil ?_
        intro _ hw'
        obtain ⟨⟨nq, osq⟩, hw''⟩ := hw'
        subst hw''
        have hx : Below wr.heap.size wr (Sort.grow (wr.drewN nq) osq) := bgrow (below_drewN (Below.refl _ _) _) _
        have hownx := row_kept hown hx
        have hbx := hbr.trans (hx.mono hbr.size)
        clear hx hown hbr hAr hBr z1 z2 z3 z4 EX EY
        generalize Sort.grow (wr.drewN nq) osq = wx at *
        have hsx := hbx.size
        by_cases hlt : s < t
        · rw [if_pos hlt, ← List.append_assoc] at HR
          have Bt := Lib.hid (between_below s t hst)
          have hlt' : decide (s < t) = true := decide_eq_true hlt
          clear ds dt1 dt2 hlt hs ht
          go_wp2_with fail
          refine (Bt.out _).mono ?_; rintro e w3 ⟨rfl, b3⟩
          have hown3 := row_kept hownx b3
          have hb3 := hbx.trans (b3.mono hsx)
          have hs3 := hb3.size
          clear hownx hbx b3 Bt
          go_wp2_with (at_builtin; refine wpList_app rfl _ _ rfl w2.heap.size _ out rfl (hown3.alloc _) ⟨w3.heap.size, 0, none⟩ 1 1 [(s, t - s)] rfl rfl (new_cells1 _ _ _) (by simp at *; omega) (by rw [size_alloc]; omega) ?_)
          intro v' w4 hownT h4
          have hbT := (balloc' hb3 hs3 _).trans h4
          clear hown3 hb3 hs3 h4
          have E := Lib.hid (end_below x1 x2 hiX)
          obtain ⟨ga, oa, ca, ea, ra1, ra2, hga, ca1, ca2, hca⟩ := runsIn_head (runsIn_kept hA0 hbT)
          cases ea
          go_wp2_with fail
          refine (E.out _).mono ?_; rintro e w6 ⟨rfl, b6⟩
          have hown6 := row_kept hownT b6
          have hb6 := hbT.trans (b6.mono hbT.size)
          clear ca1 ca2 hca hownT hbT b6 E
          by_cases hx : x1 + x2 = t
          · have dx : (x1 + x2 == t) = true := by rw [hx]; simp
            rw [if_pos hx] at HR
            obtain ⟨ga6, oa6, ca6, ea, ra1, ra2, hga6, ca1, ca2, hca⟩ := runsIn_head hA0
            cases ea
            have hT := runsIn_tail ra1 ra2 hga6 hca
            clear hx ca1 ca2 hca hA0
            go_wp2
            exact ⟨⟨al, (y1, y2) :: bl, _, hT, hB0, hoA', hoB, by simp at *; omega, HR, hown6, hb6⟩, by simp [lenOf]⟩
          · have dx : (x1 + x2 == t) = false := by rw [beq_eq_false_iff_ne]; exact hx
            rw [if_neg hx] at HR
            obtain ⟨gb6, ob6, cb6, eb, rb1, rb2, hgb6, cb1, cb2, hcb⟩ := runsIn_head hB0
            cases eb
            have hT := runsIn_tail rb1 rb2 hgb6 hcb
            clear hx cb1 cb2 hcb hB0
            go_wp2
            exact ⟨⟨(x1, x2) :: al, bl, _, hA0, hT, hoA, hoB', by simp at *; omega, HR, hown6, hb6⟩, by simp [lenOf]⟩
        · rw [if_neg hlt, List.nil_append] at HR
          have hlt' : decide (s < t) = false := decide_eq_false hlt
          have hownT := hownx
          have hbT := hbx
          clear hownx hbx ds dt1 dt2 hlt hs ht
          have E := Lib.hid (end_below x1 x2 hiX)
          obtain ⟨ga, oa, ca, ea, ra1, ra2, hga, ca1, ca2, hca⟩ := runsIn_head (runsIn_kept hA0 hbT)
          cases ea
          go_wp2_with fail
          refine (E.out _).mono ?_; rintro e w6 ⟨rfl, b6⟩
          have hown6 := row_kept hownT b6
          have hb6 := hbT.trans (b6.mono hbT.size)
          clear ca1 ca2 hca hownT hbT b6 E
          by_cases hx : x1 + x2 = t
          · have dx : (x1 + x2 == t) = true := by rw [hx]; simp
            rw [if_pos hx] at HR
            obtain ⟨ga6, oa6, ca6, ea, ra1, ra2, hga6, ca1, ca2, hca⟩ := runsIn_head hA0
            cases ea
            have hT := runsIn_tail ra1 ra2 hga6 hca
            clear hx ca1 ca2 hca hA0
            go_wp2
            exact ⟨⟨al, (y1, y2) :: bl, _, hT, hB0, hoA', hoB, by simp at *; omega, HR, hown6, hb6⟩, by simp [lenOf]⟩
          · have dx : (x1 + x2 == t) = false := by rw [beq_eq_false_iff_ne]; exact hx
            rw [if_neg hx] at HR
            obtain ⟨gb6, ob6, cb6, eb, rb1, rb2, hgb6, cb1, cb2, hcb⟩ := runsIn_head hB0
            cases eb
            have hT := runsIn_tail rb1 rb2 hgb6 hcb
            clear hx cb1 cb2 hcb hB0
            go_wp2
            exact ⟨⟨(x1, x2) :: al, bl, _, hA0, hT, hoA, hoB', by simp at *; omega, HR, hown6, hb6⟩, by simp [lenOf]⟩
theorem compl_len (l : List (Int × Int)) {n : Int} (hn : n ≤ 9223372036854775807) : (complR l n).length ≤ l.length + 1 := by
  rw [← compl_gaps l hn]
  exact Nat.le_trans (gaps_len _ _ _) (Nat.succ_le_succ (norm_len l))
theorem fit_compl (l : List (Int × Int)) (n : Int) : fitR (complR l n) := (compl_norm l n).fit
set_option maxRecDepth 100000 in
set_option maxHeartbeats 2000000 in
theorem minus_any (a b : List (Int × Int)) (hfa : fitR a) (hfb : fitR b) (hl : a.length + b.length ≤ 400000) (va vb : Value) (w : World) (ha : RunsIn va a w) (hb : RunsIn vb b w) :
    Calls Try.prog 61 #[va, vb] w fun e w' => ∃ v', e = .returned v' ∧ RunsAt w.heap.size v' (minusR a b) w' ∧ Below w.heap.size w w' := by
  have hcl := compl_len b (Int.le_refl 9223372036854775807)
  have C := Lib.hid (compl_any b hfb (by omega) 9223372036854775807 ⟨by omega, by omega⟩ vb w hb)
  have M := Lib.hid (fun v W hA hB => meet_any a (complR b 9223372036854775807) hfa (fit_compl _ _) (by omega) va v W hA hB)
  rw [minus_meet] at M
  go_enter Try.func61, Try.ntmps61
  go_wp2_with fail
  refine C.out.mono ?_; rintro e w1 ⟨v1, rfl, h1, hb1⟩
  go_wp2_with fail
  refine (M.out _ _ (runsIn_kept ha hb1) (runsAt_in h1)).mono ?_; rintro e w2 ⟨v2, rfl, h2, hb2⟩
  have hbw := bnext hb1 hb2
  have h3 := row_down hb1.size h2
  clear ha hb h1 h2 hb1 hb2 C M
  go_wp2
  go_ret
  exact ⟨_, rfl, h3, hbw⟩
end Go.Proofs.Ytgcbfiecgiijkaa
