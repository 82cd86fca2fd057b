/- The document's May, put, Normal, cut, Minus, Meet, Union, Complement. -/
import Derived.Test.YtgcbfiecgiijkaaRSame
import Derived.Test.YtgcbfiecgiijkaaRMeet
import Derived.Maps.AppendAt
namespace Go.Proofs.Ytgcbfiecgiijkaa
set_option linter.unusedVariables false
open Go.RowKit Go.Shelf

theorem may_any (a b : Int) (ha : I64 a) (hb : I64 b) (w : World) :
    Calls Try.prog 57 #[.agg #[.int .i64 a, .int .i64 b]] w fun e w' => e = .returned (.bool (decide (okR (a, b)))) ∧ w' = w.alloc (.cells #[.int .i64 a, .int .i64 b] 32) := by
  obtain ⟨ha1, ha2⟩ := ha
  obtain ⟨hb1, hb2⟩ := hb
  have E : Hid (decide (okR (a, b)) = (decide (0 ≤ a) && decide (1 ≤ b) && decide (b ≤ 9223372036854775807 - a))) := Lib.hid (by
    rw [Bool.eq_iff_iff]; simp only [Bool.and_eq_true, decide_eq_true_eq]; unfold okR
    show 0 ≤ a ∧ 1 ≤ b ∧ a + b ≤ _ ↔ _
    omega)
  by_cases h1 : 0 ≤ a
  · by_cases h2 : 1 ≤ b
    · go_enter Try.func57, Try.ntmps57
      go_wp2
      go_ret
      exact ⟨ret_bool (by rw [E.out]; simp [h1, h2]), rfl⟩
    · have h2' : b < 1 := by omega
      go_enter Try.func57, Try.ntmps57
      go_wp2
      go_ret
      exact ⟨ret_bool (by rw [E.out]; simp [h1]; omega), rfl⟩
  · have h1' : a < 0 := by omega
    go_enter Try.func57, Try.ntmps57
    go_wp2
    go_ret
    exact ⟨ret_bool (by rw [E.out]; simp; omega), rfl⟩
theorem may_below (a b : Int) (ha : I64 a) (hb : I64 b) (W : World) :
    Calls Try.prog 57 #[.agg #[.int .i64 a, .int .i64 b]] W fun e w' => e = .returned (.bool (decide (okR (a, b)))) ∧ Below W.heap.size W w' :=
  (may_any a b ha hb W).mono fun e w' ⟨he, hw⟩ => ⟨he, by rw [hw]; exact balloc1 _ _⟩
theorem may_gr (a b : Int) (ha : I64 a) (hb : I64 b) (W : World) :
    Calls Try.prog 57 #[.agg #[.int .i64 a, .int .i64 b]] W fun e w' => e = .returned (.bool (decide (okR (a, b)))) ∧ ∃ q os', w' = Sort.grow (W.drewN q) os' :=
  (may_any a b ha hb W).mono fun e w' ⟨he, hw⟩ => ⟨he, 0, _, hw.trans (Sort.alloc_eq_grow _ _)⟩

/-! ### cut -/
theorem cut_nil (x : Int × Int) : cutR [] x = [] := rfl
theorem cut_cons (x y : Int × Int) (l : List (Int × Int)) : cutR (y :: l) x = leftR x y ++ cutR l x := rfl
set_option maxRecDepth 100000 in
set_option maxHeartbeats 4000000 in
theorem cut_any (l : List (Int × Int)) (hn : Norm (-1) l) (hl : l.length ≤ 1000) (x1 x2 : Int) (hx : okR (x1, x2)) (v : Value) (w : World) (hv : RunsIn v l w) :
    Calls Try.prog 69 #[v, .agg #[.int .i64 x1, .int .i64 x2]] w fun e w' => ∃ v', e = .returned v' ∧ RunsAt w.heap.size v' (cutR l (x1, x2)) w' ∧ Below w.heap.size w w' := by
  obtain ⟨(hx1 : 0 ≤ x1), (hx2 : 1 ≤ x2), (hx3 : x1 + x2 ≤ 9223372036854775807)⟩ := hx
  have hokl : ∀ r ∈ l, okR r := fun r hr => (hn.mem r hr).1
  have hb1 := balloc1 w (.cells #[.int .i64 x1, .int .i64 x2] 32)
  have hv1 := runsIn_kept hv hb1
  obtain ⟨ad, cap, rfl, h1, h2, h3, -⟩ := id hv1
  have h2 : cap ≤ 9223372036854775807 := h2
  have x0 : (w.alloc (.cells #[.int .i64 x1, .int .i64 x2] 32)).cell? ⟨w.heap.size, 0, none⟩ = some (.int .i64 x1) := by rw [World.cell?_alloc_mark]; rfl
  have x0' : (w.alloc (.cells #[.int .i64 x1, .int .i64 x2] 32)).cell? ⟨w.heap.size, 1, none⟩ = some (.int .i64 x2) := by rw [World.cell?_alloc_mark]; rfl
  have hsz : w.heap.size < (w.alloc (.cells #[.int .i64 x1, .int .i64 x2] 32)).heap.size := by rw [size_alloc]; omega
  clear hv hv1
  go_enter Try.func69, Try.ntmps69
  go_wp2
  generalize w.alloc (.cells #[.int .i64 x1, .int .i64 x2] 32) = w1 at *
  go_loopw [5, 6] (fun vo p wr => ∃ (k : Nat) (out : List (Int × Int)), p = .int .i64 k ∧ k ≤ l.length ∧ out.length ≤ 2 * k ∧ Hid (out ++ cutR (l.drop k) (x1, x2) = cutR l (x1, x2)) ∧ RunsAt w1.heap.size vo out wr ∧ Below w1.heap.size w1 wr) (fun _ p _ => l.length - (intOf p).toNat)
  case atStart => exact ⟨0, [], rfl, Nat.zero_le _, Nat.le_refl _, Lib.hid rfl, World.ownsRow_nil _ _ _ _, Below.refl _ _⟩
  case round =>
    obtain ⟨k, out, rfl, hk, hol, HR, hown, hb⟩ := hrel
    have e1 := (hb.cell (p := ⟨w.heap.size, 0, none⟩) hsz).trans x0
    have e2 := (hb.cell (p := ⟨w.heap.size, 1, none⟩) hsz).trans x0'
    by_cases hlt : k < l.length
    · obtain ⟨g, o, rfl, hg, hc⟩ := h3 (by omega)
      obtain ⟨c1, c2⟩ := hc k hlt
      have c1 := (hb.cell (p := ⟨g, o + k * 2, none⟩) hg).trans c1
      have c2 := (hb.cell (p := ⟨g, o + k * 2 + 1, none⟩) hg).trans c2
      have hoky : okR (l[k].1, l[k].2) := hokl _ (List.getElem_mem hlt)
      have hd : l.drop k = (l[k].1, l[k].2) :: l.drop (k + 1) := List.drop_eq_getElem_cons hlt
      rw [hd, cut_cons, ← List.append_assoc] at HR
      have hbq := balloc' hb hb.size (.cells #[.int .i64 l[k].1, .int .i64 l[k].2] 32)
      have hownq := hown.alloc (.cells #[.int .i64 l[k].1, .int .i64 l[k].2] 32)
      have hgr : w.heap.size < wr.heap.size := Nat.lt_of_lt_of_le hsz hb.size
      have f1 := cell_old (a := ⟨w.heap.size, 0, none⟩) hgr e1 (.cells #[.int .i64 l[k].1, .int .i64 l[k].2] 32)
      have f2 := cell_old (a := ⟨w.heap.size, 1, none⟩) hgr e2 (.cells #[.int .i64 l[k].1, .int .i64 l[k].2] 32)
      obtain ⟨yy1, yy2⟩ := two_old (Below.refl (wr.heap.size + 1) (wr.alloc (.cells #[.int .i64 l[k].1, .int .i64 l[k].2] 32)))
      have g1 : ∀ q, ((wr.alloc (.cells #[.int .i64 l[k].1, .int .i64 l[k].2] 32)).drewN q).cell? ⟨wr.heap.size, 0, none⟩ = some (.int .i64 l[k].1) := fun _ => yy1
      have g2 : ∀ q, ((wr.alloc (.cells #[.int .i64 l[k].1, .int .i64 l[k].2] 32)).drewN q).cell? ⟨wr.heap.size, 1, none⟩ = some (.int .i64 l[k].2) := fun _ => yy2
      generalize l[k].1 = y1 at *
      generalize l[k].2 = y2 at *
      obtain ⟨(hy1 : 0 ≤ y1), (hy2 : 1 ≤ y2), (hy3 : y1 + y2 ≤ 9223372036854775807)⟩ := hoky
      obtain ⟨mn, hmn⟩ : ∃ mn, min (y1 + y2) x1 = mn := ⟨_, rfl⟩
      obtain ⟨mx, hmx⟩ : ∃ mx, max y1 (x1 + x2) = mx := ⟨_, rfl⟩
      have m1 : (if y1 + y2 < x1 then y1 + y2 else x1) = mn := by rw [← hmn]; split <;> omega
      have m2 : (if x1 < y1 + y2 then x1 else y1 + y2) = mn := by rw [← hmn]; split <;> omega
      have m3 : (if y1 < x1 + x2 then x1 + x2 else y1) = mx := by rw [← hmx]; split <;> omega
      have HL : Hid (leftR (x1, x2) (y1, y2) = (if y1 < mn then [(y1, mn - y1)] else []) ++ (if mx < y1 + y2 then [(mx, y1 + y2 - mx)] else [])) := Lib.hid (by rw [← hmn, ← hmx]; rfl)
      rw [HL.out] at HR
      have b1 : mn ≤ 9223372036854775807 := by omega
      have b2 : 0 ≤ mn := by omega
      have b3 : 0 ≤ mx := by omega
      have b4 : mx ≤ 9223372036854775807 := by omega
      clear hc h3 hd HL hokl hn hown hb yy1 yy2 e1 e2
      go_wp2
      generalize wr.alloc (.cells #[.int .i64 y1, .int .i64 y2] 32) = wq at *
      go_quiet (fail)
      have hbx : Below w1.heap.size w1 (wq.drewN nq) := below_drewN hbq _
      have hownx : RunsAt w1.heap.size _ out (wq.drewN nq) := hownq
      have f1 : (wq.drewN nq).cell? ⟨w.heap.size, 0, none⟩ = some (.int .i64 x1) := f1
      have f2 : (wq.drewN nq).cell? ⟨w.heap.size, 1, none⟩ = some (.int .i64 x2) := f2
      clear hownq hbq g1 g2
      generalize wq.drewN nq = wx at *
      have hsx := hbx.size
      by_cases hA : y1 < mn
      · rw [if_pos hA, ← List.append_assoc] at HR
        have dA : decide (y1 < mn) = true := decide_eq_true hA
        go_wp2_with (at_builtin; refine wpList_app rfl _ _ rfl w1.heap.size _ out rfl (hownx.alloc _) ⟨wx.heap.size, 0, none⟩ 1 1 [(y1, mn - y1)] rfl rfl (new_cells1 _ _ _) (by omega) (by rw [size_alloc]; omega) ?_)
        intro v3 wT hownT h4
        have hbT := (balloc' hbx hsx _).trans h4
        have f1 := (hbT.cell (p := ⟨w.heap.size, 0, none⟩) hsz).trans x0
        have f2 := (hbT.cell (p := ⟨w.heap.size, 1, none⟩) hsz).trans x0'
        obtain ⟨outT, hoT⟩ : ∃ outT, out ++ [(y1, mn - y1)] = outT := ⟨_, rfl⟩
        have hoTl : outT.length = out.length + 1 := by rw [← hoT]; simp
        rw [hoT] at HR hownT
        clear hownx hbx h4 dA x0 x0' hoT
        by_cases hB : mx < y1 + y2
        · rw [if_pos hB] at HR
          have hsT := hbT.size
          have dB : decide (mx < y1 + y2) = true := decide_eq_true hB
          go_wp2_with (at_builtin; refine wpList_app rfl _ _ rfl w1.heap.size _ outT rfl (hownT.alloc _) ⟨wT.heap.size, 0, none⟩ 1 1 [(mx, y1 + y2 - mx)] rfl rfl (new_cells1 _ _ _) (by omega) (by rw [size_alloc]; omega) ?_)
          intro v5 w5 h5 h6
          have hb6 := (balloc' hbT hsT _).trans h6
          clear hownT hbT h6 f1 f2 dB
          go_wp2
          exact ⟨⟨k + 1, outT ++ [(mx, y1 + y2 - mx)], by go_num, by omega, by simp; omega, HR, h5, hb6⟩, by simp [intOf]; omega⟩
        · rw [if_neg hB, List.append_nil] at HR
          have dB : decide (mx < y1 + y2) = false := decide_eq_false hB
          have hB : y1 + y2 ≤ mx := by omega
          go_wp2
          exact ⟨⟨k + 1, outT, by go_num, by omega, by omega, HR, hownT, hbT⟩, by simp [intOf]; omega⟩
      · rw [if_neg hA, List.nil_append] at HR
        have dA : decide (y1 < mn) = false := decide_eq_false hA
        have hA : mn ≤ y1 := by omega
        have hownT := hownx
        have hbT := hbx
        obtain ⟨outT, rfl⟩ : ∃ outT, outT = out := ⟨_, rfl⟩
        obtain ⟨wT, rfl⟩ : ∃ wT, wT = wx := ⟨_, rfl⟩
        clear hownx hbx x0 x0'
        by_cases hB : mx < y1 + y2
        · rw [if_pos hB] at HR
          have hsT := hbT.size
          have dB : decide (mx < y1 + y2) = true := decide_eq_true hB
          go_wp2_with (at_builtin; refine wpList_app rfl _ _ rfl w1.heap.size _ outT rfl (hownT.alloc _) ⟨wT.heap.size, 0, none⟩ 1 1 [(mx, y1 + y2 - mx)] rfl rfl (new_cells1 _ _ _) (by omega) (by rw [size_alloc]; omega) ?_)
          intro v5 w5 h5 h6
          have hb6 := (balloc' hbT hsT _).trans h6
          clear hownT hbT h6 f1 f2 dB
          go_wp2
          exact ⟨⟨k + 1, outT ++ [(mx, y1 + y2 - mx)], by go_num, by omega, by simp; omega, HR, h5, hb6⟩, by simp [intOf]; omega⟩
        · rw [if_neg hB, List.append_nil] at HR
          have dB : decide (mx < y1 + y2) = false := decide_eq_false hB
          have hB : y1 + y2 ≤ mx := by omega
          go_wp2
          exact ⟨⟨k + 1, outT, by go_num, by omega, by omega, HR, hownT, hbT⟩, by simp [intOf]; omega⟩
    · obtain rfl : k = l.length := by omega
      rw [List.drop_length, cut_nil, List.append_nil] at HR
      rw [HR.out] at hown
      clear h3 x0 x0' e1 e2
      go_wp2
      go_ret
      exact ⟨_, rfl, row_down (by omega) hown, hb1.trans (hb.mono (by omega))⟩
end Go.Proofs.Ytgcbfiecgiijkaa
