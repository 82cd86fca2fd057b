import Derived.Test.YtknefoemgifbfaaGreatPd25
import Derived.Test.YtknefoemgifbfaaGreatPd18
import Derived.Test.YtknefoemgifbfaaGreatPd20
set_option linter.unusedVariables false
set_option linter.unusedSimpArgs false
set_option linter.constructorNameAsVariable false
namespace Go.Proofs.YtknefoemgifbfaaGreat
open Go.RowKit
theorem three_rows {α : Type} {P : Value → α → World → Prop} {g : Nat} {v1 v2 v3 : Value} {x1 x2 x3 : α} {t : TypeId} {w : World} (h : Blk g #[v1, v2, v3] t w) (p1 : P v1 x1 w) (p2 : P v2 x2 w) (p3 : P v3 x3 w) : RowsIn P (.slice (some ⟨g, 0, none⟩) 3 3) [x1, x2, x3] w := by
  refine ⟨[v1, v2, v3], rfl, ⟨rfl, _, _, rfl, Nat.le_refl _, by unfold maxLen; omega, fun _ => ⟨g, 0, rfl, h.lt, fun k u hk => ?_⟩, fun e => by cases e⟩, fun k a b => ?_⟩
  · rw [Nat.zero_add, h.cell k]
    simpa using hk
  · match k, a with
    | 0, _ => exact p1
    | 1, _ => exact p2
    | 2, _ => exact p3
theorem StRows.from {α : Type} {P : Value → α → World → Prop} {C : Fr} {ad : Option Addr} {L : List α} {n cap : Nat} {w : World} (hn : n = L.length) (h : StRows P C (.slice ad n cap) L w) {k : Nat} (hk : k ≤ n) : StRows P C (.slice (fromA ad k 1 cap) (n - k) (cap - k)) (L.drop k) w := by
  subst hn
  obtain ⟨ad2, cp2, e2, c1, c2, -⟩ := StRows.cells h
  injection e2 with e3 e4 e5
  subst e3 e5
  have hnone : ad = none → cap = 0 := by
    obtain ⟨Vs, -, h2, -⟩ := h
    obtain ⟨-, ad', cap', e, -, -, -, k4⟩ := h2 w (C.refl _)
    injection e with e1 e2 e3
    subst e1 e3
    exact k4
  unfold fromA
  by_cases hc : cap = k
  · rw [if_pos hc]
    have h0 : L.drop k = [] := List.drop_eq_nil_iff.2 (by omega)
    rw [h0, hc, Nat.sub_self, show L.length - k = 0 by omega]
    exact ⟨[], rfl, fun w' g => ⟨rfl, ad, 0, rfl, Nat.le_refl _, by unfold maxLen; omega, fun hp => by simp at hp, fun e => rfl⟩, fun k a => by simp at a⟩
  · rw [if_neg hc]
    cases ad with
    | none => have := hnone rfl; omega
    | some a =>
      by_cases hL : 0 < L.length
      · obtain ⟨ad3, cp3, e3, -, -, h5⟩ := StRows.cells h
        injection e3 with e6 e7 e8
        subst e8
        obtain ⟨g, o, u, e9, -, -⟩ := h5 0 hL
        rw [← e6] at e9
        injection e9 with e9
        subst e9
        show StRows P C (.slice (some ((⟨g, o, none⟩ : Addr).add (k * 1))) _ _) _ w
        rw [add_at, Nat.mul_one]
        exact StRows.drop h hk c2 (by omega)
      · have h0 : L.drop k = [] := List.drop_eq_nil_iff.2 (by omega)
        rw [h0, show L.length - k = 0 by omega]
        exact ⟨[], rfl, fun w' g => ⟨rfl, _, cap - k, rfl, Nat.zero_le _, by unfold maxLen; omega, fun hp => by simp at hp, fun e => by cases e⟩, fun k a => by simp at a⟩
abbrev spanV (s : Span) : Value := .agg #[.int .i64 (s.first : Int), .int .i64 (s.last : Int), .int .i64 (s.start : Int), .int .i64 (s.stop : Int)]
theorem splitA_some {l : List Ent} {k : Nat} (h : k < (splitA l).length) : 0 < (splitA l)[k].length ∧ (splitA l).length ≤ l.length := by
  have hn := splitA_len l
  have hl := splitN_le l.length
  rw [hn] at h
  refine ⟨?_, by omega⟩
  have e : (splitA l)[k] = fpartA l (splitN l.length) k := by simp only [splitA_eq, List.getElem_map, List.getElem_range]
  rw [e, fpartA_len (by omega) h]
  have := fpart_lt (m := l.length) (n := splitN l.length) (i := k) (by omega) hl
  omega
theorem madeA_succ (hs : List Ent) (s : Span) (parts : List (List Ent)) (k : Nat) : (List.range (k + 1)).map (fun k => (⟨(eat (nodeAt parts k) 0).log, if s.first + k < s.last then (eat hs (s.first + k)).phys else 0, 0⟩ : Ent)) = (List.range k).map (fun k => (⟨(eat (nodeAt parts k) 0).log, if s.first + k < s.last then (eat hs (s.first + k)).phys else 0, 0⟩ : Ent)) ++ [⟨(eat (nodeAt parts k) 0).log, if s.first + k < s.last then (eat hs (s.first + k)).phys else 0, 0⟩] := by
  rw [List.range_succ, List.map_append, List.map_singleton]
theorem RowsAt.keptP {C : Fr} {B : Nat} {v : Value} {L : List (List Ent)} {w w' : World} (h : RowsAt (EntsT C) 22 B v L w) (b : Below w.heap.size w w') : RowsAt (EntsT C) 22 B v L w' := partsAt_kept h b
theorem parts_shape {C : Fr} {B : Nat} {v : Value} {L : List (List Ent)} {w : World} (h : PartsAt C B v L w) : ∃ ad n cap, v = .slice ad n cap := by
  obtain ⟨Vs, h1, h2, h3⟩ := h
  obtain ⟨ad, cap, e, -⟩ := shape_of h2
  exact ⟨ad, _, cap, e⟩
theorem own_slice {B z n : Nat} {e : TypeId} {v : Value} {xs : List Value} {w : World} (h : w.ownsRow B e z v n xs) : ∃ ad m cap, v = .slice ad m cap := by
  obtain ⟨ad, cap, e, -⟩ := shape_of h
  exact ⟨ad, _, cap, e⟩
theorem entsT_one {C : Fr} {v : Value} {x : List Ent} {w : World} (h : EntsT C v x w) : v.oneCell' = true := by
  obtain ⟨ad, cap, rfl, -⟩ := entsIn_cells h.now
  rfl
theorem cat3_any (C : Fr) (A B D : List (List Ent)) (hA : A.length ≤ 60000) (hB : B.length ≤ 60000) (hD : D.length ≤ 60000) (va vb vd : Value) (g : Nat) (T : TypeId) (W : World) (hg : Blk g #[va, vb, vd] T W) (ka : NodesT C va A W) (kb : NodesT C vb B W) (kd : NodesT C vd D W) :
    Calls Tryz.prog 156 #[.slice (some ⟨g, 0, none⟩) 3 3] W fun e W' => ∃ u, e = .returned u ∧ PartsAt C W.heap.size u (A ++ (B ++ D)) W' ∧ Below W.heap.size W W' := by
  obtain ⟨U1, a1, a2, a3⟩ := ka
  obtain ⟨U2, b1, b2, b3⟩ := kb
  obtain ⟨U3, d1, d2, d3⟩ := kd
  have q1 : HdrIn va U1 W := by have := a2 W (C.refl _); rw [← a1] at this; exact this
  have q2 : HdrIn vb U2 W := by have := b2 W (C.refl _); rw [← b1] at this; exact this
  have q3 : HdrIn vd U3 W := by have := d2 W (C.refl _); rw [← d1] at this; exact this
  have hone : ∀ l ∈ [U1, U2, U3], ∀ x ∈ l, x.oneCell' = true := fun l hl x hx => by
    obtain ⟨j, hj, rfl⟩ := List.mem_iff_getElem.1 hx
    simp only [List.mem_cons, List.not_mem_nil, or_false] at hl
    rcases hl with rfl | rfl | rfl
    · exact entsT_one (a3 j hj (by omega))
    · exact entsT_one (b3 j hj (by omega))
    · exact entsT_one (d3 j hj (by omega))
  have hfl : [U1, U2, U3].flatten = U1 ++ (U2 ++ U3) := by simp
  have hc := hconcat_any [U1, U2, U3] hone (by simp) (by rw [hfl]; simp only [List.length_append]; omega) _ W (three_rows hg q1 q2 q3)
  rw [hfl] at hc
  refine hc.mono ?_; rintro e W' ⟨u, rfl, hu, hb⟩
  refine ⟨u, rfl, ⟨U1 ++ (U2 ++ U3), by simp only [List.length_append]; omega, ?_, fun k x y => ?_⟩, hb⟩
  · rw [show (A ++ (B ++ D)).length = (U1 ++ (U2 ++ U3)).length by simp only [List.length_append]; omega]; exact hu
  · simp only [List.length_append] at x y
    by_cases c1 : k < U1.length
    · rw [List.getElem_append_left c1, List.getElem_append_left (by omega)]
      exact entsT_kept (a3 k c1 (by omega)) hb
    · rw [List.getElem_append_right («as» := U1) (by omega), List.getElem_append_right («as» := A) (by omega)]
      by_cases c2 : k - U1.length < U2.length
      · rw [List.getElem_append_left («as» := U2) c2, List.getElem_append_left («as» := B) (by omega)]
        simp only [a1]
        exact entsT_kept (b3 (k - A.length) (by omega) (by omega)) hb
      · rw [List.getElem_append_right («as» := U2) (by omega), List.getElem_append_right («as» := B) (by omega)]
        simp only [a1, b1]
        exact entsT_kept (d3 (k - A.length - B.length) (by omega) (by omega)) hb
end Go.Proofs.YtknefoemgifbfaaGreat
namespace Go.Proofs.YtknefoemgifbfaaGreat
open Go.RowKit
set_option maxRecDepth 100000 in
set_option maxHeartbeats 16000000 in
theorem fkpack_any (C : Fr) (ns : List (List Ent)) (hs l : List Ent) (s : Span) (hso : SpanOk ns l s) (hhs : hs.length = ns.length) (hln : ns.length ≤ 50000) (hll : l.length ≤ 50000) (nv hv lv : Value) (w : World) (hn : NodesT C nv ns w) (hh : EntsIn hv hs w) (hl : EntsT C lv l w) :
    Calls Tryz.prog 131 #[nv, hv, lv, spanV s] w fun e w' => ∃ un uh, e = .returned (.tuple #[un, uh]) ∧ PartsAt C w.heap.size un (packN ns l s) w' ∧ EntsAt w.heap.size uh (packH hs l s) w' ∧ Below w.heap.size w w' := by
  have mixed : Tryz.prog.follows .mixedOrders = true := by kernel_rfl
  obtain ⟨na, nc, rfl, n1, n2, -⟩ := StRows.cells hn
  obtain ⟨ha, hc, rfl, h1, h2, h3, h4⟩ := entsIn_cells hh
  obtain ⟨la, lc, rfl, l1, l2, l3, l4⟩ := entsIn_cells hl.now
  have s1 := hso.a
  have s2 := hso.b
  have s3 := hso.c
  have s4 := hso.d
  obtain ⟨F, T, A, Z⟩ := s
  dsimp only at s1 s2 s3 s4
  have hTh : T ≤ hs.length := by omega
  have hsn : hs.length ≤ 50000 := by omega
  clear hhs
  have hb0 : Below w.heap.size w (w.alloc (.cells #[.int .i64 (F : Int), .int .i64 (T : Int), .int .i64 (A : Int), .int .i64 (Z : Int)] 200)) := balloc1 _ _
  have hX : Blk w.heap.size #[.int .i64 (F : Int), .int .i64 (T : Int), .int .i64 (A : Int), .int .i64 (Z : Int)] 200 (w.alloc (.cells #[.int .i64 (F : Int), .int .i64 (T : Int), .int .i64 (A : Int), .int .i64 (Z : Int)] 200)) := Blk.new _ _ _
  have hcut : EntsT C (.slice (fromA la A 3 lc) (Z - A) (lc - A)) (cutL l ⟨F, T, A, Z⟩) w := by
    have k1 := fromE_ents rfl hl (k := A) (by omega)
    exact EntsT.take (by rw [List.length_drop]) k1 (by rw [List.length_drop]; omega)
  have hcl : (cutL l ⟨F, T, A, Z⟩).length ≤ 50000 := by rw [cutL_len hso]; dsimp only; omega
  have HSP := Lib.hid (fksplit_any C (cutL l ⟨F, T, A, Z⟩) (by omega) _ _ (entsT_kept hcut hb0))
  have hcr := cutE_run la l.length lc A Z s3 (by omega)
  have HB0 := Lib.hid hb0
  have HNO := Lib.hid h4
  have HN := Lib.hid hn
  have HH := Lib.hid hh
  have HX := Lib.hid hX
  unfold packN packH
  obtain ⟨parts, hparts⟩ : ∃ p, splitA (cutL l ⟨F, T, A, Z⟩) = p := ⟨_, rfl⟩
  have HPS : Hid (∀ k (h : k < parts.length), 0 < parts[k].length) := Lib.hid (by subst hparts; exact fun k h => (splitA_some h).1)
  have hpn : parts.length ≤ 50000 := by rw [← hparts, splitA_len]; have := splitN_le (cutL l ⟨F, T, A, Z⟩).length; omega
  rw [hparts] at HSP ⊢
  dsimp only
  have c2 := hX.cell 2
  have c3 := hX.cell 3
  simp only [List.getElem?_toArray, List.getElem?_cons_zero, List.getElem?_cons_succ] at c2 c3
  clear hn hh hl hb0 hX hcut hparts l3 l4 hcl
  go_enter Tryz.func131, Tryz.ntmps131
  go_wp2_with fail
  refine HSP.out.mono ?_; rintro e w2 ⟨pv, rfl, hp, b2⟩
  have HP2 := Lib.hid hp
  have HB2 := Lib.hid (bnext HB0.out b2)
  have HX2 := Lib.hid (HX.out.kept1 b2)
  obtain ⟨Vs, v1, v2, v3⟩ := id hp
  obtain ⟨pa, pc, rfl, p1, p2, p3⟩ := shape_of v2
  have HPC : Hid (∀ wr, Below w2.heap.size w2 wr → ∀ k (h : k < parts.length), ∃ g c ga oa, pa = some ⟨g, 0, none⟩ ∧ wr.cell? ⟨g, k, none⟩ = some (.slice (some ⟨ga, oa, none⟩) parts[k].length c) ∧ wr.cell? ⟨ga, oa, none⟩ = some (.int .i64 (eat (nodeAt parts k) 0).log)) := Lib.hid fun wr hb k h => by
    obtain ⟨g, rfl, g1, g2⟩ := p3 (by omega)
    have hc := v2.cellAt k (by omega)
    rw [List.getElem?_eq_getElem (by omega)] at hc
    have he := v3 k (by omega) h
    obtain ⟨a9, c9, e9, -, -, h9, -⟩ := entsIn_cells he.now
    obtain ⟨ga, oa, rfl, hga, h8⟩ := h9 (HPS.out k h)
    rw [e9] at hc
    refine ⟨g, c9, ga, oa, rfl, (hb.cell (p := ⟨g, k, none⟩) g2).trans hc, ?_⟩
    have := (h8 wr hb 0 (HPS.out k h)).1
    rw [Nat.zero_mul, Nat.add_zero] at this
    unfold nodeAt
    rw [List.getElem?_eq_getElem h]
    exact this
  obtain ⟨MD, hMD⟩ : ∃ MD : Nat → List Ent, MD = fun k => (List.range k).map (fun k => (⟨(eat (nodeAt parts k) 0).log, if F + k < T then (eat hs (F + k)).phys else 0, 0⟩ : Ent)) := ⟨_, rfl⟩
  have HM0 : Hid (MD 0 = []) := Lib.hid (by rw [hMD]; rfl)
  have HML : Hid (∀ k, (MD k).length = k) := Lib.hid fun k => by rw [hMD]; simp
  have HMS : Hid (∀ k, MD (k + 1) = MD k ++ [⟨(eat (nodeAt parts k) 0).log, if F + k < T then (eat hs (F + k)).phys else 0, 0⟩]) := Lib.hid fun k => by rw [hMD]; exact madeA_succ hs ⟨F, T, A, Z⟩ parts k
  have HME : Hid (madeA hs ⟨F, T, A, Z⟩ parts = MD parts.length) := Lib.hid (by rw [hMD]; rfl)
  have HHC : Hid (∀ wr, Below w2.heap.size w2 wr → ∀ k, k < hs.length → ∃ g o, ha = some ⟨g, o, none⟩ ∧ wr.cell? ⟨g, o + k * 3 + 1, none⟩ = some (.int .i64 (eat hs k).phys)) := Lib.hid fun wr hb k hk => by
    obtain ⟨g, o, e, -, h9⟩ := h3 (by omega)
    exact ⟨g, o, e, (h9 wr (bnext HB2.out hb) k hk).2.1⟩
  have p2 : pc ≤ 9223372036854775807 := p2
  have hX2s := HB2.out.size
  clear hMD hp v1 v2 v3 p3 h3 h4 HSP HX b2 c2 c3
  go_wp2
  go_loopw [11, 12, 13, 14, 24] (fun mv q12 q13 q14 p wr => ∃ k : Nat, p = .int .i64 (k : Int) ∧ k ≤ parts.length ∧ Hid (EntsAt w2.heap.size mv (MD k) wr) ∧ Hid (Below w2.heap.size w2 wr)) (fun _ _ _ _ p _ => parts.length - (intOf p).toNat)
  case atStart => exact ⟨0, rfl, Nat.zero_le _, Lib.hid (by rw [HM0.out]; exact World.ownsRow_nil _ _ _ _), Lib.hid (Below.refl _ _)⟩
  case round =>
    obtain ⟨k, rfl, hk, HM, HB⟩ := hrel
    by_cases hlt : k < parts.length
    · obtain ⟨g, c, ga, oa, rfl, k1, k2⟩ := HPC.out wr HB.out k hlt
      have HMK := Lib.hid (HMS.out k)
      have hml := HML.out k
      have hwr := HB.out.size
      have hpp := HPS.out k hlt
      generalize parts[k].length = plen at *
      have hX6 := (HX2.out.kept1 HB.out)
      have b6 : Below wr.heap.size wr (wr.alloc (.cells #[.int .i64 (eat (nodeAt parts k) 0).log, .int .i64 0, .int .i64 0] 31)) := balloc1 _ _
      have HX6 := Lib.hid (hX6.kept1 b6)
      have HB6 := Lib.hid (bnext HB.out b6)
      have HBW := Lib.hid b6
      have HMW := HM
      have HBR := HB
      have HY6 : Hid (Blk wr.heap.size #[.int .i64 (eat (nodeAt parts k) 0).log, .int .i64 0, .int .i64 0] 31 (wr.alloc (.cells #[.int .i64 (eat (nodeAt parts k) 0).log, .int .i64 0, .int .i64 0] 31))) := Lib.hid (Blk.new _ _ _)
      generalize (eat (nodeAt parts k) 0).log = lg at *
      clear HM HB hX6 b6
      go_upto_region 7 with fail
      generalize wr.alloc (.cells #[.int .i64 lg, .int .i64 0, .int .i64 0] 31) = w6 at *
      generalize hxb : wr.heap.size = xb at *
      have HXB := Lib.hid hxb
      clear k1 k2 hxb
      have x0 := HX6.out.cell 0
      have x1 := HX6.out.cell 1
      simp only [List.getElem?_toArray, List.getElem?_cons_zero, List.getElem?_cons_succ] at x0 x1
      by_cases hft : F + k < T
      · have hhk : F + k < hs.length := by omega
        obtain ⟨gh, oh, rfl, e1⟩ := HHC.out w6 HB6.out (F + k) hhk
        have d1 : decide ((F : Int) + (k : Int) < (T : Int)) = true := decide_eq_true (by omega)
        rw [if_pos hft] at HMK
        have y0 := HY6.out.cell 0
        have y1 := HY6.out.cell 1
        have y2 := HY6.out.cell 2
        have yf := HY6.out.frozen 1
        simp only [List.getElem?_toArray, List.getElem?_cons_zero, List.getElem?_cons_succ] at y0 y1 y2
        have hfk : (F : Int) + (k : Int) = ((F + k : Nat) : Int) := by omega
        obtain ⟨fk, hfk2⟩ : ∃ fk, F + k = fk := ⟨_, rfl⟩
        rw [hfk2] at e1 hfk hhk HMK
        clear hfk2
        generalize (eat hs fk).phys = ph at *
        go_upto_region 9 with fail
        have HB7 : Hid (Below xb wr (w6.setCell ⟨xb, 1, none⟩ (.int .i64 ph))) := Lib.hid (HBW.out.setCell (Nat.le_refl _) _)
        have HY7 : Hid (Blk xb #[.int .i64 lg, .int .i64 ph, .int .i64 0] 31 (w6.setCell ⟨xb, 1, none⟩ (.int .i64 ph))) := Lib.hid (HY6.out.set 1 (.int .i64 ph))
        clear x0 x1 y0 y1 y2 yf e1 HX6 HY6
        generalize w6.setCell ⟨xb, 1, none⟩ (.int .i64 ph) = w7 at *
        have z0 := HY7.out.cell 0
        have z1 := HY7.out.cell 1
        have z2 := HY7.out.cell 2
        simp only [List.getElem?_toArray, List.getElem?_cons_zero, List.getElem?_cons_succ] at z0 z1 z2
        have HBX : Hid (Below wr.heap.size wr w7) := Lib.hid (by rw [HXB.out]; exact HB7.out)
        have HM7 := Lib.hid (row_kept HMW.out HBX.out)
        have HB8 := Lib.hid (bnext HBR.out HBX.out)
        have hw7 := HB8.out.size
        obtain ⟨va, vc, rfl, -, vc2, -⟩ := shape_of HM7.out
        have vc2 : vc ≤ 9223372036854775807 := vc2
        rw [hml] at HM7
        go_wp2_with (at_builtin; refine wpList_appE rfl _ _ 22 31 rfl Tryz.underlying22 entry_info w2.heap.size _ (MD k) rfl ?_ _ [⟨lg, ph, 0⟩] rfl (one_in w7 ⟨lg, ph, 0⟩ 31) (by rw [hml]; show _ + 1 ≤ _; omega) (by rw [size_alloc]; omega) ?_)
        · rw [hml]; exact HM7.out.alloc _
        intro v' w9 h9 g9
        have HM9 : Hid (EntsAt w2.heap.size v' (MD (k + 1)) w9) := Lib.hid (by rw [HMK.out]; show World.ownsRow w9 _ _ _ _ (MD k ++ [_]).length _; rw [List.length_append, hml]; exact h9)
        have HB9 : Hid (Below w2.heap.size w2 w9) := Lib.hid ((balloc HB8.out _).trans (below_of_row (HM7.out.alloc _) g9 (by rw [size_alloc]; omega)))
        obtain ⟨va9, vc9, rfl, -⟩ := shape_of h9
        clear h9 g9 z0 z1 z2 HM7 HB7 HY7
        go_wp2
        exact ⟨⟨k + 1, by go_num, by omega, HM9, HB9⟩, by simp [intOf]; omega⟩
      · have d1 : decide ((F : Int) + (k : Int) < (T : Int)) = false := decide_eq_false (by omega)
        rw [if_neg hft] at HMK
        go_upto_region 9 with fail
        have HB7 := HBW
        have HY7 := HY6
        clear x0 x1 HX6 HY6
        obtain ⟨ph, hph⟩ : ∃ ph : Int, (0 : Int) = ph := ⟨_, rfl⟩
        have HY7 : Hid (Blk xb #[.int .i64 lg, .int .i64 ph, .int .i64 0] 31 w6) := Lib.hid (by rw [← hph]; exact HY7.out)
        have HMK : Hid (MD (k + 1) = MD k ++ [⟨lg, ph, 0⟩]) := Lib.hid (by rw [← hph]; exact HMK.out)
        clear hph
        obtain ⟨w7, hw7⟩ : ∃ x, x = w6 := ⟨_, rfl⟩
        subst hw7
        have z0 := HY7.out.cell 0
        have z1 := HY7.out.cell 1
        have z2 := HY7.out.cell 2
        simp only [List.getElem?_toArray, List.getElem?_cons_zero, List.getElem?_cons_succ] at z0 z1 z2
        have HBX : Hid (Below wr.heap.size wr w7) := Lib.hid (by rw [HXB.out]; exact HB7.out)
        have HM7 := Lib.hid (row_kept HMW.out HBX.out)
        have HB8 := Lib.hid (bnext HBR.out HBX.out)
        have hw7 := HB8.out.size
        obtain ⟨va, vc, rfl, -, vc2, -⟩ := shape_of HM7.out
        have vc2 : vc ≤ 9223372036854775807 := vc2
        rw [hml] at HM7
        go_wp2_with (at_builtin; refine wpList_appE rfl _ _ 22 31 rfl Tryz.underlying22 entry_info w2.heap.size _ (MD k) rfl ?_ _ [⟨lg, ph, 0⟩] rfl (one_in w7 ⟨lg, ph, 0⟩ 31) (by rw [hml]; show _ + 1 ≤ _; omega) (by rw [size_alloc]; omega) ?_)
        · rw [hml]; exact HM7.out.alloc _
        intro v' w9 h9 g9
        have HM9 : Hid (EntsAt w2.heap.size v' (MD (k + 1)) w9) := Lib.hid (by rw [HMK.out]; show World.ownsRow w9 _ _ _ _ (MD k ++ [_]).length _; rw [List.length_append, hml]; exact h9)
        have HB9 : Hid (Below w2.heap.size w2 w9) := Lib.hid ((balloc HB8.out _).trans (below_of_row (HM7.out.alloc _) g9 (by rw [size_alloc]; omega)))
        obtain ⟨va9, vc9, rfl, -⟩ := shape_of h9
        clear h9 g9 z0 z1 z2 HM7 HB7 HY7
        go_wp2
        exact ⟨⟨k + 1, by go_num, by omega, HM9, HB9⟩, by simp [intOf]; omega⟩
    · obtain rfl : k = parts.length := by omega
      have HBF := HB
      have HXq := Lib.hid (HX2.out.kept1 HB.out)
      have HMF := HM
      obtain ⟨ma, mc, rfl, -, mc2, -⟩ := shape_of HM.out
      obtain ⟨wq, hren⟩ : ∃ x, x = wr := ⟨_, rfl⟩
      subst hren
      have hwqs : w.heap.size ≤ wq.heap.size := by have := HB.out.size; omega
      have hBA := bnext HB2.out HB.out
      have hsn1 := toN_run na ns.length nc F (by omega)
      have hsn2 := fromN_run na ns.length nc T (by omega) (by omega)
      have hse1 := toE_run ha hs.length hc F (by omega) HNO.out
      have hse2 := fromE_run ha hs.length hc T (by omega) (by omega)
      have HC3 : Hid (∀ g W, Below wq.heap.size wq W → Blk g #[.slice na F nc, .slice pa parts.length pc, .slice (fromA na T 1 nc) (ns.length - T) (nc - T)] 149 W → Calls Tryz.prog 156 #[.slice (some ⟨g, 0, none⟩) 3 3] W fun e W' => ∃ u, e = .returned u ∧ PartsAt C W.heap.size u (ns.take F ++ (parts ++ ns.drop T)) W' ∧ Below W.heap.size W W') := Lib.hid fun g W hb hg => by
        have hnw := NodesT.keep HN.out (C.below (bnext hBA hb))
        exact cat3_any C (ns.take F) parts (ns.drop T) (by rw [List.length_take]; omega) (by omega) (by rw [List.length_drop]; omega) _ _ _ g _ W hg (StRows.take hnw (by omega) n2) (StRows.own (fr_n C) (partsAt_kept HP2.out (bnext HB.out hb))) (StRows.from rfl hnw (by omega))
      have HH3 : Hid (∀ g W, Below wq.heap.size wq W → Blk g #[.slice ha F hc, .slice ma (MD parts.length).length mc, .slice (fromA ha T 3 hc) (hs.length - T) (hc - T)] 22 W → Calls Tryz.prog 84 #[.slice (some ⟨g, 0, none⟩) 3 3] W fun e W' => ∃ u, e = .returned u ∧ EntsAt W.heap.size u (hs.take F ++ (MD parts.length ++ hs.drop T)) W' ∧ Below W.heap.size W W') := Lib.hid fun g W hb hg => by
        have hhw : EntsT (frC W.heap.size) (.slice ha hs.length hc) hs W := EntsT.old (HH.out.kept (bnext hBA hb)) (Nat.le_refl _) (Nat.le_refl _) (Below.refl _ _)
        have hml := HML.out parts.length
        have hx := econcat_any [hs.take F, MD parts.length, hs.drop T] (by simp) (by simp only [List.flatten_cons, List.flatten_nil, List.append_nil, List.length_append, List.length_take, List.length_drop]; omega) _ W (three_rows hg (EntsT.take rfl hhw (by omega)).now (entsAt_in (row_kept HMF.out hb)) (fromE_ents rfl hhw (by omega)).now)
        simp only [List.flatten_cons, List.flatten_nil, List.append_nil] at hx
        exact hx
      have HK : Hid (∀ w9, Below wq.heap.size wq w9 → w9.cell? ⟨w.heap.size, 0, none⟩ = some (.int .i64 (F : Int)) ∧ w9.cell? ⟨w.heap.size, 1, none⟩ = some (.int .i64 (T : Int))) := Lib.hid fun w9 h => ⟨(HXq.out.kept1 h).cell 0, (HXq.out.kept1 h).cell 1⟩
      rw [HML.out] at HH3
      have i1 : F ≤ nc := by omega
      have i2 : F ≤ hc := by omega
      have i3 : T ≤ hs.length := by omega
      have i4 : F ≤ hs.length := by omega
      have i5 : F ≤ ns.length := by omega
      have hq : Below wq.heap.size wq wq.drew := (Below.refl _ _).drew
      have hml := HML.out parts.length
      rw [hml]
      go_upto_region 11 with fail
      refine wp_region_held_drew (S := fun w9 => w9.cell? ⟨w.heap.size, 0, none⟩ = some (.int .i64 (F : Int)) ∧ w9.cell? ⟨w.heap.size, 1, none⟩ = some (.int .i64 (T : Int))) mixed (HK.out _ hq) (fun hHeld => ?_)
      generalize wq.drew = wd at *
      refine wpAnyH_take (i := 0) (oi := _) (v := ?vpk1) rfl (by kernel_rfl) (by kernel_rfl) (by kernel_rfl) (fun _ _ _ h => h) (Or.inl ⟨by kernel_rfl, ?hypk1⟩) hHeld ?restpk1
      case hypk1 => (intro w9 hSw; clear hSw; go_simp; try with_reducible rfl)
      try simp only [Act.put, za, zb, zc, zd, ze, zf]
      refine wpAnyH_take (i := 1) (oi := _) (v := ?vpk2) rfl (by kernel_rfl) (by kernel_rfl) (by kernel_rfl) (fun _ _ _ h => h) (Or.inl ⟨by kernel_rfl, ?hypk2⟩) hHeld ?restpk2
      case hypk2 => (intro w9 hSw; clear hSw; go_simp; try with_reducible rfl)
      try simp only [Act.put, za, zb, zc, zd, ze, zf]
      refine wpAnyH_take (i := 2) (oi := _) (v := ?vpk3) rfl (by kernel_rfl) (by kernel_rfl) (by kernel_rfl) (fun _ _ _ h => h) (Or.inl ⟨by kernel_rfl, ?hypk3⟩) hHeld ?restpk3
      case hypk3 => (intro w9 hSw; obtain ⟨e9, f9⟩ := hSw; go_simp; try with_reducible rfl)
      try simp only [Act.put, za, zb, zc, zd, ze, zf]
      refine wpAnyH_take (i := 3) (oi := _) (v := ?vpk4) rfl (by kernel_rfl) (by kernel_rfl) (by kernel_rfl) (fun _ _ _ h => h) (Or.inl ⟨by kernel_rfl, ?hypk4⟩) hHeld ?restpk4
      case hypk4 => (intro w9 hSw; clear hSw; go_simp; try with_reducible rfl)
      try simp only [Act.put, za, zb, zc, zd, ze, zf]
      refine wpAnyH_take (i := 4) (oi := _) (v := ?vpk5) rfl (by kernel_rfl) (by kernel_rfl) (by kernel_rfl) (fun _ _ _ h => h) (Or.inl ⟨by kernel_rfl, ?hypk5⟩) hHeld ?restpk5
      case hypk5 => (intro w9 hSw; clear hSw; go_simp; try with_reducible rfl)
      try simp only [Act.put, za, zb, zc, zd, ze, zf]
      refine wpAnyH_take (i := 5) (oi := _) (v := ?vpk6) rfl (by kernel_rfl) (by kernel_rfl) (by kernel_rfl) (fun _ _ _ h => h) (Or.inl ⟨by kernel_rfl, ?hypk6⟩) hHeld ?restpk6
      case hypk6 => (intro w9 hSw; clear hSw; go_simp; try with_reducible rfl)
      try simp only [Act.put, za, zb, zc, zd, ze, zf]
      refine wpAnyH_take (i := 6) (oi := _) (v := ?vpk7) rfl (by kernel_rfl) (by kernel_rfl) (by kernel_rfl) (fun _ _ _ h => h) (Or.inl ⟨by kernel_rfl, ?hypk7⟩) hHeld ?restpk7
      case hypk7 => (intro w9 hSw; clear hSw; go_simp; try with_reducible rfl)
      try simp only [Act.put, za, zb, zc, zd, ze, zf]
      refine wpAnyH_take (i := 7) (oi := _) (v := ?vpk8) rfl (by kernel_rfl) (by kernel_rfl) (by kernel_rfl) (fun _ _ _ h => h) (Or.inl ⟨by kernel_rfl, ?hypk8⟩) hHeld ?restpk8
      case hypk8 => (intro w9 hSw; obtain ⟨e9, f9⟩ := hSw; go_simp; try with_reducible rfl)
      try simp only [Act.put, za, zb, zc, zd, ze, zf]
      refine wpAnyH_take (i := 8) (oi := _) (v := ?vpk9) rfl (by kernel_rfl) (by kernel_rfl) (by kernel_rfl) (fun _ _ _ h => h) (Or.inl ⟨by kernel_rfl, ?hypk9⟩) hHeld ?restpk9
      case hypk9 => (intro w9 hSw; clear hSw; go_simp; try with_reducible rfl)
      try simp only [Act.put, za, zb, zc, zd, ze, zf]
      refine wpAnyH_take (i := 11) (oi := _) (v := ?vpk10) rfl (by kernel_rfl) (by kernel_rfl) (by kernel_rfl) (fun _ _ _ h => h) (Or.inl ⟨by kernel_rfl, ?hypk10⟩) hHeld ?restpk10
      case hypk10 => (intro w9 hSw; clear hSw; go_simp; try with_reducible rfl)
      try simp only [Act.put, za, zb, zc, zd, ze, zf]
      refine wpAnyH_take (i := 12) (oi := _) (v := ?vpk11) rfl (by kernel_rfl) (by kernel_rfl) (by kernel_rfl) (fun _ _ _ h => h) (Or.inl ⟨by kernel_rfl, ?hypk11⟩) hHeld ?restpk11
      case hypk11 => (intro w9 hSw; clear hSw; go_simp; try with_reducible rfl)
      try simp only [Act.put, za, zb, zc, zd, ze, zf]
      refine wpAnyH_take (i := 13) (oi := _) (v := ?vpk12) rfl (by kernel_rfl) (by kernel_rfl) (by kernel_rfl) (fun _ _ _ h => h) (Or.inl ⟨by kernel_rfl, ?hypk12⟩) hHeld ?restpk12
      case hypk12 => (intro w9 hSw; obtain ⟨e9, f9⟩ := hSw; go_simp; try with_reducible rfl)
      try simp only [Act.put, za, zb, zc, zd, ze, zf]
      refine wpAnyH_take (i := 14) (oi := _) (v := ?vpk13) rfl (by kernel_rfl) (by kernel_rfl) (by kernel_rfl) (fun _ _ _ h => h) (Or.inl ⟨by kernel_rfl, ?hypk13⟩) hHeld ?restpk13
      case hypk13 => (intro w9 hSw; clear hSw; go_simp; try with_reducible rfl)
      try simp only [Act.put, za, zb, zc, zd, ze, zf]
      refine wpAnyH_take (i := 15) (oi := _) (v := ?vpk14) rfl (by kernel_rfl) (by kernel_rfl) (by kernel_rfl) (fun _ _ _ h => h) (Or.inl ⟨by kernel_rfl, ?hypk14⟩) hHeld ?restpk14
      case hypk14 => (intro w9 hSw; clear hSw; go_simp; try with_reducible rfl)
      try simp only [Act.put, za, zb, zc, zd, ze, zf]
      refine wpAnyH_take (i := 16) (oi := _) (v := ?vpk15) rfl (by kernel_rfl) (by kernel_rfl) (by kernel_rfl) (fun _ _ _ h => h) (Or.inl ⟨by kernel_rfl, ?hypk15⟩) hHeld ?restpk15
      case hypk15 => (intro w9 hSw; clear hSw; go_simp; try with_reducible rfl)
      try simp only [Act.put, za, zb, zc, zd, ze, zf]
      refine wpAnyH_take (i := 17) (oi := _) (v := ?vpk16) rfl (by kernel_rfl) (by kernel_rfl) (by kernel_rfl) (fun _ _ _ h => h) (Or.inl ⟨by kernel_rfl, ?hypk16⟩) hHeld ?restpk16
      case hypk16 => (intro w9 hSw; clear hSw; go_simp; try with_reducible rfl)
      try simp only [Act.put, za, zb, zc, zd, ze, zf]
      refine wpAnyH_take (i := 18) (oi := _) (v := ?vpk17) rfl (by kernel_rfl) (by kernel_rfl) (by kernel_rfl) (fun _ _ _ h => h) (Or.inl ⟨by kernel_rfl, ?hypk17⟩) hHeld ?restpk17
      case hypk17 => (intro w9 hSw; obtain ⟨e9, f9⟩ := hSw; go_simp; try with_reducible rfl)
      try simp only [Act.put, za, zb, zc, zd, ze, zf]
      refine wpAnyH_take (i := 19) (oi := _) (v := ?vpk18) rfl (by kernel_rfl) (by kernel_rfl) (by kernel_rfl) (fun _ _ _ h => h) (Or.inl ⟨by kernel_rfl, ?hypk18⟩) hHeld ?restpk18
      case hypk18 => (intro w9 hSw; clear hSw; go_simp; try with_reducible rfl)
      try simp only [Act.put, za, zb, zc, zd, ze, zf]
      refine wpAnyH_ready (rs := [9, 20]) (by kernel_rfl) (by simp) ?_
      refine AllReadyH.cons (o := _) rfl (fun K hK => ?_) ?_
      · obtain ⟨w19, hw19⟩ : ∃ w9, wd.alloc (.cells #[.slice na F nc, .slice pa parts.length pc, .slice (fromA na T 1 nc) (ns.length - T) (nc - T)] 149) = w9 := ⟨_, rfl⟩
        have b19 : Below wd.heap.size wd w19 := by rw [← hw19]; exact balloc1 _ _
        have q19 := bnext hq b19
        have hz19 : w19.heap.size = wd.heap.size + 1 := by rw [← hw19]; exact size_alloc _ _
        have hB19 : Blk wd.heap.size #[.slice na F nc, .slice pa parts.length pc, .slice (fromA na T 1 nc) (ns.length - T) (nc - T)] 149 w19 := by rw [← hw19]; exact Blk.new _ _ _
        have HA := Lib.hid hB19
        have HZ19 := Lib.hid hz19
        have HW19 := Lib.hid hw19
        clear hB19 hz19 hw19
        go_simp
        try rw [HW19.out]
        refine hK.out _ _ (HK.out _ (q19)) (fun hHeld3 => ?_)
        clear hK K hHeld
        have hHeld := hHeld3
        clear hHeld3
        try simp only [Act.put, za, zb, zc, zd, ze, zf]
        refine wpAnyH_ready (rs := [10, 20]) (by kernel_rfl) (by simp) ?_
        refine AllReadyH.cons (o := _) rfl (fun K hK => ?_) ?_
        · go_simp
          refine (HC3.out _ w19 (q19) HA.out).mono ?_; rintro e w20 ⟨u20, rfl, hu20, b20⟩
          dsimp only
          have q20 := bnext q19 b20
          have HA := Lib.hid (HA.out.kept1 b20)
          obtain ⟨ua20, un20, uc20, rfl⟩ := parts_shape hu20
          have HNR := Lib.hid (RowsAt.down (B' := w.heap.size) (Nat.le_trans hwqs (q19).size) hu20)
          clear hu20
          refine hK.out _ _ (HK.out _ (q20)) (fun hHeld3 => ?_)
          clear hK K hHeld
          have hHeld := hHeld3
          clear hHeld3
          try simp only [Act.put, za, zb, zc, zd, ze, zf]
          refine wpAnyH_ready (rs := [20]) (by kernel_rfl) (by simp) ?_
          refine AllReadyH.cons (o := _) rfl (fun K hK => ?_) ?_
          · obtain ⟨w21, hw21⟩ : ∃ w9, w20.alloc (.cells #[.slice ha F hc, .slice ma parts.length mc, .slice (fromA ha T 3 hc) (hs.length - T) (hc - T)] 22) = w9 := ⟨_, rfl⟩
            have b21 : Below w20.heap.size w20 w21 := by rw [← hw21]; exact balloc1 _ _
            have q21 := bnext q20 b21
            have hz21 : w21.heap.size = w20.heap.size + 1 := by rw [← hw21]; exact size_alloc _ _
            have hB21 : Blk w20.heap.size #[.slice ha F hc, .slice ma parts.length mc, .slice (fromA ha T 3 hc) (hs.length - T) (hc - T)] 22 w21 := by rw [← hw21]; exact Blk.new _ _ _
            have HA := Lib.hid (HA.out.kept1 b21)
            have HNR := Lib.hid (HNR.out.keptP b21)
            have HBk := Lib.hid hB21
            have HZ21 := Lib.hid hz21
            have HW21 := Lib.hid hw21
            clear hB21 hz21 hw21
            go_simp
            try rw [HW21.out]
            refine hK.out _ _ (HK.out _ (q21)) (fun hHeld3 => ?_)
            clear hK K hHeld
            have hHeld := hHeld3
            clear hHeld3
            try simp only [Act.put, za, zb, zc, zd, ze, zf]
            refine wpAnyH_ready (rs := [21]) (by kernel_rfl) (by simp) ?_
            refine AllReadyH.cons (o := _) rfl (fun K hK => ?_) ?_
            · go_simp
              refine (HH3.out _ w21 (q21) HBk.out).mono ?_; rintro e w22 ⟨u22, rfl, hu22, b22⟩
              dsimp only
              have q22 := bnext q21 b22
              have HA := Lib.hid (HA.out.kept1 b22)
              have HNR := Lib.hid (HNR.out.keptP b22)
              have HBk := Lib.hid (HBk.out.kept1 b22)
              obtain ⟨ua22, un22, uc22, rfl⟩ := own_slice hu22
              have HER := Lib.hid (row_down (B' := w.heap.size) (Nat.le_trans hwqs (q21).size) hu22)
              clear hu22
              refine hK.out _ _ (HK.out _ (q22)) (fun hHeld3 => ?_)
              clear hK K hHeld
              have hHeld := hHeld3
              clear hHeld3
              try simp only [Act.put, za, zb, zc, zd, ze, zf]
              refine wpAnyH_take (i := 22) (oi := _) (v := ?vpk23) rfl (by kernel_rfl) (by kernel_rfl) (by kernel_rfl) (fun _ _ _ h => h) (Or.inl ⟨by kernel_rfl, ?hypk23⟩) hHeld ?restpk23
              case hypk23 => (intro w9 hSw; clear hSw; go_simp; try with_reducible rfl)
              try simp only [Act.put, za, zb, zc, zd, ze, zf]
              refine wpAnyH_take (i := 23) (oi := _) (v := ?vpk24) rfl (by kernel_rfl) (by kernel_rfl) (by kernel_rfl) (fun _ _ _ h => h) (Or.inl ⟨by kernel_rfl, ?hypk24⟩) hHeld ?restpk24
              case hypk24 => (intro w9 hSw; clear hSw; go_simp; try with_reducible rfl)
              try simp only [Act.put, za, zb, zc, zd, ze, zf]
              refine ⟨by kernel_rfl, ?_⟩
              clear hHeld
              obtain ⟨w11, hw11⟩ : ∃ x, x = w22 := ⟨_, rfl⟩
              subst hw11
              have HQ := Lib.hid (q22)
              clear HC3 HH3 HK hq
              go_wp2
              go_ret2
              refine ⟨_, _, rfl, HNR.out, ?_, HB2.out.trans ((bnext HBF.out HQ.out).mono hX2s)⟩
              rw [HME.out]
              exact HER.out
            exact AllReadyH.nil
          exact AllReadyH.nil
        refine AllReadyH.cons (o := _) rfl (fun K hK => ?_) ?_
        · obtain ⟨w25, hw25⟩ : ∃ w9, w19.alloc (.cells #[.slice ha F hc, .slice ma parts.length mc, .slice (fromA ha T 3 hc) (hs.length - T) (hc - T)] 22) = w9 := ⟨_, rfl⟩
          have b25 : Below w19.heap.size w19 w25 := by rw [← hw25]; exact balloc1 _ _
          have q25 := bnext q19 b25
          have hz25 : w25.heap.size = w19.heap.size + 1 := by rw [← hw25]; exact size_alloc _ _
          have hB25 : Blk w19.heap.size #[.slice ha F hc, .slice ma parts.length mc, .slice (fromA ha T 3 hc) (hs.length - T) (hc - T)] 22 w25 := by rw [← hw25]; exact Blk.new _ _ _
          have HA := Lib.hid (HA.out.kept1 b25)
          have HBk := Lib.hid hB25
          have HZ25 := Lib.hid hz25
          have HW25 := Lib.hid hw25
          clear hB25 hz25 hw25
          go_simp
          try rw [HW25.out]
          refine hK.out _ _ (HK.out _ (q25)) (fun hHeld3 => ?_)
          clear hK K hHeld
          have hHeld := hHeld3
          clear hHeld3
          try simp only [Act.put, za, zb, zc, zd, ze, zf]
          refine wpAnyH_ready (rs := [10]) (by kernel_rfl) (by simp) ?_
          refine AllReadyH.cons (o := _) rfl (fun K hK => ?_) ?_
          · go_simp
            refine (HC3.out _ w25 (q25) HA.out).mono ?_; rintro e w26 ⟨u26, rfl, hu26, b26⟩
            dsimp only
            have q26 := bnext q25 b26
            have HA := Lib.hid (HA.out.kept1 b26)
            have HBk := Lib.hid (HBk.out.kept1 b26)
            obtain ⟨ua26, un26, uc26, rfl⟩ := parts_shape hu26
            have HNR := Lib.hid (RowsAt.down (B' := w.heap.size) (Nat.le_trans hwqs (q25).size) hu26)
            clear hu26
            refine hK.out _ _ (HK.out _ (q26)) (fun hHeld3 => ?_)
            clear hK K hHeld
            have hHeld := hHeld3
            clear hHeld3
            try simp only [Act.put, za, zb, zc, zd, ze, zf]
            refine wpAnyH_ready (rs := [21]) (by kernel_rfl) (by simp) ?_
            refine AllReadyH.cons (o := _) rfl (fun K hK => ?_) ?_
            · go_simp
              refine (HH3.out _ w26 (q26) HBk.out).mono ?_; rintro e w27 ⟨u27, rfl, hu27, b27⟩
              dsimp only
              have q27 := bnext q26 b27
              have HA := Lib.hid (HA.out.kept1 b27)
              have HBk := Lib.hid (HBk.out.kept1 b27)
              have HNR := Lib.hid (HNR.out.keptP b27)
              obtain ⟨ua27, un27, uc27, rfl⟩ := own_slice hu27
              have HER := Lib.hid (row_down (B' := w.heap.size) (Nat.le_trans hwqs (q26).size) hu27)
              clear hu27
              refine hK.out _ _ (HK.out _ (q27)) (fun hHeld3 => ?_)
              clear hK K hHeld
              have hHeld := hHeld3
              clear hHeld3
              try simp only [Act.put, za, zb, zc, zd, ze, zf]
              refine wpAnyH_take (i := 22) (oi := _) (v := ?vpk28) rfl (by kernel_rfl) (by kernel_rfl) (by kernel_rfl) (fun _ _ _ h => h) (Or.inl ⟨by kernel_rfl, ?hypk28⟩) hHeld ?restpk28
              case hypk28 => (intro w9 hSw; clear hSw; go_simp; try with_reducible rfl)
              try simp only [Act.put, za, zb, zc, zd, ze, zf]
              refine wpAnyH_take (i := 23) (oi := _) (v := ?vpk29) rfl (by kernel_rfl) (by kernel_rfl) (by kernel_rfl) (fun _ _ _ h => h) (Or.inl ⟨by kernel_rfl, ?hypk29⟩) hHeld ?restpk29
              case hypk29 => (intro w9 hSw; clear hSw; go_simp; try with_reducible rfl)
              try simp only [Act.put, za, zb, zc, zd, ze, zf]
              refine ⟨by kernel_rfl, ?_⟩
              clear hHeld
              obtain ⟨w11, hw11⟩ : ∃ x, x = w27 := ⟨_, rfl⟩
              subst hw11
              have HQ := Lib.hid (q27)
              clear HC3 HH3 HK hq
              go_wp2
              go_ret2
              refine ⟨_, _, rfl, HNR.out, ?_, HB2.out.trans ((bnext HBF.out HQ.out).mono hX2s)⟩
              rw [HME.out]
              exact HER.out
            exact AllReadyH.nil
          exact AllReadyH.nil
        exact AllReadyH.nil
      refine AllReadyH.cons (o := _) rfl (fun K hK => ?_) ?_
      · obtain ⟨w30, hw30⟩ : ∃ w9, wd.alloc (.cells #[.slice ha F hc, .slice ma parts.length mc, .slice (fromA ha T 3 hc) (hs.length - T) (hc - T)] 22) = w9 := ⟨_, rfl⟩
        have b30 : Below wd.heap.size wd w30 := by rw [← hw30]; exact balloc1 _ _
        have q30 := bnext hq b30
        have hz30 : w30.heap.size = wd.heap.size + 1 := by rw [← hw30]; exact size_alloc _ _
        have hB30 : Blk wd.heap.size #[.slice ha F hc, .slice ma parts.length mc, .slice (fromA ha T 3 hc) (hs.length - T) (hc - T)] 22 w30 := by rw [← hw30]; exact Blk.new _ _ _
        have HBk := Lib.hid hB30
        have HZ30 := Lib.hid hz30
        have HW30 := Lib.hid hw30
        clear hB30 hz30 hw30
        go_simp
        try rw [HW30.out]
        refine hK.out _ _ (HK.out _ (q30)) (fun hHeld3 => ?_)
        clear hK K hHeld
        have hHeld := hHeld3
        clear hHeld3
        try simp only [Act.put, za, zb, zc, zd, ze, zf]
        refine wpAnyH_ready (rs := [9]) (by kernel_rfl) (by simp) ?_
        refine AllReadyH.cons (o := _) rfl (fun K hK => ?_) ?_
        · obtain ⟨w31, hw31⟩ : ∃ w9, w30.alloc (.cells #[.slice na F nc, .slice pa parts.length pc, .slice (fromA na T 1 nc) (ns.length - T) (nc - T)] 149) = w9 := ⟨_, rfl⟩
          have b31 : Below w30.heap.size w30 w31 := by rw [← hw31]; exact balloc1 _ _
          have q31 := bnext q30 b31
          have hz31 : w31.heap.size = w30.heap.size + 1 := by rw [← hw31]; exact size_alloc _ _
          have hB31 : Blk w30.heap.size #[.slice na F nc, .slice pa parts.length pc, .slice (fromA na T 1 nc) (ns.length - T) (nc - T)] 149 w31 := by rw [← hw31]; exact Blk.new _ _ _
          have HBk := Lib.hid (HBk.out.kept1 b31)
          have HA := Lib.hid hB31
          have HZ31 := Lib.hid hz31
          have HW31 := Lib.hid hw31
          clear hB31 hz31 hw31
          go_simp
          try rw [HW31.out]
          refine hK.out _ _ (HK.out _ (q31)) (fun hHeld3 => ?_)
          clear hK K hHeld
          have hHeld := hHeld3
          clear hHeld3
          try simp only [Act.put, za, zb, zc, zd, ze, zf]
          refine wpAnyH_ready (rs := [10]) (by kernel_rfl) (by simp) ?_
          refine AllReadyH.cons (o := _) rfl (fun K hK => ?_) ?_
          · go_simp
            refine (HC3.out _ w31 (q31) HA.out).mono ?_; rintro e w32 ⟨u32, rfl, hu32, b32⟩
            dsimp only
            have q32 := bnext q31 b32
            have HBk := Lib.hid (HBk.out.kept1 b32)
            have HA := Lib.hid (HA.out.kept1 b32)
            obtain ⟨ua32, un32, uc32, rfl⟩ := parts_shape hu32
            have HNR := Lib.hid (RowsAt.down (B' := w.heap.size) (Nat.le_trans hwqs (q31).size) hu32)
            clear hu32
            refine hK.out _ _ (HK.out _ (q32)) (fun hHeld3 => ?_)
            clear hK K hHeld
            have hHeld := hHeld3
            clear hHeld3
            try simp only [Act.put, za, zb, zc, zd, ze, zf]
            refine wpAnyH_ready (rs := [21]) (by kernel_rfl) (by simp) ?_
            refine AllReadyH.cons (o := _) rfl (fun K hK => ?_) ?_
            · go_simp
              refine (HH3.out _ w32 (q32) HBk.out).mono ?_; rintro e w33 ⟨u33, rfl, hu33, b33⟩
              dsimp only
              have q33 := bnext q32 b33
              have HBk := Lib.hid (HBk.out.kept1 b33)
              have HA := Lib.hid (HA.out.kept1 b33)
              have HNR := Lib.hid (HNR.out.keptP b33)
              obtain ⟨ua33, un33, uc33, rfl⟩ := own_slice hu33
              have HER := Lib.hid (row_down (B' := w.heap.size) (Nat.le_trans hwqs (q32).size) hu33)
              clear hu33
              refine hK.out _ _ (HK.out _ (q33)) (fun hHeld3 => ?_)
              clear hK K hHeld
              have hHeld := hHeld3
              clear hHeld3
              try simp only [Act.put, za, zb, zc, zd, ze, zf]
              refine wpAnyH_take (i := 22) (oi := _) (v := ?vpk34) rfl (by kernel_rfl) (by kernel_rfl) (by kernel_rfl) (fun _ _ _ h => h) (Or.inl ⟨by kernel_rfl, ?hypk34⟩) hHeld ?restpk34
              case hypk34 => (intro w9 hSw; clear hSw; go_simp; try with_reducible rfl)
              try simp only [Act.put, za, zb, zc, zd, ze, zf]
              refine wpAnyH_take (i := 23) (oi := _) (v := ?vpk35) rfl (by kernel_rfl) (by kernel_rfl) (by kernel_rfl) (fun _ _ _ h => h) (Or.inl ⟨by kernel_rfl, ?hypk35⟩) hHeld ?restpk35
              case hypk35 => (intro w9 hSw; clear hSw; go_simp; try with_reducible rfl)
              try simp only [Act.put, za, zb, zc, zd, ze, zf]
              refine ⟨by kernel_rfl, ?_⟩
              clear hHeld
              obtain ⟨w11, hw11⟩ : ∃ x, x = w33 := ⟨_, rfl⟩
              subst hw11
              have HQ := Lib.hid (q33)
              clear HC3 HH3 HK hq
              go_wp2
              go_ret2
              refine ⟨_, _, rfl, HNR.out, ?_, HB2.out.trans ((bnext HBF.out HQ.out).mono hX2s)⟩
              rw [HME.out]
              exact HER.out
            exact AllReadyH.nil
          exact AllReadyH.nil
        exact AllReadyH.nil
      exact AllReadyH.nil
end Go.Proofs.YtknefoemgifbfaaGreat
namespace Go.Proofs.YtknefoemgifbfaaGreat
open Go.RowKit
theorem ents_gen {C B : Nat} {v : Value} {x : List Ent} {w0 w : World} (h : EntsT (frC C) v x w0) (hB : w0.heap.size ≤ B) (hb : Below w0.heap.size w0 w) : EntsT (frG C B) v x w := fun a g => h a (Gens.turns (Turns.of_below hb) g hB)
theorem nodes_gen {C B : Nat} {v : Value} {L : List (List Ent)} {w0 w : World} (h : NodesT (frC C) v L w0) (hB : w0.heap.size ≤ B) (hb : Below w0.heap.size w0 w) : NodesT (frG C B) v L w := by
  obtain ⟨Vs, h1, h2, h3⟩ := h
  exact ⟨Vs, h1, fun a g => h2 a (Gens.turns (Turns.of_below hb) g hB), fun k a b => ents_gen (h3 k a b) hB hb⟩
theorem ents_back {C B : Nat} {v : Value} {x : List Ent} {w : World} (h : EntsT (frG C B) v x w) : EntsT (frC C) v x w := fun a g => h a (Turns.gens g)
theorem nodes_back {C B : Nat} {v : Value} {L : List (List Ent)} {w : World} (h : NodesT (frG C B) v L w) : NodesT (frC C) v L w := by
  obtain ⟨Vs, h1, h2, h3⟩ := h
  exact ⟨Vs, h1, fun a g => h2 a (Turns.gens g), fun k a b => ents_back (h3 k a b)⟩
theorem nodes_nil (C : Fr) (w : World) : NodesT C (.slice none 0 0) [] w := ⟨[], rfl, fun a g => RowIn.nil 1 a, fun k h => by simp at h⟩
theorem Gens.row {C B B' n m : Nat} {v v' : Value} {xs ys : List Value} {w w' : World} (h : w.ownsRow B' 149 1 v n xs) (hB : B ≤ B') (g : w.grownBy w' v.ownBlock) (h' : w'.ownsRow B' 149 1 v' m ys) (hv : StaysG v v' w w') : Gens C B w w' := by
  refine ⟨g.os, g.tape, g.output, g.size, fun k hk => ?_⟩
  by_cases hq : some k = v.ownBlock
  · rcases hv with hv | hv
    · obtain ⟨t1, t2, t3⟩ := own_ty h hq.symm
      obtain ⟨u1, u2, u3⟩ := own_ty h' (hv.trans hq.symm)
      obtain ⟨c, q, e⟩ := t1
      obtain ⟨c', q', e'⟩ := u1
      exact .inr ⟨c, c', _, q, q', .inr ⟨by omega, by decide, by decide⟩, e, e'⟩
    · exact .inl (hv.2 k hq.symm)
  · exact .inl (g.block k hk hq)
structure Stk (C B : Nat) (nv : Value) (acc : Shp) (w : World) : Prop where
  ex : ∃ Vs : List Value, Vs.length = acc.length ∧ w.ownsRow B 149 1 nv acc.length Vs ∧ ∀ k (h1 : k < Vs.length) (h2 : k < acc.length), NodesT (frG C B) Vs[k] acc[k] w
theorem Stk.kept {C B : Nat} {nv : Value} {acc : Shp} {w w' : World} (h : Stk C B nv acc w) (b : Below w.heap.size w w') : Stk C B nv acc w' := by
  obtain ⟨Vs, h1, h2, h3⟩ := h.ex
  exact ⟨Vs, h1, row_kept h2 b, fun k a c => NodesT.keep (h3 k a c) (Gens.of_below b)⟩
theorem Stk.shape {C B : Nat} {nv : Value} {acc : Shp} {w : World} (h : Stk C B nv acc w) : ∃ ad cap, nv = .slice ad acc.length cap ∧ cap ≤ 9223372036854775807 := by
  obtain ⟨Vs, h1, h2, h3⟩ := h.ex
  obtain ⟨ad, cap, e, -, h5, -⟩ := shape_of h2
  exact ⟨ad, cap, e, h5⟩
theorem Stk.st {C B : Nat} {nv : Value} {acc : Shp} {w : World} (h : Stk C B nv acc w) : ShapeT (frC C) nv acc w := by
  obtain ⟨Vs, h1, h2, h3⟩ := h.ex
  exact StRows.own (frC_s C) ⟨Vs, h1, h2, fun k a b => nodes_back (h3 k a b)⟩
theorem Stk.push {C B : Nat} {nv : Value} {acc : Shp} {w : World} (h : Stk C B nv acc w) (hB : B ≤ w.heap.size) (hn : acc.length ≤ 1000000) {x : List (List Ent)} {xv : Value} (hx : NodesT (frG C B) xv x w) (h1 : xv.oneCell' = true) :
    ∃ v' w', (∃ ad n cap, v' = .slice ad n cap) ∧ (Builtin.append_ #[104, 104] 104 #[nv, .slice (some ⟨w.heap.size, 0, none⟩) 1 1]).run Tryz.prog (w.alloc (.cells #[xv] 149)) = .ok v' w' ∧ Stk C B v' (acc ++ [x]) w' ∧ Below B w w' ∧ Gens C B w w' := by
  have hb := balloc1 w (.cells #[xv] 149)
  obtain ⟨Vs, k1, k2, k3⟩ := (h.kept hb).ex
  have hx' := NodesT.keep hx (Gens.of_below (C := C) (B := B) hb)
  have hsz := hb.size
  obtain ⟨v', w', hr, j1, j2, j3⟩ := pushS_run (w.alloc (.cells #[xv] 149)) B 104 149 104 (.slice none 0 0) 24 Tryz.underlying104 row_info (by rfl) (by decide) nv acc.length Vs hn k2 w xv rfl h1 (by omega)
  have hg : Gens C B (w.alloc (.cells #[xv] 149)) w' := Gens.row k2 (Nat.le_refl _) j2 j1 j3
  refine ⟨v', w', own_slice j1, hr, ⟨Vs ++ [xv], by simp [k1], by rw [List.length_append]; exact j1, fun k a b => ?_⟩, (hb.mono hB).trans (below_of_row k2 j2 (by omega)), (Gens.of_below hb).trans hg⟩
  rw [List.length_append, List.length_singleton] at a
  by_cases hk : k < Vs.length
  · rw [List.getElem_append_left hk, List.getElem_append_left (by omega)]
    exact NodesT.keep (k3 k hk (by omega)) hg
  · obtain rfl : k = Vs.length := by omega
    rw [List.getElem_append_right (Nat.le_refl _), List.getElem_append_right (by omega)]
    simp only [List.getElem_singleton]
    exact NodesT.keep hx' hg
end Go.Proofs.YtknefoemgifbfaaGreat
