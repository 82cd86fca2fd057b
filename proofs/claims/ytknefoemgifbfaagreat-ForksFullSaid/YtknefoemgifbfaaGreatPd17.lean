import Derived.Test.YtknefoemgifbfaaGreatPd15
import Derived.Test.YtknefoemgifbfaaGreatPd16
import Derived.Lib.AppendZeros
set_option linter.unusedVariables false
set_option linter.unusedSimpArgs false
set_option linter.constructorNameAsVariable false
set_option maxRecDepth 100000
set_option maxHeartbeats 16000000
namespace Go.Proofs.YtknefoemgifbfaaGreat
open Go.RowKit
theorem entsAt_app {B : Nat} {v : Value} {l m : List Ent} {w : World} {e : TypeId} (h : w.ownsRow B e 3 v (l.length + m.length) (cellsE (l ++ m))) : w.ownsRow B e 3 v (l ++ m).length (cellsE (l ++ m)) := by
 rw [List.length_append]; exact h
theorem egrow_any (n : Nat) (hn : n ≤ 4000000) (w : World) :
 Calls Tryz.prog 113 #[.slice none 0 0, .int .i64 n] w fun e w' => ∃ v, e = .returned v ∧ EntsAt w.heap.size v [] w' ∧ Below w.heap.size w w' := by
 obtain ⟨i0, hi, hz0, hz1, hz2⟩ := info_parts entry_info;by_cases h0 : n = 0
 ·subst h0
  go_enter Tryz.func113, Tryz.ntmps113
  go_wp2;go_ret;exact ⟨_, rfl, World.ownsRow_nil _ _ _ _, Below.refl _ _⟩
 ·have h1 : (0 : Int) < (n : Int) := by omega
  have hr := Lib.run_append_nil_zeros (P := Tryz.prog) w 22 3 22 31 i0 (.agg #[.int .i64 0, .int .i64 0, .int .i64 0]) .i64 .i64 Tryz.underlying22 Tryz.underlying3 hi hz0 n (by omega) (by rw [hz1]; decide) (by omega) (by rw [hz2]; omega);have hge := grownCap_ge w n 0 31;have hle := grownCap_le_maxLen w n 0 31 (by unfold maxLen; omega)
  have hown : EntsAt w.heap.size (.slice (some ⟨w.heap.size, 0, none⟩) 0 (grownCap w n 0 31)) [] (w.drew.alloc (.cells (Builtin.zeroCells (Value.agg #[.int .i64 0, .int .i64 0, .int .i64 0]).cells n ++ Builtin.zeroCells (Value.agg #[.int .i64 0, .int .i64 0, .int .i64 0]).cells (grownCap w n 0 31 - n)) 31)) :=
   ⟨rfl, .inr ⟨w.heap.size, _, _, rfl, Nat.le_refl _, heap_alloc_new w.drew _, Nat.zero_le _, hle, by
    rw [Array.size_append, size_zeroCells, size_zeroCells]
    show n * 3 + (_ - n) * 3 = _
    omega, rfl⟩⟩
  have hb : Below w.heap.size w (w.drew.alloc (.cells (Builtin.zeroCells (Value.agg #[.int .i64 0, .int .i64 0, .int .i64 0]).cells n ++ Builtin.zeroCells (Value.agg #[.int .i64 0, .int .i64 0, .int .i64 0]).cells (grownCap w n 0 31 - n)) 31)) := (Below.refl _ w).drew.alloc (Nat.le_refl _) _;have hle : grownCap w n 0 31 ≤ 9223372036854775807 := hle;generalize hw1 : w.drew.alloc (.cells (Builtin.zeroCells (Value.agg #[.int .i64 0, .int .i64 0, .int .i64 0]).cells n ++ Builtin.zeroCells (Value.agg #[.int .i64 0, .int .i64 0, .int .i64 0]).cells (grownCap w n 0 31 - n)) 31) = w1 at *;generalize grownCap w n 0 31 = c at *;have HR := Lib.hid hr;clear hr hi hz0 hz1 hz2
  go_enter Tryz.func113, Tryz.ntmps113
  go_wp2_with (at_builtin; refine Lib.wpList_append_run _ rfl _ _ _ _ rfl _ _ rfl rfl _ _ HR.out ?_)
  go_wp2;go_ret;exact ⟨_, rfl, hown, hb⟩
def flatK (S : List (List Ent)) (k : Nat) : List Ent := (S.take k).flatten
theorem flatK_succ {S : List (List Ent)} {k : Nat} (h : k < S.length) : flatK S (k + 1) = flatK S k ++ S[k] := by
 unfold flatK;rw [← List.take_append_getElem h, List.flatten_append]
 simp
theorem flatK_all (S : List (List Ent)) : flatK S S.length = S.flatten := by unfold flatK; rw [List.take_length]
theorem flatK_le (S : List (List Ent)) (k : Nat) : (flatK S k).length ≤ S.flatten.length := by
 have h : S.flatten = flatK S k ++ (S.drop k).flatten := by unfold flatK; rw [← List.flatten_append, List.take_append_drop]
 rw [h, List.length_append]; omega
theorem econcat_any (S : List (List Ent)) (hm : S.length ≤ 1000000) (hl : S.flatten.length ≤ 1000000) (v0 : Value) (w : World) (hv : NodesIn v0 S w) :
 Calls Tryz.prog 84 #[v0] w fun e w' => ∃ v, e = .returned v ∧ EntsAt w.heap.size v S.flatten w' ∧ Below w.heap.size w w' := by
 have G := Lib.hid fun (n : Nat) (h : n ≤ 1000000) => egrow_any n (by omega) w;obtain ⟨ad, cap0, rfl, k1, k2, hc, k4⟩ := hv.cells
 have HC : Hid (∀ j (hj : j < S.length), ∃ g o a cp, ad = some ⟨g, o, none⟩ ∧ g < w.heap.size ∧ w.cell? ⟨g, o + j, none⟩ = some (.slice a S[j].length cp) ∧ EntsIn (.slice a S[j].length cp) S[j] w) := Lib.hid fun j hj => by
  obtain ⟨g, o, e, hg, h⟩ := hc (by omega);obtain ⟨u, hu, hx⟩ := h j hj;obtain ⟨a, cp, rfl, -⟩ := entsIn_cells hx;exact ⟨g, o, a, cp, e, hg, hu, hx⟩
 have HL : Hid (∀ k, (flatK S k).length ≤ 1000000) := Lib.hid fun k => Nat.le_trans (flatK_le S k) hl;have HS : Hid (∀ k (h : k < S.length), flatK S (k + 1) = flatK S k ++ S[k]) := Lib.hid fun k h => flatK_succ h;have H0 : Hid (flatK S 0 = []) := Lib.hid rfl;have GS : Hid (∀ j (h : j < S.length), ∃ N : List Ent, flatK S (j + 1) = flatK S j ++ N ∧ ∃ g o a cp, ad = some ⟨g, o, none⟩ ∧ g < w.heap.size ∧ w.cell? ⟨g, o + j, none⟩ = some (.slice a N.length cp) ∧ EntsIn (.slice a N.length cp) N w) := Lib.hid fun j h => ⟨S[j], HS.out j h, HC.out j h⟩;rw [← flatK_all];clear hc hv hl HS HC;generalize S.length = m at *;generalize flatK S = D at *
 go_enter Tryz.func84, Tryz.ntmps84
 go_wp2
 go_loopw [3, 5, 11] (fun sz s5 p wr => wr = w ∧ ∃ k : Nat, p = .int .i64 k ∧ k ≤ m ∧ sz = .int .i64 ((D k).length : Nat)) (fun _ _ p _ => m - (intOf p).toNat)
 case atStart => exact ⟨rfl, 0, rfl, Nat.zero_le _, by rw [H0.out]; rfl⟩
 case round =>
  obtain ⟨hw, k, rfl, hk, rfl⟩ := hrel;have hw := hw.symm;subst hw;by_cases hlt : k < m
  ·obtain ⟨N, hN, g, o, a0, cp0, rfl, hg, c0, hx⟩ := GS.out k hlt
   obtain ⟨ad1, cap1, e, i1, i2, -⟩ := entsIn_cells hx
   injection e with e1 e2 e3
   subst e1 e3;have hs := HL.out k;have hs2 := HL.out (k + 1);have HE : Hid ((D (k + 1)).length = (D k).length + N.length) := Lib.hid (by rw [hN, List.length_append])
   have hs3 : (D k).length + N.length ≤ 1000000 := by have := HE.out; omega
   clear hN hx e2;generalize (D k).length = a at *;generalize N.length = b at *;go_wp2;exact ⟨⟨trivial, k + 1, by go_num, by omega, by rw [HE.out]; congr 1⟩, by simp [intOf]; omega⟩
  ·obtain rfl : k = m := by omega
   have hs := HL.out k;have G := Lib.hid (G.out _ hs);generalize hn : (D k).length = n at *;have HN := Lib.hid hn;clear hn;go_wp2_with fail
   refine G.out.mono ?_; rintro e w1 ⟨v, rfl, hown, hb1⟩;have HR1 := Lib.hid hown;have HB1 := Lib.hid hb1;clear G hown hb1;go_wp2
   go_loopw [6, 8, 27] (fun vn v8 p wr => ∃ j : Nat, p = .int .i64 j ∧ j ≤ k ∧ EntsAt w.heap.size vn (D j) wr ∧ Below w.heap.size w wr) (fun _ _ p _ => k - (intOf p).toNat)
   case atStart => exact ⟨0, rfl, Nat.zero_le _, by rw [H0.out]; exact HR1.out, HB1.out⟩
   case round =>
    obtain ⟨j, rfl, hj, ho, hbq⟩ := hrel;by_cases hlt2 : j < k
    ·obtain ⟨N, hN, g, o, a0, cp0, rfl, hg, c00, hx⟩ := GS.out j hlt2
     have c0 := (hbq.cell (p := ⟨g, o + j, none⟩) hg).trans c00;have hA := hx.kept hbq;have HE : Hid (D (j + 1) = D j ++ N) := Lib.hid hN;have hs2 := HL.out (j + 1)
     have hs3 : (D j).length + N.length ≤ 1000000 := by rw [hN, List.length_append] at hs2; exact hs2
     obtain ⟨ad1, cap1, e, i1, i2, -⟩ := entsIn_cells hA
     injection e with e1 e2 e3
     subst e1 e3;have hsq := hbq.size;have HA := Lib.hid hA;clear hA hs2 hN hx c00 e2
     go_wp2_with (at_builtin; refine wpList_appE rfl _ _ 22 31 rfl Tryz.underlying22 entry_info w.heap.size _ (D j) rfl ho _ N rfl HA.out (by omega) hsq ?_)
     intro v' w3 h3 g3;have h5 := hbq.trans (below_of_row ho g3 hsq);have h3 := Lib.hid h3;clear ho HA g3 hbq;go_wp2;exact ⟨⟨j + 1, by go_num, by omega, by rw [HE.out]; exact entsAt_app h3.out, h5⟩, by simp [intOf]; omega⟩
    ·obtain rfl : j = k := by omega
     go_wp2;go_ret;exact ⟨_, rfl, ho, hbq⟩
open Go.RowKit
theorem rowA_at {S : Shp} {r : Nat} (h : r < S.length) : rowA S r = S[r] := by unfold rowA; rw [List.getElem?_eq_getElem h]; rfl
theorem rowA_none {S : Shp} {r : Nat} (h : S.length ≤ r) : rowA S r = [] := by unfold rowA; rw [List.getElem?_eq_none h]; rfl
def SmallS (S : Shp) : Prop := S.length ≤ 1000 ∧ ∀ r, (rowA S r).length ≤ 1000000 ∧ (rowA S r).flatten.length ≤ 1000000
theorem shape_cell {S : Shp} {v : Value} {w : World} (h : ShapeIn v S w) : ∃ ad cap, v = .slice ad S.length cap ∧ S.length ≤ cap ∧ cap ≤ 9223372036854775807 ∧
 ∀ r, r < S.length → ∃ g o a c, ad = some ⟨g, o, none⟩ ∧ g < w.heap.size ∧ (∀ w', Below w.heap.size w w' → w'.cell? ⟨g, o + r, none⟩ = some (.slice a (rowA S r).length c) ∧ NodesIn (.slice a (rowA S r).length c) (rowA S r) w') := by
 obtain ⟨ad, cap, rfl, h1, h2, hc, -⟩ := h.cells;refine ⟨ad, cap, rfl, h1, h2, fun r hr => ?_⟩;obtain ⟨g, o, e, hg, hk⟩ := hc (by omega);obtain ⟨u, hu, hx⟩ := hk r hr;rw [rowA_at hr];obtain ⟨a, c, rfl, -⟩ := RowsIn.cells hx;exact ⟨g, o, a, c, e, hg, fun w' hb => ⟨(hb.cell (p := ⟨g, o + r, none⟩) hg).trans hu, nodesIn_kept hx hb⟩⟩
theorem fkheads_any (S : Shp) (hS : SmallS S) (r : Nat) (hr : r ≤ S.length) (v : Value) (w : World) (hv : ShapeIn v S w) :
 Calls Tryz.prog 85 #[v, .int .i64 (r : Int)] w fun e w' => ∃ u, e = .returned u ∧ EntsAt w.heap.size u (headsA S r) w' ∧ Below w.heap.size w w' := by
 obtain ⟨h1000, hS2⟩ := hS;have hs2 := hS2 (r + 1);obtain ⟨ad, cap, rfl, c1, c2, hc⟩ := shape_cell hv;unfold headsA;by_cases hlt : r + 1 < S.length
 ·obtain ⟨g, o, a, c, rfl, hg, hk⟩ := hc (r + 1) hlt
  obtain ⟨k0, kn⟩ := hk w (Below.refl _ _);have C := Lib.hid (econcat_any (rowA S (r + 1)) hs2.1 hs2.2 _ w kn);have d0 : decide ((r : Int) + 1 ≥ (S.length : Int)) = false := decide_eq_false (by omega);have d1 : decide ((S.length : Int) ≤ (r : Int) + 1) = false := decide_eq_false (by omega);clear hv hc kn hk hS2 hs2;generalize rowA S (r + 1) = R at *;generalize S.length = n at *
  go_enter Tryz.func85, Tryz.ntmps85
  go_wp2_with fail
  refine C.out.mono ?_; rintro e w2 ⟨u, rfl, hu, b2⟩;have HU := Lib.hid hu;clear hu C;go_wp2;go_ret;exact ⟨_, rfl, HU.out, b2⟩
 ·have d0 : decide ((r : Int) + 1 ≥ (S.length : Int)) = true := decide_eq_true (by omega)
  have d1 : decide ((S.length : Int) ≤ (r : Int) + 1) = true := decide_eq_true (by omega);rw [rowA_none (by omega)];clear hv hc hS2 hs2;generalize S.length = n at *
  go_enter Tryz.func85, Tryz.ntmps85
  go_wp2;go_ret;exact ⟨_, rfl, World.ownsRow_nil _ _ _ _, Below.refl _ _⟩
theorem one_in (w : World) (y : Ent) (e : TypeId) : EntsIn (.slice (some ⟨w.heap.size, 0, none⟩) 1 1) [y] (w.alloc (.cells (entC y) e)) := by
 refine ⟨cellsE_length [y], _, 1, rfl, Nat.le_refl _, by unfold maxLen; omega, fun _ => ⟨w.heap.size, 0, rfl, by rw [size_alloc]; omega, fun k u hk => ?_⟩, fun h => by cases h⟩;have := three_new w y e k u (by simpa [cellsE] using hk);rwa [add_at] at this
theorem room_run {T e : TypeId} (ht : Tryz.prog.underlying T = some (.slice e)) (hinf : (Tryz.prog.info? e).map (fun i => (i.zero, i.size, i.bytes)) = some (some (.agg #[.int .i64 0, .int .i64 0, .int .i64 0]), 3, 24)) (n : Nat) (hn : n ≤ 1000000) (W : World) :
 ∃ w', (Instr.makeSlice T (.int .i64 0) (.int .i64 (n : Int))).run Tryz.prog W = .ok (.slice (some ⟨W.heap.size, 0, none⟩) 0 n) w' ∧ w'.ownsRow W.heap.size e 3 (.slice (some ⟨W.heap.size, 0, none⟩) 0 n) 0 [] ∧ Below W.heap.size W w' := by
 obtain ⟨i, hi, hz, hs, hb⟩ := info_parts hinf;obtain ⟨w', hr, ho, hg⟩ := run_make_own (P := Tryz.prog) (w := W) W.heap.size T e i _ 3 ht hi hz hs .i64 .i64 n (by rw [hb]; omega) (by unfold maxLen; omega) (Nat.le_refl _);exact ⟨w', hr, ho, (Below.refl _ _).grown hg (Nat.le_refl _) (fun k hk => by cases hk)⟩
theorem fklist_any (S : Shp) (hS : SmallS S) (h0 : 0 < S.length) (v : Value) (w : World) (hv : ShapeIn v S w) :
 Calls Tryz.prog 47 #[v] w fun e w' => ∃ u, e = .returned u ∧ ExtsAt w.heap.size u (listA S) w' ∧ Below w.heap.size w w' := by
 obtain ⟨h1000, hS2⟩ := hS;have hs2 := hS2 0;obtain ⟨ad, cap, rfl, c1, c2, hc⟩ := shape_cell hv;obtain ⟨g, o, a, c, rfl, hg, hk⟩ := hc 0 h0;obtain ⟨k0, kn⟩ := hk w (Below.refl _ _);rw [Nat.add_zero] at k0;have C := Lib.hid (econcat_any (rowA S 0) hs2.1 hs2.2 _ w kn);unfold listA;have hfl := hs2.2;clear hv hc kn hk hS2 hs2;generalize rowA S 0 = R at *;generalize R.flatten = L at *;generalize S.length = n at *
 go_enter Tryz.func47, Tryz.ntmps47
 go_wp2_with fail
 refine C.out.mono ?_; rintro e w2 ⟨u, rfl, hu, b2⟩;have HEI := entsAt_in hu;obtain ⟨ua, uc, rfl, u1, u2, u3, -⟩ := entsIn_cells HEI;obtain ⟨w3, hmk, hown, b3⟩ := room_run (T := 42) (e := 53) Tryz.underlying42 ext_info L.length hfl w2;have hs3 := b2.size;have HB0 := Lib.hid (bnext b2 b3);have HO0 := Lib.hid hown;have HS3 := Lib.hid hs3;have HB2 := Lib.hid b2
 have U3 : Hid (∀ w', Below w2.heap.size w2 w' → ∀ k, k < L.length → ∃ g o, ua = some ⟨g, o, none⟩ ∧ w'.cell? ⟨g, o + k * 3, none⟩ = some (.int .i64 (eat L k).log) ∧ w'.cell? ⟨g, o + k * 3 + 1, none⟩ = some (.int .i64 (eat L k).phys) ∧ w'.cell? ⟨g, o + k * 3 + 2, none⟩ = some (.int .i64 (eat L k).len)) := Lib.hid fun w' hb k hk => by
  obtain ⟨g, o, e, -, h⟩ := u3 (by omega);exact ⟨g, o, e, h w' hb k hk⟩
 have HB3 := Lib.hid b3;have hs4 := b3.size;clear C hu HEI u3 hown b2 b3;go_wp2
 go_loopw [4, 6, 16] (fun lv u6 p wr => ∃ k : Nat, p = .int .i64 k ∧ k ≤ L.length ∧ ExtsAt w2.heap.size lv (L.take k) wr ∧ Below w2.heap.size w2 wr) (fun _ _ p _ => L.length - (intOf p).toNat)
 case atStart => exact ⟨0, rfl, Nat.zero_le _, HO0.out, HB3.out⟩
 case round =>
  obtain ⟨k, rfl, hk, ho, hbq⟩ := hrel;have hsq := hbq.size;by_cases hlt : k < L.length
  ·obtain ⟨gu, ou, rfl, e1, e2, e3⟩ := U3.out wr hbq k hlt
   have HO := Lib.hid ho;have HBQ := Lib.hid hbq;have HLN : Hid ((L.take k).length = k) := Lib.hid (by rw [List.length_take]; omega);have HNX : Hid (L.take (k + 1) = L.take k ++ [eat L k]) := Lib.hid (by rw [eat_eq hlt, List.take_append_getElem hlt]);clear ho hbq U3;generalize eat L k = y at *;obtain ⟨ya, yp, yz⟩ := y;dsimp only at e1 e2 e3
   go_wp2_with (at_builtin; refine wpList_appE rfl _ _ 42 53 rfl Tryz.underlying42 ext_info w2.heap.size _ (L.take k) rfl ?_ _ [⟨ya, yp, yz⟩] rfl ?_ ?_ ?_ ?_)
   ·exact (HO.out.alloc _).alloc _
   ·have h9 := one_in (wr.alloc (.cells (entC ⟨ya, yp, yz⟩) 31)) ⟨ya, yp, yz⟩ 53
    rw [size_alloc] at h9;exact h9
   ·rw [HLN.out]; show _ + 1 ≤ _; omega
   ·rw [size_alloc, size_alloc]; omega
   intro v' w5 h5 g5;have HR5 : Hid (ExtsAt w2.heap.size v' (L.take (k + 1)) w5) := Lib.hid (by rw [HNX.out]; exact ents_snoc (by rw [HLN.out]; exact h5));have HB5 : Hid (Below w2.heap.size w2 w5) := Lib.hid ((balloc (balloc HBQ.out _) _).trans (below_of_row ((HO.out.alloc _).alloc _) g5 (by rw [size_alloc, size_alloc]; omega)));clear h5 g5 HO HBQ;go_wp2;exact ⟨⟨k + 1, by go_num, by omega, HR5.out, HB5.out⟩, by simp [intOf]; omega⟩
  ·obtain rfl : k = L.length := by omega
   have HE : Hid (L.take L.length = L) := Lib.hid (by rw [List.take_length]);rw [HE.out] at ho;have HO := Lib.hid ho;have HBQ := Lib.hid (bnext HB2.out hbq);clear ho hbq;go_wp2;go_ret;exact ⟨_, rfl, row_down HS3.out HO.out, HBQ.out⟩
theorem len_flat : ∀ (ns : List (List Ent)), (∀ x ∈ ns, 1 ≤ x.length) → ns.length ≤ ns.flatten.length
 | [], _ => Nat.zero_le _
 | x :: ns, h => by
   have h1 := h x (List.mem_cons_self ..);have h2 := len_flat ns fun y hy => h y (List.mem_cons_of_mem _ hy);rw [List.flatten_cons, List.length_append, List.length_cons];omega
theorem row_one (x : List (List Ent)) (S : Shp) : rowA (x :: S) 0 = x := by unfold rowA; simp
theorem Stacked.small {old : Shp} (hw : WellS old) {ch : Choose} (hch : ∀ ns l, SpanFl ns l (ch ns l)) {r : Nat} {l : List Ent} {S : Shp} (h : Stacked old ch r l S) (M : Nat) : l.length ≤ M → ∀ q, (rowA S q).flatten.length ≤ M ∧ (rowA S q).length ≤ M + 1 := by
 induction h with
 | top r l h =>
   intro hM q
   cases q with
   | zero => rw [row_one]; simp; omega
   | succ q => rw [row_cons]; simp [rowA]
 | row r l S h k ih =>
   intro hM q;obtain ⟨o1, o2⟩ := hw.old r
   cases q with
   | zero =>
     have e := packN_flat (hch (oldN old r) l);rw [row_one, e];have := len_flat (packN (oldN old r) l (ch (oldN old r) l)) fun x hx => (packN_mem hx).elim (o2 x) (·.1);rw [e] at this;omega
   | succ q =>
     rw [row_cons];have := packH_le (hch (oldN old r) l).ok o1 o2;exact ih (by omega) q
theorem Stacked.depth {old : Shp} (hw : WellS old) {r : Nat} {l : List Ent} {S : Shp} (h : Stacked old spanAll r l S) : ∀ k, l.length ≤ 4 * 10 ^ k → S.length ≤ k + 1 := by
 induction h with
 | top r l h => intro k _; simp
 | row r l S h k ih =>
   intro m hm;obtain ⟨o1, o2⟩ := hw.old r
   cases m with
   | zero => simp at hm; omega
   | succ m =>
     have e := packH_len (span_all (oldN old r) l) o1
     have e2 : (packH (headsA old r) l (spanAll (oldN old r) l)).length = splitN l.length := by rw [e]; simp [spanAll]
     have := ih m (by rw [e2]; unfold splitN; rw [Nat.pow_succ] at hm; omega);rw [List.length_cons]; omega
theorem grow_small {old : Shp} (hw : WellS old) (hS : SmallS old) (hd : old.length ≤ 5) {L : List Ent} (hL : L.length ≤ 2048) : SmallS (growA old L) ∧ (growA old L).length ≤ 5 := by
 have key : ∀ {ch : Choose} {S : Shp}, (∀ ns l, SpanFl ns l (ch ns l)) → Stacked old ch 0 L S → S.length ≤ 5 → SmallS S ∧ S.length ≤ 5 := fun {ch S} hch h h5 =>
  ⟨⟨by omega, fun r => by have := h.small hw hch 2048 hL r; omega⟩, h5⟩
 unfold growA;split
 ·exact ⟨hS, hd⟩
 ·split
  ·have h := stackA_is hw (ch := spanAll) span_all L
   have := h.depth hw 3 (by omega);exact key fl_all h (by omega)
  ·exact key fl_unlike (stackA_is hw (ch := unlikeA) span_unlike L) (by omega)
def Fair (e : Ent) : Prop := (0 ≤ e.log ∧ e.log < 2048) ∧ (0 ≤ e.phys ∧ e.phys < 4096) ∧ (0 ≤ e.len ∧ e.len ≤ 2048)
theorem Fair.fit {e : Ent} (h : Fair e) : I64 e.log ∧ I64 e.phys ∧ I64 e.len := by
 obtain ⟨⟨a1, a2⟩, ⟨b1, b2⟩, c1, c2⟩ := h;exact ⟨⟨by omega, by omega⟩, ⟨by omega, by omega⟩, ⟨by omega, by omega⟩⟩
theorem packH_fair {ns : List (List Ent)} {hs l : List Ent} {s : Span} (h : SpanOk ns l s) (hh : hs.length = ns.length) (hl : ∀ e ∈ l, Fair e) (hf : ∀ e ∈ hs, Fair e) : ∀ e ∈ packH hs l s, Fair e := by
 intro e he;unfold packH at he;rcases List.mem_append.1 he with he | he
 ·exact hf e (List.mem_of_mem_take he)
 ·rcases List.mem_append.1 he with he | he
  ·unfold madeA at he
   obtain ⟨k, hk, rfl⟩ := List.mem_map.1 he;rw [List.mem_range] at hk;have hx := splitA_size (cutL l s) _ (List.getElem_mem hk)
   have hn : nodeAt (splitA (cutL l s)) k = (splitA (cutL l s))[k] := by unfold nodeAt; rw [List.getElem?_eq_getElem hk]; rfl
   have hm : eat (nodeAt (splitA (cutL l s)) k) 0 ∈ l := by
    rw [hn, eat_eq (by omega)];have h1 : ((splitA (cutL l s))[k])[0] ∈ (splitA (cutL l s)).flatten := List.mem_flatten.2 ⟨_, List.getElem_mem hk, List.getElem_mem _⟩;rw [splitA_flat] at h1;unfold cutL at h1;exact List.mem_of_mem_drop (List.mem_of_mem_take h1)
   refine ⟨(hl _ hm).1, ?_, by show (0 : Int) ≤ 0 ∧ (0 : Int) ≤ 2048; omega⟩
   show 0 ≤ (if s.first + k < s.last then (eat hs (s.first + k)).phys else 0) ∧ (if s.first + k < s.last then (eat hs (s.first + k)).phys else 0) < 4096
   split
   ·rename_i hk2
    have hb := h.b
    have : eat hs (s.first + k) ∈ hs := by rw [eat_eq (by omega)]; exact List.getElem_mem _
    exact (hf _ this).2.1
   ·omega
  ·exact hf e (List.mem_of_mem_drop he)
theorem Stacked.fair {old : Shp} (hw : WellS old) {ch : Choose} (hch : ∀ ns l, SpanFl ns l (ch ns l)) (hf : ∀ r, ∀ e ∈ headsA old r, Fair e) {r : Nat} {l : List Ent} {S : Shp} (h : Stacked old ch r l S) : (∀ e ∈ l, Fair e) → ∀ q, ∀ e ∈ (rowA S q).flatten, Fair e := by
 induction h with
 | top r l h =>
   intro hl q e he
   cases q with
   | zero => rw [row_one] at he; simp at he; exact hl e he
   | succ q => rw [row_cons] at he; simp [rowA] at he
 | row r l S h k ih =>
   intro hl q e he;obtain ⟨o1, o2⟩ := hw.old r
   cases q with
   | zero => rw [row_one, packN_flat (hch _ _)] at he; exact hl e he
   | succ q =>
     rw [row_cons] at he;exact ih (packH_fair (hch _ _).ok o1 hl (hf r)) q e he
theorem grow_fair {old : Shp} (hw : WellS old) (hf : ∀ r, ∀ e ∈ (rowA old r).flatten, Fair e) {L : List Ent} (hL : ∀ e ∈ L, Fair e) : ∀ q, ∀ e ∈ (rowA (growA old L) q).flatten, Fair e := by
 have hh : ∀ r, ∀ e ∈ headsA old r, Fair e := fun r => hf (r + 1);unfold growA;split
 ·exact hf
 ·split
  ·exact (stackA_is hw (ch := spanAll) span_all L).fair hw fl_all hh hL
  ·exact (stackA_is hw (ch := unlikeA) span_unlike L).fair hw fl_unlike hh hL
open Go.RowKit
def rootA (S : Shp) : List Ent := ((rowA S (S.length - 1))[0]?).getD []
open Go.RowKit
theorem fktreeP (P : Value → List Ent → World → Prop) (hPs : ∀ v x w, P v x w → ∃ ad cap, v = .slice ad x.length cap) (hPk : ∀ v x w w', P v x w → Below w.heap.size w w' → P v x w') (S : Shp) (hS : S.length ≤ 1000) (h0 : 0 < S.length) (hr : 0 < (rowA S (S.length - 1)).length) (v : Value) (w : World) (hv : RowsIn (RowsIn P) v S w) :
 Calls Tryz.prog 90 #[v] w fun e w' => ∃ rv, e = .returned (.agg #[.int .i64 ((S.length - 1 : Nat) : Int), rv]) ∧ P rv (rootA S) w' ∧ Below w.heap.size w w' := by
 obtain ⟨ad, cap, rfl, c1, c2, hc, -⟩ := RowsIn.cells hv;obtain ⟨g, o, rfl, hg, hk⟩ := hc h0;obtain ⟨q, hq, kn⟩ := hk (S.length - 1) (by omega);unfold rootA;rw [rowA_at (show S.length - 1 < S.length by omega)] at hr ⊢;clear hc hk hv;generalize S[S.length - 1] = L at *;obtain ⟨D, hD⟩ : ∃ D, S.length - 1 = D := ⟨_, rfl⟩
 have hsl : S.length = D + 1 := by omega
 rw [hD] at hq ⊢;rw [hsl];rw [hsl] at c1;have hb1 : Below w.heap.size w (w.alloc (.cells #[.int .i64 0, .slice none 0 0] 35)) := balloc1 _ _;have k0 := (hb1.cell (p := ⟨g, o + D, none⟩) hg).trans hq;obtain ⟨ad2, cp2, rfl, d1, d2, h3, -⟩ := RowsIn.cells kn;obtain ⟨g2, o2, rfl, hg2, h4⟩ := h3 hr;obtain ⟨u, hu, hx⟩ := h4 0 hr;rw [Nat.add_zero] at hu;rw [List.getElem?_eq_getElem hr, Option.getD_some];generalize L[0] = m at *;obtain ⟨ua, uc, rfl⟩ := hPs _ _ _ hx;have hu := (hb1.cell (p := ⟨g2, o2, none⟩) hg2).trans hu
 have hwd : IntKind.i64.wrap (((D + 1 : Nat) : Int) - 1) = (D : Int) := by rw [IntWalk.i64_in _ (by omega)]; omega
 have hwd2 : ((D + 1 : Nat) : Int) - 1 = (D : Int) := by omega
 have HX := Lib.hid hx;have HB1 := Lib.hid hb1;have HPK := Lib.hid hPk;clear h3 h4 kn hx hb1 hq hPs hPk
 go_enter Tryz.func90, Tryz.ntmps90
 go_wp2
 (try simp only [Exit.inBlock, Exit.then])
 refine bodyPost_ret (v := .agg #[.int .i64 (D : Int), .slice ua m.length uc]) ?_ rfl ⟨_, rfl, HPK.out _ _ _ _ HX.out (balloc1 _ _), balloc1 _ _⟩;rw [results_one_cell rfl];go_simp
end Go.Proofs.YtknefoemgifbfaaGreat
