import Derived.Test.YtknefoemgifbfaaGreatPd17
import Derived.Test.YtknefoemgifbfaaGreatPd34
set_option linter.unusedVariables false
set_option linter.unusedSimpArgs false
set_option linter.constructorNameAsVariable false
set_option maxRecDepth 100000
set_option maxHeartbeats 16000000
namespace Go.Proofs.YtknefoemgifbfaaGreat
open Go.RowKit Go.Shelf
theorem row_beside {e e' : TypeId} (he : e ≠ e') {z z' n n' B B' : Nat} {v v' : Value} {xs ys : List Value} {w w' : World} (h : w.ownsRow B e z v n xs) (k : w.ownsRow B' e' z' v' n' ys) (g : w.grownBy w' v.ownBlock) : w'.ownsRow B' e' z' v' n' ys := by
 refine ⟨k.1, ?_⟩;rcases k.2 with a | ⟨q, cap, cur, a1, a2, a3, a4⟩
 ·exact .inl a
 ·refine .inr ⟨q, cap, cur, a1, a2, ?_, a4⟩
  rw [g.block q (lt_of_block a3) ?_]
  ·exact a3
  ·intro hq
   rcases h.2 with ⟨b1, b2⟩ | ⟨q2, cap2, cur2, b1, b2, b3, b4⟩
   ·rw [b1] at hq; cases hq
   ·rw [b1] at hq
    simp only [Value.ownBlock] at hq
    injection hq with hq
    subst hq;rw [a3] at b3
    injection b3 with b3
    injection b3 with c1 c2
    exact he c2.symm
def numsTo (S : Shp) (r : Nat) : List Int := (List.range r).flatMap fun k => (headsA S k).map Ent.phys
theorem numsTo_all (S : Shp) : numsTo S S.length = numsA S := rfl
theorem numsTo_succ (S : Shp) (r : Nat) : numsTo S (r + 1) = numsTo S r ++ (headsA S r).map Ent.phys := by
 unfold numsTo; rw [List.range_succ, List.flatMap_append]; simp
theorem numsTo_le (S : Shp) {r k : Nat} (h : r ≤ k) : (numsTo S r).length ≤ (numsTo S k).length := by
 induction k with
 | zero => obtain rfl : r = 0 := by omega
           exact Nat.le_refl _
 | succ k ih =>
   by_cases e : r = k + 1
   ·subst e; exact Nat.le_refl _
   ·have := ih (by omega)
    rw [numsTo_succ, List.length_append]; omega
def sortI (l : List Int) : List Int := l.mergeSort fun x y => decide (x ≤ y)
theorem fknodes_any (S : Shp) (hS : SmallS S) (hN : (numsA S).length ≤ 900000) (v : Value) (w : World) (hv : ShapeIn v S w) :
 Calls Tryz.prog 48 #[v] w fun e w' => ∃ u, e = .returned u ∧ IntsFk w.heap.size u (sortI (numsA S)) w' ∧ Below w.heap.size w w' := by
 have HH := Lib.hid fun (r : Nat) (hr : r ≤ S.length) (w : World) (hv : ShapeIn v S w) => fkheads_any S hS r hr v w hv;have h1000 := hS.1;have HV := Lib.hid hv;obtain ⟨ad, cap, rfl, c1, c2, -⟩ := shape_cell hv;have HL : Hid (∀ r, r ≤ S.length → (numsTo S r).length ≤ 900000) := Lib.hid fun r hr => Nat.le_trans (numsTo_le S hr) (by rw [numsTo_all]; exact hN);have HSU : Hid (∀ r, numsTo S (r + 1) = numsTo S r ++ (headsA S r).map Ent.phys) := Lib.hid (numsTo_succ S);have HST := Lib.hid fun (l : List Int) (hl : l.length ≤ 1000000) (v : Value) (W : World) (hB : w.heap.size ≤ W.heap.size) (h : IntsFk w.heap.size v l W) => fksort_any l w.heap.size v W hB hl h;rw [← numsTo_all];clear hv hS hN;generalize hn : S.length = n at *
 go_enter Tryz.func48, Tryz.ntmps48
 go_wp2
 go_loopw [3, 4, 6, 9] (fun lv q4 q6 p wr => ∃ r : Nat, p = .int .i64 r ∧ r ≤ n ∧ Hid (IntsFk w.heap.size lv (numsTo S r) wr) ∧ Hid (Below w.heap.size w wr)) (fun _ _ _ p _ => n - (intOf p).toNat)
 case atStart => exact ⟨0, rfl, Nat.zero_le _, Lib.hid (World.ownsRow_nil _ _ _ _), Lib.hid (Below.refl _ _)⟩
 case round =>
  obtain ⟨r, rfl, hr, HO, HB⟩ := hrel;by_cases hlt : r < n
  ·have HC := Lib.hid (HH.out r hr wr (shapeIn_kept HV.out HB.out))
   have HE := Lib.hid (HSU.out r);have HLE := Lib.hid (HL.out (r + 1) (by omega));have hwr := HB.out.size;clear HSU HL HH HST;obtain ⟨N1, hN1⟩ : ∃ N1, numsTo S (r + 1) = N1 := ⟨_, rfl⟩;have HN1 := Lib.hid hN1;rw [hN1] at HE HLE;clear hN1;generalize numsTo S r = N0 at *;generalize headsA S r = M at *;go_wp2_with fail
   refine HC.out.mono ?_; rintro e w2 ⟨u, rfl, hu, b2⟩;obtain ⟨ua, uc, rfl, -⟩ := entsIn_cells (entsAt_in hu);have HM2 := Lib.hid hu;have HO2 := Lib.hid (row_kept HO.out b2);have HB2 := Lib.hid (bnext HB.out b2);have hw2 := HB2.out.size
   have HT : Hid (∀ k, k < M.length → N0 ++ (M.take (k + 1)).map Ent.phys = (N0 ++ (M.take k).map Ent.phys) ++ [(eat M k).phys]) := Lib.hid fun k hk => by
    rw [List.take_succ_eq_append_getElem hk, List.map_append, ← List.append_assoc, eat_eq hk]; rfl
   have HTL : Hid (∀ k, k ≤ M.length → (N0 ++ (M.take k).map Ent.phys).length ≤ 900000) := Lib.hid fun k hk => by
    have h8 := congrArg List.length HE.out;rw [List.length_append, List.length_map] at h8;rw [List.length_append, List.length_map, List.length_take];have := HLE.out;omega
   have HT0 : Hid (N0 ++ (M.take 0).map Ent.phys = N0) := Lib.hid (by simp);have HTN : Hid (N0 ++ (M.take M.length).map Ent.phys = N1) := Lib.hid (by rw [List.take_length]; exact HE.out.symm)
   have hml : M.length ≤ 900000 := by
    have h8 := congrArg List.length HE.out;rw [List.length_append, List.length_map] at h8;have := HLE.out;omega
   obtain ⟨Q, hQ⟩ : ∃ Q : Nat → List Int, Q = fun k => N0 ++ (M.take k).map Ent.phys := ⟨_, rfl⟩;have HT : Hid (∀ k, k < M.length → Q (k + 1) = Q k ++ [(eat M k).phys]) := Lib.hid (by rw [hQ]; exact HT.out);have HTL : Hid (∀ k, k ≤ M.length → (Q k).length ≤ 900000) := Lib.hid (by rw [hQ]; exact HTL.out);have HT0 : Hid (Q 0 = N0) := Lib.hid (by rw [hQ]; exact HT0.out);have HTN : Hid (Q M.length = N1) := Lib.hid (by rw [hQ]; exact HTN.out);clear hu b2 HO HB HE HLE hQ HC;go_wp2
   go_loopw [3, 6, 16] (fun lv q6 p wz => ∃ k : Nat, p = .int .i64 k ∧ k ≤ M.length ∧ Hid (IntsFk w.heap.size lv (Q k) wz) ∧ Hid (EntsAt wr.heap.size (.slice ua M.length uc) M wz) ∧ Hid (Below w.heap.size w wz)) (fun _ _ p _ => M.length - (intOf p).toNat)
   case atStart => exact ⟨0, rfl, Nat.zero_le _, Lib.hid (by rw [HT0.out]; exact HO2.out), HM2, HB2⟩
   case round =>
    obtain ⟨k, rfl, hk, HO, HM, HB⟩ := hrel;by_cases hkl : k < M.length
    ·obtain ⟨ad2, cp2, eqv, -, -, u3, -⟩ := entsIn_cells (entsAt_in HM.out)
     injection eqv with q1 q2 q3
     obtain ⟨gu, ou, q4, -, u4⟩ := u3 (by omega);rw [q4] at q1;subst q1;obtain ⟨e1, e2, e3⟩ := u4 _ (Below.refl _ _) k hkl;have HX := Lib.hid (HT.out k hkl);have HXL := HTL.out k hk;have hwz := HB.out.size;clear HT HTL HT0 HTN HO2 HB2 HV HM2 u3 u4 q2 q3;obtain ⟨Q1, hQ1⟩ : ∃ Q1, Q (k + 1) = Q1 := ⟨_, rfl⟩;have HQ1 := Lib.hid hQ1;rw [hQ1] at HX;clear hQ1;obtain ⟨Q0, hQ0⟩ : ∃ Q0, Q k = Q0 := ⟨_, rfl⟩;rw [hQ0] at HX HXL HO;clear hQ0;generalize eat M k = y at *;obtain ⟨ya, yp, yz⟩ := y;dsimp only at e1 e2 e3 HX
     go_upto_region 8 with fail
     have kb := (Blk.new (entC ⟨ya, yp, yz⟩) 31 wr).cell 1;simp only [List.getElem?_toArray, List.getElem?_cons_zero, List.getElem?_cons_succ] at kb;have HO1 := Lib.hid (HO.out.alloc (.cells (entC ⟨ya, yp, yz⟩) 31));have HM1 := Lib.hid (HM.out.alloc (.cells (entC ⟨ya, yp, yz⟩) 31));have HB1 := Lib.hid (balloc HB.out (.cells (entC ⟨ya, yp, yz⟩) 31));have hs1 := HB1.out.size;clear HO HM HB e1 e2 e3;generalize wr.alloc (.cells #[.int .i64 ya, .int .i64 yp, .int .i64 yz] 31) = wy at *;generalize wr.heap.size = bx at *
     go_wp2_with (at_builtin; refine wpList_int rfl _ _ rfl w.heap.size _ Q0 rfl (HO1.out.alloc _) ⟨wy.heap.size, 0, none⟩ 1 yp rfl (fknew_int _ _) (by omega) (by rw [size_alloc]; omega) ?_)
     intro v' w4 h4 g4;have HO4 : Hid (IntsFk w.heap.size v' (Q (k + 1)) w4) := Lib.hid (by rw [HQ1.out, HX.out]; exact h4);have HM4 := Lib.hid (row_beside (by decide) (HO1.out.alloc _) (HM1.out.alloc _) g4);have HB4 := Lib.hid ((balloc HB1.out _).trans (below_of_row (HO1.out.alloc _) g4 (by rw [size_alloc]; omega)));clear h4 g4 HO1 HM1 HB1 kb;go_wp2;exact ⟨⟨k + 1, by go_num, by omega, HO4, HM4, HB4⟩, by simp [intOf]; omega⟩
    ·obtain rfl : k = M.length := by omega
     have HOE : Hid (IntsFk w.heap.size _ (numsTo S (r + 1)) _) := Lib.hid (by rw [HN1.out, ← HTN.out]; exact HO.out);go_wp2;exact ⟨⟨r + 1, by go_num, by omega, HOE, HB⟩, by simp [intOf]; omega⟩
  ·obtain rfl : r = n := by omega
   have hwr := HB.out.size;have HSO := Lib.hid (HST.out (numsTo S r) (by have := HL.out r (Nat.le_refl _); omega) _ wr hwr HO.out);clear HST HSU HL HH HO;go_wp2_with fail
   refine HSO.out.mono ?_; rintro e w2 ⟨rfl, hu, b2⟩;have HU := Lib.hid hu;have HB2 := Lib.hid (HB.out.trans b2);clear hu b2 HSO HB;go_wp2;go_ret;exact ⟨_, rfl, HU.out, HB2.out⟩
open Go.RowKit Go.Shelf
def riseTo (l : List Int) (n : Nat) : List Int := ((List.range n).map fun k : Nat => (k : Int)).filter fun b => decide (b ∈ l)
end Go.Proofs.YtknefoemgifbfaaGreat
