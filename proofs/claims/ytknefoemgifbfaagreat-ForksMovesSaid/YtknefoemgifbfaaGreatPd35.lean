import Derived.Test.YtknefoemgifbfaaGreatPd17
import Derived.Test.YtknefoemgifbfaaGreatPd34
set_option linter.unusedVariables false
set_option linter.unusedSimpArgs false
set_option linter.constructorNameAsVariable false
set_option maxRecDepth 100000
set_option maxHeartbeats 16000000
namespace Go.Proofs.YtknefoemgifbfaaGreat
open Go.RowKit Go.Shelf
theorem row_beside {e e' : TypeId} (he : e ≠ e') {z z' n n' B B' : Nat} {v v' : Value} {xs ys : List Value} {w w' : World} (h : w.ownsRow B e z v n xs) (k : w.ownsRow B' e' z' v' n' ys) (g : w.grownBy w' v.ownBlock) : w'.ownsRow B' e' z' v' n' ys := by
 refine ⟨k.1, ?_⟩;rcases k.2 with a | ⟨q, cap, cur, a1, a2, a3, a4⟩
 ·exact .inl a
 ·refine .inr ⟨q, cap, cur, a1, a2, ?_, a4⟩
  rw [g.block q (lt_of_block a3) ?_]
  ·exact a3
  ·intro hq
   rcases h.2 with ⟨b1, b2⟩ | ⟨q2, cap2, cur2, b1, b2, b3, b4⟩
   ·rw [b1] at hq; cases hq
   ·rw [b1] at hq
    simp only [Value.ownBlock] at hq
    injection hq with hq
    subst hq;rw [a3] at b3
    injection b3 with b3
    injection b3 with c1 c2
    exact he c2.symm
def numsTo (S : Shp) (r : Nat) : List Int := (List.range r).flatMap fun k => (headsA S k).map Ent.phys
theorem numsTo_all (S : Shp) : numsTo S S.length = numsA S := rfl
theorem numsTo_succ (S : Shp) (r : Nat) : numsTo S (r + 1) = numsTo S r ++ (headsA S r).map Ent.phys := by
 unfold numsTo; rw [List.range_succ, List.flatMap_append]; simp
theorem numsTo_le (S : Shp) {r k : Nat} (h : r ≤ k) : (numsTo S r).length ≤ (numsTo S k).length := by
 induction k with
 | zero => obtain rfl : r = 0 := by omega
           exact Nat.le_refl _
 | succ k ih =>
   by_cases e : r = k + 1
   ·subst e; exact Nat.le_refl _
   ·have := ih (by omega)
    rw [numsTo_succ, List.length_append]; omega
def sortI (l : List Int) : List Int := l.mergeSort fun x y => decide (x ≤ y)
theorem fknodes_any (S : Shp) (hS : SmallS S) (hN : (numsA S).length ≤ 900000) (v : Value) (w : World) (hv : ShapeIn v S w) :
 Calls Tryz.prog 48 #[v] w fun e w' => ∃ u, e = .returned u ∧ IntsFk w.heap.size u (sortI (numsA S)) w' ∧ Below w.heap.size w w' := by
 have HH := Lib.hid fun (r : Nat) (hr : r ≤ S.length) (w : World) (hv : ShapeIn v S w) => fkheads_any S hS r hr v w hv;have h1000 := hS.1;have HV := Lib.hid hv;obtain ⟨ad, cap, rfl, c1, c2, -⟩ := shape_cell hv;have HL : Hid (∀ r, r ≤ S.length → (numsTo S r).length ≤ 900000) := Lib.hid fun r hr => Nat.le_trans (numsTo_le S hr) (by rw [numsTo_all]; exact hN);have HSU : Hid (∀ r, numsTo S (r + 1) = numsTo S r ++ (headsA S r).map Ent.phys) := Lib.hid (numsTo_succ S);have HST := Lib.hid fun (l : List Int) (hl : l.length ≤ 1000000) (v : Value) (W : World) (hB : w.heap.size ≤ W.heap.size) (h : IntsFk w.heap.size v l W) => fksort_any l w.heap.size v W hB hl h;rw [← numsTo_all];clear hv hS hN;generalize hn : S.length = n at *
 go_enter Tryz.func48, Tryz.ntmps48
 go_wp2
 go_loopw [3, 4, 6, 9] (fun lv q4 q6 p wr => ∃ r : Nat, p = .int .i64 r ∧ r ≤ n ∧ Hid (IntsFk w.heap.size lv (numsTo S r) wr) ∧ Hid (Below w.heap.size w wr)) (fun _ _ _ p _ => n - (intOf p).toNat)
 case atStart => exact ⟨0, rfl, Nat.zero_le _, Lib.hid (World.ownsRow_nil _ _ _ _), Lib.hid (Below.refl _ _)⟩
 case round =>
  obtain ⟨r, rfl, hr, HO, HB⟩ := hrel;by_cases hlt : r < n
  ·have HC := Lib.hid (HH.out r hr wr (shapeIn_kept HV.out HB.out))
   have HE := Lib.hid (HSU.out r);have HLE := Lib.hid (HL.out (r + 1) (by omega));have hwr := HB.out.size;clear HSU HL HH HST;obtain ⟨N1, hN1⟩ : ∃ N1, numsTo S (r + 1) = N1 := ⟨_, rfl⟩;have HN1 := Lib.hid hN1;rw [hN1] at HE HLE;clear hN1;generalize numsTo S r = N0 at *;generalize headsA S r = M at *;go_wp2_with fail
   refine HC.out.mono ?_; rintro e w2 ⟨u, rfl, hu, b2⟩;obtain ⟨ua, uc, rfl, -⟩ := entsIn_cells (entsAt_in hu);have HM2 := Lib.hid hu;have HO2 := Lib.hid (row_kept HO.out b2);have HB2 := Lib.hid (bnext HB.out b2);have hw2 := HB2.out.size
   have HT : Hid (∀ k, k < M.length → N0 ++ (M.take (k + 1)).map Ent.phys = (N0 ++ (M.take k).map Ent.phys) ++ [(eat M k).phys]) := Lib.hid fun k hk => by
    rw [List.take_succ_eq_append_getElem hk, List.map_append, ← List.append_assoc, eat_eq hk]; rfl
   have HTL : Hid (∀ k, k ≤ M.length → (N0 ++ (M.take k).map Ent.phys).length ≤ 900000) := Lib.hid fun k hk => by
    have h8 := congrArg List.length HE.out;rw [List.length_append, List.length_map] at h8;rw [List.length_append, List.length_map, List.length_take];have := HLE.out;omega
   have HT0 : Hid (N0 ++ (M.take 0).map Ent.phys = N0) := Lib.hid (by simp);have HTN : Hid (N0 ++ (M.take M.length).map Ent.phys = N1) := Lib.hid (by rw [List.take_length]; exact HE.out.symm)
   have hml : M.length ≤ 900000 := by
    have h8 := congrArg List.length HE.out;rw [List.length_append, List.length_map] at h8;have := HLE.out;omega
   obtain ⟨Q, hQ⟩ : ∃ Q : Nat → List Int, Q = fun k => N0 ++ (M.take k).map Ent.phys := ⟨_, rfl⟩;have HT : Hid (∀ k, k < M.length → Q (k + 1) = Q k ++ [(eat M k).phys]) := Lib.hid (by rw [hQ]; exact HT.out);have HTL : Hid (∀ k, k ≤ M.length → (Q k).length ≤ 900000) := Lib.hid (by rw [hQ]; exact HTL.out);have HT0 : Hid (Q 0 = N0) := Lib.hid (by rw [hQ]; exact HT0.out);have HTN : Hid (Q M.length = N1) := Lib.hid (by rw [hQ]; exact HTN.out);clear hu b2 HO HB HE HLE hQ HC;go_wp2
   go_loopw [3, 6, 16] (fun lv q6 p wz => ∃ k : Nat, p = .int .i64 k ∧ k ≤ M.length ∧ Hid (IntsFk w.heap.size lv (Q k) wz) ∧ Hid (EntsAt wr.heap.size (.slice ua M.length uc) M wz) ∧ Hid (Below w.heap.size w wz)) (fun _ _ p _ => M.length - (intOf p).toNat)
   case atStart => exact ⟨0, rfl, Nat.zero_le _, Lib.hid (by rw [HT0.out]; exact HO2.out), HM2, HB2⟩
   case round =>
    obtain ⟨k, rfl, hk, HO, HM, HB⟩ := hrel;by_cases hkl : k < M.length
    ·obtain ⟨ad2, cp2, eqv, -, -, u3, -⟩ := entsIn_cells (entsAt_in HM.out)
     injection eqv with q1 q2 q3
     obtain ⟨gu, ou, q4, -, u4⟩ := u3 (by omega);rw [q4] at q1;subst q1;obtain ⟨e1, e2, e3⟩ := u4 _ (Below.refl _ _) k hkl;have HX := Lib.hid (HT.out k hkl);have HXL := HTL.out k hk;have hwz := HB.out.size;clear HT HTL HT0 HTN HO2 HB2 HV HM2 u3 u4 q2 q3;obtain ⟨Q1, hQ1⟩ : ∃ Q1, Q (k + 1) = Q1 := ⟨_, rfl⟩;have HQ1 := Lib.hid hQ1;rw [hQ1] at HX;clear hQ1;obtain ⟨Q0, hQ0⟩ : ∃ Q0, Q k = Q0 := ⟨_, rfl⟩;rw [hQ0] at HX HXL HO;clear hQ0;generalize eat M k = y at *;obtain ⟨ya, yp, yz⟩ := y;dsimp only at e1 e2 e3 HX
     go_upto_region 8 with fail
     have kb := (Blk.new (entC ⟨ya, yp, yz⟩) 31 wr).cell 1;simp only [List.getElem?_toArray, List.getElem?_cons_zero, List.getElem?_cons_succ] at kb;have HO1 := Lib.hid (HO.out.alloc (.cells (entC ⟨ya, yp, yz⟩) 31));have HM1 := Lib.hid (HM.out.alloc (.cells (entC ⟨ya, yp, yz⟩) 31));have HB1 := Lib.hid (balloc HB.out (.cells (entC ⟨ya, yp, yz⟩) 31));have hs1 := HB1.out.size;clear HO HM HB e1 e2 e3;generalize wr.alloc (.cells #[.int .i64 ya, .int .i64 yp, .int .i64 yz] 31) = wy at *;generalize wr.heap.size = bx at *
     go_wp2_with (at_builtin; refine wpList_int rfl _ _ rfl w.heap.size _ Q0 rfl (HO1.out.alloc _) ⟨wy.heap.size, 0, none⟩ 1 yp rfl (fknew_int _ _) (by omega) (by rw [size_alloc]; omega) ?_)
     intro v' w4 h4 g4;have HO4 : Hid (IntsFk w.heap.size v' (Q (k + 1)) w4) := Lib.hid (by rw [HQ1.out, HX.out]; exact h4);have HM4 := Lib.hid (row_beside (by decide) (HO1.out.alloc _) (HM1.out.alloc _) g4);have HB4 := Lib.hid ((balloc HB1.out _).trans (below_of_row (HO1.out.alloc _) g4 (by rw [size_alloc]; omega)));clear h4 g4 HO1 HM1 HB1 kb;go_wp2;exact ⟨⟨k + 1, by go_num, by omega, HO4, HM4, HB4⟩, by simp [intOf]; omega⟩
    ·obtain rfl : k = M.length := by omega
     have HOE : Hid (IntsFk w.heap.size _ (numsTo S (r + 1)) _) := Lib.hid (by rw [HN1.out, ← HTN.out]; exact HO.out);go_wp2;exact ⟨⟨r + 1, by go_num, by omega, HOE, HB⟩, by simp [intOf]; omega⟩
  ·obtain rfl : r = n := by omega
   have hwr := HB.out.size;have HSO := Lib.hid (HST.out (numsTo S r) (by have := HL.out r (Nat.le_refl _); omega) _ wr hwr HO.out);clear HST HSU HL HH HO;go_wp2_with fail
   refine HSO.out.mono ?_; rintro e w2 ⟨rfl, hu, b2⟩;have HU := Lib.hid hu;have HB2 := Lib.hid (HB.out.trans b2);clear hu b2 HSO HB;go_wp2;go_ret;exact ⟨_, rfl, HU.out, HB2.out⟩
open Go.RowKit Go.Shelf
def riseTo (l : List Int) (n : Nat) : List Int := ((List.range n).map fun k : Nat => (k : Int)).filter fun b => decide (b ∈ l)
theorem riseTo_zero (l : List Int) : riseTo l 0 = [] := rfl
theorem riseTo_succ (l : List Int) (n : Nat) : riseTo l (n + 1) = riseTo l n ++ if (n : Int) ∈ l then [(n : Int)] else [] := by
 unfold riseTo;rw [List.range_succ, List.map_append, List.filter_append];congr 1;by_cases h : (n : Int) ∈ l
 ·rw [if_pos h]; simp [h]
 ·rw [if_neg h]; simp [h]
theorem riseTo_le (l : List Int) (n : Nat) : (riseTo l n).length ≤ n := by
 unfold riseTo;refine Nat.le_trans (List.length_filter_le _ _) ?_;rw [List.length_map, List.length_range]; exact Nat.le_refl _
theorem riseTo_mem (l : List Int) (n : Nat) (b : Int) : b ∈ riseTo l n ↔ b ∈ l ∧ 0 ≤ b ∧ b < (n : Int) := by
 unfold riseTo;rw [List.mem_filter, List.mem_map, decide_eq_true_iff];constructor
 ·rintro ⟨⟨k, hk, rfl⟩, h⟩
  rw [List.mem_range] at hk;exact ⟨h, by omega, by omega⟩
 ·rintro ⟨h, h0, h1⟩
  exact ⟨⟨b.toNat, List.mem_range.2 (by omega), by omega⟩, h⟩
theorem riseTo_lt (l : List Int) (n : Nat) : (riseTo l n).Pairwise (· < ·) := by
 unfold riseTo;refine List.Pairwise.filter _ ?_;rw [List.pairwise_map];exact List.Pairwise.imp (fun h => by omega) List.pairwise_lt_range
theorem lt_unique : ∀ {a b : List Int}, a.Pairwise (· < ·) → b.Pairwise (· < ·) → (∀ x, x ∈ a ↔ x ∈ b) → a = b
 | [], [], _, _, _ => rfl
 | [], y :: b, _, _, h => by have := (h y).2 (List.mem_cons_self ..); cases this
 | x :: a, [], _, _, h => by have := (h x).1 (List.mem_cons_self ..); cases this
 | x :: a, y :: b, ha, hb, h => by
   rw [List.pairwise_cons] at ha hb
   have e : x = y := by
    rcases List.mem_cons.1 ((h x).1 (List.mem_cons_self ..)) with e | e
    ·exact e
    ·rcases List.mem_cons.1 ((h y).2 (List.mem_cons_self ..)) with e2 | e2
     ·exact e2.symm
     ·have h1 := hb.1 x e
      have h2 := ha.1 y e2;omega
   subst e;congr 1;refine lt_unique ha.2 hb.2 fun z => ?_;constructor
   ·intro hz
    rcases List.mem_cons.1 ((h z).1 (List.mem_cons_of_mem _ hz)) with e | e
    ·have := ha.1 z hz; omega
    ·exact e
   ·intro hz
    rcases List.mem_cons.1 ((h z).2 (List.mem_cons_of_mem _ hz)) with e | e
    ·have := hb.1 z hz; omega
    ·exact e
theorem sort_rise {s l : List Int} (hs : s.Nodup) (hb : ∀ b ∈ s, 0 ≤ b ∧ b < 4096) (h : ∀ x, x ∈ s ↔ x ∈ l) : sortI s = riseTo l 4096 := by
 have hp : (sortI s).Perm s := List.mergeSort_perm _ _
 have hle : (sortI s).Pairwise fun x y => x ≤ y := by
  have := List.pairwise_mergeSort (le := fun x y : Int => decide (x ≤ y)) (fun a b c => by simp only [decide_eq_true_eq]; omega) (fun a b => by simp only [Bool.or_eq_true, decide_eq_true_eq]; omega) s;exact this.imp fun h => of_decide_eq_true h
 have hnd : (sortI s).Pairwise fun x y => x ≠ y := hp.nodup_iff.2 hs
 have hlt : (sortI s).Pairwise (· < ·) := (hle.and hnd).imp fun h => by omega
 refine lt_unique hlt (riseTo_lt l 4096) fun x => ?_;rw [hp.mem_iff, riseTo_mem, h x];exact ⟨fun k => ⟨k, (hb x ((h x).2 k)).1, (hb x ((h x).2 k)).2⟩, fun k => k.1⟩
theorem rfrise_any (l : List Int) (v : Value) (w : World) (hv : IntsR v l w) :
 Calls Tryz.prog 55 #[v] w fun e w' => ∃ u, e = .returned u ∧ IntsFk w.heap.size u (riseTo l 4096) w' ∧ Below w.heap.size w w' := by
 obtain ⟨ad, cap, rfl, c1, c2, c3⟩ := intsR_cells hv;have H3 := Lib.hid c3;have HS := Lib.hid (riseTo_succ l);have HL := Lib.hid (riseTo_le l);have H0 := Lib.hid (riseTo_zero l);clear hv c3;generalize riseTo l = RT at *
 go_enter Tryz.func55, Tryz.ntmps55
 go_wp2
 go_loopw [3, 4, 5] (fun vo p q wr => ∃ n : Nat, p = .int .i64 n ∧ n ≤ 4096 ∧ Hid (IntsFk w.heap.size vo (RT n) wr) ∧ Hid (Below w.heap.size w wr)) (fun _ p _ _ => 4096 - (intOf p).toNat)
 case atStart => exact ⟨0, rfl, Nat.zero_le _, Lib.hid (by rw [H0.out]; exact World.ownsRow_nil _ _ _ _), Lib.hid (Below.refl _ _)⟩
 case round =>
  obtain ⟨n, rfl, hn, HO, HB⟩ := hrel;by_cases hlt : n < 4096
  ·have HSN := Lib.hid (HS.out n)
   have HLN := Lib.hid (HL.out n);obtain ⟨ado, cpo, rfl, -⟩ := shape_of HO.out;obtain ⟨wA, hA⟩ : ∃ x, x = wr := ⟨_, rfl⟩;subst hA;go_wp2
   go_loopw [3, 5] (fun vi q wr => ∃ k : Nat, vi = .slice ado (RT n).length cpo ∧ q = .int .i64 k ∧ k ≤ l.length ∧ Hid ((n : Int) ∉ l.take k) ∧ wr = wA) (fun _ q _ => l.length - (intOf q).toNat)
   case atStart => exact ⟨0, rfl, rfl, Nat.zero_le _, Lib.hid (by simp), rfl⟩
   case round =>
    obtain ⟨k, rfl, rfl, hk, HK, hw⟩ := hrel;subst hw;by_cases hkl : k < l.length
    ·obtain ⟨g, o, x, rfl, hx, hc⟩ := H3.out wr HB.out k hkl
     by_cases e : x = (n : Int)
     ·subst e
      have d1 : ((n : Int) == (n : Int)) = true := by simp
      have HNX : Hid (RT (n + 1) = RT n ++ [(n : Int)]) := Lib.hid (by rw [HSN.out, if_pos (List.mem_of_getElem? hx)]);have hs1 := HB.out.size;have hnw := fknew_int wr (n : Int);have HB1 := Lib.hid (bnext HB.out (balloc1 wr (.cells #[.int .i64 (n : Int)] 3)));have HR1 := Lib.hid (HO.out.alloc (.cells #[.int .i64 (n : Int)] 3))
      have hln : (RT n).length + 1 ≤ 4000000 := by have := HLN.out; omega
      clear hx H3 HK HS HSN HL HLN;generalize RT n = R0 at *
      go_wp2_with (at_builtin; refine wpList_int rfl _ _ rfl w.heap.size _ R0 rfl (HO.out.alloc _) ⟨wr.heap.size, 0, none⟩ 1 (n : Int) rfl (fknew_int _ _) hln (by rw [size_alloc]; omega) ?_)
      intro v' w' h1 h2;have HN1 := Lib.hid h1;have HBN := Lib.hid (HB1.out.trans (below_of_row HR1.out h2 HB1.out.size));obtain ⟨ad', cap', rfl, -⟩ := shape_of h1;clear h1 h2 HR1 HB1;go_wp2;exact ⟨⟨n + 1, by go_num, by omega, Lib.hid (by rw [HNX.out]; exact HN1.out), HBN⟩, by simp [intOf]; omega⟩
     ·have d1 : (x == (n : Int)) = false := by rw [beq_eq_false_iff_ne]; exact e
      have HM : Hid ((n : Int) ∉ l.take (k + 1)) := Lib.hid (by
       have h1 := List.getElem?_eq_some_iff.1 hx;rw [List.take_succ_eq_append_getElem h1.1, List.mem_append, h1.2, List.mem_singleton]
       exact fun h => h.elim HK.out (fun q => e q.symm))
      clear hx H3 e HK;go_wp2;exact ⟨⟨k + 1, rfl, by go_num, by omega, HM, trivial⟩, by simp [intOf]; omega⟩
    ·obtain rfl : k = l.length := by omega
     have HNX : Hid (RT (n + 1) = RT n) := Lib.hid (by rw [HSN.out, if_neg (by have := HK.out; rwa [List.take_length] at this), List.append_nil]);clear HK HSN;go_wp2;exact ⟨⟨n + 1, by go_num, by omega, Lib.hid (by rw [HNX.out]; exact HO.out), HB⟩, by simp [intOf]; omega⟩
  ·obtain rfl : n = 4096 := by omega
   obtain ⟨ad', cap', rfl, -⟩ := shape_of HO.out;go_wp2;go_ret;exact ⟨_, rfl, HO.out, HB.out⟩
end Go.Proofs.YtknefoemgifbfaaGreat
