import Derived.Test.YtknefoemgifbfaaGreatPd33
import Derived.Test.YtknefoemgifbfaaGreatPd35
import Derived.Test.YtknefoemgifbfaaGreatPd32
set_option linter.unusedVariables false
set_option linter.unusedSimpArgs false
set_option linter.constructorNameAsVariable false
set_option maxRecDepth 100000
set_option maxHeartbeats 16000000
namespace Go.Proofs.YtknefoemgifbfaaGreat
open Go.RowKit Go.Shelf
theorem blkTo_succ (S : Shp) (r : Nat) : blkTo S (r + 1) = blkTo S r ++ blkR S r := by
 unfold blkTo; rw [List.range_succ, List.flatMap_append]; simp
theorem blkTo_le (S : Shp) {r k : Nat} (h : r ≤ k) : (blkTo S r).length ≤ (blkTo S k).length := by
 induction k with
 | zero => obtain rfl : r = 0 := by omega
           exact Nat.le_refl _
 | succ k ih =>
   by_cases e : r = k + 1
   ·subst e; exact Nat.le_refl _
   ·have := ih (by omega)
    rw [blkTo_succ, List.length_append]; omega
theorem blkR_len {S : Shp} {r : Nat} (h : (headsA S r).length ≤ (rowA S r).length) : (blkR S r).length = (headsA S r).length := by
 unfold blkR; rw [List.length_map, List.length_zip]; omega
theorem blkR_at {S : Shp} {r k : Nat} (h : k < (headsA S r).length) (h2 : k < (rowA S r).length) : (blkR S r)[k]? = some ((eat (headsA S r) k).phys, encT (rowA S r)[k] (r == 0)) := by
 unfold blkR;rw [List.getElem?_map, List.getElem?_eq_getElem (show k < ((headsA S r).zip (rowA S r)).length by rw [List.length_zip]; omega), List.getElem_zip, eat_eq h];rfl
theorem sortC_eq {l s : List Ch} (hp : s.Perm l) (hs : ∀ i j, (hi : i < j) → (hj : j < s.length) → s[i].1 ≤ s[j].1) (hn : (l.map (·.1)).Nodup) : s = sortC l := by
 have hn2 : (s.map (·.1)).Nodup := (hp.map _).nodup_iff.2 hn;have p2 : (sortC l).Perm l := List.mergeSort_perm _ _;have hn3 : ((sortC l).map (·.1)).Nodup := (p2.map _).nodup_iff.2 hn;refine List.Perm.eq_of_pairwise (le := fun x y : Ch => x.1 ≤ y.1) ?_ ?_ ?_ (hp.trans p2.symm)
 ·intro a b ha hb h1 h2
  have e : a.1 = b.1 := Int.le_antisymm h1 h2;have hb' : b ∈ s := (hp.trans p2.symm).mem_iff.2 hb;obtain ⟨i, hi, rfl⟩ := List.mem_iff_getElem.1 ha;obtain ⟨j, hj, rfl⟩ := List.mem_iff_getElem.1 hb';have hn4 := List.pairwise_iff_getElem.1 hn2
  have key : ∀ a b (ha : a < s.length) (hb : b < s.length), a < b → s[a].1 ≠ s[b].1 := fun a b ha hb hab => by
   have := hn4 a b (by simpa using ha) (by simpa using hb) hab
   simpa using this
  rcases Nat.lt_trichotomy i j with q | q | q
  ·exact absurd e (key i j hi hj q)
  ·subst q; rfl
  ·exact absurd e.symm (key j i hj hi q)
 ·rw [List.pairwise_iff_getElem]; intro i j hi hj hij; exact hs i j hij hj
 ·have := List.pairwise_mergeSort (le := fun x y : Ch => decide (x.1 ≤ y.1)) (fun a b c => by simp only [decide_eq_true_eq]; omega) (fun a b => by simp only [Bool.or_eq_true, decide_eq_true_eq]; omega) l
  exact this.imp fun h => of_decide_eq_true h
theorem fksortC_any (l : List Ch) (B : Nat) (v : Value) (W : World) (hB : B ≤ W.heap.size) (hl : l.length ≤ 1000000) (hn : (l.map (·.1)).Nodup) (h : ChgsOwn B v l W) :
 Calls Tryz.prog 117 #[v, .func (.func 118) #[] #[]] W fun e w' => e = .returned (.tuple #[]) ∧ ChgsOwn B v (sortC l) w' ∧ Below B W w' := by
 obtain ⟨ad, cap, rfl, h1, h2, h3⟩ := shape_of h;by_cases h0 : l.length = 0
 ·have : l = [] := List.eq_nil_of_length_eq_zero h0
  subst this;refine (sortsCh_none ad cap _ W).mono ?_; rintro e w' ⟨rfl, rfl⟩
  have e0 : sortC ([] : List Ch) = [] := by unfold sortC; simp
  exact ⟨rfl, by rw [e0]; exact h, Below.refl _ _⟩
 ·obtain ⟨g, rfl, g1, g2⟩ := h3 (by omega)
  refine (sortsCh_some l B g cap W g1 g2 hl h).mono ?_; rintro e w' ⟨rfl, s, p1, p2, p3, p4⟩;have := sortC_eq p1 p2 hn;subst this;exact ⟨rfl, p3, p4⟩
theorem fkblocks_any (S : Shp) (hS : SmallS S) (hW : ∀ r, r < S.length → (headsA S r).length ≤ (rowA S r).length) (hf : ∀ r, ∀ x ∈ rowA S r, fitE x) (hN : (blkTo S S.length).length ≤ 900000) (hnd : ((blkTo S S.length).map (·.1)).Nodup) (v : Value) (w : World) (hv : ShapeIn v S w) :
 Calls Tryz.prog 91 #[v] w fun e w' => ∃ u, e = .returned u ∧ ChgsOwn w.heap.size u (blocksA S) w' ∧ Below w.heap.size w w' := by
 have HH := Lib.hid fun (r : Nat) (hr : r ≤ S.length) (w : World) (hv : ShapeIn v S w) => fkheads_any S hS r hr v w hv;have h1000 := hS.1;have HS2 := Lib.hid hS.2;have HV := Lib.hid hv;have HF := Lib.hid hf;obtain ⟨ad, cap, rfl, c1, c2, hc⟩ := shape_cell hv;have HC := Lib.hid hc;have HL : Hid (∀ r, r ≤ S.length → (blkTo S r).length ≤ 900000) := Lib.hid fun r hr => Nat.le_trans (blkTo_le S hr) hN;have HSU : Hid (∀ r, blkTo S (r + 1) = blkTo S r ++ blkR S r) := Lib.hid (blkTo_succ S);have HST := Lib.hid fun (v : Value) (W : World) (hB : w.heap.size ≤ W.heap.size) (h : ChgsOwn w.heap.size v (blkTo S S.length) W) => fksortC_any (blkTo S S.length) w.heap.size v W hB (by omega) hnd h;have HW := Lib.hid hW;unfold blocksA;clear hv hS hN hW hf hnd hc;obtain ⟨n, hn⟩ : ∃ n, S.length = n := ⟨_, rfl⟩;rw [hn] at HC HL HST HW HH HV c1 h1000 ⊢
 go_enter Tryz.func91, Tryz.ntmps91
 have HN := Lib.hid hn;clear hn;go_wp2
 go_loopw [3, 4, 5, 6, 7, 8, 11] (fun lv q4 q5 q6 q7 q8 p wr => ∃ r : Nat, p = .int .i64 r ∧ r ≤ n ∧ Hid (ChgsOwn w.heap.size lv (blkTo S r) wr) ∧ Hid (Below w.heap.size w wr)) (fun _ _ _ _ _ _ p _ => n - (intOf p).toNat)
 case atStart => exact ⟨0, rfl, Nat.zero_le _, Lib.hid (World.ownsRow_nil _ _ _ _), Lib.hid (Below.refl _ _)⟩
 case round =>
  obtain ⟨r, rfl, hr, HO, HB⟩ := hrel;by_cases hlt : r < n
  ·have HCH := Lib.hid (HH.out r hr wr (shapeIn_kept HV.out HB.out))
   have HE := Lib.hid (HSU.out r);have HLE := Lib.hid (HL.out (r + 1) (by omega));have hwr := HB.out.size;have HWr := HW.out r hlt;obtain ⟨g, o, a, c, rfl, hg, hk⟩ := HC.out r hlt;obtain ⟨-, kn⟩ := hk w (Below.refl _ _);obtain ⟨ad2, cp2, e2, d1, d2, h3, -⟩ := RowsIn.cells kn
   injection e2 with e3 e4 e5
   subst e3 e5;have K0 : Hid (∀ w', Below w.heap.size w w' → w'.cell? ⟨g, o + r, none⟩ = some (.slice a (rowA S r).length c)) := Lib.hid fun w' hb => (hk w' hb).1
   have K1 : Hid (∀ k (hk : k < (rowA S r).length), ∃ g2 o2 u, a = some ⟨g2, o2, none⟩ ∧ g2 < w.heap.size ∧ w.cell? ⟨g2, o2 + k, none⟩ = some u ∧ EntsIn u (rowA S r)[k] w) := Lib.hid fun k hk => by
    obtain ⟨g2, o2, q1, q2, q3⟩ := h3 (by omega);obtain ⟨u, q4, q5⟩ := q3 k hk;exact ⟨g2, o2, u, q1, q2, q4, q5⟩
   have HBL := blkR_len HWr;have HBA : Hid (∀ k (h : k < (headsA S r).length) (h2 : k < (rowA S r).length), (blkR S r)[k]? = some ((eat (headsA S r) k).phys, encT (rowA S r)[k] (r == 0))) := Lib.hid fun k h h2 => blkR_at h h2;have HFr := Lib.hid (HF.out r);have hrl := (HS2.out r).1
   have hz : ((r : Int) == 0) = (r == 0) := by
    by_cases e : r = 0
    ·subst e; rfl
    ·rw [beq_eq_false_iff_ne.2 (show (r : Int) ≠ 0 by omega), beq_eq_false_iff_ne.2 e]
   obtain ⟨leaf, hlf⟩ : ∃ b, (r == 0) = b := ⟨_, rfl⟩;rw [hlf] at HBA hz;clear HSU HL HH HST hk kn h3 e4 hlf;obtain ⟨N1, hN1⟩ : ∃ N1, blkTo S (r + 1) = N1 := ⟨_, rfl⟩;have HN1 := Lib.hid hN1;rw [hN1] at HE HLE;clear hN1;generalize blkTo S r = N0 at *;generalize blkR S r = X at *;generalize headsA S r = M at *;generalize rowA S r = R at *;have HLT := Lib.hid HBL;clear HBL;go_wp2_with fail
   refine HCH.out.mono ?_; rintro e w2 ⟨u, rfl, hu, b2⟩;have HM2 := Lib.hid hu;obtain ⟨ua, uc, rfl, -⟩ := entsIn_cells (entsAt_in hu);have HO2 := Lib.hid (row_kept HO.out b2);have HB2 := Lib.hid (bnext HB.out b2)
   have hml : M.length ≤ 900000 := by
    have h8 := congrArg List.length HE.out;rw [List.length_append, HLT.out] at h8;have := HLE.out;omega
   have HT0 : Hid (N0 ++ X.take 0 = N0) := Lib.hid (by simp);have HTN : Hid (N0 ++ X.take M.length = N1) := Lib.hid (by rw [← HLT.out, List.take_length]; exact HE.out.symm)
   have HT : Hid (∀ k y, X[k]? = some y → N0 ++ X.take (k + 1) = (N0 ++ X.take k) ++ [y]) := Lib.hid fun k y hk => by
    have h1 := (List.getElem?_eq_some_iff.1 hk);rw [List.take_succ_eq_append_getElem h1.1, ← List.append_assoc, h1.2]
   have HTL : Hid (∀ k, k ≤ M.length → (N0 ++ X.take k).length ≤ 900000) := Lib.hid fun k hk => by
    have h8 := congrArg List.length HE.out;rw [List.length_append] at h8;rw [List.length_append, List.length_take];have := HLE.out;omega
   obtain ⟨Q, hQ⟩ : ∃ Q : Nat → List Ch, Q = fun k => N0 ++ X.take k := ⟨_, rfl⟩;have HT : Hid (∀ k y, X[k]? = some y → Q (k + 1) = Q k ++ [y]) := Lib.hid (by rw [hQ]; exact HT.out);have HTL : Hid (∀ k, k ≤ M.length → (Q k).length ≤ 900000) := Lib.hid (by rw [hQ]; exact HTL.out);have HT0 : Hid (Q 0 = N0) := Lib.hid (by rw [hQ]; exact HT0.out);have HTN : Hid (Q M.length = N1) := Lib.hid (by rw [hQ]; exact HTN.out);have HCr := Lib.hid HC;clear hu b2 HO HB HE HLE hQ HCH HC;go_wp2
   go_loopw [3, 5, 6, 7, 8, 18] (fun lv q5 q6 q7 q8 p wz => ∃ k : Nat, p = .int .i64 k ∧ k ≤ M.length ∧ Hid (ChgsOwn w.heap.size lv (Q k) wz) ∧ Hid (EntsAt wr.heap.size (.slice ua M.length uc) M wz) ∧ Hid (Below w.heap.size w wz)) (fun _ _ _ _ _ p _ => M.length - (intOf p).toNat)
   case atStart => exact ⟨0, rfl, Nat.zero_le _, Lib.hid (by rw [HT0.out]; exact HO2.out), HM2, HB2⟩
   case round =>
    obtain ⟨wz, hren⟩ : ∃ x, x = wr := ⟨_, rfl⟩;subst hren;obtain ⟨k, rfl, hk, HO, HM, HB⟩ := hrel;by_cases hkl : k < M.length
    ·obtain ⟨ad2, cp2, eqv, -, -, u3, -⟩ := entsIn_cells (entsAt_in HM.out)
     injection eqv with q1 q2 q3
     obtain ⟨gu, ou, q4, -, u4⟩ := u3 (by omega);rw [q4] at q1;subst q1;obtain ⟨e1, e2, e3⟩ := u4 _ (Below.refl _ _) k hkl
     have hkR : k < R.length := by omega
     obtain ⟨g2, o2, u, rfl, hg2, hu2, hx2⟩ := K1.out k hkR;obtain ⟨xa, xc, rfl, -⟩ := entsIn_cells hx2;have HXB := HBA.out k hkl hkR;have HX := Lib.hid (HT.out k _ HXB);have HXL := HTL.out k hk;have hwz := HB.out.size;have HENC := Lib.hid (fun (W : World) (h : EntsIn (.slice xa R[k].length xc) R[k] W) => fkenc_any R[k] (HFr.out _ (List.getElem_mem hkR)) leaf (.slice xa R[k].length xc) W h);have HXI := Lib.hid hx2;clear HT HTL HT0 HTN HO2 HB2 HV HM2 u3 u4 q2 q3 K1 HXB hx2 HBA;obtain ⟨Q1, hQ1⟩ : ∃ Q1, Q (k + 1) = Q1 := ⟨_, rfl⟩;have HQ1 := Lib.hid hQ1;rw [hQ1] at HX;clear hQ1;obtain ⟨Q0, hQ0⟩ : ∃ Q0, Q k = Q0 := ⟨_, rfl⟩;rw [hQ0] at HX HXL HO;clear hQ0;generalize eat M k = y at *;obtain ⟨ya, yp, yz⟩ := y;dsimp only at e1 e2 e3 HX;have hb5 : Below wz.heap.size wz (wz.alloc (.cells (entC ⟨ya, yp, yz⟩) 31)) := balloc1 _ _;have HB5 := Lib.hid (bnext HB.out hb5);have k0 := K0.out _ HB5.out;have k1 := (HB5.out.cell (p := ⟨g2, o2 + k, none⟩) hg2).trans hu2;have HO5 := Lib.hid (HO.out.alloc (.cells (entC ⟨ya, yp, yz⟩) 31));have HM5 := Lib.hid (row_kept HM.out hb5);have HE5 := Lib.hid (HENC.out _ (HXI.out.kept HB5.out));have HBK : Hid (Blk wz.heap.size (entC ⟨ya, yp, yz⟩) 31 (wz.alloc (.cells (entC ⟨ya, yp, yz⟩) 31))) := Lib.hid (Blk.new _ _ _);clear HO HM HB hb5 HENC
     go_upto_region 8 with fail
     generalize wz.alloc (.cells #[.int .i64 ya, .int .i64 yp, .int .i64 yz] 31) = wy at *;generalize wz.heap.size = bx at *;generalize R[k].length = xn at *;go_wp2_with fail
     refine HE5.out.mono ?_; rintro e w6 ⟨rfl, b6⟩;have kb := (HBK.out.kept1 b6).cell 1;simp only [List.getElem?_toArray, List.getElem?_cons_zero, List.getElem?_cons_succ] at kb;have HB6 := Lib.hid (bnext HB5.out b6);have HO6 := Lib.hid (row_kept HO5.out b6);have HM6 := Lib.hid (row_kept HM5.out b6);have hw6 := HB6.out.size;clear HB5 HO5 HM5 HE5 HBK b6 k0 k1 hu2 HXI e1 e2 e3;generalize encT R[k] leaf = dt at *;generalize encE R[k] leaf = de at *
     go_wp2_with (at_builtin; refine wpList_appCg rfl _ _ rfl w.heap.size _ Q0 (yp, dt) rfl (HO6.out.alloc _) w6 rfl rfl (by omega) (by rw [size_alloc]; omega) ?_)
     intro v' w7 h7 g7;have b7 := below_of_row (HO6.out.alloc _) g7 (by rw [size_alloc]; omega);have HO7 : Hid (ChgsOwn w.heap.size v' (Q (k + 1)) w7) := Lib.hid (by rw [HQ1.out, HX.out]; exact h7);have HM7 : Hid (EntsAt wr.heap.size (.slice (some ⟨gu, ou, none⟩) M.length uc) M w7) := Lib.hid (row_beside (by decide) (HO6.out.alloc _) (HM6.out.alloc _) g7);have HB7 := Lib.hid ((balloc HB6.out _).trans b7);clear h7 g7 b7 HO6 HM6 HB6 kb;go_wp2;exact ⟨⟨k + 1, by go_num, by omega, HO7, HM7, HB7⟩, by simp [intOf]; omega⟩
    ·obtain rfl : k = M.length := by omega
     have HOE : Hid (ChgsOwn w.heap.size _ (blkTo S (r + 1)) _) := Lib.hid (by rw [HN1.out, ← HTN.out]; exact HO.out);go_wp2;exact ⟨⟨r + 1, by go_num, by omega, HOE, HB⟩, by simp [intOf]; omega⟩
  ·obtain rfl : r = n := by omega
   have hwr := HB.out.size;have HSO := Lib.hid (HST.out _ wr hwr HO.out);obtain ⟨la, lc, rfl, -⟩ := shape_of HO.out;clear HST HSU HL HH HO;go_wp2_with fail
   refine HSO.out.mono ?_; rintro e w2 ⟨rfl, hu, b2⟩;have HU := Lib.hid hu;have HB2 := Lib.hid (HB.out.trans b2);clear hu b2 HSO HB;go_wp2;go_ret;exact ⟨_, rfl, HU.out, HB2.out⟩
open Go.RowKit Go.Shelf
theorem chg_held : Tryz.prog.stoodInHeld 72 = false := by kernel_rfl
theorem run_chg_eq (s t : Ch) (w : World) : (Op.equalIn 10000 72 (chV s) (chV t)).run Tryz.prog w = .ok (decide (s = t)) w := by
 have gh := chg_held;obtain ⟨a0, a1⟩ := s;obtain ⟨b0, b1⟩ := t;by_cases h0 : a0 = b0
 ·have e0 : (a0 == b0) = true := by rw [beq_iff_eq]; exact h0
  by_cases h1 : a1 = b1
  ·have e1 : (a1.toList == b1.toList) = true := by rw [str_beq]; exact decide_eq_true h1
   have HR : Hid (decide ((a0, a1) = (b0, b1)) = true) := Lib.hid (by simp [*]);rw [HR.out];clear h0 h1;go_simp
  ·have e1 : (a1.toList == b1.toList) = false := by rw [str_beq]; exact decide_eq_false h1
   have HR : Hid (decide ((a0, a1) = (b0, b1)) = false) := Lib.hid (by simp [*]);rw [HR.out];clear h0 h1;go_simp
 ·have e0 : (a0 == b0) = false := by rw [beq_eq_false_iff_ne]; exact h0
  have HR : Hid (decide ((a0, a1) = (b0, b1)) = false) := Lib.hid (by simp [*]);rw [HR.out];clear h0;go_simp
structure TellOk (S : Shp) : Prop where
 small : SmallS S
 le : ∀ r, r < S.length → (headsA S r).length ≤ (rowA S r).length
 fit : ∀ r, ∀ x ∈ rowA S r, fitE x
 len : (blkTo S S.length).length ≤ 900000
 nd : ((blkTo S S.length).map (·.1)).Nodup
 pos : 0 < S.length
 root : 0 < (rowA S (S.length - 1)).length
theorem sortC_len (l : List Ch) : (sortC l).length = l.length := List.length_mergeSort _
structure DMem (X : Nat) (W1 : World) (D : Int) (vr : Value) (c : List Ch) (fr : List Int) (vc vf : Value) (wr : World) : Prop where
 x : X < W1.heap.size
 blk : Blk X #[.int .i64 D, vr, vc, vf] 58 wr
 ch : ChgsOwn W1.heap.size vc c wr
 fr : IntsFk W1.heap.size vf fr wr
 z : Zone X (X + 1) W1 wr
section
variable {X : Nat} {W1 : World} {D : Int} {vr : Value} {c : List Ch} {fr : List Int} {vc vf : Value} {w w' : World}
theorem DMem.kept (h : DMem X W1 D vr c fr vc vf w) (b : Below w.heap.size w w') : DMem X W1 D vr c fr vc vf w' :=
 ⟨h.x, h.blk.kept1 b, row_kept h.ch b, row_kept h.fr b, h.z.trans (Zone.of_below b _ _)⟩
theorem blkd_grown {g B n z : Nat} {cs : Array Value} {T e : TypeId} {v : Value} {xs : List Value} (h : Blk g cs T w) (ho : w.ownsRow B e z v n xs) (hT : T ≠ e) (hg : w.grownBy w' v.ownBlock) : Blk g cs T w' := by
 refine (hg.block g h.lt fun hk => ?_).trans h;exact hT (ty_one ⟨_, _, h⟩ (own_ty ho hk.symm).1)
theorem own_other {B n z X i : Nat} {e T : TypeId} {v u : Value} {xs : List Value} (h : w.ownsRow B e z v n xs) (hX : TyAt X T w) (hT : T ≠ e) : (w.setCell ⟨X, i, none⟩ u).ownsRow B e z v n xs :=
 own_eq h fun q hq => Below.heap_setCell w ⟨X, i, none⟩ u q fun e2 => by
  have e2 : q = X := e2;subst e2;exact hT (ty_one hX (own_ty h hq).1)
theorem zone_grown {B n z X : Nat} {e : TypeId} {v : Value} {xs : List Value} (zz : Zone X (X + 1) W1 w) (h : w.ownsRow B e z v n xs) (hB : W1.heap.size ≤ B) (g : w.grownBy w' v.ownBlock) : Zone X (X + 1) W1 w' :=
 ⟨g.os.trans zz.os, g.tape.trans zz.tape, g.output.trans zz.output, Nat.le_trans zz.size g.size, fun k hk hn => by
  have h1 := zz.size;rw [g.block k (by omega) fun hq => by have := (own_ty h hq.symm).2.2; omega]
  exact zz.block k hk hn⟩
theorem DMem.more (h : DMem X W1 D vr c fr vc vf w) {c' : List Ch} {vc' : Value} (h' : ChgsOwn W1.heap.size vc' c' w') (g : w.grownBy w' vc.ownBlock) : DMem X W1 D vr c' fr vc' vf (w'.setCell ⟨X, 2, none⟩ vc') := by
 have b1 := blkd_grown h.blk h.ch (by decide) g;have f1 := row_beside (by decide) h.ch h.fr g;exact ⟨h.x, b1.set 2 vc', own_other h' ⟨_, _, b1⟩ (by decide), own_other f1 ⟨_, _, b1⟩ (by decide), (zone_grown h.z h.ch (Nat.le_refl _) g).set (p := ⟨X, 2, none⟩) (Nat.le_refl _) (Nat.lt_succ_self _) _⟩
theorem DMem.less (h : DMem X W1 D vr c fr vc vf w) {fr' : List Int} {vf' : Value} (h' : IntsFk W1.heap.size vf' fr' w') (g : w.grownBy w' vf.ownBlock) : DMem X W1 D vr c fr' vc vf' (w'.setCell ⟨X, 3, none⟩ vf') := by
 have b1 := blkd_grown h.blk h.fr (by decide) g;have f1 := row_beside (by decide) h.fr h.ch g;exact ⟨h.x, b1.set 3 vf', own_other f1 ⟨_, _, b1⟩ (by decide), own_other h' ⟨_, _, b1⟩ (by decide), (zone_grown h.z h.fr (Nat.le_refl _) g).set (p := ⟨X, 3, none⟩) (Nat.le_refl _) (Nat.lt_succ_self _) _⟩
theorem DMem.list (h : DMem X W1 D vr c fr vc vf w) {B : Nat} {v : Value} {l : List Ch} (k : ChgsOwn B v l W1) (hX : TyAt X 58 W1) : ChgsOwn B v l w :=
 own_eq k fun q hq => h.z.block q (own_ty k hq).2.1 (by
  have : q ≠ X := fun e => by
   subst e;exact absurd (ty_one hX (own_ty k hq).1) (by decide)
  omega)
end
theorem chgA_succ (B A : List Ch) {k : Nat} (h : k < A.length) : chgA B (A.take (k + 1)) = if findC B A[k].1 = some A[k] then chgA B (A.take k) else chgA B (A.take k) ++ [A[k]] := by
 unfold chgA;rw [List.take_succ_eq_append_getElem h, List.filter_append];by_cases e : findC B A[k].1 = some A[k]
 ·rw [if_pos e]; simp [e]
 ·rw [if_neg e]; simp [e]
theorem freeA_succ (B A : List Ch) {k : Nat} (h : k < B.length) : freeA (B.take (k + 1)) A = if findC A B[k].1 = none then freeA (B.take k) A ++ [B[k].1] else freeA (B.take k) A := by
 unfold freeA;rw [List.take_succ_eq_append_getElem h, List.filter_append, List.map_append]
 cases e : findC A B[k].1 with
 | none => rw [if_pos rfl]; simp [e]
 | some d => rw [if_neg (by simp)]; simp [e]
theorem chgA_le (B A : List Ch) : (chgA B A).length ≤ A.length := by unfold chgA; exact List.length_filter_le _ _
theorem freeA_le (B A : List Ch) : (freeA B A).length ≤ B.length := by unfold freeA; rw [List.length_map]; exact List.length_filter_le _ _
theorem findC_fst {l : List Ch} {b : Int} {d : Ch} (h : findC l b = some d) : d.1 = b := by
 unfold findC at h;have := List.find?_some h
 simpa using this
theorem ChgsIn.at {v : Value} {L : List Ch} {w : World} (h : ChgsIn v L w) {k : Nat} (hk : k < L.length) : ∃ ad cap, v = .slice ad L.length cap ∧ ∃ g o, ad = some ⟨g, o, none⟩ ∧ w.cell? ⟨g, o + k * 2, none⟩ = some (.int .i64 L[k].1) ∧ w.cell? ⟨g, o + k * 2 + 1, none⟩ = some (.string L[k].2) := by
 obtain ⟨ad, cap, e, -, -, h3⟩ := ChgsIn.open h;obtain ⟨g, o, e2, -, hc⟩ := h3 (by omega);exact ⟨ad, cap, e, g, o, e2, hc k hk⟩
theorem chgsOwn_in {B : Nat} {v : Value} {L : List Ch} {w : World} (h : ChgsOwn B v L w) : ChgsIn v L w := by
 refine ⟨chgsL_length L, ?_⟩;rcases h.2 with ⟨rfl, h0⟩ | ⟨g, cap, cur, rfl, hb, hcur, hr⟩
 ·exact ⟨none, 0, by rw [h0], by omega, by unfold maxLen; omega, fun hp => by rw [chgsL_length, h0] at hp; omega, fun _ => rfl⟩
 ·refine ⟨_, _, rfl, hr.1, hr.2.1, fun _ => ⟨g, 0, rfl, lt_of_block hcur, fun k u hk => ?_⟩, fun h => by cases h⟩
  rw [Nat.zero_add];have hlt := (List.getElem?_eq_some_iff.1 hk).1;rw [chgsL_length] at hlt;exact (h.cellAt k (by omega)).trans hk
theorem fkdiffer_any (P : Value → List Ent → World → Prop) (w : World) (hPi : ∀ v x w, P v x w → EntsIn v x w) (hPk : Keeps P w.heap.size) (S T : Shp) (hS : TellOk S) (hT : TellOk T) (u v : Value) (hu : ShapeIn u S w) (hv : RowsIn (RowsIn P) v T w) :
 Calls Tryz.prog 62 #[u, v] w fun e w' => ∃ vr vc vf, e = .returned (.agg #[.int .i64 ((T.length - 1 : Nat) : Int), vr, vc, vf]) ∧ P vr (rootA T) w' ∧ ChgsOwn w.heap.size vc (chgA (blocksA S) (blocksA T)) w' ∧ IntsFk w.heap.size vf (freeA (blocksA S) (blocksA T)) w' ∧ Below w.heap.size w w' := by
 have hvT : ShapeIn v T w := by
  obtain ⟨Vs, h1, h2, h3⟩ := hv;refine ⟨Vs, h1, h2, fun k a b => ?_⟩;obtain ⟨Us, k1, k2, k3⟩ := h3 k a b;exact ⟨Us, k1, k2, fun j c d => hPi _ _ _ (k3 j c d)⟩
 have b0 : Below w.heap.size w (w.alloc (.cells #[.int .i64 0, .slice none 0 0, .slice none 0 0, .slice none 0 0] 58)) := balloc1 _ _;have HTR := Lib.hid (fktreeP P (fun v x w h => by obtain ⟨a, c, e, -⟩ := entsIn_cells (hPi _ _ _ h); exact ⟨a, c, e⟩) (fun v x a b h k => hPk _ _ _ _ h (Grows.of_below k)) T hT.small.1 hT.pos hT.root v _ (RowsIn.kept (P := RowsIn P) (fun h k => RowsIn.kept (P := P) (fun h k => hPk _ _ _ _ h (Grows.of_below k)) h k) hv b0));have HBS := Lib.hid fun (W : World) (h : ShapeIn u S W) => fkblocks_any S hS.small hS.le hS.fit hS.len hS.nd u W h;have HBT := Lib.hid fun (W : World) (h : ShapeIn v T W) => fkblocks_any T hT.small hT.le hT.fit hT.len hT.nd v W h;have HPI := Lib.hid hPi;have HPK := Lib.hid hPk;have HU := Lib.hid hu;have HVT := Lib.hid hvT;have HB0 := Lib.hid b0;have HT0 : Hid (Blk w.heap.size #[.int .i64 0, .slice none 0 0, .slice none 0 0, .slice none 0 0] 58 (w.alloc (.cells #[.int .i64 0, .slice none 0 0, .slice none 0 0, .slice none 0 0] 58))) := Lib.hid (Blk.new _ _ _)
 have hlB : (blocksA S).length ≤ 900000 := by unfold blocksA; rw [sortC_len]; exact hS.len
 have hlA : (blocksA T).length ≤ 900000 := by unfold blocksA; rw [sortC_len]; exact hT.len
 have HFB := Lib.hid fun (b : Int) (v : Value) (W : World) (h : ChgsIn v (blocksA S) W) => fkfind_any (blocksA S) (sortC_rise _) (by omega) b v W h;have HFA := Lib.hid fun (b : Int) (v : Value) (W : World) (h : ChgsIn v (blocksA T) W) => fkfind_any (blocksA T) (sortC_rise _) (by omega) b v W h;obtain ⟨D, hD⟩ : ∃ D, T.length - 1 = D := ⟨_, rfl⟩;rw [hD] at HTR ⊢;clear hvT hv hu hPi hPk hS hT hD b0;generalize blocksA S = LB at *;generalize blocksA T = LA at *;generalize rootA T = R at *
 go_enter Tryz.func62, Tryz.ntmps62
 go_wp2_with fail
 refine HTR.out.mono ?_; rintro e w2 ⟨rv, rfl, hrv, b2⟩;obtain ⟨ra, rc, rfl, -⟩ := entsIn_cells (HPI.out _ _ _ hrv);have b3 : Below w2.heap.size w2 (w2.alloc (.cells #[.int .i64 (D : Int), .slice ra R.length rc, .slice none 0 0, .slice none 0 0] 58)) := balloc1 _ _;have hX : Blk w2.heap.size #[.int .i64 (D : Int), .slice ra R.length rc, .slice none 0 0, .slice none 0 0] 58 (w2.alloc (.cells #[.int .i64 (D : Int), .slice ra R.length rc, .slice none 0 0, .slice none 0 0] 58)) := Blk.new _ _ _;have hp3 := HPK.out _ _ _ _ hrv (Grows.of_below b3);have HB3 := Lib.hid (bnext (bnext HB0.out b2) b3);have HBS3 := Lib.hid (HBS.out _ (shapeIn_kept HU.out HB3.out));have HWX := Lib.hid (bnext HB0.out b2).size;have HT3 := Lib.hid (HT0.out.kept1 (bnext b2 b3));have HXW : Hid (w.heap.size < w2.heap.size) := Lib.hid (HT0.out.kept1 b2).lt;clear HTR HBS HU HB0 HT0 hrv b2
 go_upto_region 2 with fail
 generalize hw3 : w2.alloc (.cells #[.int .i64 (D : Int), .slice ra R.length rc, .slice none 0 0, .slice none 0 0] 58) = w3 at *;clear hw3 b3;have HXS := HWX.out;generalize w2.heap.size = X at *;go_wp2_with fail
 refine HBS3.out.mono ?_; rintro e w4 ⟨bv, rfl, hbv, b4⟩;go_wp2_with fail
 refine (HBT.out _ (shapeIn_kept HVT.out (bnext HB3.out b4))).mono ?_; rintro e w5 ⟨av, rfl, hav, b5⟩;have HB5 := Lib.hid (bnext (bnext HB3.out b4) b5);have HP5 := Lib.hid (HPK.out _ _ _ _ hp3 (Grows.of_below (bnext b4 b5)));have HT5 := Lib.hid (HT3.out.kept1 (bnext b4 b5));have HBV := Lib.hid (row_kept hbv b5);have HAV := Lib.hid hav;have hX5 := hX.kept1 (bnext b4 b5);have HTX : Hid (TyAt X 58 w5) := Lib.hid ⟨_, _, hX5⟩;have HM0 : Hid (DMem X w5 (D : Int) (.slice ra R.length rc) (chgA LB (LA.take 0)) [] (.slice none 0 0) (.slice none 0 0) w5) := Lib.hid ⟨hX5.lt, hX5, World.ownsRow_nil _ _ _ _, World.ownsRow_nil _ _ _ _, Zone.refl _ _ _⟩;obtain ⟨ba, bc, rfl, -, -⟩ := shape_of hbv;obtain ⟨aa, ac, rfl, -, -⟩ := shape_of hav;have HCS := Lib.hid fun k (h : k < LA.length) => chgA_succ LB LA h;have HCL := Lib.hid fun k => chgA_le LB (LA.take k);clear hp3 hX hX5 hbv hav b4 b5 HBS3 HBT HVT HB3;go_wp2
 go_loopw [9, 10, 11, 25] (fun q9 q10 q11 p wr => ∃ (k : Nat) (vc : Value), p = .int .i64 (k : Int) ∧ k ≤ LA.length ∧ Hid (DMem X w5 (D : Int) (.slice ra R.length rc) (chgA LB (LA.take k)) [] vc (.slice none 0 0) wr)) (fun _ _ _ p _ => LA.length - (intOf p).toNat)
 case atStart => exact ⟨0, _, rfl, Nat.zero_le _, HM0⟩
 case round =>
  obtain ⟨k, vc, rfl, hk, HM⟩ := hrel;clear HM0;by_cases hlt : k < LA.length
  ·obtain ⟨_, _, eqv, g, o, e2, k1, k2⟩ := (chgsOwn_in (HM.out.list HAV.out HTX.out)).at hlt
   injection eqv with q1 q2 q3
   rw [e2] at q1;subst q1;have HCK := Lib.hid (HCS.out k hlt);have hcl := HCL.out k;rw [List.length_take] at hcl;have hwr := HM.out.z.size;have HXL := HM.out.x;clear q2 q3 HCS HCL;generalize LA[k] = x at *;obtain ⟨xb, xd⟩ := x;dsimp only at k1 k2 HCK;have b1 : Below wr.heap.size wr (wr.alloc (.cells (chgC (xb, xd)) 72)) := balloc1 _ _;have HM1 := Lib.hid (HM.out.kept b1);have HC1 : Hid (Blk wr.heap.size (chgC (xb, xd)) 72 (wr.alloc (.cells (chgC (xb, xd)) 72))) := Lib.hid (Blk.new _ _ _);have HF1 := Lib.hid (HFB.out xb (.slice ba LB.length bc) _ (chgsOwn_in (HM1.out.list HBV.out HTX.out)));clear HM b1
   go_upto_region 6 with fail
   generalize wr.alloc (.cells #[.int .i64 xb, .string xd] 72) = w6 at *;generalize hbx : wr.heap.size = bx at *;have HBX := Lib.hid hbx;clear k1 k2 hbx;have kb := HC1.out.cell 0;simp only [List.getElem?_toArray, List.getElem?_cons_zero, List.getElem?_cons_succ] at kb;go_wp2_with fail
   refine HF1.out.mono ?_; rintro e w7 ⟨rfl, b7⟩;have HM7 := Lib.hid (HM1.out.kept b7);have HC7 := Lib.hid (HC1.out.kept1 b7);clear HF1 HM1 HC1 b7 kb
   cases hfc : findC LB xb with
   | none =>
     have HY : Hid (chgA LB (LA.take (k + 1)) = chgA LB (LA.take k) ++ [(xb, xd)]) := Lib.hid (by rw [HCK.out, hfc, if_neg (by simp)]);simp only [Option.getD_none, Option.isSome_none];clear HCK hfc;have HM8 := Lib.hid (HM7.out.kept (balloc1 w7 (.cells (chgC ((0 : Int), (⟨#[]⟩ : ByteArray))) 72)));have HC8 := Lib.hid (HC7.out.kept1 (balloc1 w7 (.cells (chgC ((0 : Int), (⟨#[]⟩ : ByteArray))) 72)));have HD8 : Hid (Blk w7.heap.size (chgC ((0 : Int), (⟨#[]⟩ : ByteArray))) 72 (w7.alloc (.cells (chgC ((0 : Int), (⟨#[]⟩ : ByteArray))) 72))) := Lib.hid (Blk.new _ _ _);clear HM7 HC7
     go_upto_region 7 with fail
     generalize w7.alloc (.cells (chgC ((0 : Int), (⟨#[]⟩ : ByteArray))) 72) = w8 at *;generalize w7.heap.size = dx at *;have kb0 := HC8.out.cell 0;have kb1 := HC8.out.cell 1;have kd0 := HD8.out.cell 0;have kd1 := HD8.out.cell 1;simp only [List.getElem?_toArray, List.getElem?_cons_zero, List.getElem?_cons_succ] at kb0 kb1 kd0 kd1
     go_upto_region 8 with fail
     obtain ⟨va, vcc, rfl, v1, v2, -⟩ := shape_of HM8.out.ch;have v2 : vcc ≤ 9223372036854775807 := v2;have m8 := HM8.out.blk.cell 2;simp only [List.getElem?_toArray, List.getElem?_cons_zero, List.getElem?_cons_succ] at m8;have hz8 := HM8.out.z.size;clear kd0 kd1
     go_wp2_with (at_builtin; refine wpList_appCg rfl _ _ rfl w5.heap.size _ (chgA LB (LA.take k)) (xb, xd) rfl ((HM8.out.kept (balloc1 w8 _)).ch) w8 rfl rfl (by omega) (by rw [size_alloc]; omega) ?_)
     intro v' w9 h9 g9;have HM9 := Lib.hid ((HM8.out.kept (balloc1 w8 _)).more h9 g9);have hb9 := blkd_grown (HM8.out.kept (balloc1 w8 _)).blk (HM8.out.kept (balloc1 w8 _)).ch (by decide) g9;have m9 := hb9.cell 2;have f9 := hb9.frozen 2;simp only [List.getElem?_toArray, List.getElem?_cons_zero, List.getElem?_cons_succ] at m9;obtain ⟨va9, vc9, rfl, -⟩ := shape_of h9;rw [List.length_append, List.length_singleton] at HM9;clear h9 g9 hb9 HM8 m8 kb0 kb1;go_wp2;exact ⟨⟨k + 1, _, by go_num, by omega, Lib.hid (by rw [HY.out]; exact HM9.out)⟩, by simp [intOf]; omega⟩
   | some d =>
     obtain ⟨db, dd⟩ := d;have hdb : db = xb := findC_fst hfc;subst hdb;simp only [Option.getD_some, Option.isSome_some];have hre := run_chg_eq (db, dd) (db, xd);by_cases hdd : dd = xd
     ·subst hdd
      have HY : Hid (chgA LB (LA.take (k + 1)) = chgA LB (LA.take k)) := Lib.hid (by rw [HCK.out, hfc, if_pos rfl]);rw [decide_eq_true rfl] at hre;clear HCK hfc;have HM8 := Lib.hid (HM7.out.kept (balloc1 w7 (.cells (chgC (db, dd)) 72)));have HC8 := Lib.hid (HC7.out.kept1 (balloc1 w7 (.cells (chgC (db, dd)) 72)));have HD8 : Hid (Blk w7.heap.size (chgC (db, dd)) 72 (w7.alloc (.cells (chgC (db, dd)) 72))) := Lib.hid (Blk.new _ _ _);clear HM7 HC7
      go_upto_region 7 with fail
      generalize w7.alloc (.cells (chgC (db, dd)) 72) = w8 at *;generalize w7.heap.size = dx at *;have kb0 := HC8.out.cell 0;have kb1 := HC8.out.cell 1;have kd0 := HD8.out.cell 0;have kd1 := HD8.out.cell 1;simp only [List.getElem?_toArray, List.getElem?_cons_zero, List.getElem?_cons_succ] at kb0 kb1 kd0 kd1;go_wp2;exact ⟨⟨k + 1, _, by go_num, by omega, Lib.hid (by rw [HY.out]; exact HM8.out)⟩, by simp [intOf]; omega⟩
     ·have HY : Hid (chgA LB (LA.take (k + 1)) = chgA LB (LA.take k) ++ [(db, xd)]) := Lib.hid (by rw [HCK.out, hfc, if_neg (by simp [hdd])])
      rw [decide_eq_false (show ¬ ((db, dd) = (db, xd)) by simp [hdd])] at hre;clear HCK hfc hdd;have HM8 := Lib.hid (HM7.out.kept (balloc1 w7 (.cells (chgC (db, dd)) 72)));have HC8 := Lib.hid (HC7.out.kept1 (balloc1 w7 (.cells (chgC (db, dd)) 72)));have HD8 : Hid (Blk w7.heap.size (chgC (db, dd)) 72 (w7.alloc (.cells (chgC (db, dd)) 72))) := Lib.hid (Blk.new _ _ _);clear HM7 HC7
      go_upto_region 7 with fail
      generalize w7.alloc (.cells (chgC (db, dd)) 72) = w8 at *;generalize w7.heap.size = dx at *;have kb0 := HC8.out.cell 0;have kb1 := HC8.out.cell 1;have kd0 := HD8.out.cell 0;have kd1 := HD8.out.cell 1;simp only [List.getElem?_toArray, List.getElem?_cons_zero, List.getElem?_cons_succ] at kb0 kb1 kd0 kd1
      go_upto_region 8 with fail
      obtain ⟨va, vcc, rfl, v1, v2, -⟩ := shape_of HM8.out.ch;have v2 : vcc ≤ 9223372036854775807 := v2;have m8 := HM8.out.blk.cell 2;simp only [List.getElem?_toArray, List.getElem?_cons_zero, List.getElem?_cons_succ] at m8;have hz8 := HM8.out.z.size;clear kd0 kd1
      go_wp2_with (at_builtin; refine wpList_appCg rfl _ _ rfl w5.heap.size _ (chgA LB (LA.take k)) (db, xd) rfl ((HM8.out.kept (balloc1 w8 _)).ch) w8 rfl rfl (by omega) (by rw [size_alloc]; omega) ?_)
      intro v' w9 h9 g9;have HM9 := Lib.hid ((HM8.out.kept (balloc1 w8 _)).more h9 g9);have hb9 := blkd_grown (HM8.out.kept (balloc1 w8 _)).blk (HM8.out.kept (balloc1 w8 _)).ch (by decide) g9;have m9 := hb9.cell 2;have f9 := hb9.frozen 2;simp only [List.getElem?_toArray, List.getElem?_cons_zero, List.getElem?_cons_succ] at m9;obtain ⟨va9, vc9, rfl, -⟩ := shape_of h9;rw [List.length_append, List.length_singleton] at HM9;clear h9 g9 hb9 HM8 m8 kb0 kb1;go_wp2;exact ⟨⟨k + 1, _, by go_num, by omega, Lib.hid (by rw [HY.out]; exact HM9.out)⟩, by simp [intOf]; omega⟩
  ·obtain rfl : k = LA.length := by omega
   have HE : Hid (LA.take LA.length = LA) := Lib.hid List.take_length;rw [HE.out] at HM;obtain ⟨CH, hCH⟩ : ∃ CH, chgA LB LA = CH := ⟨_, rfl⟩;have HCH := Lib.hid hCH;rw [hCH] at HM;have HM0 : Hid (DMem X w5 (D : Int) (.slice ra R.length rc) CH (freeA (LB.take 0) LA) vc (.slice none 0 0) wr) := HM;have HFS := Lib.hid fun k (h : k < LB.length) => freeA_succ LB LA h;have HFL := Lib.hid fun k => freeA_le (LB.take k) LA;obtain ⟨va, vcc, rfl, v1, v2, -⟩ := shape_of HM.out.ch;clear hCH HCS HCL HM HE v1 v2;go_wp2
   go_loopw [13, 15, 52] (fun q13 q15 p wz => ∃ (k : Nat) (vf : Value), p = .int .i64 (k : Int) ∧ k ≤ LB.length ∧ Hid (DMem X w5 (D : Int) (.slice ra R.length rc) CH (freeA (LB.take k) LA) (.slice va CH.length vcc) vf wz)) (fun _ _ p _ => LB.length - (intOf p).toNat)
   case atStart => exact ⟨0, _, rfl, Nat.zero_le _, HM0⟩
   case round =>
    obtain ⟨k, vf, rfl, hk, HM⟩ := hrel;clear HM0;by_cases hlt : k < LB.length
    ·obtain ⟨_, _, eqv, g, o, e2, k1, k2⟩ := (chgsOwn_in (HM.out.list HBV.out HTX.out)).at hlt
     injection eqv with q1 q2 q3
     rw [e2] at q1;subst q1;have HCK := Lib.hid (HFS.out k hlt);have hcl := HFL.out k;rw [List.length_take] at hcl;have hwr := HM.out.z.size;have HXL := HM.out.x;clear q2 q3 HFS HFL;generalize LB[k] = x at *;obtain ⟨xb, xd⟩ := x;dsimp only at k1 k2 HCK;have b1 : Below wr.heap.size wr (wr.alloc (.cells (chgC (xb, xd)) 72)) := balloc1 _ _;have HM1 := Lib.hid (HM.out.kept b1);have HC1 : Hid (Blk wr.heap.size (chgC (xb, xd)) 72 (wr.alloc (.cells (chgC (xb, xd)) 72))) := Lib.hid (Blk.new _ _ _);have HF1 := Lib.hid (HFA.out xb (.slice aa LA.length ac) _ (chgsOwn_in (HM1.out.list HAV.out HTX.out)));clear HM b1
     go_upto_region 13 with fail
     generalize wr.alloc (.cells #[.int .i64 xb, .string xd] 72) = w6 at *;generalize hbx : wr.heap.size = bx at *;have HBX := Lib.hid hbx;clear k1 k2 hbx;have kb := HC1.out.cell 0;simp only [List.getElem?_toArray, List.getElem?_cons_zero, List.getElem?_cons_succ] at kb;go_wp2_with fail
     refine HF1.out.mono ?_; rintro e w7 ⟨rfl, b7⟩;have HM7 := Lib.hid (HM1.out.kept b7);have HC7 := Lib.hid (HC1.out.kept1 b7);clear HF1 HM1 HC1 b7 kb
     cases hfc : findC LA xb with
     | none =>
       have HY : Hid (freeA (LB.take (k + 1)) LA = freeA (LB.take k) LA ++ [xb]) := Lib.hid (by rw [HCK.out, hfc, if_pos rfl]);simp only [Option.getD_none, Option.isSome_none];clear HCK hfc;have HM8 := Lib.hid (HM7.out.kept (balloc1 w7 (.cells (chgC ((0 : Int), (⟨#[]⟩ : ByteArray))) 72)));have HC8 := Lib.hid (HC7.out.kept1 (balloc1 w7 (.cells (chgC ((0 : Int), (⟨#[]⟩ : ByteArray))) 72)));clear HM7 HC7
       go_upto_region 14 with fail
       generalize w7.alloc (.cells (chgC ((0 : Int), (⟨#[]⟩ : ByteArray))) 72) = w8 at *;have kb0 := HC8.out.cell 0;simp only [List.getElem?_toArray, List.getElem?_cons_zero, List.getElem?_cons_succ] at kb0
       go_upto_region 15 with fail
       obtain ⟨fa, fcc, rfl, v1, v2, -⟩ := shape_of HM8.out.fr;have v2 : fcc ≤ 9223372036854775807 := v2;have m8 := HM8.out.blk.cell 3;simp only [List.getElem?_toArray, List.getElem?_cons_zero, List.getElem?_cons_succ] at m8;have hz8 := HM8.out.z.size
       go_wp2_with (at_builtin; refine wpList_int rfl _ _ rfl w5.heap.size _ (freeA (LB.take k) LA) rfl ((HM8.out.kept (balloc1 w8 _)).fr) ⟨w8.heap.size, 0, none⟩ 1 xb rfl (fknew_int _ _) (by omega) (by rw [size_alloc]; omega) ?_)
       intro v' w9 h9 g9;have HM9 := Lib.hid ((HM8.out.kept (balloc1 w8 _)).less h9 g9);have hb9 := blkd_grown (HM8.out.kept (balloc1 w8 _)).blk (HM8.out.kept (balloc1 w8 _)).fr (by decide) g9;have m9 := hb9.cell 3;have f9 := hb9.frozen 3;simp only [List.getElem?_toArray, List.getElem?_cons_zero, List.getElem?_cons_succ] at m9;obtain ⟨va9, vc9, rfl, -⟩ := shape_of h9;rw [List.length_append, List.length_singleton] at HM9;clear h9 g9 hb9 HM8 m8 kb0;go_wp2;exact ⟨⟨k + 1, _, by go_num, by omega, Lib.hid (by rw [HY.out]; exact HM9.out)⟩, by simp [intOf]; omega⟩
     | some d =>
       have HY : Hid (freeA (LB.take (k + 1)) LA = freeA (LB.take k) LA) := Lib.hid (by rw [HCK.out, hfc, if_neg (by simp)]);obtain ⟨db, dd⟩ := d;simp only [Option.getD_some, Option.isSome_some];clear HCK hfc;have HM8 := Lib.hid (HM7.out.kept (balloc1 w7 (.cells (chgC (db, dd)) 72)));clear HM7 HC7;go_wp2;exact ⟨⟨k + 1, _, by go_num, by omega, Lib.hid (by rw [HY.out]; exact HM8.out)⟩, by simp [intOf]; omega⟩
    ·obtain rfl : k = LB.length := by omega
     have HE : Hid (LB.take LB.length = LB) := Lib.hid List.take_length;rw [HE.out] at HM;obtain ⟨FR, hFR⟩ : ∃ FR, freeA LB LA = FR := ⟨_, rfl⟩;have HFR := Lib.hid hFR;rw [hFR] at HM;have hXW := HXW.out;have T4 : Blk w.heap.size #[.int .i64 0, .slice none 0 0, .slice none 0 0, .slice none 0 0] 58 wr := (HM.out.z.block _ HT5.out.lt (by omega)).trans HT5.out;have HT4 := Lib.hid T4;obtain ⟨fa, fcc, rfl, -⟩ := shape_of HM.out.fr;have t0 := T4.cell 0;have t1 := T4.cell 1;have t2 := T4.cell 2;have t3 := T4.cell 3;have f0 := T4.frozen 0;have f1 := T4.frozen 1;have f2 := T4.frozen 2;have f3 := T4.frozen 3;have m0 := HM.out.blk.cell 0;have m1 := HM.out.blk.cell 1;have m2 := HM.out.blk.cell 2;have m3 := HM.out.blk.cell 3;simp only [List.getElem?_toArray, List.getElem?_cons_zero, List.getElem?_cons_succ] at t0 t1 t2 t3 m0 m1 m2 m3
     have HEND : Hid (∀ a b c d, ∃ wz, wz = ((((wr.setCell ⟨w.heap.size, 0, none⟩ a).setCell ⟨w.heap.size, 1, none⟩ b).setCell ⟨w.heap.size, 2, none⟩ c).setCell ⟨w.heap.size, 3, none⟩ d) ∧ P (.slice ra R.length rc) R wz ∧ ChgsOwn w.heap.size (.slice va CH.length vcc) CH wz ∧ IntsFk w.heap.size (.slice fa FR.length fcc) FR wz ∧ Below w.heap.size w wz) := Lib.hid fun a b c d => by
      refine ⟨_, rfl, ?_, ?_, ?_, ?_⟩
      ·refine HPK.out _ _ _ _ (HPK.out _ _ _ _ HP5.out (Grows.zone1 (by decide) (by omega) HM.out.z HTX.out ⟨_, _, HM.out.blk⟩)) ?_
       exact Grows.zone1 (t := 58) (by decide) (Nat.le_refl _) ((((Zone.refl w.heap.size (w.heap.size + 1) wr).set (p := ⟨w.heap.size, 0, none⟩) (Nat.le_refl _) (Nat.lt_succ_self _) a).set (p := ⟨w.heap.size, 1, none⟩) (Nat.le_refl _) (Nat.lt_succ_self _) b).set (p := ⟨w.heap.size, 2, none⟩) (Nat.le_refl _) (Nat.lt_succ_self _) c |>.set (p := ⟨w.heap.size, 3, none⟩) (Nat.le_refl _) (Nat.lt_succ_self _) d) ⟨_, _, HT4.out⟩ ((((TyAt.set ⟨_, _, HT4.out⟩ _ _).set _ _).set _ _).set _ _)
      ·have ty : TyAt w.heap.size 58 wr := ⟨_, _, HT4.out⟩
       exact row_down (by have := HB5.out.size; omega) (own_other (own_other (own_other (own_other HM.out.ch ty (by decide)) (ty.set _ _) (by decide)) ((ty.set _ _).set _ _) (by decide)) (((ty.set _ _).set _ _).set _ _) (by decide))
      ·have ty : TyAt w.heap.size 58 wr := ⟨_, _, HT4.out⟩
       exact row_down (by have := HB5.out.size; omega) (own_other (own_other (own_other (own_other HM.out.fr ty (by decide)) (ty.set _ _) (by decide)) ((ty.set _ _).set _ _) (by decide)) (((ty.set _ _).set _ _).set _ _) (by decide))
      ·exact ((((HB5.out.trans (HM.out.z.below HB5.out.size (by omega))).setCell (Nat.le_refl _) _).setCell (Nat.le_refl _) _).setCell (Nat.le_refl _) _).setCell (Nat.le_refl _) _
     obtain ⟨wz, e9, r1, r2, r3, r4⟩ := HEND.out (.int .i64 (D : Int)) (.slice ra R.length rc) (.slice va CH.length vcc) (.slice fa FR.length fcc);have H9 := Lib.hid (And.intro e9 (And.intro r1 (And.intro r2 (And.intro r3 r4))));clear hFR HM T4 HEND HFS HFL HE e9 r1 r2 r3 r4;go_wp2
     (try simp only [Exit.inBlock, Exit.then])
     refine bodyPost_ret (v := .agg #[.int .i64 (D : Int), .slice ra R.length rc, .slice va CH.length vcc, .slice fa FR.length fcc]) ?_ rfl ?_
     ·rw [results_one_cell rfl]
      go_simp
     ·rw [← H9.out.1, HCH.out, HFR.out]
      exact ⟨_, _, _, rfl, H9.out.2⟩
theorem zip_fst {l : List Ent} {R : List (List Ent)} (b : Bool) (h : l.length ≤ R.length) : ((l.zip R).map fun p => (p.1.phys, encN p.2 b)).map (fun c : Ch => c.1) = l.map Ent.phys := by
 rw [List.map_map]
 have : (l.zip R).map ((fun c : Ch => c.1) ∘ fun p => (p.1.phys, encN p.2 b)) = ((l.zip R).map Prod.fst).map Ent.phys := by rw [List.map_map]; rfl
 rw [this, List.map_fst_zip h]
theorem blk_fst {S : Shp} (h : ∀ r, r < S.length → (headsA S r).length ≤ (rowA S r).length) : (blkTo S S.length).map (fun c : Ch => c.1) = numsA S := by
 unfold blkTo numsA;rw [List.map_flatMap];refine flatMap_congr' fun r hr => ?_;rw [List.mem_range] at hr;exact zip_fst _ (h r hr)
theorem ask_fair {σ : Type} (nx : Nx σ) (T : List (Int × Int)) (s : σ) : 0 ≤ (askA nx T s).1 ∧ (askA nx T s).1 < 4096 := by
 unfold askA;split
 ·split
  ·rename_i h
   have := h.1;unfold usableA at this;simp only [Bool.and_eq_true, decide_eq_true_eq] at this
   show 0 ≤ (nx s).1.1 ∧ (nx s).1.1 < 4096
   omega
  ·show (0 : Int) ≤ 0 ∧ (0 : Int) < 4096; omega
 ·show (0 : Int) ≤ 0 ∧ (0 : Int) < 4096; omega
theorem place_fair {σ : Type} (nx : Nx σ) (t : PlS σ) (es : List Ent) : (∀ e ∈ es, Fair e) → ∀ e ∈ (accL (placeF nx) t es).2, Fair e := by
 induction es using snoc_ind with
 | nil => intro _ e he; exact (List.not_mem_nil he).elim
 | snoc es x ih =>
   intro h e he;rw [accL_snoc] at he;rcases List.mem_append.1 he with he | he
   ·exact ih (fun e he => h e (List.mem_append_left _ he)) e he
   ·rw [List.mem_singleton] at he
    subst he;have hx := h x (List.mem_append_right _ (List.mem_singleton.2 rfl));unfold placeF;split
    ·exact ⟨hx.1, ask_fair _ _ _, hx.2.2⟩
    ·exact hx
theorem row_mem {S : Shp} {r : Nat} {x : List Ent} {e : Ent} (hx : x ∈ rowA S r) (he : e ∈ x) : e ∈ S.flatten.flatten := by
 by_cases hr : r < S.length
 ·rw [rowA_at hr] at hx
  exact List.mem_flatten.2 ⟨x, List.mem_flatten.2 ⟨_, List.getElem_mem hr, hx⟩, he⟩
 ·rw [row_past (by omega)] at hx; exact (List.not_mem_nil hx).elim
theorem mem_row {S : Shp} {e : Ent} (h : e ∈ S.flatten.flatten) : ∃ r, e ∈ (rowA S r).flatten := by
 obtain ⟨x, hx, he⟩ := List.mem_flatten.1 h;obtain ⟨R, hR, hx⟩ := List.mem_flatten.1 hx;obtain ⟨r, hr, rfl⟩ := List.mem_iff_getElem.1 hR;exact ⟨r, List.mem_flatten.2 ⟨x, by rw [rowA_at hr]; exact hx, he⟩⟩
theorem place_tell {σ : Type} (nx : Nx σ) (T0 : List (Int × Int)) (s0 : σ) (N : Shp) (hw : WellS N) (hS : SmallS N) (hf : ∀ r, ∀ e ∈ (rowA N r).flatten, Fair e) (hl : ∀ e ∈ listA N, e.phys ≠ 0) (hnd : ((numsA N).filter fun b => decide (b ≠ 0)).Nodup) (hT : ∀ b ∈ numsA N, b ≠ 0 → elemR T0 b) (h0 : (chgS (placeF nx) (s0, 0, T0) N).1.2.1 = 0) :
 TellOk (chgS (placeF nx) (s0, 0, T0) N).2 := by
 obtain ⟨n, hn⟩ : ∃ n, N.length = n + 1 := ⟨N.length - 1, by have := hw.pos; omega⟩;obtain ⟨d1, bs, g1, gu, g2, g3, g4⟩ := place_nums nx T0 s0 N n hn hl h0;obtain ⟨c1, c2⟩ := chgS_flat (placeF nx) (s0, 0, T0) N
 have hpl : (chgS (placeF nx) (s0, 0, T0) N).2.length = n + 1 := by rw [chgS_len]; exact hn
 have hlens := fun r => chg_row_len (placeF nx) (s0, 0, T0) N r
 have hfl : ∀ e ∈ (chgS (placeF nx) (s0, 0, T0) N).2.flatten.flatten, Fair e := by
  rw [c2]
  exact place_fair nx _ _ fun e he => by obtain ⟨r, hr⟩ := mem_row he; exact hf r e hr
 have hle : ∀ r, r < (chgS (placeF nx) (s0, 0, T0) N).2.length → (headsA (chgS (placeF nx) (s0, 0, T0) N).2 r).length ≤ (rowA (chgS (placeF nx) (s0, 0, T0) N).2 r).length := fun r hr => by
  have h1 : (headsA (chgS (placeF nx) (s0, 0, T0) N).2 r).length = (headsA N r).length := (hlens (r + 1)).2;rw [h1, (hlens r).1];by_cases e : r + 1 < N.length
  ·exact Nat.le_of_eq (hw.heads r e)
  ·rw [heads_past (by omega)]; exact Nat.zero_le _
 have hnums : (numsA (chgS (placeF nx) (s0, 0, T0) N).2).Nodup := by
  refine g4.nodup_iff.2 (List.nodup_append.2 ⟨hnd, g1.1, fun a ha b hb e => ?_⟩);subst e;rw [List.mem_filter] at ha;exact g3 a hb (hT a ha.1 (of_decide_eq_true ha.2))
 have hrange : ∀ b ∈ numsA (chgS (placeF nx) (s0, 0, T0) N).2, 0 ≤ b ∧ b < ((4096 : Nat) : Int) := fun b hb => by
  unfold numsA at hb;obtain ⟨r, -, hb⟩ := List.mem_flatMap.1 hb;obtain ⟨e, he, rfl⟩ := List.mem_map.1 hb;obtain ⟨x, hx, he⟩ := List.mem_flatten.1 he;exact (hfl e (row_mem hx he)).2.1
 have hbf := blk_fst hle;refine ⟨chg_small _ _ hS, hle, fun r x hx e he => (hfl e (row_mem hx he)).fit, ?_, by rw [hbf]; exact hnums, by omega, ?_⟩
 ·have h1 : (blkTo (chgS (placeF nx) (s0, 0, T0) N).2 (chgS (placeF nx) (s0, 0, T0) N).2.length).length = (numsA (chgS (placeF nx) (s0, 0, T0) N).2).length := by rw [← hbf, List.length_map]
  have := nodup_len 4096 _ hnums hrange;omega
 ·rw [(hlens _).1, hpl]
  have := hw.root;rw [hn] at this;omega
end Go.Proofs.YtknefoemgifbfaaGreat
