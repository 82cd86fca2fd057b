import Derived.Test.YtknefoemgifbfaaGreatPd49
import Derived.Test.YtknefoemgifbfaaGreatPd03
set_option linter.unusedVariables false
set_option linter.unusedSimpArgs false
set_option linter.constructorNameAsVariable false
set_option maxRecDepth 100000
set_option maxHeartbeats 16000000
namespace Go.Proofs.YtknefoemgifbfaaGreat
abbrev fv5 : List Ent := [⟨0, 10, 1⟩, ⟨2, 12, 1⟩, ⟨4, 14, 1⟩, ⟨6, 16, 1⟩, ⟨8, 18, 1⟩]
theorem five_eq : fiveN 5 = fv5 := rfl
theorem sortI_nil : sortI [] = [] := by unfold sortI; simp
theorem sortI_one (b : Int) : sortI [b] = [b] := by unfold sortI; simp
theorem sortC_nil : sortC [] = [] := by unfold sortC; simp
theorem sortC_one (c : Ch) : sortC [c] = [c] := by unfold sortC; simp
abbrev S0 : Shp := [[[]]]
abbrev S1 : Shp := [[fv5], [[⟨0, 50, 0⟩]]]
theorem load0 (rd : Rd) : loadA rd false 0 [] = .ok S0 := by
 unfold loadA;rw [if_pos ⟨by decide, .inr rfl⟩];rfl
theorem nums0 : numsA S0 = [] := rfl
theorem nums1 : numsA S1 = [50] := rfl
theorem list0 : listA S0 = [] := rfl
theorem list1 : listA S1 = fv5 := rfl
theorem repl0 : replA [] 0 9 fv5 = fv5 := by decide
theorem grow0 : growA S0 fv5 = [[fv5], [[⟨0, 0, 0⟩]]] := by decide
theorem place0 : (plcA nx50 0 9 fv5 () S0) = (((), 0, blocksV fv5 ++ [(50, 1)]), S1) := by
 unfold plcA;rw [list0, repl0, grow0, nums0, sortI_nil]
 have hb : blocksV fv5 = [(10, 1), (12, 1), (14, 1), (16, 1), (18, 1)] := by decide
 rw [hb];rfl
theorem fit0 : fitB fv5 0 9 = true := by decide
theorem replN0 (rd : Rd) : replN nx50 rd 0 [] 0 9 fv5 () = (.ok (S0, S1), ()) := by
 unfold replN;rw [fit0, if_neg (by simp), load0];dsimp only;rw [list0, repl0, nums0, if_neg (by decide), place0];rfl
def X5 : ByteArray := nodeB fv5 true
theorem ok5 : NodeOk fv5 true := by decide
theorem enc5 : encN fv5 true = X5 := by unfold encN; rw [if_pos ok5]; rfl
theorem blk0 : blocksA S0 = [] := by unfold blocksA; rw [show blkTo S0 S0.length = [] from rfl, sortC_nil]
theorem blk1 : blocksA S1 = [(50, X5)] := by unfold blocksA; rw [show blkTo S1 S1.length = [(50, encN fv5 true)] from rfl, enc5, sortC_one]
theorem chg_out (l : List Ch) : chgA l [] = [] := rfl
theorem chg0 : chgA (blocksA S0) (blocksA S1) = [(50, X5)] := by rw [blk0, blk1]; rfl
theorem free0 : freeA (blocksA S0) (blocksA S1) = [] := by rw [blk0]; rfl
theorem load1 (rd : Rd) (h : rd 50 = (X5, 0)) : loadA rd false 1 [⟨0, 50, 0⟩] = .ok S1 := by
 have hd : decN X5 = some (fv5, true) := decN_nodeB ok5;unfold loadA;rw [if_pos ⟨by decide, .inr rfl⟩]
 have ht : takeA rd (1 : Int).toNat [⟨0, 50, 0⟩] (List.replicate ((1 : Int).toNat + 1) [], []) = .ok (S1, [50]) := by
  show takeA rd 1 [⟨0, 50, 0⟩] ([[], []], []) = _
  unfold takeA;simp only [List.foldlM_cons, List.foldlM_nil]
  have hn : nodeA rd ⟨0, 50, 0⟩ ((0 : Nat) == 0) [] = .ok (fv5, [50]) := by
   unfold nodeA;rw [if_neg (by simp)];dsimp only;rw [h, if_neg (by simp)];dsimp only;rw [hd];rfl
  rw [hn];rfl
 rw [ht];dsimp only;rw [if_pos ⟨by decide, by decide⟩]
abbrev fv2 : List Ent := [⟨0, 10, 1⟩, ⟨8, 18, 1⟩]
abbrev S2 : Shp := [[fv2]]
theorem repl1 : replA fv5 2 7 [] = fv2 := by decide
theorem grow1 : growA S1 fv2 = S2 := by decide
theorem place1v : plcA nxNil 2 7 [] () S1 = (((), 0, blocksV fv2 ++ [(50, 1)]), S2) := by
 unfold plcA;rw [list1, repl1, grow1, nums1, sortI_one];rfl
theorem replN1 (rd : Rd) (h : rd 50 = (X5, 0)) : replN nxNil rd 1 [⟨0, 50, 0⟩] 2 7 [] () = (.ok (S1, S2), ()) := by
 unfold replN;rw [show fitB [] 2 7 = true by decide, if_neg (by simp), load1 rd h];dsimp only;rw [list1, repl1, nums1, if_neg (by decide), place1v];rfl
theorem blk2 : blocksA S2 = [] := by unfold blocksA; rw [show blkTo S2 S2.length = [] from rfl, sortC_nil]
theorem chg1 : chgA (blocksA S1) (blocksA S2) = [] := by rw [blk2]; rfl
theorem free1 : freeA (blocksA S1) (blocksA S2) = [50] := by rw [blk1, blk2]; rfl
abbrev fv9 : List Ent := [⟨0, 10, 1⟩, ⟨2, 12, 1⟩, ⟨4, 99, 1⟩, ⟨6, 16, 1⟩, ⟨8, 18, 1⟩]
abbrev S3 : Shp := [[fv9], [[⟨0, 50, 0⟩]]]
theorem move1v (rd : Rd) (h : rd 50 = (X5, 0)) : moveA rd 1 [⟨0, 50, 0⟩] 4 1 99 = .ok (S1, S3) := by
 unfold moveA;rw [load1 rd h];dsimp only;rw [list1, nums1, if_neg (by decide), if_pos ⟨by decide, by decide⟩];rfl
theorem blk3 : blocksA S3 = [(50, encN fv9 true)] := by unfold blocksA; rw [show blkTo S3 S3.length = [(50, encN fv9 true)] from rfl, sortC_one]
theorem enc_ne : X5 ≠ encN fv9 true := by
 have h9 : NodeOk fv9 true := by decide
 intro e;have h1 : decN X5 = some (fv5, true) := decN_nodeB ok5;rw [e] at h1;unfold encN at h1;rw [if_pos h9, decN_nodeB h9] at h1;exact absurd h1 (by decide)
theorem chg_one (b : Int) (X Y : ByteArray) (h : X ≠ Y) : chgA [(b, X)] [(b, Y)] = [(b, Y)] := by
 unfold chgA findC;rw [List.filter_cons, if_pos (decide_eq_true ?_)]
 ·rfl
 ·rw [List.find?_cons_of_pos (by simp)]
  intro e
  injection e with e
  injection e with _ e
  exact h e
theorem chg3 : (chgA (blocksA S1) (blocksA S3)).length = 1 := by rw [blk1, blk3, chg_one _ _ _ enc_ne]; rfl
abbrev S4 : Shp := [[fv5], [[⟨0, 60, 0⟩]]]
theorem lead1v (rd : Rd) (h : rd 50 = (X5, 0)) : leadA rd 1 [⟨0, 50, 0⟩] 50 60 = .ok (S1, S4) := by
 unfold leadA;rw [load1 rd h];dsimp only;rw [nums1, if_neg (by decide), if_neg (by unfold leadBad; rw [list1, nums1, show blocksV fv5 = [(10, 1), (12, 1), (14, 1), (16, 1), (18, 1)] by decide]; decide)];rfl
theorem blk4 : blocksA S4 = [(60, X5)] := by unfold blocksA; rw [show blkTo S4 S4.length = [(60, encN fv5 true)] from rfl, enc5, sortC_one]
theorem chg4 : (chgA (blocksA S1) (blocksA S4)).length = 1 := by rw [blk1, blk4]; rfl
theorem rd1_50 : rdOf (upd (dskF []) 50 X5) (-1) 50 = (X5, 0) := by
 have := rdOf_ok (F := upd (dskF []) 50 X5) (bad := -1) (n := 50) (by omega) (by decide);rw [upd_same] at this;exact this
open Go.RowKit
theorem nil_ents (w : World) : EntsIn (.slice none 0 0) [] w := RowIn.nil 3 w
theorem nil_entsS (B : Nat) (w : World) : EntsS B (.slice none 0 0) [] w := fun w' _ => RowIn.nil 3 w'
theorem one_intR (w : World) (b : Int) : IntsR (.slice (some ⟨w.heap.size, 0, none⟩) 1 1) [b] (w.alloc (.cells #[.int .i64 b] 3)) :=
 ⟨rfl, _, _, rfl, Nat.le_refl _, by unfold maxLen; omega, fun _ => ⟨w.heap.size, 0, rfl, by rw [size_alloc]; omega, fun k u hk => by rw [Nat.zero_add, (Blk.new #[.int .i64 b] 3 w).cell k]; simpa using hk⟩, fun e => by cases e⟩
theorem lalive_any (w : World) : Calls Tryz.prog 16 #[] w fun e w' => e = .returned (.bool true) ∧ Below w.heap.size w w' := by
 have mixed : Tryz.prog.follows .mixedOrders = true := by kernel_rfl
 have HB := Lib.hid fun W => lblocks_any [] (by simp) (by simp) 0 (.slice none 0 0) W (RowIn.nil 2 W);have HFV := Lib.hid fun W => lfive_any W;have hsz0 : ∀ k, (dskF [] k).size ≤ 1000 := dskF_size (by simp)
 go_enter Tryz.func16, Tryz.ntmps16
 go_wp2_with fail
 refine (HB.out _).mono ?_; rintro e w1 ⟨g, rfl, hg, hd1, b1⟩;have HR := Lib.hid (lreading_any (dskF []) (-1) g w1 hd1);have hgl := hd1.c.1;clear hd1 HB;go_wp2_with fail
 refine HR.out.mono ?_; rintro e w2 ⟨rfl, hr2, b2⟩;have HR2 := Lib.hid hr2;have HB2 := Lib.hid (bnext b1 b2);have hs1 := b1.size;have hs2 := b2.size;clear HR hr2 b1 b2;go_wp2_with fail
 refine (HFV.out _).mono ?_; rintro e w3 ⟨v5, rfl, h5, b3⟩;rw [five_eq] at h5;have HB3 := Lib.hid (bnext HB2.out b3);have hr3 := HR2.out.kept1 b3;have hs3 := b3.size;have RP := Lib.hid (fkreplace_any nx50 _ (fun _ => True) (fun _ _ => True) w3.heap.size w3.heap.size (fresh50 _ _) (Nat.le_refl _) _ _ (rdOf (dskF []) (-1)) w3 (Nat.le_refl _) (hr3.reads hsz0) 0 ⟨by omega, by omega⟩ [] (by intro e h; cases h) _ (nil_ents w3) (nil_entsS _ w3) 0 9 ⟨by omega, by omega⟩ ⟨by omega, by omega⟩ fv5 (by intro e h; revert e; decide) (by decide) v5 (rowE_in h5) () trivial trivial);rw [replN0] at RP;have HR3 := Lib.hid hr3;obtain ⟨a5, c5, rfl, -⟩ := shape_of h5;clear h5 b3 hr3 HR2 HB2;go_wp2_with fail
 refine RP.out.mono ?_; intro e w4 h4;unfold SetEndN at h4;obtain ⟨t4, -, -, vr, vc, vf, he, hvr, hvc, hvf⟩ := h4;rw [chg0] at hvc;rw [free0] at hvf;have hvr : EntsAt w3.heap.size vr [⟨0, 50, 0⟩] w4 := hvr;rw [show ((S1.length - 1 : Nat) : Int) = 1 from rfl] at he;subst he;have b4 := t4.below (Nat.le_refl _);obtain ⟨ar, cr, rfl, -, hcr, hrg⟩ := shape_of hvr;obtain ⟨gr, rfl, -, -⟩ := hrg (by decide);obtain ⟨ac, cc, rfl, -, hcc, hcg⟩ := shape_of hvc;obtain ⟨gc, rfl, -, -⟩ := hcg (by decide);obtain ⟨af, cf, rfl, -, hcf, -⟩ := shape_of hvf;have hk5 := Blk.new #[.int .i64 1, .slice (some ⟨gr, 0, none⟩) 1 cr, .slice (some ⟨gc, 0, none⟩) 1 cc, .slice af 0 cf] 58 w4;have b5 := balloc1 w4 (.cells #[.int .i64 1, .slice (some ⟨gr, 0, none⟩) 1 cr, .slice (some ⟨gc, 0, none⟩) 1 cc, .slice af 0 cf] 58);obtain ⟨w5, hw5⟩ : ∃ W, w4.alloc (.cells #[.int .i64 1, .slice (some ⟨gr, 0, none⟩) 1 cr, .slice (some ⟨gc, 0, none⟩) 1 cc, .slice af 0 cf] 58) = W := ⟨_, rfl⟩;rw [hw5] at hk5 b5;obtain ⟨X, hX⟩ : ∃ X, w4.heap.size = X := ⟨_, rfl⟩;rw [hX] at hk5;have hs4 := b4.size;have HXG : Hid (g < X) := Lib.hid (by omega);have HK := Lib.hid hk5;have HR5 := Lib.hid (HR3.out.kept1 (bnext b4 b5));have HVR := Lib.hid (row_kept hvr b5);have HVC := Lib.hid (row_kept hvc b5);have HB5 := Lib.hid (bnext (bnext HB3.out b4) b5);have hs5 := b5.size;have HW5 := Lib.hid hw5;have HX := Lib.hid hX;have x0 := hk5.cell 0;have x1 := hk5.cell 1;have x2 := hk5.cell 2;have x3 := hk5.cell 3;have y0 := HVC.out.cellAt 0 (by simp);have y1 := HVC.out.cellAt 1 (by simp);simp only [List.getElem?_toArray, List.getElem?_cons_zero, List.getElem?_cons_succ] at x0 x1 x2 x3;simp only [chgsL, List.flatMap_cons, List.flatMap_nil, List.append_nil, List.getElem?_cons_zero, List.getElem?_cons_succ] at y0 y1;clear hvr hvc hvf t4 RP HR3 HB3 hk5 b4 b5 hrg hcg hw5 hX;have HSE := Lib.hid (sameEnts_any [⟨0, 50, 0⟩] [⟨0, 50, 0⟩] _ _ (w5.alloc (.cells #[.int .i64 0, .int .i64 50, .int .i64 0] 31)) ((rowE_in HVR.out).kept (balloc1 _ _)) (one_in w5 ⟨0, 50, 0⟩ 31));rw [decide_eq_true rfl] at HSE;have b6 := balloc1 w5 (.cells #[.int .i64 0, .int .i64 50, .int .i64 0] 31);have HB6 := Lib.hid b6;clear b6
 go_upto_region 4 with fail
 rw [HW5.out, HX.out];clear HW5 HX;go_wp2_with fail
 refine HSE.out.mono ?_; rintro e w7 ⟨rfl, b7⟩;have b57 := bnext HB6.out b7;clear HSE HB6 b7;have hk7 := HK.out.kept1 b57;have x2 := hk7.cell 2;have hvc := row_kept HVC.out b57;have y1 := hvc.cellAt 1 (by simp);simp only [List.getElem?_toArray, List.getElem?_cons_zero, List.getElem?_cons_succ] at x2;simp only [chgsL, List.flatMap_cons, List.flatMap_nil, List.append_nil, List.getElem?_cons_zero, List.getElem?_cons_succ] at y1;have hr7 := HR5.out.kept1 b57;have z1 := (hr7.d.c.2 50 (by omega)).1;have z2 := (hr7.d.c.2 50 (by omega)).2;have hpg : g < w1.heap.size := hgl;have htg : TyAt g 9 w7 := hr7.d.t;have hr8 : RdrAt w1.heap.size (w1.heap.size + 1) g (upd (dskF []) 50 X5) (-1) (w7.setCell ⟨g, 50, none⟩ (.string X5)) := ⟨hr7.pl.other (p := ⟨g, 50, none⟩) (by show g ≠ w1.heap.size; omega) _, hr7.pb.other (p := ⟨g, 50, none⟩) (by show g ≠ w1.heap.size + 1; omega) _, hr7.d.set (by omega) X5⟩
 have hXg : g ≠ X := by have := HXG.out; omega
 have hk8 := hk7.other (p := ⟨g, 50, none⟩) hXg (.string X5);have hvr8 := own_other (row_kept HVR.out b57) (i := 50) (u := .string X5) htg (by decide);have hb8 : Below w.heap.size w (w7.setCell ⟨g, 50, none⟩ (.string X5)) := (bnext HB5.out b57).setCell (p := ⟨g, 50, none⟩) hg _
 have hsz1 : ∀ k, (upd (dskF []) 50 X5 k).size ≤ 1000 := fun k => by
  unfold upd;split
  ·unfold X5; rw [nodeB_size _ (by decide)]; omega
  ·exact hsz0 k
 obtain ⟨w8, hw8⟩ : ∃ W, w7.setCell ⟨g, 50, none⟩ (.string X5) = W := ⟨_, rfl⟩;rw [hw8] at hr8 hk8 hvr8 hb8;have hrd := rd1_50;obtain ⟨rd, hrde⟩ : ∃ rd, rdOf (upd (dskF []) 50 X5) (-1) = rd := ⟨_, rfl⟩;have hrds := hr8.reads hsz1;rw [hrde] at hrd hrds
 have hfr : fitE [(⟨0, 50, 0⟩ : Ent)] := by intro e h; revert e; decide
 have WK := Lib.hid (fkwalk_any _ _ rd w8 hrds 1 ⟨by omega, by omega⟩ [⟨0, 50, 0⟩] hfr _ (rowE_in hvr8));rw [load1 rd hrd] at WK;have HR8 := Lib.hid hrds;have HK8 := Lib.hid hk8;have HVR8 := Lib.hid hvr8;have HB8 := Lib.hid hb8;have HW8 := Lib.hid hw8;have HRD := Lib.hid hrd;have HFR := Lib.hid hfr;have x0 := hk8.cell 0;have x1' := hk8.cell 1;simp only [List.getElem?_toArray, List.getElem?_cons_zero, List.getElem?_cons_succ] at x0 x1';clear HK HVR HVC HR5 HB5 hk7 hvc hr7 htg hr8 hk8 hvr8 hb8 hsz0 hsz1 hw8 hrd hrde hrds hfr b57
 go_upto_region 7 with fail
 rw [HW8.out];clear x2 y1 z1 z2;go_wp2_with fail
 refine WK.out.mono ?_; intro e w9 h9;unfold WalkEnd at h9;obtain ⟨b9, vl, vn, rfl, hvl, hvn⟩ := h9;rw [nums1, sortI_one] at hvn;have hvl : ExtsAt w8.heap.size vl fv5 w9 := hvl;have HVL := Lib.hid hvl;have HVN := Lib.hid hvn;have HB9 := Lib.hid b9;have RP2 := Lib.hid (fkreplace_any nxNil _ (fun _ => True) (fun _ _ => True) w9.heap.size w9.heap.size (fresh_nil _ _) (Nat.le_refl _) _ _ rd w9 (Nat.le_refl _) (HR8.out.kept b9 b9.size) 1 ⟨by omega, by omega⟩ [⟨0, 50, 0⟩] HFR.out _ ((rowE_in HVR8.out).kept b9) (EntsS.own (row_kept HVR8.out b9)) 2 7 ⟨by omega, by omega⟩ ⟨by omega, by omega⟩ [] (by intro e h; cases h) (by decide) _ (nil_ents w9) () trivial trivial);rw [replN1 rd HRD.out] at RP2;obtain ⟨al, cl, rfl, -⟩ := shape_of hvl;obtain ⟨an, cn, rfl, -⟩ := shape_of hvn;have k9 := HK8.out.kept1 b9;have x0 := k9.cell 0;have x1' := k9.cell 1;simp only [List.getElem?_toArray, List.getElem?_cons_zero, List.getElem?_cons_succ] at x0 x1';clear WK hvl hvn b9 HW8 k9;go_wp2_with fail
 refine RP2.out.mono ?_; intro e w10 h10;unfold SetEndN at h10;obtain ⟨t10, -, -, vr2, vc2, vf2, he, hvr2, hvc2, hvf2⟩ := h10;rw [chg1] at hvc2;rw [free1] at hvf2;have hvr2 : EntsAt w9.heap.size vr2 fv2 w10 := hvr2;rw [show ((S2.length - 1 : Nat) : Int) = 0 from rfl] at he;subst he;have b10 := t10.below (Nat.le_refl _);obtain ⟨ar2, cr2, rfl, -, hcr2, -⟩ := shape_of hvr2;obtain ⟨ac2, cc2, rfl, -, hcc2, -⟩ := shape_of hvc2;obtain ⟨af2, cf2, rfl, -, hcf2, -⟩ := shape_of hvf2;obtain ⟨w11, hw11⟩ : ∃ W, w10.alloc (.cells #[.int .i64 0, .slice ar2 2 cr2, .slice ac2 0 cc2, .slice af2 1 cf2] 58) = W := ⟨_, rfl⟩;have hk11 := Blk.new #[.int .i64 0, .slice ar2 2 cr2, .slice ac2 0 cc2, .slice af2 1 cf2] 58 w10;have b11 := balloc1 w10 (.cells #[.int .i64 0, .slice ar2 2 cr2, .slice ac2 0 cc2, .slice af2 1 cf2] 58);rw [hw11] at hk11 b11;have HW11 := Lib.hid hw11;have HB11 := Lib.hid (bnext (bnext HB9.out b10) b11);have HY16 := Lib.hid (bnext b10 b11);have HK11 := Lib.hid hk11;have HVF2 := Lib.hid (row_kept hvf2 b11);have hs10 := b10.size;have MV := Lib.hid (fkmove_any _ _ rd w11 (HR8.out.kept HB11.out HB11.out.size) 1 ⟨by omega, by omega⟩ [⟨0, 50, 0⟩] HFR.out _ ((rowE_in HVR8.out).kept HB11.out) 4 1 99 ⟨by omega, by omega⟩ ⟨by omega, by omega⟩ ⟨by omega, by omega⟩);rw [move1v rd HRD.out] at MV;have k11 := HK8.out.kept1 HB11.out;have x0 := k11.cell 0;have x1' := k11.cell 1;simp only [List.getElem?_toArray, List.getElem?_cons_zero, List.getElem?_cons_succ] at x0 x1';clear RP2 t10 hvr2 hvc2 hvf2 b10 b11 hk11 hw11 k11 HB9
 go_upto_region 9 with fail
 rw [HW11.out];go_wp2_with fail
 refine MV.out.mono ?_; intro e w12 h12;unfold SetEnd at h12;obtain ⟨b12, vr3, vc3, vf3, he, hvr3, hvc3, hvf3⟩ := h12;rw [show ((S3.length - 1 : Nat) : Int) = 1 from rfl] at he;subst he;obtain ⟨ar3, cr3, rfl, -, hcr3, -⟩ := shape_of hvr3;obtain ⟨ac3, cc3, rfl, -, hcc3, -⟩ := shape_of hvc3;obtain ⟨af3, cf3, rfl, -, hcf3, -⟩ := shape_of hvf3;obtain ⟨f3, hf3⟩ : ∃ n, (freeA (blocksA S1) (blocksA S3)).length = n := ⟨_, rfl⟩;rw [chg3, hf3, show (rootA S3).length = 1 from rfl];obtain ⟨w13, hw13⟩ : ∃ W, w12.alloc (.cells #[.int .i64 1, .slice ar3 1 cr3, .slice ac3 1 cc3, .slice af3 f3 cf3] 58) = W := ⟨_, rfl⟩;have hk13 := Blk.new #[.int .i64 1, .slice ar3 1 cr3, .slice ac3 1 cc3, .slice af3 f3 cf3] 58 w12;have b13 := balloc1 w12 (.cells #[.int .i64 1, .slice ar3 1 cr3, .slice ac3 1 cc3, .slice af3 f3 cf3] 58);rw [hw13] at hk13 b13;have HW13 := Lib.hid hw13;have HB13 := Lib.hid (bnext (bnext HB11.out b12) b13);have HK13 := Lib.hid hk13;have hs12 := b12.size;have hs13 := b13.size;have HC13 := Lib.hid (bnext b12 b13);have LD := Lib.hid (fklead_any _ _ rd w13 (HR8.out.kept HB13.out HB13.out.size) 1 ⟨by omega, by omega⟩ [⟨0, 50, 0⟩] HFR.out _ ((rowE_in HVR8.out).kept HB13.out) 50 60 ⟨by omega, by omega⟩ ⟨by omega, by omega⟩);rw [lead1v rd HRD.out] at LD;have k13 := HK8.out.kept1 HB13.out;have x0 := k13.cell 0;have x1' := k13.cell 1;simp only [List.getElem?_toArray, List.getElem?_cons_zero, List.getElem?_cons_succ] at x0 x1';clear MV hvr3 hvc3 hvf3 b12 b13 hk13 hw13 k13 hf3 HB11
 go_upto_region 10 with fail
 rw [HW13.out];go_wp2_with fail
 refine LD.out.mono ?_; intro e w14 h14;unfold SetEnd at h14;obtain ⟨b14, vr4, vc4, vf4, he, hvr4, hvc4, hvf4⟩ := h14;rw [show ((S4.length - 1 : Nat) : Int) = 1 from rfl] at he;subst he;have hvr4 : EntsAt w13.heap.size vr4 [⟨0, 60, 0⟩] w14 := hvr4;obtain ⟨ar4, cr4, rfl, -, hcr4, hrg4⟩ := shape_of hvr4;obtain ⟨g4, rfl, -, -⟩ := hrg4 (by decide);obtain ⟨ac4, cc4, rfl, -, hcc4, -⟩ := shape_of hvc4;obtain ⟨af4, cf4, rfl, -, hcf4, -⟩ := shape_of hvf4;obtain ⟨f4, hf4⟩ : ∃ n, (freeA (blocksA S1) (blocksA S4)).length = n := ⟨_, rfl⟩;rw [chg4, hf4];obtain ⟨w15, hw15⟩ : ∃ W, w14.alloc (.cells #[.int .i64 1, .slice (some ⟨g4, 0, none⟩) 1 cr4, .slice ac4 1 cc4, .slice af4 f4 cf4] 58) = W := ⟨_, rfl⟩;have hk15 := Blk.new #[.int .i64 1, .slice (some ⟨g4, 0, none⟩) 1 cr4, .slice ac4 1 cc4, .slice af4 f4 cf4] 58 w14;have b15 := balloc1 w14 (.cells #[.int .i64 1, .slice (some ⟨g4, 0, none⟩) 1 cr4, .slice ac4 1 cc4, .slice af4 f4 cf4] 58);rw [hw15] at hk15 b15;have HW15 := Lib.hid hw15;have hs14 := b14.size;have hs15 := b15.size;have HC15 := Lib.hid (bnext b14 b15);have HB15 := Lib.hid (bnext HB13.out HC15.out);have HK15 := Lib.hid hk15;have HVR4 := Lib.hid (row_kept hvr4 b15);have HY := Lib.hid (HK11.out.kept1 (bnext HC13.out HC15.out));have HZ := Lib.hid (HK13.out.kept1 HC15.out);clear LD hvr4 hvc4 hvf4 b14 b15 hk15 hw15 hf4 hrg4 x0 x1' HB13 HK8 HR8
 go_upto_region 11 with fail
 rw [HW15.out];clear HW15;go_wp2_with fail
 refine (HFV.out _).mono ?_; rintro e w16 ⟨u5, rfl, h5, b16⟩;rw [five_eq] at h5;have HC16 := Lib.hid (bnext HC15.out b16);have HVL16 := Lib.hid ((rowE_in HVL.out).kept (bnext (bnext (bnext HY16.out HC13.out) HC15.out) b16));have SX := Lib.hid (samex_any fv5 fv5 _ _ w16 HVL16.out (rowE_in h5));rw [decide_eq_true rfl] at SX;obtain ⟨ag, cg, rfl, -⟩ := shape_of h5;have HD16 := Lib.hid b16;clear h5 b16;go_wp2_with fail
 refine SX.out.mono ?_; rintro e w17 ⟨rfl, b17⟩;have HD17 := Lib.hid (bnext HD16.out b17);have SI := Lib.hid (lints_same _ _ [50] (w17.alloc (.cells #[.int .i64 50] 3)) ((own_in HVN.out).kept (bnext (bnext (bnext (bnext HY16.out HC13.out) HC15.out) HD17.out) (balloc1 w17 (.cells #[.int .i64 50] 3)))) (one_intR w17 50));have HD18 := Lib.hid (bnext HD17.out (balloc1 w17 (.cells #[.int .i64 50] 3)));clear SX b17;go_wp2_with fail
 refine SI.out.mono ?_; rintro e w19 ⟨rfl, b19⟩;have HD19 := Lib.hid (bnext HD18.out b19);have ky := HY.out.kept1 HD19.out;have y0 := ky.cell 0;have y1 := ky.cell 1;have y2 := ky.cell 2;have y3 := ky.cell 3;simp only [List.getElem?_toArray, List.getElem?_cons_zero, List.getElem?_cons_succ] at y0 y1 y2 y3;have SI2 := Lib.hid (lints_same _ _ [50] (w19.alloc (.cells #[.int .i64 50] 3)) ((own_in HVF2.out).kept (bnext (bnext (bnext HC13.out HC15.out) HD19.out) (balloc1 w19 (.cells #[.int .i64 50] 3)))) (one_intR w19 50));have HD20 := Lib.hid (bnext HD19.out (balloc1 w19 (.cells #[.int .i64 50] 3)));clear SI b19 ky;go_wp2_with fail
 refine SI2.out.mono ?_; rintro e w21 ⟨rfl, b21⟩;have HD21 := Lib.hid (bnext HD20.out b21);have kz := HZ.out.kept1 HD21.out;have z2 := kz.cell 2;have kv := HK15.out.kept1 HD21.out;have v1 := kv.cell 1;have v2 := kv.cell 2;have r1 := (row_kept HVR4.out HD21.out).cellAt 1 (by decide);simp only [List.getElem?_toArray, List.getElem?_cons_zero, List.getElem?_cons_succ] at z2 v1 v2;simp only [cellsE, List.flatMap_cons, List.flatMap_nil, List.append_nil, List.getElem?_cons_zero, List.getElem?_cons_succ] at r1;have HEND := Lib.hid (bnext HB8.out (bnext HB15.out HD21.out));clear SI2 b21 kz kv y0 y1 y2 y3;go_wp2;go_ret;exact ⟨rfl, HEND.out⟩
end Go.Proofs.YtknefoemgifbfaaGreat
