import Derived.Test.YtknefoemgifbfaaGreatPd05
import Derived.Test.YtknefoemgifbfaaGreatPd46
import Derived.Test.YtknefoemgifbfaaGreatPd48
set_option linter.unusedVariables false
set_option linter.unusedSimpArgs false
set_option linter.constructorNameAsVariable false
set_option maxRecDepth 100000
set_option maxHeartbeats 16000000
namespace Go.Proofs.YtknefoemgifbfaaGreat
open Go.RowKit
def plcA {σ : Type} (nx : Nx σ) (a t : Int) (L : List Ent) (s0 : σ) (S : Shp) : PlS σ × Shp :=
 chgS (placeF nx) (s0, 0, blocksV (replA (listA S) a t L) ++ singR (sortI (numsA S))) (growA S (replA (listA S) a t L))
def replN {σ : Type} (nx : Nx σ) (rd : Rd) (depth : Int) (root : List Ent) (a t : Int) (L : List Ent) (s0 : σ) : Except Int (Shp × Shp) × σ :=
 if fitB L a t = false then (.error 2, s0) else match loadA rd false depth root with
 | .error c => (.error c, s0)
 | .ok S => if hitA (replA (listA S) a t L) (numsA S) = true then (.error 2, s0) else
   if (plcA nx a t L s0 S).1.2.1 = 0 then (.ok (S, (plcA nx a t L s0 S).2), (plcA nx a t L s0 S).1.1) else (.error (plcA nx a t L s0 S).1.2.1, (plcA nx a t L s0 S).1.1)
def SetEndN {σ : Type} (C : Nat) (I : σ → World → Prop) (a : Except Int (Shp × Shp) × σ) (w : World) (e : Ending) (w' : World) : Prop :=
 Turns noTree C w w' ∧ I a.2 w' ∧ match a.1 with
 | .ok (S, T) => (TellOk S ∧ TellOk T) ∧ ∃ vr vc vf, e = .returned (.tuple #[setV ((T.length - 1 : Nat) : Int) vr vc vf, .int .i64 0]) ∧ EntsAt w.heap.size vr (rootA T) w' ∧ ChgsOwn w.heap.size vc (chgA (blocksA S) (blocksA T)) w' ∧ IntsFk w.heap.size vf (freeA (blocksA S) (blocksA T)) w'
 | .error c => e = .returned (.tuple #[setZ, .int .i64 c]) ∧ c ≠ 0
theorem noTree_set : noTree 58 := by unfold noTree; decide
theorem set4_turns {C X : Nat} (hC : C ≤ X) {w u : World} (hX : TyAt X 58 u) (hb : Turns noTree C w u) (a b c d : Value) : Turns noTree C w (set4 X u a b c d) :=
 hb.trans ((((Turns.set noTree_set hC hX a).trans (Turns.set noTree_set hC (hX.set _ _) b)).trans (Turns.set noTree_set hC ((hX.set _ _).set _ _) c)).trans (Turns.set noTree_set hC (((hX.set _ _).set _ _).set _ _) d))
theorem set4_keep {B X : Nat} (hB : B ≤ X) (u : World) (a b c d : Value) : Below B u (set4 X u a b c d) :=
 ((((Below.refl B u).setCell (p := ⟨X, 0, none⟩) hB a).setCell (p := ⟨X, 1, none⟩) hB b).setCell (p := ⟨X, 2, none⟩) hB c).setCell (p := ⟨X, 3, none⟩) hB d
theorem rp_start (w : World) (T : Array Value) : ∃ W, (w.alloc (.cells T 35)).alloc (.cells setC 58) = W ∧
 Below w.heap.size w W ∧ W.heap.size = w.heap.size + 2 ∧ Blk w.heap.size T 35 W ∧ Blk (w.heap.size + 1) setC 58 W := by
 have b1 := balloc1 w (.cells T 35);have k1 := Blk.new T 35 w;have z1 := size_alloc w (.cells T 35);generalize w.alloc (.cells T 35) = w1 at *;have b2 := balloc1 w1 (.cells setC 58);have k2 := Blk.new setC 58 w1;have z2 := size_alloc w1 (.cells setC 58);generalize w1.alloc (.cells setC 58) = w2 at *;rw [z1] at k2;exact ⟨w2, rfl, bnext b1 b2, by omega, k1.kept1 b2, k2⟩
theorem Freshes.more {σ : Type} {nx : Nx σ} {fv : Value} {go : σ → Prop} {I : σ → World → Prop} {C B : Nat} (h : Freshes nx fv go I C B) {g B' : Nat} {cs : Array Value} {ty : TypeId} (h1 : B ≤ g) (h2 : g < B') : Freshes nx fv go (fun s W => I s W ∧ Blk g cs ty W) C B' := by
 refine ⟨h.val, fun T hT s v w hgo hB hI hv => ?_, fun s W W' hB hI hb => ⟨h.keep s W W' (by omega) hI.1 (hb.mono (by omega)), (hb.block g h2).trans hI.2⟩, h.next⟩;refine (h.ask T hT s v w hgo (by omega) hI.1 (row_down (by omega) hv)).mono ?_;rintro e w' ⟨rfl, k1, k2, k3⟩;exact ⟨rfl, ⟨k1, (k3 g h1 (by omega)).trans hI.2⟩, k2, fun k j1 j2 => k3 k (by omega) j2⟩
theorem fkreplace_any {σ : Type} (nx : Nx σ) (fv : Value) (go : σ → Prop) (I : σ → World → Prop) (C B : Nat) (hF : Freshes nx fv go I C B) (hCB : C ≤ B) (fn : Nat) (caps : Array Value) (rd : Rd) (w : World) (hB : B ≤ w.heap.size) (hrd : Reads fn caps rd w.heap.size w) (depth : Int) (hdi : I64 depth) (root : List Ent) (hf : fitE root) (v : Value) (hv : EntsIn v root w) (hroot : EntsS C v root w)
 (a t : Int) (hai : I64 a) (hti : I64 t) (L : List Ent) (hfL : fitE L) (hL4 : L.length ≤ 4000) (u : Value) (hu : EntsIn u L w) (s0 : σ) (hgo : go s0) (hI : I s0 w) :
 Calls Tryz.prog 28 #[.agg #[.int .i64 depth, v], .func (.func fn) #[] caps, .int .i64 a, .int .i64 t, u, fv] w (SetEndN C I (replN nx rd depth root a t L s0) w) := by
 have mixed : Tryz.prog.follows .mixedOrders = true := by kernel_rfl
 obtain ⟨ad, cap, rfl, -⟩ := entsIn_cells hv;obtain ⟨au, cu, rfl, -⟩ := entsIn_cells hu;obtain ⟨W2, hW2, hb2, hz2, kT, ks⟩ := rp_start w #[.int .i64 depth, .slice ad root.length cap];have HFIT := Lib.hid (fkfit_any L hfL hL4 a t (.slice au L.length cu) W2 (hu.kept hb2));have LD := Lib.hid fun W (hb : Below W2.heap.size W2 W) => fkload_all fn caps rd W (hrd.kept (bnext hb2 hb) (bnext hb2 hb).size) depth hdi root hf (.slice ad root.length cap) (hv.kept (bnext hb2 hb)) C (by have := (bnext hb2 hb).size; omega) (hroot.kept (Grows.of_below (bnext hb2 hb)));have HB2 := Lib.hid hb2;have HS := Lib.hid ks;have HTR := Lib.hid kT;have HZ2 := Lib.hid hz2;have HU := Lib.hid hu;have HFF := Lib.hid hF;have HI0 := Lib.hid hI;have hKEEP : Hid (∀ s W W', B ≤ W.heap.size → I s W → Below B W W' → I s W') := Lib.hid hF.keep;obtain ⟨R, hR⟩ : ∃ R, replN nx rd depth root a t L s0 = R := ⟨_, rfl⟩;have HR := Lib.hid hR;rw [hR];have hfl := HFIT;obtain ⟨fb, hfb⟩ : ∃ b, fitB L a t = b := ⟨_, rfl⟩;rw [hfb] at HFIT;have HFB := Lib.hid hfb;clear hv hu hrd hb2 ks kT hz2 hF hI hroot hR hfb hfl;have hsz : W2.heap.size = w.heap.size + 2 := HZ2.out
 go_enter Tryz.func28, Tryz.ntmps28
 go_upto_region 1 with fail
 try rw [hW2]
 clear hW2;go_wp2_with fail
 refine HFIT.out.mono ?_; rintro e w3 ⟨rfl, b3⟩;have HB3 := Lib.hid b3;clear HFIT b3
 cases fb with
 | false =>
   have HE : Hid (R = (.error 2, s0)) := Lib.hid (by rw [← HR.out]; unfold replN; rw [if_pos HFB.out]);have hks := HS.out.kept1 HB3.out;have HTZ : Hid (Turns noTree C w w3) := Lib.hid (Turns.of_below (bnext HB2.out HB3.out));have HIZ : Hid (I s0 w3) := Lib.hid (hKEEP.out _ _ _ hB HI0.out ((bnext HB2.out HB3.out).mono hB));have HNE : Hid ((2 : Int) ≠ 0) := Lib.hid (by decide);have hsz3 := HB3.out.size;clear HFB HR;have s0c := hks.cell 0;have s1 := hks.cell 1;have s2 := hks.cell 2;have s3 := hks.cell 3;have f0 := hks.frozen 0;have f1 := hks.frozen 1;have f2 := hks.frozen 2;have f3 := hks.frozen 3;simp only [List.getElem?_toArray, List.getElem?_cons_zero, List.getElem?_cons_succ] at s0c s1 s2 s3;have HD := Lib.hid (set4_turns (C := C) (X := w.heap.size + 1) (by omega) ⟨_, _, hks⟩ HTZ.out);have HIE := Lib.hid fun a b c d => hKEEP.out _ _ _ (by omega) HIZ.out (set4_keep (B := B) (X := w.heap.size + 1) (by omega) _ a b c d);clear hks;go_wp2
   (try simp only [Exit.inBlock, Exit.then])
   refine bodyPost_ret (v := .tuple #[setZ, .int .i64 2]) ?_ rfl ?_
   ·rw [results_cell_tmp rfl]
    go_simp
   ·unfold SetEndN
    rw [HE.out];exact ⟨HD.out _ _ _ _, HIE.out _ _ _ _, rfl, HNE.out⟩
 | true =>
   have hk3 := HTR.out.kept1 HB3.out;have c0 := hk3.cell 0;have c1 := hk3.cell 1;simp only [List.getElem?_toArray, List.getElem?_cons_zero, List.getElem?_cons_succ] at c0 c1;have LD3 := Lib.hid (LD.out _ HB3.out);clear LD hk3;go_wp2_with fail
   refine LD3.out.mono ?_; rintro e w6 ⟨b6, h6⟩;clear LD3 c0 c1;have hsz3 := HB3.out.size;have HB6 := Lib.hid (bnext HB3.out b6);have hsz6 := b6.size
   cases hla : loadA rd false depth root with
   | error ec =>
     rw [hla] at h6;obtain ⟨rfl, n6⟩ := h6;have HE : Hid (R = (.error ec, s0)) := Lib.hid (by rw [← HR.out]; unfold replN; rw [if_neg (by rw [HFB.out]; simp), hla]);have hks := HS.out.kept1 HB6.out;have HTZ : Hid (Turns noTree C w w6) := Lib.hid (Turns.of_below (bnext HB2.out HB6.out));have HIZ : Hid (I s0 w6) := Lib.hid (hKEEP.out _ _ _ hB HI0.out ((bnext HB2.out HB6.out).mono hB));have HNE : Hid (ec ≠ 0) := Lib.hid n6
     have te : (ec != 0) = true := by rw [bne_iff_ne]; exact n6
     clear hla b6 HFB HR n6;have s0c := hks.cell 0;have s1 := hks.cell 1;have s2 := hks.cell 2;have s3 := hks.cell 3;have f0 := hks.frozen 0;have f1 := hks.frozen 1;have f2 := hks.frozen 2;have f3 := hks.frozen 3;simp only [List.getElem?_toArray, List.getElem?_cons_zero, List.getElem?_cons_succ] at s0c s1 s2 s3;have HD := Lib.hid (set4_turns (C := C) (X := w.heap.size + 1) (by omega) ⟨_, _, hks⟩ HTZ.out);have HIE := Lib.hid fun a b c d => hKEEP.out _ _ _ (by omega) HIZ.out (set4_keep (B := B) (X := w.heap.size + 1) (by omega) _ a b c d);clear hks;go_wp2
     (try simp only [Exit.inBlock, Exit.then])
     refine bodyPost_ret (v := .tuple #[setZ, .int .i64 ec]) ?_ rfl ?_
     ·rw [results_cell_tmp rfl]
      go_simp
     ·unfold SetEndN
      rw [HE.out];exact ⟨HD.out _ _ _ _, HIE.out _ _ _ _, rfl, HNE.out⟩
   | ok S =>
     rw [hla] at h6;obtain ⟨G, V, rfl, hsp, hr4, hpos⟩ := h6;obtain ⟨hgood, -, -⟩ := loadA_good hla;obtain ⟨k1, k2, k3⟩ := repl_ok hla HFB.out;have hfit := HFB.out;unfold fitB at hfit;simp only [Bool.and_eq_true, Bool.not_eq_true', decide_eq_false_iff_not] at hfit;obtain ⟨⟨⟨⟨fa0, fa1⟩, fa2⟩, -⟩, -⟩ := hfit;obtain ⟨K, hK⟩ : ∃ K, replA (listA S) a t L = K := ⟨_, rfl⟩;have hin := shpAt_in hsp (by have := hr4.1; omega)
     have hS5 : S.length ≤ 1000 := by have := hr4.1; omega
     have HLST := Lib.hid (fklist_any S hr4.small hpos _ w6 hin);have hlf : fitE (listA S) := hr4.fit 0;have hll : (listA S).length ≤ 2048 := row_len hgood.rise;have HRP := Lib.hid fun va W (h1 : EntsIn va (listA S) W) (h2 : Below w.heap.size w W) => fkreplaced_any (listA S) hlf (by omega) a t (by omega) (by omega) (by omega) L hL4 va (.slice au L.length cu) W h1 (HU.out.kept h2);have HND := Lib.hid fun W (h : Below w6.heap.size w6 W) => fknodes_any S hr4.small hr4.nums _ W (shapeIn_kept hin h);rw [hK] at HRP k1 k2 k3;have hKf : fitE K := fun e he => (k3 e he).1.fit;have HHT := Lib.hid fun vb va W (h : EntsIn va K W) (hb : IntsR vb (sortI (numsA S)) W) => fkhit_any K k1 hKf (by omega) (sortI (numsA S)) (by rw [sortI_len]; exact hr4.nums) (fun b hb => hr4.ints b ((sortI_mem _ _).1 hb)) va vb W h hb;rw [hit_sort] at HHT;obtain ⟨hit, hhit⟩ : ∃ b, hitA K (numsA S) = b := ⟨_, rfl⟩;rw [hhit] at HHT;have HRE : Hid (R = if hit = true then (.error 2, s0) else if (plcA nx a t L s0 S).1.2.1 = 0 then (.ok (S, (plcA nx a t L s0 S).2), (plcA nx a t L s0 S).1.1) else (.error (plcA nx a t L s0 S).1.2.1, (plcA nx a t L s0 S).1.1)) := Lib.hid (by rw [← HR.out]; unfold replN; rw [if_neg (by rw [HFB.out]; simp), hla, ← hhit, ← hK]);have HLA := Lib.hid hla;have HG := Lib.hid hgood;have HR4 := Lib.hid hr4;have HSP := Lib.hid hsp;have HKK := Lib.hid hK;have HK1 := Lib.hid k1;have HK2 := Lib.hid k2;have HK3 := Lib.hid k3;have HKF := Lib.hid hKf;clear hla hsp hr4 hgood hin hlf hll hK k1 k2 k3 hKf hhit b6;have te : ((0 : Int) != 0) = false := rfl;go_wp2_with fail
     refine HLST.out.mono ?_; rintro e w7 ⟨u7, rfl, hu7, b7⟩;have HU7 := Lib.hid (rowE_in hu7);have HB7 := Lib.hid b7;clear HLST hu7 b7;go_wp2_with fail
     refine (HRP.out _ _ HU7.out (bnext (bnext HB2.out HB6.out) HB7.out)).mono ?_; rintro e w8 ⟨u8, rfl, hu8, b8⟩;have HU8 := Lib.hid hu8;have HB8 := Lib.hid (bnext HB7.out b8);clear HRP HU7 hu8 b8 HB7;go_wp2_with fail
     refine (HND.out _ HB8.out).mono ?_; rintro e w9 ⟨u9, rfl, hu9, b9⟩;have HU8 := Lib.hid (HU8.out.kept b9);have HU9 := Lib.hid (own_in hu9);have HB9 := Lib.hid (bnext HB8.out b9);clear HND hu9 b9 HB8;go_wp2_with fail
     refine (HHT.out _ _ _ HU8.out HU9.out).mono ?_; rintro e w10 ⟨rfl, b10⟩;have HU8 := Lib.hid (HU8.out.kept b10);have HU9 := Lib.hid (HU9.out.kept b10);have HB10 := Lib.hid (bnext HB9.out b10);have hsz10 := HB10.out.size;clear HHT b10 HB9
     cases hit with
     | true =>
       have HE : Hid (R = (.error 2, s0)) := Lib.hid (by rw [HRE.out, if_pos rfl]);have hks := HS.out.kept1 (bnext HB6.out HB10.out);have HTZ : Hid (Turns noTree C w w10) := Lib.hid (Turns.of_below (bnext (bnext HB2.out HB6.out) HB10.out));have HIZ : Hid (I s0 w10) := Lib.hid (hKEEP.out _ _ _ hB HI0.out ((bnext (bnext HB2.out HB6.out) HB10.out).mono hB));have HNE : Hid ((2 : Int) ≠ 0) := Lib.hid (by decide);clear HFB HR;have s0c := hks.cell 0;have s1 := hks.cell 1;have s2 := hks.cell 2;have s3 := hks.cell 3;have f0 := hks.frozen 0;have f1 := hks.frozen 1;have f2 := hks.frozen 2;have f3 := hks.frozen 3;simp only [List.getElem?_toArray, List.getElem?_cons_zero, List.getElem?_cons_succ] at s0c s1 s2 s3;have HD := Lib.hid (set4_turns (C := C) (X := w.heap.size + 1) (by omega) ⟨_, _, hks⟩ HTZ.out);have HIE := Lib.hid fun a b c d => hKEEP.out _ _ _ (by omega) HIZ.out (set4_keep (B := B) (X := w.heap.size + 1) (by omega) _ a b c d);clear hks;go_wp2
       (try simp only [Exit.inBlock, Exit.then])
       refine bodyPost_ret (v := .tuple #[setZ, .int .i64 2]) ?_ rfl ?_
       ·rw [results_cell_tmp rfl]
        go_simp
       ·unfold SetEndN
        rw [HE.out];exact ⟨HD.out _ _ _ _, HIE.out _ _ _ _, rfl, HNE.out⟩
     | false =>
       have HRE2 : Hid (R = if (plcA nx a t L s0 S).1.2.1 = 0 then (.ok (S, (plcA nx a t L s0 S).2), (plcA nx a t L s0 S).1.1) else (.error (plcA nx a t L s0 S).1.2.1, (plcA nx a t L s0 S).1.1)) := Lib.hid (by rw [HRE.out, if_neg (by simp)]);obtain ⟨P, hP⟩ : ∃ P, plcA nx a t L s0 S = P := ⟨_, rfl⟩;rw [hP] at HRE2
       have hP2 : chgS (placeF nx) (s0, 0, blocksV K ++ singR (sortI (numsA S))) (growA S K) = P := by rw [← hP, ← HKK.out]; rfl
       obtain ⟨⟨s1, ec, T1⟩, N⟩ := P;have HP := Lib.hid hP2
       have hT0 : fitR (blocksV K ++ singR (sortI (numsA S))) := by
        intro r hr;rcases List.mem_append.1 hr with hr | hr
        ·unfold blocksV at hr; rw [if_pos HK1.out] at hr; exact (norm_norm (physR K)).fit r hr
        ·obtain ⟨b, hb, rfl⟩ := List.mem_map.1 hr
         exact ⟨HR4.out.ints b ((sortI_mem _ _).1 hb), ⟨by show _ ≤ (1 : Int); omega, by show (1 : Int) ≤ _; omega⟩⟩
       have hlb : (blocksV K).length ≤ 4000 := by
        unfold blocksV; rw [if_pos HK1.out];have h1 := norm_len (physR K);rw [phys_len] at h1;have h2 := HK2.out;unfold blocksX; omega
       have hls : (singR (sortI (numsA S))).length ≤ 900000 := by rw [singR_len, sortI_len]; exact HR4.out.nums
       have hl0 : (blocksV K ++ singR (sortI (numsA S))).length ≤ 1000000 := by rw [List.length_append]; omega
       have hgs := grow_small HG.out.well HR4.out.small (load_depth HLA.out) (L := K) HK2.out;have hgf := grow_fair HG.out.well (load_fair HLA.out) (L := K) fun e he => (HK3.out e he).1
       have hgn : ∀ r, ∀ x ∈ rowA (growA S K) r, x.length ≤ 1000000 ∧ fitE x := fun r x hx => ⟨by
        have h1 := (hgs.1.2 r).2;have h2 : x.length ≤ (rowA (growA S K) r).flatten.length := (List.sublist_flatten_of_mem hx).length_le
        omega, fun e he => (hgf r e (List.mem_flatten.2 ⟨x, hx, he⟩)).fit⟩
       have hNl : N.length = (growA S K).length := by
        have := chgS_len (placeF nx) (s0, 0, blocksV K ++ singR (sortI (numsA S))) (growA S K);rw [hP2] at this; exact this
       have hst : ShapeT (frC C) (.slice (some ⟨G, 0, none⟩) S.length S.length) S w10 := (HSP.out.kept HB10.out).st hS5 fun v x h => EntsT.of_s (Nat.le_refl _) h;have HGR := Lib.hid (fkgrow_any C S HG.out.well HR4.out.small (fun r => by have := ((HR4.out.2 r).1); omega) K (by have := HK2.out; omega) _ u8 w10 hst HU8.out);have HF2 : Freshes nx fv go (fun s W => I s W ∧ Blk (w.heap.size + 1) setC 58 W) C (w.heap.size + 2) := HFF.out.more (by omega) (by omega);have hPL := fun us ut W (h1 : w.heap.size + 2 ≤ W.heap.size) (h2 : ShapeT (frC C) us (growA S K) W) (h3 : RunsAt (w.heap.size + 2) ut (blocksV K ++ singR (sortI (numsA S))) W) (h4 : I s0 W ∧ Blk (w.heap.size + 1) setC 58 W) => fkplace_any nx fv go _ C (w.heap.size + 2) HF2 (by omega) _ hT0 hl0 (growA S K) hgs.1 hgn s0 us ut W h1 h2 h3 hgo h4;rw [hP2] at hPL;dsimp only at hPL;have HPL := Lib.hid hPL;have HNL := Lib.hid hNl;have HGS := Lib.hid hgs;clear hPL hP hP2 hT0 hl0 hgs hgf hgn hNl hst HRE HF2;go_wp2_with fail
       refine HGR.out.mono ?_; rintro e w11 ⟨u11, rfl, hu11, b11⟩;have HU11 := Lib.hid hu11;have HB11 := Lib.hid b11;have HBL := Lib.hid (xblocks_any K HKF.out (by have := HK2.out; omega) u8 w11 (HU8.out.kept b11));clear HGR hu11 b11;go_wp2_with fail
       refine HBL.out.mono ?_; rintro e w12 ⟨u12, rfl, hu12, b12⟩;have HU12 := Lib.hid hu12;have HB12 := Lib.hid b12;have HSI := Lib.hid (singles_any (sortI (numsA S)) (by rw [sortI_len]; have := HR4.out.nums; omega) u9 w12 (HU9.out.kept (bnext HB11.out b12)));clear HBL hu12 b12;go_wp2_with fail
       refine HSI.out.mono ?_; rintro e w13 ⟨u13, rfl, hu13, b13⟩;have hu12 := row_kept HU12.out b13;obtain ⟨p12, q12, rfl, -⟩ := shape_of hu12;obtain ⟨p13, q13, rfl, -⟩ := shape_of hu13;have b14 := balloc1 w13 (.cells #[.slice p12 (blocksV K).length q12, .slice p13 (singR (sortI (numsA S))).length q13] 126);have HCC := Lib.hid (concat_any (blocksV K) (singR (sortI (numsA S))) (by omega) _ _ w13.heap.size (w13.alloc (.cells #[.slice p12 (blocksV K).length q12, .slice p13 (singR (sortI (numsA S))).length q13] 126)) (by rw [size_alloc]; omega) (by rw [World.cell?_alloc_mark]; rfl) (by rw [World.cell?_alloc_mark]; rfl) (runsIn_kept (runsAt_in hu12) b14) (runsIn_kept (runsAt_in hu13) b14));have HB14 := Lib.hid (bnext (bnext HB12.out b13) b14);clear HSI hu12 hu13 b13 b14 HU12 HU9;go_wp2_with fail
       refine HCC.out.mono ?_; rintro e w15 ⟨u15, rfl, hu15, b15⟩;have HB15 := Lib.hid (bnext HB14.out b15);have hsz14 := HB14.out.size;have hsz15 := HB15.out.size;have HY15 := Lib.hid (bnext (bnext HB10.out HB11.out) HB15.out);have HX15 := Lib.hid (bnext (bnext HB2.out HB6.out) HY15.out);have hsy15 := HX15.out.size;have hsw15 := (bnext HB6.out HY15.out).size;have hsw14 := (bnext HB6.out (bnext (bnext HB10.out HB11.out) HB14.out)).size;have HPL2 := Lib.hid (HPL.out u11 u15 w15 (by omega) (HU11.out.keep (Turns.of_below HB15.out)) (row_down (by omega) hu15) ⟨hKEEP.out _ _ _ hB HI0.out (HX15.out.mono hB), HS.out.kept1 (bnext HB6.out HY15.out)⟩);clear HPL HCC hu15 b15 HU11;go_wp2_with fail
       refine HPL2.out.mono ?_; rintro e w16 ⟨G2, V2, rfl, hs2, ⟨hi2, hks⟩, -, ht2⟩;have HTT := Lib.hid ((Turns.of_below (p := noTree) (B := C) HX15.out).trans ht2);have hsz16 := ht2.size;have HIZ := Lib.hid hi2;have HKS := Lib.hid hks;by_cases h0 : ec = 0
       ·subst h0
        have HE : Hid (R = (.ok (S, N), s1)) := Lib.hid (by rw [HRE2.out]; exact if_pos rfl);have hTL := repl_tell nx s0 HLA.out HR4.out HFB.out (blocksV K ++ singR (sortI (numsA S))) (taken_all HLA.out _) (by rw [HKK.out, HP.out]);rw [HKK.out, HP.out] at hTL;have hrw := shp_rows hs2 (by have := HGS.out.2; show N.length ≤ 1000; rw [HNL.out]; omega);rw [show ((s1, (0 : Int), T1), N).2.length = (growA S K).length from HNL.out] at hrw;have hin16 := shpAt_in ((HSP.out.kept HY15.out).turns ht2 (fun v x a b => ents_turns (Nat.le_refl _) v x a b)) (by have := HR4.out.1; omega);have HTOK : Hid (TellOk S ∧ TellOk N) := Lib.hid ⟨tell_read HG.out HR4.out, hTL⟩;have HDF := Lib.hid (fkdiffer_any (EntsAt (w15.heap.size + 3)) w16 (fun v x w h => entsAt_in h) (keeps_own _ _) S N (tell_read HG.out HR4.out) hTL _ _ hin16 hrw);clear hTL hrw hin16 hs2 ht2 hi2 hks HPL2 HRE2 HP;go_wp2_with fail
        refine HDF.out.mono ?_; rintro e w17 ⟨vr, vc, vf, rfl, hvr, hvc, hvf, b17⟩;have hks := HKS.out.kept1 b17;have s0c := hks.cell 0;have s1 := hks.cell 1;have s2 := hks.cell 2;have s3 := hks.cell 3;have f0 := hks.frozen 0;have f1 := hks.frozen 1;have f2 := hks.frozen 2;have f3 := hks.frozen 3;simp only [List.getElem?_toArray, List.getElem?_cons_zero, List.getElem?_cons_succ] at s0c s1 s2 s3;have hty : TyAt (w.heap.size + 1) 58 w17 := ⟨_, _, hks⟩;have HD := Lib.hid (set4_turns (C := C) (X := w.heap.size + 1) (by omega) hty (HTT.out.trans (Turns.of_below b17)));have HIE := Lib.hid fun a b c d => hKEEP.out _ _ _ (by omega) HIZ.out ((b17.mono (by omega)).trans (set4_keep (B := B) (X := w.heap.size + 1) (by omega) _ a b c d));have HV1 := Lib.hid fun a b c d => row_down (show w.heap.size ≤ w15.heap.size + 3 by omega) (set4_row hty (by decide) hvr a b c d);have HV2 := Lib.hid fun a b c d => row_down (show w.heap.size ≤ w16.heap.size by omega) (set4_row hty (by decide) hvc a b c d);have HV3 := Lib.hid fun a b c d => row_down (show w.heap.size ≤ w16.heap.size by omega) (set4_row hty (by decide) hvf a b c d);obtain ⟨ra, rc, rfl, -⟩ := shape_of hvr;obtain ⟨ca, cc, rfl, -⟩ := shape_of hvc;obtain ⟨fa, fc, rfl, -⟩ := shape_of hvf;clear hks HDF hvr hvc hvf b17 hty;go_wp2
        (try simp only [Exit.inBlock, Exit.then])
        refine bodyPost_ret (v := .tuple #[setV ((N.length - 1 : Nat) : Int) (.slice ra (rootA N).length rc) (.slice ca (chgA (blocksA S) (blocksA N)).length cc) (.slice fa (freeA (blocksA S) (blocksA N)).length fc), .int .i64 0]) ?_ rfl ?_
        ·rw [results_cell_tmp rfl]
         go_simp
        ·unfold SetEndN
         rw [HE.out];exact ⟨HD.out _ _ _ _, HIE.out _ _ _ _, HTOK.out, _, _, _, rfl, HV1.out _ _ _ _, HV2.out _ _ _ _, HV3.out _ _ _ _⟩
       ·have HE : Hid (R = (.error ec, s1)) := Lib.hid (by rw [HRE2.out]; exact if_neg h0)
        have HNE : Hid (ec ≠ 0) := Lib.hid h0
        have te2 : (ec != 0) = true := by rw [bne_iff_ne]; exact h0
        have HTZ := HTT;clear h0 hs2 ht2 hi2 HPL2 HRE2 HP;have s0c := hks.cell 0;have s1 := hks.cell 1;have s2 := hks.cell 2;have s3 := hks.cell 3;have f0 := hks.frozen 0;have f1 := hks.frozen 1;have f2 := hks.frozen 2;have f3 := hks.frozen 3;simp only [List.getElem?_toArray, List.getElem?_cons_zero, List.getElem?_cons_succ] at s0c s1 s2 s3;have HD := Lib.hid (set4_turns (C := C) (X := w.heap.size + 1) (by omega) ⟨_, _, hks⟩ HTZ.out);have HIE := Lib.hid fun a b c d => hKEEP.out _ _ _ (by omega) HIZ.out (set4_keep (B := B) (X := w.heap.size + 1) (by omega) _ a b c d);clear hks;go_wp2
        (try simp only [Exit.inBlock, Exit.then])
        refine bodyPost_ret (v := .tuple #[setZ, .int .i64 ec]) ?_ rfl ?_
        ·rw [results_cell_tmp rfl]
         go_simp
        ·unfold SetEndN
         rw [HE.out];exact ⟨HD.out _ _ _ _, HIE.out _ _ _ _, rfl, HNE.out⟩
end Go.Proofs.YtknefoemgifbfaaGreat
