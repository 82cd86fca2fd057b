import Derived.Test.YtknefoemgifbfaaGreatPd42
import Derived.Laws.EntriesVeiled
set_option linter.unusedVariables false
set_option linter.unusedSimpArgs false
set_option linter.constructorNameAsVariable false
set_option maxRecDepth 100000
set_option maxHeartbeats 16000000
namespace Go.Proofs.YtknefoemgifbfaaGreat
open Go.RowKit
abbrev setV (d : Int) (r c f : Value) : Value := .agg #[.int .i64 d, r, c, f]
abbrev setZ : Value := setV 0 (.slice none 0 0) (.slice none 0 0) (.slice none 0 0)
abbrev setC : Array Value := #[.int .i64 0, .slice none 0 0, .slice none 0 0, .slice none 0 0]
def SetEnd (a : Except Int (Shp × Shp)) (w : World) (e : Ending) (w' : World) : Prop :=
 Below w.heap.size w w' ∧ match a with
 | .ok (S, T) => ∃ vr vc vf, e = .returned (.tuple #[setV ((T.length - 1 : Nat) : Int) vr vc vf, .int .i64 0]) ∧ EntsAt w.heap.size vr (rootA T) w' ∧ ChgsOwn w.heap.size vc (chgA (blocksA S) (blocksA T)) w' ∧ IntsFk w.heap.size vf (freeA (blocksA S) (blocksA T)) w'
 | .error c => e = .returned (.tuple #[setZ, .int .i64 c]) ∧ c ≠ 0
def moveA (rd : Rd) (depth : Int) (root : List Ent) (lg n tt : Int) : Except Int (Shp × Shp) :=
 match loadA rd false depth root with
 | .error c => .error c
 | .ok S => if (listA S).any (mvP lg n) = false then .error 4
   else if RowOk true [⟨lg, tt, n⟩] ∧ hitA [⟨lg, tt, n⟩] (numsA S) = false then .ok (S, (chgS (mvF lg n tt) () S).2) else .error 2
abbrev set4 (X : Nat) (u : World) (a b c d : Value) : World := (((u.setCell ⟨X, 0, none⟩ a).setCell ⟨X, 1, none⟩ b).setCell ⟨X, 2, none⟩ c).setCell ⟨X, 3, none⟩ d
theorem set4_below {X : Nat} {w u : World} (hXw : w.heap.size ≤ X) (hb : Below w.heap.size w u) (a b c d : Value) : Below w.heap.size w (set4 X u a b c d) :=
 (((hb.setCell (p := ⟨X, 0, none⟩) hXw a).setCell (p := ⟨X, 1, none⟩) hXw b).setCell (p := ⟨X, 2, none⟩) hXw c).setCell (p := ⟨X, 3, none⟩) hXw d
theorem set4_row {X B n z : Nat} {e : TypeId} {v : Value} {xs : List Value} {u : World} (hX : TyAt X 58 u) (he : 58 ≠ e) (h : u.ownsRow B e z v n xs) (a b c d : Value) : (set4 X u a b c d).ownsRow B e z v n xs :=
 own_other (own_other (own_other (own_other h hX he) (hX.set _ _) he) ((hX.set _ _).set _ _) he) (((hX.set _ _).set _ _).set _ _) he
theorem shp_rows {P : Value → List Ent → World → Prop} {B G : Nat} {S : Shp} {V : Nat → Value} {w : World} (h : ShpAt P B G S V w) (hD : S.length ≤ 1000) : RowsIn (RowsIn P) (.slice (some ⟨G, 0, none⟩) S.length S.length) S w := by
 refine ⟨(List.range S.length).map V, by simp, ⟨by simp, _, _, rfl, Nat.le_refl _, by unfold maxLen; omega, fun _ => ⟨G, 0, rfl, h.cells.1, fun k u hk => ?_⟩, fun e => by cases e⟩, fun k h1 h2 => ?_⟩
 ·rw [Nat.zero_add]
  have hlt := (List.getElem?_eq_some_iff.1 hk).1;rw [List.length_map, List.length_range] at hlt;rw [List.getElem?_map, List.getElem?_range hlt] at hk
  injection hk with hk
  rw [← hk];exact (h.cells.2 k hlt).1
 ·obtain ⟨Vs, v1, v2, v3⟩ := h.rows k h2
  rw [rowA_at h2] at v1 v2 v3;simp only [List.getElem_map, List.getElem_range];exact ⟨Vs, v1, own_in v2, v3⟩
theorem mv_start (w : World) (T : Array Value) (lg n tt : Int) : ∃ W, ((((w.alloc (.cells T 35)).alloc (.cells #[.int .i64 lg] 3)).alloc (.cells #[.int .i64 n] 3)).alloc (.cells #[.int .i64 tt] 3)).alloc (.cells setC 58) = W ∧
 Below w.heap.size w W ∧ W.heap.size = w.heap.size + 5 ∧ Blk w.heap.size T 35 W ∧ Blk (w.heap.size + 1) #[.int .i64 lg] 3 W ∧ Blk (w.heap.size + 1 + 1) #[.int .i64 n] 3 W ∧ Blk (w.heap.size + 1 + 1 + 1) #[.int .i64 tt] 3 W ∧ Blk (w.heap.size + 1 + 1 + 1 + 1) setC 58 W := by
 have b1 := balloc1 w (.cells T 35);have k1 := Blk.new T 35 w;have z1 := size_alloc w (.cells T 35);generalize w.alloc (.cells T 35) = w1 at *;have b2 := balloc1 w1 (.cells #[.int .i64 lg] 3);have k2 := Blk.new #[.int .i64 lg] 3 w1;have z2 := size_alloc w1 (.cells #[.int .i64 lg] 3);generalize w1.alloc (.cells #[.int .i64 lg] 3) = w2 at *;have b3 := balloc1 w2 (.cells #[.int .i64 n] 3);have k3 := Blk.new #[.int .i64 n] 3 w2;have z3 := size_alloc w2 (.cells #[.int .i64 n] 3);generalize w2.alloc (.cells #[.int .i64 n] 3) = w3 at *;have b4 := balloc1 w3 (.cells #[.int .i64 tt] 3);have k4 := Blk.new #[.int .i64 tt] 3 w3;have z4 := size_alloc w3 (.cells #[.int .i64 tt] 3);generalize w3.alloc (.cells #[.int .i64 tt] 3) = w4 at *;have b5 := balloc1 w4 (.cells setC 58);have k5 := Blk.new setC 58 w4;have z5 := size_alloc w4 (.cells setC 58);generalize w4.alloc (.cells setC 58) = w5 at *;rw [z1] at k2; rw [z2, z1] at k3; rw [z3, z2, z1] at k4; rw [z4, z3, z2, z1] at k5;exact ⟨w5, rfl, bnext (bnext (bnext (bnext b1 b2) b3) b4) b5, by omega, k1.kept1 (bnext (bnext (bnext b2 b3) b4) b5), k2.kept1 (bnext (bnext b3 b4) b5), k3.kept1 (bnext b4 b5), k4.kept1 b5, k5⟩
theorem fkmove_any (fn : Nat) (caps : Array Value) (rd : Rd) (w : World) (hrd : Reads fn caps rd w.heap.size w) (depth : Int) (hdi : I64 depth) (root : List Ent) (hf : fitE root) (v : Value) (hv : EntsIn v root w) (lg n tt : Int) (hlg : I64 lg) (hn : I64 n) (htt : I64 tt) :
 Calls Tryz.prog 24 #[.agg #[.int .i64 depth, v], .func (.func fn) #[] caps, .int .i64 lg, .int .i64 n, .int .i64 tt] w (SetEnd (moveA rd depth root lg n tt) w) := by
 have mixed : Tryz.prog.follows .mixedOrders = true := by kernel_rfl
 have hmf : ∀ (fn : Fn) (first cap : Array Value) (w : World), (Instr.makeFunc fn first cap).run Tryz.prog w = .ok (.func fn first cap) w := fun _ _ _ _ => rfl;have eg : ∀ args w, (callFunc 56 args).run Tryz.prog w = .ok (.enter 56 args) w := enters_of Tryz.func56 (by kernel_rfl) rfl;obtain ⟨ad, cap, rfl, -⟩ := entsIn_cells hv;obtain ⟨W5, hW5, hb5, hz5, kT, ka, kb, kt, ks⟩ := mv_start w #[.int .i64 depth, .slice ad root.length cap] lg n tt;have LD := Lib.hid (fkload_all fn caps rd W5 (hrd.kept hb5 hb5.size) depth hdi root hf (.slice ad root.length cap) (hv.kept hb5) W5.heap.size (Nat.le_refl _) (EntsS.old (hv.kept hb5) (Nat.le_refl _) (Below.refl _ _) (Nat.le_refl _)));have HB5 := Lib.hid hb5;have HA := Lib.hid ka;have HBB := Lib.hid kb;have HT := Lib.hid kt;have HS := Lib.hid ks;have HZ5 := Lib.hid hz5;have c0 := kT.cell 0;have c1 := kT.cell 1;simp only [List.getElem?_toArray, List.getElem?_cons_zero, List.getElem?_cons_succ] at c0 c1
 have HMA : Hid (∀ S, loadA rd false depth root = .ok S → moveA rd depth root lg n tt = if (listA S).any (mvP lg n) = false then .error 4
  else if RowOk true [⟨lg, tt, n⟩] ∧ hitA [⟨lg, tt, n⟩] (numsA S) = false then .ok (S, (chgS (mvF lg n tt) () S).2) else .error 2) := Lib.hid fun S h => by unfold moveA; rw [h]
 have HME : Hid (∀ c, loadA rd false depth root = .error c → moveA rd depth root lg n tt = .error c) := Lib.hid fun c h => by unfold moveA; rw [h]
 clear hv hrd hb5 ka kb kt ks kT hz5
 go_enter Tryz.func24, Tryz.ntmps24
 go_upto_region 1 with fail
 try rw [hW5]
 clear hW5;go_wp2_with fail
 refine LD.out.mono ?_; rintro e w6 ⟨b6, h6⟩;clear LD c0 c1
 cases hla : loadA rd false depth root with
 | error c =>
   rw [hla] at h6;obtain ⟨rfl, n6⟩ := h6;have HE := Lib.hid (HME.out c hla);have hks := HS.out.kept1 b6;have HKS := Lib.hid hks;have s0 := hks.cell 0;have s1 := hks.cell 1;have s2 := hks.cell 2;have s3 := hks.cell 3;have f0 := hks.frozen 0;have f1 := hks.frozen 1;have f2 := hks.frozen 2;have f3 := hks.frozen 3;simp only [List.getElem?_toArray, List.getElem?_cons_zero, List.getElem?_cons_succ] at s0 s1 s2 s3
   have te : (c != 0) = true := by rw [bne_iff_ne]; exact n6
   have HD := Lib.hid (set4_below (X := w.heap.size + 1 + 1 + 1 + 1) (by omega) (bnext HB5.out b6));clear hla HMA HME hks b6;go_wp2
   (try simp only [Exit.inBlock, Exit.then])
   refine bodyPost_ret (v := .tuple #[setZ, .int .i64 c]) ?_ rfl ?_
   ·rw [results_cell_tmp rfl]
    go_simp
   ·unfold SetEnd
    rw [HE.out];exact ⟨HD.out _ _ _ _, rfl, n6⟩
 | ok S =>
   rw [hla] at h6;obtain ⟨G, V, rfl, hsp, hr4, hpos⟩ := h6;have HMV := Lib.hid (HMA.out S hla);obtain ⟨hgood, -, hroot⟩ := loadA_good hla;have HG := Lib.hid hgood;have HRT := Lib.hid hroot;have hROOT := Lib.hid hla;clear hla HMA HME;have HSP := Lib.hid hsp;have HR4 := Lib.hid hr4;have hb6s := b6.size;obtain ⟨fv, hfv⟩ : ∃ fv : Value, fv = .func (.func 56) #[] #[.pointer (some ⟨w.heap.size + 1, 0, none⟩), .pointer (some ⟨w.heap.size + 1 + 1, 0, none⟩)] := ⟨_, rfl⟩;obtain ⟨wF, hwF⟩ : ∃ wF, wF = w6 := ⟨_, rfl⟩;subst hwF;have b7 : Below wF.heap.size wF (wF.alloc (.cells #[.func (.func 56) #[] #[.pointer (some ⟨w.heap.size + 1, 0, none⟩), .pointer (some ⟨w.heap.size + 1 + 1, 0, none⟩)]] 117)) := balloc1 _ _;have k7 : Blk wF.heap.size #[.func (.func 56) #[] #[.pointer (some ⟨w.heap.size + 1, 0, none⟩), .pointer (some ⟨w.heap.size + 1 + 1, 0, none⟩)]] 117 (wF.alloc (.cells #[.func (.func 56) #[] #[.pointer (some ⟨w.heap.size + 1, 0, none⟩), .pointer (some ⟨w.heap.size + 1 + 1, 0, none⟩)]] 117)) := Blk.new _ _ _;have HB7 := Lib.hid (bnext b6 b7);have HMM : Hid (MvMem lg n tt (w.heap.size + 1) (w.heap.size + 1 + 1) wF.heap.size (w.heap.size + 1 + 1 + 1) (wF.alloc (.cells #[.func (.func 56) #[] #[.pointer (some ⟨w.heap.size + 1, 0, none⟩), .pointer (some ⟨w.heap.size + 1 + 1, 0, none⟩)]] 117))) := Lib.hid ⟨HA.out.kept1 (bnext b6 b7), HBB.out.kept1 (bnext b6 b7), k7, HT.out.kept1 (bnext b6 b7)⟩;have HS7 := Lib.hid (HS.out.kept1 (bnext b6 b7));have HSP7 := Lib.hid (hsp.kept b7);clear hsp hr4 b6 b7 k7
   go_upto_region 5 with fail
   generalize hwq : wF.alloc (.cells #[.func (.func 56) #[] #[.pointer (some ⟨w.heap.size + 1, 0, none⟩), .pointer (some ⟨w.heap.size + 1 + 1, 0, none⟩)]] 117) = wq at *;have HF0 := Lib.hid hwq;clear hwq
   have hlist : (listA S).length ≤ 900000 := by
    have := HR4.out.flat 0;unfold listA; omega
   have HIN := Lib.hid (shpAt_in HSP7.out (by have := HR4.out.1; omega));have HLST := Lib.hid fun W (h : Below wq.heap.size wq W) => fklist_any S HR4.out.small HG.out.well.pos _ W (shapeIn_kept HIN.out h)
   have HK : Hid (∀ w9, Below wq.heap.size wq w9 → w9.cell? ⟨wF.heap.size, 0, none⟩ = some fv) := Lib.hid fun w9 h => by rw [hfv]; exact (HMM.out.bm.kept1 h).cell 0
   have HCF : Hid (∀ u W, Below wq.heap.size wq W → EntsIn u (listA S) W → Calls Tryz.prog 57 #[u, fv] W fun e w' => e = .returned (.bool ((listA S).any (mvP lg n))) ∧ Below W.heap.size W w') := Lib.hid fun u W h hu => by
    rw [hfv];exact xcontf_any (mvP lg n) _ _ (listA S) (by omega) u W hu eg fun x W' hb => move1_any x lg n _ _ W' (HMM.out.ba.kept1 (bnext h hb)) (HMM.out.bb.kept1 (bnext h hb))
   have HFV := Lib.hid hfv;clear hfv;have hq : Below wq.heap.size wq wq.drew := (Below.refl _ _).drew;obtain ⟨any, hany⟩ : ∃ b, (listA S).any (mvP lg n) = b := ⟨_, rfl⟩;rw [hany] at HCF;have HANY := Lib.hid hany;clear hany;refine wp_region_held_drew (S := fun w9 => w9.cell? ⟨wF.heap.size, 0, none⟩ = some fv) mixed (HK.out _ hq) (fun hHeld => ?_);generalize wq.drew = wd at *;refine tk 0 _ rfl (by intro w9 hSw; clear hSw; go_simp; try with_reducible rfl) hHeld ?_
   try simp only [Act.put, za, zb, zc, zd, ze, zf]
   refine tk 2 _ rfl (by intro w9 hSw; have e9 := hSw; go_simp; try with_reducible rfl) hHeld ?_
   try simp only [Act.put, za, zb, zc, zd, ze, zf]
   refine wpAnyH_ready (rs := [1]) (by kernel_rfl) (by simp) ?_;refine AllReadyH.cons (o := _) rfl (fun K hK => ?_) ?_
   ·go_simp
    refine (HLST.out wd hq).mono ?_; rintro e w3 ⟨u3, rfl, hu3, b3⟩;dsimp only;have q3 := bnext hq b3;have HU := Lib.hid (rowE_in hu3);clear hu3;clear hHeld;refine hK.out _ _ (HK.out _ (q3)) (fun hHeld => ?_);clear hK K
    try simp only [Act.put, za, zb, zc, zd, ze, zf]
    refine wpAnyH_ready (rs := [3]) (by kernel_rfl) (by simp) ?_;refine AllReadyH.cons (o := _) rfl (fun K hK => ?_) ?_
    ·go_simp
     refine (HCF.out _ w3 (q3) HU.out).mono ?_; rintro e w4 ⟨rfl, b4⟩;dsimp only;have q4 := bnext q3 b4;clear hHeld;refine hK.out _ _ (HK.out _ (q4)) (fun hHeld => ?_);clear hK K
     try simp only [Act.put, za, zb, zc, zd, ze, zf]
     refine tk 4 _ rfl (by intro w9 hSw; clear hSw; go_simp; try with_reducible rfl) hHeld ?_
     try simp only [Act.put, za, zb, zc, zd, ze, zf]
     refine ⟨by kernel_rfl, ?_⟩;clear hHeld;have HQ := Lib.hid (q4);clear HLST HCF HU HK hq;have HX4 := Lib.hid (bnext HB7.out HQ.out);have hs4 := HX4.out.size
     cases any with
     | false =>
       have HE : Hid (moveA rd depth root lg n tt = .error 4) := Lib.hid (by rw [HMV.out, if_pos HANY.out]);have HX9 := HX4;have hks := HS.out.kept1 HX9.out;have s0 := hks.cell 0;have s1 := hks.cell 1;have s2 := hks.cell 2;have s3 := hks.cell 3;have f0 := hks.frozen 0;have f1 := hks.frozen 1;have f2 := hks.frozen 2;have f3 := hks.frozen 3;simp only [List.getElem?_toArray, List.getElem?_cons_zero, List.getElem?_cons_succ] at s0 s1 s2 s3;have HD := Lib.hid (set4_below (X := w.heap.size + 1 + 1 + 1 + 1) (by omega) (HB5.out.trans (HX9.out.mono HB5.out.size)));clear hks;go_wp2
       (try simp only [Exit.inBlock, Exit.then])
       refine bodyPost_ret (v := .tuple #[setZ, .int .i64 4]) ?_ rfl ?_
       ·rw [results_cell_tmp rfl]
        go_simp
       ·unfold SetEnd
        rw [HE.out];exact ⟨HD.out _ _ _ _, rfl, by decide⟩
     | true =>
       have a0 := (HA.out.kept1 HX4.out).cell 0;have b0 := (HBB.out.kept1 HX4.out).cell 0;have t0 := (HT.out.kept1 HX4.out).cell 0;simp only [List.getElem?_toArray, List.getElem?_cons_zero, List.getElem?_cons_succ] at a0 b0 t0;have b8 : Below w4.heap.size w4 (w4.alloc (.cells #[.int .i64 lg, .int .i64 tt, .int .i64 n] 53)) := balloc1 _ _;have HO8 : Hid (EntsIn (.slice (some ⟨w4.heap.size, 0, none⟩) 1 1) [⟨lg, tt, n⟩] (w4.alloc (.cells #[.int .i64 lg, .int .i64 tt, .int .i64 n] 53))) := Lib.hid (one_in w4 ⟨lg, tt, n⟩ 53)
       have hfit : fitE [⟨lg, tt, n⟩] := fun e he => by rw [List.mem_singleton] at he; subst he; exact ⟨hlg, htt, hn⟩
       have HCK := Lib.hid (xcheck_any [⟨lg, tt, n⟩] hfit _ _ HO8.out);have HX8 := Lib.hid (bnext HX4.out b8);have HQ8 := Lib.hid (bnext HQ.out b8);clear b8 HQ HX4
       go_upto_region 8 with fail
       generalize w4.alloc (.cells #[.int .i64 lg, .int .i64 tt, .int .i64 n] 53) = w8 at *;generalize hq8 : w4.heap.size = q8 at *;clear a0 b0 t0 hq8;go_wp2_with fail
       refine HCK.out.mono ?_; rintro e w9 ⟨rfl, b9⟩;have HX9 := Lib.hid (bnext HX8.out b9);have HQ9 := Lib.hid (bnext HQ8.out b9);have HO9 := Lib.hid (HO8.out.kept b9);clear HCK b9 HX8 HQ8 HO8;by_cases hok : RowOk true [⟨lg, tt, n⟩]
       ·rw [decide_eq_true hok]
        have HND := Lib.hid (fknodes_any S HR4.out.small HR4.out.nums _ w9 (shapeIn_kept HIN.out HQ9.out));have HHT := Lib.hid fun vb W (h : EntsIn (.slice (some ⟨q8, 0, none⟩) 1 1) [⟨lg, tt, n⟩] W) (hb : IntsR vb (sortI (numsA S)) W) => fkhit_any [⟨lg, tt, n⟩] hok hfit (by simp) (sortI (numsA S)) (by rw [sortI_len]; exact HR4.out.nums) (fun b hb => HR4.out.ints b ((sortI_mem _ _).1 hb)) _ vb W h hb;rw [hit_sort] at HHT;have HOK := Lib.hid hok;clear hok;go_wp2_with fail
        refine HND.out.mono ?_; rintro e w10 ⟨nv, rfl, hnv, b10⟩;have HH := Lib.hid (HHT.out nv w10 (HO9.out.kept b10) (own_in hnv));have HX10 := Lib.hid (bnext HX9.out b10);have HQ10 := Lib.hid (bnext HQ9.out b10);clear HND HHT hnv b10 HX9 HQ9 HO9;obtain ⟨hit, hhit⟩ : ∃ b, hitA [⟨lg, tt, n⟩] (numsA S) = b := ⟨_, rfl⟩;rw [hhit] at HH;have HHIT := Lib.hid hhit;clear hhit;go_wp2_with fail
        refine HH.out.mono ?_; rintro e w11 ⟨rfl, b11⟩;have HX9 := Lib.hid (bnext HX10.out b11);have HQ11 := Lib.hid (bnext HQ10.out b11);clear HH b11 HX10 HQ10;have hs11 := HX9.out.size
        cases hit with
        | true =>
          have HE : Hid (moveA rd depth root lg n tt = .error 2) := Lib.hid (by rw [HMV.out, if_neg (by rw [HANY.out]; simp), if_neg (by rw [HHIT.out]; simp)]);have hks := HS.out.kept1 HX9.out;have s0 := hks.cell 0;have s1 := hks.cell 1;have s2 := hks.cell 2;have s3 := hks.cell 3;have f0 := hks.frozen 0;have f1 := hks.frozen 1;have f2 := hks.frozen 2;have f3 := hks.frozen 3;simp only [List.getElem?_toArray, List.getElem?_cons_zero, List.getElem?_cons_succ] at s0 s1 s2 s3;have HD := Lib.hid (set4_below (X := w.heap.size + 1 + 1 + 1 + 1) (by omega) (HB5.out.trans (HX9.out.mono HB5.out.size)));clear hks;go_wp2
          (try simp only [Exit.inBlock, Exit.then])
          refine bodyPost_ret (v := .tuple #[setZ, .int .i64 2]) ?_ rfl ?_
          ·rw [results_cell_tmp rfl]
           go_simp
          ·unfold SetEnd
           rw [HE.out];exact ⟨HD.out _ _ _ _, rfl, by decide⟩
        | false =>
          have HE : Hid (moveA rd depth root lg n tt = .ok (S, (chgS (mvF lg n tt) () S).2)) := Lib.hid (by rw [HMV.out, if_neg (by rw [HANY.out]; simp), if_pos ⟨HOK.out, HHIT.out⟩]);have HTL := Lib.hid (move_tell hROOT.out HR4.out HOK.out htt);have HTS := Lib.hid (tell_read HG.out HR4.out);have hsp11 := HSP7.out.kept HQ11.out;have hbq := (bnext HB7.out HQ11.out).size;have HSP11 := Lib.hid hsp11;have HWI := Lib.hid (fkwith_any (mvF lg n tt) _ _ _ W5.heap.size w11 (move_turner lg n tt (w.heap.size + 1) (w.heap.size + 1 + 1) wF.heap.size (w.heap.size + 1 + 1 + 1) W5.heap.size w11.heap.size) S HR4.out.small (fun r x hx => ⟨by have := ((HR4.out.2 r).2 x hx).1; omega, ((HR4.out.2 r).2 x hx).2⟩) _ (hsp11.st (by have := HR4.out.1; omega) fun v x h => EntsT.of_s (Nat.le_refl _) h) () (HMM.out.kept1 HQ11.out));clear hsp11;go_wp2_with fail
          refine HWI.out.mono ?_; rintro e w12 ⟨G2, V2, rfl, hs2, -, ht2⟩
          have hT1000 : (chgS (mvF lg n tt) () S).2.length ≤ 1000 := by rw [chgS_len]; have := HR4.out.1; omega
          have hrw := shp_rows hs2 hT1000;rw [chgS_len] at hrw;have hin12 := shpAt_in (HSP11.out.turns ht2 (fun v x a b => ents_turns (Nat.le_refl _) v x a b)) (by have := HR4.out.1; omega);have HDF := Lib.hid (fkdiffer_any (EntsAt w11.heap.size) w12 (fun v x w h => entsAt_in h) (keeps_own _ _) S (chgS (mvF lg n tt) () S).2 HTS.out HTL.out _ _ hin12 hrw);have HB12 := Lib.hid (HB5.out.trans (((bnext HB7.out HQ11.out).trans (ht2.below hbq)).mono HB5.out.size));have hz5 := HZ5.out;have HS12 : Hid (Blk (w.heap.size + 1 + 1 + 1 + 1) setC 58 w12) := Lib.hid (((ht2.below hbq).block _ (by omega)).trans (HS.out.kept1 (bnext HB7.out HQ11.out)));clear HWI hs2 ht2 hrw hin12;go_wp2_with fail
          refine HDF.out.mono ?_; rintro e w13 ⟨vr, vc, vf, rfl, hvr, hvc, hvf, b13⟩;have hks := HS12.out.kept1 b13;have s0 := hks.cell 0;have s1 := hks.cell 1;have s2 := hks.cell 2;have s3 := hks.cell 3;have f0 := hks.frozen 0;have f1 := hks.frozen 1;have f2 := hks.frozen 2;have f3 := hks.frozen 3;simp only [List.getElem?_toArray, List.getElem?_cons_zero, List.getElem?_cons_succ] at s0 s1 s2 s3;have hty : TyAt (w.heap.size + 1 + 1 + 1 + 1) 58 w13 := ⟨_, _, hks⟩;have hszs := HB12.out.size;have HD := Lib.hid (set4_below (X := w.heap.size + 1 + 1 + 1 + 1) (by omega) (bnext HB12.out b13));have hb50 := HB5.out.size;have HV1 := Lib.hid fun a b c d => row_down (show w.heap.size ≤ w11.heap.size by omega) (set4_row hty (by decide) hvr a b c d);have HV2 := Lib.hid fun a b c d => row_down hszs (set4_row hty (by decide) hvc a b c d);have HV3 := Lib.hid fun a b c d => row_down hszs (set4_row hty (by decide) hvf a b c d);obtain ⟨ra, rc, rfl, -⟩ := shape_of hvr;obtain ⟨ca, cc, rfl, -⟩ := shape_of hvc;obtain ⟨fa, fc, rfl, -⟩ := shape_of hvf;clear hks HDF hvr hvc hvf b13 hty;go_wp2
          (try simp only [Exit.inBlock, Exit.then])
          refine bodyPost_ret (v := .tuple #[setV (((chgS (mvF lg n tt) () S).2.length - 1 : Nat) : Int) (.slice ra (rootA (chgS (mvF lg n tt) () S).2).length rc) (.slice ca (chgA (blocksA S) (blocksA (chgS (mvF lg n tt) () S).2)).length cc) (.slice fa (freeA (blocksA S) (blocksA (chgS (mvF lg n tt) () S).2)).length fc), .int .i64 0]) ?_ rfl ?_
          ·rw [results_cell_tmp rfl]
           go_simp
          ·unfold SetEnd
           rw [HE.out];exact ⟨HD.out _ _ _ _, _, _, _, rfl, HV1.out _ _ _ _, HV2.out _ _ _ _, HV3.out _ _ _ _⟩
       ·rw [decide_eq_false hok]
        have HE : Hid (moveA rd depth root lg n tt = .error 2) := Lib.hid (by rw [HMV.out, if_neg (by rw [HANY.out]; simp), if_neg (fun h => hok h.1)]);have hs9 := HX9.out.size;clear hok;have hks := HS.out.kept1 HX9.out;have s0 := hks.cell 0;have s1 := hks.cell 1;have s2 := hks.cell 2;have s3 := hks.cell 3;have f0 := hks.frozen 0;have f1 := hks.frozen 1;have f2 := hks.frozen 2;have f3 := hks.frozen 3;simp only [List.getElem?_toArray, List.getElem?_cons_zero, List.getElem?_cons_succ] at s0 s1 s2 s3;have HD := Lib.hid (set4_below (X := w.heap.size + 1 + 1 + 1 + 1) (by omega) (HB5.out.trans (HX9.out.mono HB5.out.size)));clear hks;go_wp2
        (try simp only [Exit.inBlock, Exit.then])
        refine bodyPost_ret (v := .tuple #[setZ, .int .i64 2]) ?_ rfl ?_
        ·rw [results_cell_tmp rfl]
         go_simp
        ·unfold SetEnd
         rw [HE.out];exact ⟨HD.out _ _ _ _, rfl, by decide⟩
    exact AllReadyH.nil
   exact AllReadyH.nil
open Go.RowKit
def leadBad (S : Shp) (fr tt : Int) : Prop := usableA tt = false ∨ elemR (blocksV (listA S)) tt ∨ (tt ≠ fr ∧ tt ∈ numsA S)
instance (S : Shp) (fr tt : Int) : Decidable (leadBad S fr tt) := by unfold leadBad; infer_instance
def leadA (rd : Rd) (depth : Int) (root : List Ent) (fr tt : Int) : Except Int (Shp × Shp) :=
 match loadA rd false depth root with
 | .error c => .error c
 | .ok S => if decide (fr ∈ numsA S) = false then .error 4
   else if leadBad S fr tt then .error 2 else .ok (S, (chgS (ldF fr tt) () S).2)
theorem usable_b (n : Int) (w : World) : Calls Tryz.prog 64 #[.int .i64 n] w fun e w' => e = .returned (.bool (usableA n)) ∧ Below w.heap.size w w' := (usable_any n w).mono fun e w' ⟨h, k⟩ => ⟨h, by rw [k]; exact Below.refl _ _⟩
theorem contains_b (l : List Int) (hl : l.length ≤ 1000000) (b : Int) (v : Value) (w : World) (hv : IntsR v l w) :
 Calls Tryz.prog 63 #[v, .int .i64 b] w fun e w' => e = .returned (.bool (decide (b ∈ l))) ∧ Below w.heap.size w w' := (contains_any l hl b v w hv).mono fun e w' ⟨h, k⟩ => ⟨h, by rw [k]; exact Below.refl _ _⟩
theorem ld_start (w : World) (T : Array Value) (fr tt : Int) : ∃ W, (((w.alloc (.cells T 35)).alloc (.cells #[.int .i64 fr] 3)).alloc (.cells #[.int .i64 tt] 3)).alloc (.cells setC 58) = W ∧
 Below w.heap.size w W ∧ W.heap.size = w.heap.size + 4 ∧ Blk w.heap.size T 35 W ∧ Blk (w.heap.size + 1) #[.int .i64 fr] 3 W ∧ Blk (w.heap.size + 1 + 1) #[.int .i64 tt] 3 W ∧ Blk (w.heap.size + 1 + 1 + 1) setC 58 W := by
 have b1 := balloc1 w (.cells T 35);have k1 := Blk.new T 35 w;have z1 := size_alloc w (.cells T 35);generalize w.alloc (.cells T 35) = w1 at *;have b2 := balloc1 w1 (.cells #[.int .i64 fr] 3);have k2 := Blk.new #[.int .i64 fr] 3 w1;have z2 := size_alloc w1 (.cells #[.int .i64 fr] 3);generalize w1.alloc (.cells #[.int .i64 fr] 3) = w2 at *;have b3 := balloc1 w2 (.cells #[.int .i64 tt] 3);have k3 := Blk.new #[.int .i64 tt] 3 w2;have z3 := size_alloc w2 (.cells #[.int .i64 tt] 3);generalize w2.alloc (.cells #[.int .i64 tt] 3) = w3 at *;have b5 := balloc1 w3 (.cells setC 58);have k5 := Blk.new setC 58 w3;have z5 := size_alloc w3 (.cells setC 58);generalize w3.alloc (.cells setC 58) = w5 at *;rw [z1] at k2; rw [z2, z1] at k3; rw [z3, z2, z1] at k5;exact ⟨w5, rfl, bnext (bnext (bnext b1 b2) b3) b5, by omega, k1.kept1 (bnext (bnext b2 b3) b5), k2.kept1 (bnext b3 b5), k3.kept1 b5, k5⟩
theorem fklead_any (fn : Nat) (caps : Array Value) (rd : Rd) (w : World) (hrd : Reads fn caps rd w.heap.size w) (depth : Int) (hdi : I64 depth) (root : List Ent) (hf : fitE root) (v : Value) (hv : EntsIn v root w) (fr tt : Int) (hfr : I64 fr) (htt : I64 tt) :
 Calls Tryz.prog 25 #[.agg #[.int .i64 depth, v], .func (.func fn) #[] caps, .int .i64 fr, .int .i64 tt] w (SetEnd (leadA rd depth root fr tt) w) := by
 have mixed : Tryz.prog.follows .mixedOrders = true := by kernel_rfl
 have hmf : ∀ (fn : Fn) (first cap : Array Value) (w : World), (Instr.makeFunc fn first cap).run Tryz.prog w = .ok (.func fn first cap) w := fun _ _ _ _ => rfl;obtain ⟨ad, cap, rfl, -⟩ := entsIn_cells hv;obtain ⟨W5, hW5, hb5, hz5, kT, ka, kt, ks⟩ := ld_start w #[.int .i64 depth, .slice ad root.length cap] fr tt;have LD := Lib.hid (fkload_all fn caps rd W5 (hrd.kept hb5 hb5.size) depth hdi root hf (.slice ad root.length cap) (hv.kept hb5) W5.heap.size (Nat.le_refl _) (EntsS.old (hv.kept hb5) (Nat.le_refl _) (Below.refl _ _) (Nat.le_refl _)));have HB5 := Lib.hid hb5;have HA := Lib.hid ka;have HT := Lib.hid kt;have HS := Lib.hid ks;have HZ5 := Lib.hid hz5;have c0 := kT.cell 0;have c1 := kT.cell 1;simp only [List.getElem?_toArray, List.getElem?_cons_zero, List.getElem?_cons_succ] at c0 c1
 have HMA : Hid (∀ S, loadA rd false depth root = .ok S → leadA rd depth root fr tt = if decide (fr ∈ numsA S) = false then .error 4
  else if leadBad S fr tt then .error 2 else .ok (S, (chgS (ldF fr tt) () S).2)) := Lib.hid fun S h => by unfold leadA; rw [h]
 have HME : Hid (∀ c, loadA rd false depth root = .error c → leadA rd depth root fr tt = .error c) := Lib.hid fun c h => by unfold leadA; rw [h]
 clear hv hrd hb5 ka kt ks kT hz5
 go_enter Tryz.func25, Tryz.ntmps25
 go_upto_region 1 with fail
 try rw [hW5]
 clear hW5;go_wp2_with fail
 refine LD.out.mono ?_; rintro e w6 ⟨b6, h6⟩;clear LD c0 c1
 cases hla : loadA rd false depth root with
 | error c =>
   rw [hla] at h6;obtain ⟨rfl, n6⟩ := h6;have HE := Lib.hid (HME.out c hla);have hks := HS.out.kept1 b6;have s0 := hks.cell 0;have s1 := hks.cell 1;have s2 := hks.cell 2;have s3 := hks.cell 3;have f0 := hks.frozen 0;have f1 := hks.frozen 1;have f2 := hks.frozen 2;have f3 := hks.frozen 3;simp only [List.getElem?_toArray, List.getElem?_cons_zero, List.getElem?_cons_succ] at s0 s1 s2 s3
   have te : (c != 0) = true := by rw [bne_iff_ne]; exact n6
   have HD := Lib.hid (set4_below (X := w.heap.size + 1 + 1 + 1) (by omega) (bnext HB5.out b6));clear hla HMA HME hks b6;go_wp2
   (try simp only [Exit.inBlock, Exit.then])
   refine bodyPost_ret (v := .tuple #[setZ, .int .i64 c]) ?_ rfl ?_
   ·rw [results_cell_tmp rfl]
    go_simp
   ·unfold SetEnd
    rw [HE.out];exact ⟨HD.out _ _ _ _, rfl, n6⟩
 | ok S =>
   rw [hla] at h6;obtain ⟨G, V, rfl, hsp, hr4, hpos⟩ := h6;have HMV := Lib.hid (HMA.out S hla);have HG := Lib.hid (loadA_good hla).1;have hROOT := Lib.hid hla;clear hla HMA HME;have HR4 := Lib.hid hr4;have HB7 := Lib.hid b6;have HS7 := Lib.hid (HS.out.kept1 b6);have HMM : Hid (LdMem fr tt (w.heap.size + 1) (w.heap.size + 1 + 1) w6) := Lib.hid ⟨HA.out.kept1 b6, HT.out.kept1 b6⟩;have HSP7 := Lib.hid hsp;have HIN := Lib.hid (shpAt_in hsp (by have := hr4.1; omega));have HND := Lib.hid (fknodes_any S hr4.small hr4.nums _ w6 HIN.out)
   have hlist : (listA S).length ≤ 40970 := by
    have := hr4.flat 0;unfold listA; omega
   clear hsp hr4 b6;go_wp2_with fail
   refine HND.out.mono ?_; rintro e w8 ⟨nv, rfl, hnv, b8⟩;have HQ8 := Lib.hid b8;have HX8 := Lib.hid (bnext HB7.out b8);have HNI := Lib.hid (own_in hnv)
   have hnl : (sortI (numsA S)).length ≤ 900000 := by rw [sortI_len]; exact HR4.out.nums
   have HCN := Lib.hid fun b W (h : Below w8.heap.size w8 W) => contains_b (sortI (numsA S)) (by omega) b nv W (RowIn.kept HNI.out h);have HSM : Hid (∀ b, decide (b ∈ sortI (numsA S)) = decide (b ∈ numsA S)) := Lib.hid fun b => decide_eq_decide.2 (sortI_mem _ _);obtain ⟨na, nc, rfl, -, -⟩ := shape_of hnv;have a0 := (HA.out.kept1 HX8.out).cell 0;simp only [List.getElem?_toArray, List.getElem?_cons_zero, List.getElem?_cons_succ] at a0;have hs8 := HX8.out.size;have HC1 := Lib.hid (HCN.out fr w8 (Below.refl _ _));rw [HSM.out] at HC1;obtain ⟨any, hany⟩ : ∃ b, decide (fr ∈ numsA S) = b := ⟨_, rfl⟩;rw [hany] at HC1;have HANY := Lib.hid hany;clear hany HND hnv b8;go_wp2_with fail
   refine HC1.out.mono ?_; rintro e wq ⟨rfl, b9⟩;have HQ8 := Lib.hid (bnext HQ8.out b9);have HX8 := Lib.hid (bnext HX8.out b9);have HB89 := Lib.hid b9;have hs8 := HX8.out.size;clear HC1 a0 b9
   cases any with
   | false =>
     have HE : Hid (leadA rd depth root fr tt = .error 4) := Lib.hid (by rw [HMV.out, if_pos HANY.out]);have HX9 := HX8;have hks := HS.out.kept1 HX9.out;have s0 := hks.cell 0;have s1 := hks.cell 1;have s2 := hks.cell 2;have s3 := hks.cell 3;have f0 := hks.frozen 0;have f1 := hks.frozen 1;have f2 := hks.frozen 2;have f3 := hks.frozen 3;simp only [List.getElem?_toArray, List.getElem?_cons_zero, List.getElem?_cons_succ] at s0 s1 s2 s3;have HD := Lib.hid (set4_below (X := w.heap.size + 1 + 1 + 1) (by omega) (HB5.out.trans (HX9.out.mono HB5.out.size)));clear hks;go_wp2
     (try simp only [Exit.inBlock, Exit.then])
     refine bodyPost_ret (v := .tuple #[setZ, .int .i64 4]) ?_ rfl ?_
     ·rw [results_cell_tmp rfl]
      go_simp
     ·unfold SetEnd
      rw [HE.out];exact ⟨HD.out _ _ _ _, rfl, by decide⟩
   | true =>
     go_upto_region 7 with fail
     have HAq := Lib.hid (HA.out.kept1 HX8.out);have HTq := Lib.hid (HT.out.kept1 HX8.out);have HK : Hid (∀ w9, Below wq.heap.size wq w9 → w9.cell? ⟨w.heap.size + 1, 0, none⟩ = some (.int .i64 fr) ∧ w9.cell? ⟨w.heap.size + 1 + 1, 0, none⟩ = some (.int .i64 tt)) := Lib.hid fun w9 h => ⟨(HAq.out.kept1 h).cell 0, (HTq.out.kept1 h).cell 0⟩;have HUS := Lib.hid fun W => usable_b tt W;have HLST := Lib.hid fun W (h : Below wq.heap.size wq W) => fklist_any S HR4.out.small HG.out.well.pos _ W (shapeIn_kept HIN.out (bnext HQ8.out h));have hlsf : fitE (listA S) := HR4.out.fit 0;have hls4 : (listA S).length ≤ 2048 := row_len HG.out.rise;have HBL := Lib.hid fun u W (h : EntsIn u (listA S) W) => xblocks_any (listA S) hlsf (by omega) u W h
     have hbf : fitR (blocksV (listA S)) := by unfold blocksV; rw [if_pos HG.out.rise]; exact (norm_norm (physR (listA S))).fit
     have HHS := Lib.hid fun u W (h : RunsIn u (blocksV (listA S)) W) => has_any (blocksV (listA S)) hbf u tt W h
     have HCT : Hid (∀ W, Below wq.heap.size wq W → Calls Tryz.prog 63 #[.slice na (sortI (numsA S)).length nc, .int .i64 tt] W fun e w' => e = .returned (.bool (decide (tt ∈ numsA S))) ∧ Below W.heap.size W w') := Lib.hid fun W h => by
      rw [← HSM.out]; exact HCN.out tt W (bnext HB89.out h)
     have hq : Below wq.heap.size wq wq.drew := (Below.refl _ _).drew;obtain ⟨us, hus⟩ : ∃ b, usableA tt = b := ⟨_, rfl⟩;obtain ⟨hs, hhs⟩ : ∃ b, decide (elemR (blocksV (listA S)) tt) = b := ⟨_, rfl⟩;obtain ⟨ct, hct⟩ : ∃ b, decide (tt ∈ numsA S) = b := ⟨_, rfl⟩;rw [hus] at HUS;rw [hhs] at HHS;rw [hct] at HCT;have HUV := Lib.hid hus;have HHV := Lib.hid hhs;have HCV := Lib.hid hct;clear hus hhs hct hbf
     cases us with
     | false =>
       have HBAD : Hid (leadBad S fr tt) := Lib.hid (.inl HUV.out);refine wp_region_held_drew (S := fun w9 => w9.cell? ⟨w.heap.size + 1, 0, none⟩ = some (.int .i64 fr) ∧ w9.cell? ⟨w.heap.size + 1 + 1, 0, none⟩ = some (.int .i64 tt)) mixed (HK.out _ hq) (fun hHeld => ?_);generalize wq.drew = wd at *;refine tk 0 _ rfl (by intro w9 hSw; obtain ⟨e9, f9⟩ := hSw; go_simp; try with_reducible rfl) hHeld ?_
       try simp only [Act.put, za, zb, zc, zd, ze, zf]
       refine wpAnyH_ready (rs := [1]) (by kernel_rfl) (by simp) ?_;refine AllReadyH.cons (o := _) rfl (fun K hK => ?_) ?_
       ·go_simp
        refine (HUS.out wd).mono ?_; rintro e w7 ⟨rfl, b7⟩;dsimp only;have q7 := bnext hq b7;clear hHeld;refine hK.out _ _ (HK.out _ (q7)) (fun hHeld => ?_);clear hK K
        try simp only [Act.put, za, zb, zc, zd, ze, zf]
        refine tk 2 _ rfl (by intro w9 hSw; clear hSw; go_simp; try with_reducible rfl) hHeld ?_
        try simp only [Act.put, za, zb, zc, zd, ze, zf]
        refine tk 3 _ rfl (by intro w9 hSw; clear hSw; go_simp; try with_reducible rfl) hHeld ?_
        try simp only [Act.put, za, zb, zc, zd, ze, zf]
        refine tko 4 rfl hHeld ?restldreg7a10
        try simp only [Act.put, za, zb, zc, zd, ze, zf]
        refine tko 5 rfl hHeld ?restldreg7a11
        try simp only [Act.put, za, zb, zc, zd, ze, zf]
        refine tko 6 rfl hHeld ?restldreg7a12
        try simp only [Act.put, za, zb, zc, zd, ze, zf]
        refine tko 7 rfl hHeld ?restldreg7a13
        try simp only [Act.put, za, zb, zc, zd, ze, zf]
        refine tko 8 rfl hHeld ?restldreg7a14
        try simp only [Act.put, za, zb, zc, zd, ze, zf]
        refine tk 9 _ rfl (by intro w9 hSw; clear hSw; go_simp; try with_reducible rfl) hHeld ?_
        try simp only [Act.put, za, zb, zc, zd, ze, zf]
        refine tk 10 _ rfl (by intro w9 hSw; clear hSw; go_simp; try with_reducible rfl) hHeld ?_
        try simp only [Act.put, za, zb, zc, zd, ze, zf]
        refine tko 11 rfl hHeld ?restldreg7a17
        try simp only [Act.put, za, zb, zc, zd, ze, zf]
        refine tko 12 rfl hHeld ?restldreg7a18
        try simp only [Act.put, za, zb, zc, zd, ze, zf]
        refine tko 13 rfl hHeld ?restldreg7a19
        try simp only [Act.put, za, zb, zc, zd, ze, zf]
        refine tko 14 rfl hHeld ?restldreg7a20
        try simp only [Act.put, za, zb, zc, zd, ze, zf]
        refine tko 15 rfl hHeld ?restldreg7a21
        try simp only [Act.put, za, zb, zc, zd, ze, zf]
        refine tko 16 rfl hHeld ?restldreg7a22
        try simp only [Act.put, za, zb, zc, zd, ze, zf]
        refine tko 17 rfl hHeld ?restldreg7a23
        try simp only [Act.put, za, zb, zc, zd, ze, zf]
        refine tko 18 rfl hHeld ?restldreg7a24
        try simp only [Act.put, za, zb, zc, zd, ze, zf]
        refine tk 19 _ rfl (by intro w9 hSw; clear hSw; go_simp; try with_reducible rfl) hHeld ?_
        try simp only [Act.put, za, zb, zc, zd, ze, zf]
        refine ⟨by kernel_rfl, ?_⟩;clear hHeld;obtain ⟨w11, hw11⟩ : ∃ x, x = w7 := ⟨_, rfl⟩;subst hw11;have HQ := Lib.hid (q7);clear HUS HLST HBL HHS HCT HK hq;have HQ11 := Lib.hid (bnext HQ8.out HQ.out);have HX9 := Lib.hid (bnext HX8.out HQ.out);have hs11 := HX9.out.size;have HE : Hid (leadA rd depth root fr tt = .error 2) := Lib.hid (by rw [HMV.out, if_neg (by rw [HANY.out]; simp), if_pos HBAD.out]);have hks := HS.out.kept1 HX9.out;have s0 := hks.cell 0;have s1 := hks.cell 1;have s2 := hks.cell 2;have s3 := hks.cell 3;have f0 := hks.frozen 0;have f1 := hks.frozen 1;have f2 := hks.frozen 2;have f3 := hks.frozen 3;simp only [List.getElem?_toArray, List.getElem?_cons_zero, List.getElem?_cons_succ] at s0 s1 s2 s3;have HD := Lib.hid (set4_below (X := w.heap.size + 1 + 1 + 1) (by omega) (HB5.out.trans (HX9.out.mono HB5.out.size)));clear hks;go_wp2
        (try simp only [Exit.inBlock, Exit.then])
        refine bodyPost_ret (v := .tuple #[setZ, .int .i64 2]) ?_ rfl ?_
        ·rw [results_cell_tmp rfl]
         go_simp
        ·unfold SetEnd
         rw [HE.out];exact ⟨HD.out _ _ _ _, rfl, by decide⟩
       exact AllReadyH.nil
     | true =>
       cases hs with
       | true =>
         have HBAD : Hid (leadBad S fr tt) := Lib.hid (.inr (.inl (of_decide_eq_true HHV.out)));refine wp_region_held_drew (S := fun w9 => w9.cell? ⟨w.heap.size + 1, 0, none⟩ = some (.int .i64 fr) ∧ w9.cell? ⟨w.heap.size + 1 + 1, 0, none⟩ = some (.int .i64 tt)) mixed (HK.out _ hq) (fun hHeld => ?_);generalize wq.drew = wd at *;refine tk 0 _ rfl (by intro w9 hSw; obtain ⟨e9, f9⟩ := hSw; go_simp; try with_reducible rfl) hHeld ?_
         try simp only [Act.put, za, zb, zc, zd, ze, zf]
         refine wpAnyH_ready (rs := [1]) (by kernel_rfl) (by simp) ?_;refine AllReadyH.cons (o := _) rfl (fun K hK => ?_) ?_
         ·go_simp
          refine (HUS.out wd).mono ?_; rintro e w27 ⟨rfl, b27⟩;dsimp only;have q27 := bnext hq b27;clear hHeld;refine hK.out _ _ (HK.out _ (q27)) (fun hHeld => ?_);clear hK K
          try simp only [Act.put, za, zb, zc, zd, ze, zf]
          refine tk 2 _ rfl (by intro w9 hSw; clear hSw; go_simp; try with_reducible rfl) hHeld ?_
          try simp only [Act.put, za, zb, zc, zd, ze, zf]
          refine tk 3 _ rfl (by intro w9 hSw; clear hSw; go_simp; try with_reducible rfl) hHeld ?_
          try simp only [Act.put, za, zb, zc, zd, ze, zf]
          refine tk 4 _ rfl (by intro w9 hSw; clear hSw; go_simp; try with_reducible rfl) hHeld ?_
          try simp only [Act.put, za, zb, zc, zd, ze, zf]
          refine tk 7 _ rfl (by intro w9 hSw; obtain ⟨e9, f9⟩ := hSw; go_simp; try with_reducible rfl) hHeld ?_
          try simp only [Act.put, za, zb, zc, zd, ze, zf]
          refine wpAnyH_ready (rs := [5]) (by kernel_rfl) (by simp) ?_;refine AllReadyH.cons (o := _) rfl (fun K hK => ?_) ?_
          ·go_simp
           refine (HLST.out w27 (q27)).mono ?_; rintro e w32 ⟨u32, rfl, hu32, b32⟩;dsimp only;have q32 := bnext q27 b32;have HU := Lib.hid (rowE_in hu32);clear hu32;clear hHeld;refine hK.out _ _ (HK.out _ (q32)) (fun hHeld => ?_);clear hK K
           try simp only [Act.put, za, zb, zc, zd, ze, zf]
           refine wpAnyH_ready (rs := [6]) (by kernel_rfl) (by simp) ?_;refine AllReadyH.cons (o := _) rfl (fun K hK => ?_) ?_
           ·go_simp
            refine (HBL.out _ w32 HU.out).mono ?_; rintro e w33 ⟨u33, rfl, hu33, b33⟩;dsimp only;have q33 := bnext q32 b33;have HR := Lib.hid (runsAt_in hu33);clear hu33 HU;clear hHeld;refine hK.out _ _ (HK.out _ (q33)) (fun hHeld => ?_);clear hK K
            try simp only [Act.put, za, zb, zc, zd, ze, zf]
            refine wpAnyH_ready (rs := [8]) (by kernel_rfl) (by simp) ?_;refine AllReadyH.cons (o := _) rfl (fun K hK => ?_) ?_
            ·go_simp
             refine (HHS.out _ w33 HR.out).mono ?_; rintro e w34 ⟨rfl, b34⟩;dsimp only;have q34 := bnext q33 b34;clear hHeld;refine hK.out _ _ (HK.out _ (q34)) (fun hHeld => ?_);clear hK K
             try simp only [Act.put, za, zb, zc, zd, ze, zf]
             refine tk 9 _ rfl (by intro w9 hSw; clear hSw; go_simp; try with_reducible rfl) hHeld ?_
             try simp only [Act.put, za, zb, zc, zd, ze, zf]
             refine tk 10 _ rfl (by intro w9 hSw; clear hSw; go_simp; try with_reducible rfl) hHeld ?_
             try simp only [Act.put, za, zb, zc, zd, ze, zf]
             refine tko 11 rfl hHeld ?restldreg7b37
             try simp only [Act.put, za, zb, zc, zd, ze, zf]
             refine tko 12 rfl hHeld ?restldreg7b38
             try simp only [Act.put, za, zb, zc, zd, ze, zf]
             refine tko 13 rfl hHeld ?restldreg7b39
             try simp only [Act.put, za, zb, zc, zd, ze, zf]
             refine tko 14 rfl hHeld ?restldreg7b40
             try simp only [Act.put, za, zb, zc, zd, ze, zf]
             refine tko 15 rfl hHeld ?restldreg7b41
             try simp only [Act.put, za, zb, zc, zd, ze, zf]
             refine tko 16 rfl hHeld ?restldreg7b42
             try simp only [Act.put, za, zb, zc, zd, ze, zf]
             refine tko 17 rfl hHeld ?restldreg7b43
             try simp only [Act.put, za, zb, zc, zd, ze, zf]
             refine tko 18 rfl hHeld ?restldreg7b44
             try simp only [Act.put, za, zb, zc, zd, ze, zf]
             refine tk 19 _ rfl (by intro w9 hSw; clear hSw; go_simp; try with_reducible rfl) hHeld ?_
             try simp only [Act.put, za, zb, zc, zd, ze, zf]
             refine ⟨by kernel_rfl, ?_⟩;clear hHeld;obtain ⟨w11, hw11⟩ : ∃ x, x = w34 := ⟨_, rfl⟩;subst hw11;have HQ := Lib.hid (q34);clear HUS HLST HBL HHS HCT HK hq;have HQ11 := Lib.hid (bnext HQ8.out HQ.out);have HX9 := Lib.hid (bnext HX8.out HQ.out);have hs11 := HX9.out.size;have HE : Hid (leadA rd depth root fr tt = .error 2) := Lib.hid (by rw [HMV.out, if_neg (by rw [HANY.out]; simp), if_pos HBAD.out]);have hks := HS.out.kept1 HX9.out;have s0 := hks.cell 0;have s1 := hks.cell 1;have s2 := hks.cell 2;have s3 := hks.cell 3;have f0 := hks.frozen 0;have f1 := hks.frozen 1;have f2 := hks.frozen 2;have f3 := hks.frozen 3;simp only [List.getElem?_toArray, List.getElem?_cons_zero, List.getElem?_cons_succ] at s0 s1 s2 s3;have HD := Lib.hid (set4_below (X := w.heap.size + 1 + 1 + 1) (by omega) (HB5.out.trans (HX9.out.mono HB5.out.size)));clear hks;go_wp2
             (try simp only [Exit.inBlock, Exit.then])
             refine bodyPost_ret (v := .tuple #[setZ, .int .i64 2]) ?_ rfl ?_
             ·rw [results_cell_tmp rfl]
              go_simp
             ·unfold SetEnd
              rw [HE.out];exact ⟨HD.out _ _ _ _, rfl, by decide⟩
            exact AllReadyH.nil
           exact AllReadyH.nil
          exact AllReadyH.nil
         exact AllReadyH.nil
       | false =>
         by_cases hne : tt = fr
         ·have d1 : (tt != fr) = false := by rw [hne]; simp
          have HNO : Hid (¬ leadBad S fr tt) := Lib.hid fun h => by
           rcases h with h | h | h
           ·rw [HUV.out] at h; cases h
           ·exact of_decide_eq_false HHV.out h
           ·exact h.1 hne
          clear hne;refine wp_region_held_drew (S := fun w9 => w9.cell? ⟨w.heap.size + 1, 0, none⟩ = some (.int .i64 fr) ∧ w9.cell? ⟨w.heap.size + 1 + 1, 0, none⟩ = some (.int .i64 tt)) mixed (HK.out _ hq) (fun hHeld => ?_);generalize wq.drew = wd at *;refine tk 0 _ rfl (by intro w9 hSw; obtain ⟨e9, f9⟩ := hSw; go_simp; try with_reducible rfl) hHeld ?_
          try simp only [Act.put, za, zb, zc, zd, ze, zf]
          refine wpAnyH_ready (rs := [1]) (by kernel_rfl) (by simp) ?_;refine AllReadyH.cons (o := _) rfl (fun K hK => ?_) ?_
          ·go_simp
           refine (HUS.out wd).mono ?_; rintro e w47 ⟨rfl, b47⟩;dsimp only;have q47 := bnext hq b47;clear hHeld;refine hK.out _ _ (HK.out _ (q47)) (fun hHeld => ?_);clear hK K
           try simp only [Act.put, za, zb, zc, zd, ze, zf]
           refine tk 2 _ rfl (by intro w9 hSw; clear hSw; go_simp; try with_reducible rfl) hHeld ?_
           try simp only [Act.put, za, zb, zc, zd, ze, zf]
           refine tk 3 _ rfl (by intro w9 hSw; clear hSw; go_simp; try with_reducible rfl) hHeld ?_
           try simp only [Act.put, za, zb, zc, zd, ze, zf]
           refine tk 4 _ rfl (by intro w9 hSw; clear hSw; go_simp; try with_reducible rfl) hHeld ?_
           try simp only [Act.put, za, zb, zc, zd, ze, zf]
           refine tk 7 _ rfl (by intro w9 hSw; obtain ⟨e9, f9⟩ := hSw; go_simp; try with_reducible rfl) hHeld ?_
           try simp only [Act.put, za, zb, zc, zd, ze, zf]
           refine wpAnyH_ready (rs := [5]) (by kernel_rfl) (by simp) ?_;refine AllReadyH.cons (o := _) rfl (fun K hK => ?_) ?_
           ·go_simp
            refine (HLST.out w47 (q47)).mono ?_; rintro e w52 ⟨u52, rfl, hu52, b52⟩;dsimp only;have q52 := bnext q47 b52;have HU := Lib.hid (rowE_in hu52);clear hu52;clear hHeld;refine hK.out _ _ (HK.out _ (q52)) (fun hHeld => ?_);clear hK K
            try simp only [Act.put, za, zb, zc, zd, ze, zf]
            refine wpAnyH_ready (rs := [6]) (by kernel_rfl) (by simp) ?_;refine AllReadyH.cons (o := _) rfl (fun K hK => ?_) ?_
            ·go_simp
             refine (HBL.out _ w52 HU.out).mono ?_; rintro e w53 ⟨u53, rfl, hu53, b53⟩;dsimp only;have q53 := bnext q52 b53;have HR := Lib.hid (runsAt_in hu53);clear hu53 HU;clear hHeld;refine hK.out _ _ (HK.out _ (q53)) (fun hHeld => ?_);clear hK K
             try simp only [Act.put, za, zb, zc, zd, ze, zf]
             refine wpAnyH_ready (rs := [8]) (by kernel_rfl) (by simp) ?_;refine AllReadyH.cons (o := _) rfl (fun K hK => ?_) ?_
             ·go_simp
              refine (HHS.out _ w53 HR.out).mono ?_; rintro e w54 ⟨rfl, b54⟩;dsimp only;have q54 := bnext q53 b54;clear hHeld;refine hK.out _ _ (HK.out _ (q54)) (fun hHeld => ?_);clear hK K
              try simp only [Act.put, za, zb, zc, zd, ze, zf]
              refine tk 9 _ rfl (by intro w9 hSw; clear hSw; go_simp; try with_reducible rfl) hHeld ?_
              try simp only [Act.put, za, zb, zc, zd, ze, zf]
              refine tk 10 _ rfl (by intro w9 hSw; clear hSw; go_simp; try with_reducible rfl) hHeld ?_
              try simp only [Act.put, za, zb, zc, zd, ze, zf]
              refine tk 11 _ rfl (by intro w9 hSw; obtain ⟨e9, f9⟩ := hSw; go_simp; try with_reducible rfl) hHeld ?_
              try simp only [Act.put, za, zb, zc, zd, ze, zf]
              refine tk 12 _ rfl (by intro w9 hSw; obtain ⟨e9, f9⟩ := hSw; go_simp; try with_reducible rfl) hHeld ?_
              try simp only [Act.put, za, zb, zc, zd, ze, zf]
              refine tk 13 _ rfl (by intro w9 hSw; clear hSw; go_simp; try with_reducible rfl) hHeld ?_
              try simp only [Act.put, za, zb, zc, zd, ze, zf]
              refine tk 14 _ rfl (by intro w9 hSw; clear hSw; go_simp; try with_reducible rfl) hHeld ?_
              try simp only [Act.put, za, zb, zc, zd, ze, zf]
              refine tko 15 rfl hHeld ?restldreg7c61
              try simp only [Act.put, za, zb, zc, zd, ze, zf]
              refine tko 16 rfl hHeld ?restldreg7c62
              try simp only [Act.put, za, zb, zc, zd, ze, zf]
              refine tko 17 rfl hHeld ?restldreg7c63
              try simp only [Act.put, za, zb, zc, zd, ze, zf]
              refine tk 18 _ rfl (by intro w9 hSw; clear hSw; go_simp; try with_reducible rfl) hHeld ?_
              try simp only [Act.put, za, zb, zc, zd, ze, zf]
              refine tk 19 _ rfl (by intro w9 hSw; clear hSw; go_simp; try with_reducible rfl) hHeld ?_
              try simp only [Act.put, za, zb, zc, zd, ze, zf]
              refine ⟨by kernel_rfl, ?_⟩;clear hHeld;obtain ⟨w11, hw11⟩ : ∃ x, x = w54 := ⟨_, rfl⟩;subst hw11;have HQ := Lib.hid (q54);clear HUS HLST HBL HHS HCT HK hq;have HQ11 := Lib.hid (bnext HQ8.out HQ.out);have HX9 := Lib.hid (bnext HX8.out HQ.out);have hs11 := HX9.out.size;have HE : Hid (leadA rd depth root fr tt = .ok (S, (chgS (ldF fr tt) () S).2)) := Lib.hid (by rw [HMV.out, if_neg (by rw [HANY.out]; simp), if_neg HNO.out])
              have HTL := Lib.hid (lead_tell hROOT.out HR4.out htt (by
               by_cases e : tt = fr
               ·exact .inr e
               ·exact .inl fun h => HNO.out (.inr (.inr ⟨e, h⟩))))
              have HTS := Lib.hid (tell_read HG.out HR4.out);have hsp11 := HSP7.out.kept HQ11.out;have hbq := (bnext HB7.out HQ11.out).size;have HSP11 := Lib.hid hsp11;have HWI := Lib.hid (fkwith_any (ldF fr tt) _ _ _ W5.heap.size w11 (lead_turner fr tt (w.heap.size + 1) (w.heap.size + 1 + 1) W5.heap.size w11.heap.size) S HR4.out.small (fun r x hx => ⟨by have := ((HR4.out.2 r).2 x hx).1; omega, ((HR4.out.2 r).2 x hx).2⟩) _ (hsp11.st (by have := HR4.out.1; omega) fun v x h => EntsT.of_s (Nat.le_refl _) h) () (HMM.out.kept1 HQ11.out));clear hsp11;go_wp2_with fail
              refine HWI.out.mono ?_; rintro e w12 ⟨G2, V2, rfl, hs2, -, ht2⟩
              have hT1000 : (chgS (ldF fr tt) () S).2.length ≤ 1000 := by rw [chgS_len]; have := HR4.out.1; omega
              have hrw := shp_rows hs2 hT1000;rw [chgS_len] at hrw;have hin12 := shpAt_in (HSP11.out.turns ht2 (fun v x a b => ents_turns (Nat.le_refl _) v x a b)) (by have := HR4.out.1; omega);have HDF := Lib.hid (fkdiffer_any (EntsAt w11.heap.size) w12 (fun v x w h => entsAt_in h) (keeps_own _ _) S (chgS (ldF fr tt) () S).2 HTS.out HTL.out _ _ hin12 hrw);have HB12 := Lib.hid (HB5.out.trans (((bnext HB7.out HQ11.out).trans (ht2.below hbq)).mono HB5.out.size));have hz5 := HZ5.out;have HS12 : Hid (Blk (w.heap.size + 1 + 1 + 1) setC 58 w12) := Lib.hid (((ht2.below hbq).block _ (by omega)).trans (HS.out.kept1 (bnext HB7.out HQ11.out)));clear HWI hs2 ht2 hrw hin12;go_wp2_with fail
              refine HDF.out.mono ?_; rintro e w13 ⟨vr, vc, vf, rfl, hvr, hvc, hvf, b13⟩;have hks := HS12.out.kept1 b13;have s0 := hks.cell 0;have s1 := hks.cell 1;have s2 := hks.cell 2;have s3 := hks.cell 3;have f0 := hks.frozen 0;have f1 := hks.frozen 1;have f2 := hks.frozen 2;have f3 := hks.frozen 3;simp only [List.getElem?_toArray, List.getElem?_cons_zero, List.getElem?_cons_succ] at s0 s1 s2 s3;have hty : TyAt (w.heap.size + 1 + 1 + 1) 58 w13 := ⟨_, _, hks⟩;have hszs := HB12.out.size;have HD := Lib.hid (set4_below (X := w.heap.size + 1 + 1 + 1) (by omega) (bnext HB12.out b13));have hb50 := HB5.out.size;have HV1 := Lib.hid fun a b c d => row_down (show w.heap.size ≤ w11.heap.size by omega) (set4_row hty (by decide) hvr a b c d);have HV2 := Lib.hid fun a b c d => row_down hszs (set4_row hty (by decide) hvc a b c d);have HV3 := Lib.hid fun a b c d => row_down hszs (set4_row hty (by decide) hvf a b c d);obtain ⟨ra, rc, rfl, -⟩ := shape_of hvr;obtain ⟨ca, cc, rfl, -⟩ := shape_of hvc;obtain ⟨fa, fc, rfl, -⟩ := shape_of hvf;clear hks HDF hvr hvc hvf b13 hty;go_wp2
              (try simp only [Exit.inBlock, Exit.then])
              refine bodyPost_ret (v := .tuple #[setV (((chgS (ldF fr tt) () S).2.length - 1 : Nat) : Int) (.slice ra (rootA (chgS (ldF fr tt) () S).2).length rc) (.slice ca (chgA (blocksA S) (blocksA (chgS (ldF fr tt) () S).2)).length cc) (.slice fa (freeA (blocksA S) (blocksA (chgS (ldF fr tt) () S).2)).length fc), .int .i64 0]) ?_ rfl ?_
              ·rw [results_cell_tmp rfl]
               go_simp
              ·unfold SetEnd
               rw [HE.out];exact ⟨HD.out _ _ _ _, _, _, _, rfl, HV1.out _ _ _ _, HV2.out _ _ _ _, HV3.out _ _ _ _⟩
             exact AllReadyH.nil
            exact AllReadyH.nil
           exact AllReadyH.nil
          exact AllReadyH.nil
         ·have d1 : (tt != fr) = true := by rw [bne_iff_ne]; exact hne
          cases ct with
          | true =>
            have HBAD : Hid (leadBad S fr tt) := Lib.hid (.inr (.inr ⟨hne, of_decide_eq_true HCV.out⟩));clear hne;refine wp_region_held_drew (S := fun w9 => w9.cell? ⟨w.heap.size + 1, 0, none⟩ = some (.int .i64 fr) ∧ w9.cell? ⟨w.heap.size + 1 + 1, 0, none⟩ = some (.int .i64 tt)) mixed (HK.out _ hq) (fun hHeld => ?_);generalize wq.drew = wd at *;refine tk 0 _ rfl (by intro w9 hSw; obtain ⟨e9, f9⟩ := hSw; go_simp; try with_reducible rfl) hHeld ?_
            try simp only [Act.put, za, zb, zc, zd, ze, zf]
            refine wpAnyH_ready (rs := [1]) (by kernel_rfl) (by simp) ?_;refine AllReadyH.cons (o := _) rfl (fun K hK => ?_) ?_
            ·go_simp
             refine (HUS.out wd).mono ?_; rintro e w67 ⟨rfl, b67⟩;dsimp only;have q67 := bnext hq b67;clear hHeld;refine hK.out _ _ (HK.out _ (q67)) (fun hHeld => ?_);clear hK K
             try simp only [Act.put, za, zb, zc, zd, ze, zf]
             refine tk 2 _ rfl (by intro w9 hSw; clear hSw; go_simp; try with_reducible rfl) hHeld ?_
             try simp only [Act.put, za, zb, zc, zd, ze, zf]
             refine tk 3 _ rfl (by intro w9 hSw; clear hSw; go_simp; try with_reducible rfl) hHeld ?_
             try simp only [Act.put, za, zb, zc, zd, ze, zf]
             refine tk 4 _ rfl (by intro w9 hSw; clear hSw; go_simp; try with_reducible rfl) hHeld ?_
             try simp only [Act.put, za, zb, zc, zd, ze, zf]
             refine tk 7 _ rfl (by intro w9 hSw; obtain ⟨e9, f9⟩ := hSw; go_simp; try with_reducible rfl) hHeld ?_
             try simp only [Act.put, za, zb, zc, zd, ze, zf]
             refine wpAnyH_ready (rs := [5]) (by kernel_rfl) (by simp) ?_;refine AllReadyH.cons (o := _) rfl (fun K hK => ?_) ?_
             ·go_simp
              refine (HLST.out w67 (q67)).mono ?_; rintro e w72 ⟨u72, rfl, hu72, b72⟩;dsimp only;have q72 := bnext q67 b72;have HU := Lib.hid (rowE_in hu72);clear hu72;clear hHeld;refine hK.out _ _ (HK.out _ (q72)) (fun hHeld => ?_);clear hK K
              try simp only [Act.put, za, zb, zc, zd, ze, zf]
              refine wpAnyH_ready (rs := [6]) (by kernel_rfl) (by simp) ?_;refine AllReadyH.cons (o := _) rfl (fun K hK => ?_) ?_
              ·go_simp
               refine (HBL.out _ w72 HU.out).mono ?_; rintro e w73 ⟨u73, rfl, hu73, b73⟩;dsimp only;have q73 := bnext q72 b73;have HR := Lib.hid (runsAt_in hu73);clear hu73 HU;clear hHeld;refine hK.out _ _ (HK.out _ (q73)) (fun hHeld => ?_);clear hK K
               try simp only [Act.put, za, zb, zc, zd, ze, zf]
               refine wpAnyH_ready (rs := [8]) (by kernel_rfl) (by simp) ?_;refine AllReadyH.cons (o := _) rfl (fun K hK => ?_) ?_
               ·go_simp
                refine (HHS.out _ w73 HR.out).mono ?_; rintro e w74 ⟨rfl, b74⟩;dsimp only;have q74 := bnext q73 b74;clear hHeld;refine hK.out _ _ (HK.out _ (q74)) (fun hHeld => ?_);clear hK K
                try simp only [Act.put, za, zb, zc, zd, ze, zf]
                refine tk 9 _ rfl (by intro w9 hSw; clear hSw; go_simp; try with_reducible rfl) hHeld ?_
                try simp only [Act.put, za, zb, zc, zd, ze, zf]
                refine tk 10 _ rfl (by intro w9 hSw; clear hSw; go_simp; try with_reducible rfl) hHeld ?_
                try simp only [Act.put, za, zb, zc, zd, ze, zf]
                refine tk 11 _ rfl (by intro w9 hSw; obtain ⟨e9, f9⟩ := hSw; go_simp; try with_reducible rfl) hHeld ?_
                try simp only [Act.put, za, zb, zc, zd, ze, zf]
                refine tk 12 _ rfl (by intro w9 hSw; obtain ⟨e9, f9⟩ := hSw; go_simp; try with_reducible rfl) hHeld ?_
                try simp only [Act.put, za, zb, zc, zd, ze, zf]
                refine tk 13 _ rfl (by intro w9 hSw; clear hSw; go_simp; try with_reducible rfl) hHeld ?_
                try simp only [Act.put, za, zb, zc, zd, ze, zf]
                refine tk 14 _ rfl (by intro w9 hSw; clear hSw; go_simp; try with_reducible rfl) hHeld ?_
                try simp only [Act.put, za, zb, zc, zd, ze, zf]
                refine tk 15 _ rfl (by intro w9 hSw; clear hSw; go_simp; try with_reducible rfl) hHeld ?_
                try simp only [Act.put, za, zb, zc, zd, ze, zf]
                refine tk 16 _ rfl (by intro w9 hSw; obtain ⟨e9, f9⟩ := hSw; go_simp; try with_reducible rfl) hHeld ?_
                try simp only [Act.put, za, zb, zc, zd, ze, zf]
                refine wpAnyH_ready (rs := [17]) (by kernel_rfl) (by simp) ?_;refine AllReadyH.cons (o := _) rfl (fun K hK => ?_) ?_
                ·go_simp
                 refine (HCT.out w74 (q74)).mono ?_; rintro e w83 ⟨rfl, b83⟩;dsimp only;have q83 := bnext q74 b83;clear hHeld;refine hK.out _ _ (HK.out _ (q83)) (fun hHeld => ?_);clear hK K
                 try simp only [Act.put, za, zb, zc, zd, ze, zf]
                 refine tk 18 _ rfl (by intro w9 hSw; clear hSw; go_simp; try with_reducible rfl) hHeld ?_
                 try simp only [Act.put, za, zb, zc, zd, ze, zf]
                 refine tk 19 _ rfl (by intro w9 hSw; clear hSw; go_simp; try with_reducible rfl) hHeld ?_
                 try simp only [Act.put, za, zb, zc, zd, ze, zf]
                 refine ⟨by kernel_rfl, ?_⟩;clear hHeld;obtain ⟨w11, hw11⟩ : ∃ x, x = w83 := ⟨_, rfl⟩;subst hw11;have HQ := Lib.hid (q83);clear HUS HLST HBL HHS HCT HK hq;have HQ11 := Lib.hid (bnext HQ8.out HQ.out);have HX9 := Lib.hid (bnext HX8.out HQ.out);have hs11 := HX9.out.size;have HE : Hid (leadA rd depth root fr tt = .error 2) := Lib.hid (by rw [HMV.out, if_neg (by rw [HANY.out]; simp), if_pos HBAD.out]);have hks := HS.out.kept1 HX9.out;have s0 := hks.cell 0;have s1 := hks.cell 1;have s2 := hks.cell 2;have s3 := hks.cell 3;have f0 := hks.frozen 0;have f1 := hks.frozen 1;have f2 := hks.frozen 2;have f3 := hks.frozen 3;simp only [List.getElem?_toArray, List.getElem?_cons_zero, List.getElem?_cons_succ] at s0 s1 s2 s3;have HD := Lib.hid (set4_below (X := w.heap.size + 1 + 1 + 1) (by omega) (HB5.out.trans (HX9.out.mono HB5.out.size)));clear hks;go_wp2
                 (try simp only [Exit.inBlock, Exit.then])
                 refine bodyPost_ret (v := .tuple #[setZ, .int .i64 2]) ?_ rfl ?_
                 ·rw [results_cell_tmp rfl]
                  go_simp
                 ·unfold SetEnd
                  rw [HE.out];exact ⟨HD.out _ _ _ _, rfl, by decide⟩
                exact AllReadyH.nil
               exact AllReadyH.nil
              exact AllReadyH.nil
             exact AllReadyH.nil
            exact AllReadyH.nil
          | false =>
            have HNO : Hid (¬ leadBad S fr tt) := Lib.hid fun h => by
             rcases h with h | h | h
             ·rw [HUV.out] at h; cases h
             ·exact of_decide_eq_false HHV.out h
             ·exact of_decide_eq_false HCV.out h.2
            clear hne;refine wp_region_held_drew (S := fun w9 => w9.cell? ⟨w.heap.size + 1, 0, none⟩ = some (.int .i64 fr) ∧ w9.cell? ⟨w.heap.size + 1 + 1, 0, none⟩ = some (.int .i64 tt)) mixed (HK.out _ hq) (fun hHeld => ?_);generalize wq.drew = wd at *;refine tk 0 _ rfl (by intro w9 hSw; obtain ⟨e9, f9⟩ := hSw; go_simp; try with_reducible rfl) hHeld ?_
            try simp only [Act.put, za, zb, zc, zd, ze, zf]
            refine wpAnyH_ready (rs := [1]) (by kernel_rfl) (by simp) ?_;refine AllReadyH.cons (o := _) rfl (fun K hK => ?_) ?_
            ·go_simp
             refine (HUS.out wd).mono ?_; rintro e w87 ⟨rfl, b87⟩;dsimp only;have q87 := bnext hq b87;clear hHeld;refine hK.out _ _ (HK.out _ (q87)) (fun hHeld => ?_);clear hK K
             try simp only [Act.put, za, zb, zc, zd, ze, zf]
             refine tk 2 _ rfl (by intro w9 hSw; clear hSw; go_simp; try with_reducible rfl) hHeld ?_
             try simp only [Act.put, za, zb, zc, zd, ze, zf]
             refine tk 3 _ rfl (by intro w9 hSw; clear hSw; go_simp; try with_reducible rfl) hHeld ?_
             try simp only [Act.put, za, zb, zc, zd, ze, zf]
             refine tk 4 _ rfl (by intro w9 hSw; clear hSw; go_simp; try with_reducible rfl) hHeld ?_
             try simp only [Act.put, za, zb, zc, zd, ze, zf]
             refine tk 7 _ rfl (by intro w9 hSw; obtain ⟨e9, f9⟩ := hSw; go_simp; try with_reducible rfl) hHeld ?_
             try simp only [Act.put, za, zb, zc, zd, ze, zf]
             refine wpAnyH_ready (rs := [5]) (by kernel_rfl) (by simp) ?_;refine AllReadyH.cons (o := _) rfl (fun K hK => ?_) ?_
             ·go_simp
              refine (HLST.out w87 (q87)).mono ?_; rintro e w92 ⟨u92, rfl, hu92, b92⟩;dsimp only;have q92 := bnext q87 b92;have HU := Lib.hid (rowE_in hu92);clear hu92;clear hHeld;refine hK.out _ _ (HK.out _ (q92)) (fun hHeld => ?_);clear hK K
              try simp only [Act.put, za, zb, zc, zd, ze, zf]
              refine wpAnyH_ready (rs := [6]) (by kernel_rfl) (by simp) ?_;refine AllReadyH.cons (o := _) rfl (fun K hK => ?_) ?_
              ·go_simp
               refine (HBL.out _ w92 HU.out).mono ?_; rintro e w93 ⟨u93, rfl, hu93, b93⟩;dsimp only;have q93 := bnext q92 b93;have HR := Lib.hid (runsAt_in hu93);clear hu93 HU;clear hHeld;refine hK.out _ _ (HK.out _ (q93)) (fun hHeld => ?_);clear hK K
               try simp only [Act.put, za, zb, zc, zd, ze, zf]
               refine wpAnyH_ready (rs := [8]) (by kernel_rfl) (by simp) ?_;refine AllReadyH.cons (o := _) rfl (fun K hK => ?_) ?_
               ·go_simp
                refine (HHS.out _ w93 HR.out).mono ?_; rintro e w94 ⟨rfl, b94⟩;dsimp only;have q94 := bnext q93 b94;clear hHeld;refine hK.out _ _ (HK.out _ (q94)) (fun hHeld => ?_);clear hK K
                try simp only [Act.put, za, zb, zc, zd, ze, zf]
                refine tk 9 _ rfl (by intro w9 hSw; clear hSw; go_simp; try with_reducible rfl) hHeld ?_
                try simp only [Act.put, za, zb, zc, zd, ze, zf]
                refine tk 10 _ rfl (by intro w9 hSw; clear hSw; go_simp; try with_reducible rfl) hHeld ?_
                try simp only [Act.put, za, zb, zc, zd, ze, zf]
                refine tk 11 _ rfl (by intro w9 hSw; obtain ⟨e9, f9⟩ := hSw; go_simp; try with_reducible rfl) hHeld ?_
                try simp only [Act.put, za, zb, zc, zd, ze, zf]
                refine tk 12 _ rfl (by intro w9 hSw; obtain ⟨e9, f9⟩ := hSw; go_simp; try with_reducible rfl) hHeld ?_
                try simp only [Act.put, za, zb, zc, zd, ze, zf]
                refine tk 13 _ rfl (by intro w9 hSw; clear hSw; go_simp; try with_reducible rfl) hHeld ?_
                try simp only [Act.put, za, zb, zc, zd, ze, zf]
                refine tk 14 _ rfl (by intro w9 hSw; clear hSw; go_simp; try with_reducible rfl) hHeld ?_
                try simp only [Act.put, za, zb, zc, zd, ze, zf]
                refine tk 15 _ rfl (by intro w9 hSw; clear hSw; go_simp; try with_reducible rfl) hHeld ?_
                try simp only [Act.put, za, zb, zc, zd, ze, zf]
                refine tk 16 _ rfl (by intro w9 hSw; obtain ⟨e9, f9⟩ := hSw; go_simp; try with_reducible rfl) hHeld ?_
                try simp only [Act.put, za, zb, zc, zd, ze, zf]
                refine wpAnyH_ready (rs := [17]) (by kernel_rfl) (by simp) ?_;refine AllReadyH.cons (o := _) rfl (fun K hK => ?_) ?_
                ·go_simp
                 refine (HCT.out w94 (q94)).mono ?_; rintro e w103 ⟨rfl, b103⟩;dsimp only;have q103 := bnext q94 b103;clear hHeld;refine hK.out _ _ (HK.out _ (q103)) (fun hHeld => ?_);clear hK K
                 try simp only [Act.put, za, zb, zc, zd, ze, zf]
                 refine tk 18 _ rfl (by intro w9 hSw; clear hSw; go_simp; try with_reducible rfl) hHeld ?_
                 try simp only [Act.put, za, zb, zc, zd, ze, zf]
                 refine tk 19 _ rfl (by intro w9 hSw; clear hSw; go_simp; try with_reducible rfl) hHeld ?_
                 try simp only [Act.put, za, zb, zc, zd, ze, zf]
                 refine ⟨by kernel_rfl, ?_⟩;clear hHeld;obtain ⟨w11, hw11⟩ : ∃ x, x = w103 := ⟨_, rfl⟩;subst hw11;have HQ := Lib.hid (q103);clear HUS HLST HBL HHS HCT HK hq;have HQ11 := Lib.hid (bnext HQ8.out HQ.out);have HX9 := Lib.hid (bnext HX8.out HQ.out);have hs11 := HX9.out.size;have HE : Hid (leadA rd depth root fr tt = .ok (S, (chgS (ldF fr tt) () S).2)) := Lib.hid (by rw [HMV.out, if_neg (by rw [HANY.out]; simp), if_neg HNO.out])
                 have HTL := Lib.hid (lead_tell hROOT.out HR4.out htt (by
                  by_cases e : tt = fr
                  ·exact .inr e
                  ·exact .inl fun h => HNO.out (.inr (.inr ⟨e, h⟩))))
                 have HTS := Lib.hid (tell_read HG.out HR4.out);have hsp11 := HSP7.out.kept HQ11.out;have hbq := (bnext HB7.out HQ11.out).size;have HSP11 := Lib.hid hsp11;have HWI := Lib.hid (fkwith_any (ldF fr tt) _ _ _ W5.heap.size w11 (lead_turner fr tt (w.heap.size + 1) (w.heap.size + 1 + 1) W5.heap.size w11.heap.size) S HR4.out.small (fun r x hx => ⟨by have := ((HR4.out.2 r).2 x hx).1; omega, ((HR4.out.2 r).2 x hx).2⟩) _ (hsp11.st (by have := HR4.out.1; omega) fun v x h => EntsT.of_s (Nat.le_refl _) h) () (HMM.out.kept1 HQ11.out));clear hsp11;go_wp2_with fail
                 refine HWI.out.mono ?_; rintro e w12 ⟨G2, V2, rfl, hs2, -, ht2⟩
                 have hT1000 : (chgS (ldF fr tt) () S).2.length ≤ 1000 := by rw [chgS_len]; have := HR4.out.1; omega
                 have hrw := shp_rows hs2 hT1000;rw [chgS_len] at hrw;have hin12 := shpAt_in (HSP11.out.turns ht2 (fun v x a b => ents_turns (Nat.le_refl _) v x a b)) (by have := HR4.out.1; omega);have HDF := Lib.hid (fkdiffer_any (EntsAt w11.heap.size) w12 (fun v x w h => entsAt_in h) (keeps_own _ _) S (chgS (ldF fr tt) () S).2 HTS.out HTL.out _ _ hin12 hrw);have HB12 := Lib.hid (HB5.out.trans (((bnext HB7.out HQ11.out).trans (ht2.below hbq)).mono HB5.out.size));have hz5 := HZ5.out;have HS12 : Hid (Blk (w.heap.size + 1 + 1 + 1) setC 58 w12) := Lib.hid (((ht2.below hbq).block _ (by omega)).trans (HS.out.kept1 (bnext HB7.out HQ11.out)));clear HWI hs2 ht2 hrw hin12;go_wp2_with fail
                 refine HDF.out.mono ?_; rintro e w13 ⟨vr, vc, vf, rfl, hvr, hvc, hvf, b13⟩;have hks := HS12.out.kept1 b13;have s0 := hks.cell 0;have s1 := hks.cell 1;have s2 := hks.cell 2;have s3 := hks.cell 3;have f0 := hks.frozen 0;have f1 := hks.frozen 1;have f2 := hks.frozen 2;have f3 := hks.frozen 3;simp only [List.getElem?_toArray, List.getElem?_cons_zero, List.getElem?_cons_succ] at s0 s1 s2 s3;have hty : TyAt (w.heap.size + 1 + 1 + 1) 58 w13 := ⟨_, _, hks⟩;have hszs := HB12.out.size;have HD := Lib.hid (set4_below (X := w.heap.size + 1 + 1 + 1) (by omega) (bnext HB12.out b13));have hb50 := HB5.out.size;have HV1 := Lib.hid fun a b c d => row_down (show w.heap.size ≤ w11.heap.size by omega) (set4_row hty (by decide) hvr a b c d);have HV2 := Lib.hid fun a b c d => row_down hszs (set4_row hty (by decide) hvc a b c d);have HV3 := Lib.hid fun a b c d => row_down hszs (set4_row hty (by decide) hvf a b c d);obtain ⟨ra, rc, rfl, -⟩ := shape_of hvr;obtain ⟨ca, cc, rfl, -⟩ := shape_of hvc;obtain ⟨fa, fc, rfl, -⟩ := shape_of hvf;clear hks HDF hvr hvc hvf b13 hty;go_wp2
                 (try simp only [Exit.inBlock, Exit.then])
                 refine bodyPost_ret (v := .tuple #[setV (((chgS (ldF fr tt) () S).2.length - 1 : Nat) : Int) (.slice ra (rootA (chgS (ldF fr tt) () S).2).length rc) (.slice ca (chgA (blocksA S) (blocksA (chgS (ldF fr tt) () S).2)).length cc) (.slice fa (freeA (blocksA S) (blocksA (chgS (ldF fr tt) () S).2)).length fc), .int .i64 0]) ?_ rfl ?_
                 ·rw [results_cell_tmp rfl]
                  go_simp
                 ·unfold SetEnd
                  rw [HE.out];exact ⟨HD.out _ _ _ _, _, _, _, rfl, HV1.out _ _ _ _, HV2.out _ _ _ _, HV3.out _ _ _ _⟩
                exact AllReadyH.nil
               exact AllReadyH.nil
              exact AllReadyH.nil
             exact AllReadyH.nil
            exact AllReadyH.nil
end Go.Proofs.YtknefoemgifbfaaGreat
