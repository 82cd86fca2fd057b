import Derived.Test.YtknefoemgifbfaaGreatPd39
import Derived.Test.YtknefoemgifbfaaGreatPd40
import Derived.Test.YtknefoemgifbfaaGreatPd28
import Derived.Test.YtknefoemgifbfaaGreatPd22
set_option linter.unusedVariables false
set_option linter.unusedSimpArgs false
set_option linter.constructorNameAsVariable false
set_option maxRecDepth 100000
set_option maxHeartbeats 16000000
namespace Go.Proofs.YtknefoemgifbfaaGreat
open Go.RowKit Go.Shelf
abbrev blocksV (l : List Ent) : List (Int × Int) := if RowOk true l then blocksX l else []
theorem phys_take {l : List Ent} {k : Nat} (h : k < l.length) : physR (l.take (k + 1)) = physR (l.take k) ++ [((eat l k).phys, (eat l k).len)] := by
 unfold physR;rw [List.take_succ_eq_append_getElem h, List.map_append, eat_eq h]; rfl
theorem fitR_phys {l : List Ent} (h : ∀ e ∈ l, EntOk true e) : fitR (physR l) := fun r hr => phys_fit h r hr
theorem xblocks_any (l : List Ent) (hf : fitE l) (hl : l.length ≤ 4000) (v : Value) (w : World) (hv : EntsIn v l w) :
 Calls Tryz.prog 66 #[v] w fun e w' => ∃ v', e = .returned v' ∧ RunsAt w.heap.size v' (blocksV l) w' ∧ Below w.heap.size w w' := by
 have C := fun w hv => xcheck_any l hf v w hv;have HV := Lib.hid hv;obtain ⟨ad, cap, rfl, c1, c2, c3, -⟩ := entsIn_cells hv;have H3 := Lib.hid c3;clear c3 hv;unfold blocksV;by_cases hok : RowOk true l
 ·rw [decide_eq_true hok] at C
  have C := Lib.hid C;rw [if_pos hok];have hr := (row_rise l).1 hok;have N := Lib.hid fun v W hv => norm_any (physR l) (fitR_phys fun e he => (hr.mem e he).1) (by rw [phys_len]; omega) v W hv;have HT : Hid (∀ k, k < l.length → physR (l.take (k + 1)) = physR (l.take k) ++ [((eat l k).phys, (eat l k).len)]) := Lib.hid fun k hk => phys_take hk
  have HN : Hid (∀ k, k ≤ l.length → (physR (l.take k)).length = k) := Lib.hid fun k hk => by rw [phys_len, List.length_take]; omega
  have H0 : Hid (physR (l.take 0) = []) := Lib.hid rfl;have HF : Hid (physR (l.take l.length) = physR l) := Lib.hid (by rw [List.take_length]);obtain ⟨P, hP⟩ : ∃ P : Nat → List (Int × Int), P = fun k => physR (l.take k) := ⟨_, rfl⟩;have HT : Hid (∀ k, k < l.length → P (k + 1) = P k ++ [((eat l k).phys, (eat l k).len)]) := Lib.hid (by rw [hP]; exact HT.out);have HN : Hid (∀ k, k ≤ l.length → (P k).length = k) := Lib.hid (by rw [hP]; exact HN.out);have H0 : Hid (P 0 = []) := Lib.hid (by rw [hP]; exact H0.out);have HF : Hid (P l.length = physR l) := Lib.hid (by rw [hP]; exact HF.out);have HB : Hid (normR (physR l) = blocksX l) := Lib.hid rfl;rw [← HB.out];clear hP hok hr HB
  go_enter Tryz.func66, Tryz.ntmps66
  go_wp2_with fail
  refine (C.out _ HV.out).mono ?_; rintro e w1 ⟨rfl, b1⟩;obtain ⟨i0, hi, hz0, hz1, hz2⟩ := info_parts info_run;obtain ⟨w2, hmk, hown0, hg0⟩ := run_make_own (P := Tryz.prog) (w := w1) w1.heap.size 126 136 i0 (.agg #[.int .i64 0, .int .i64 0]) 2 Tryz.underlying126 hi hz0 hz1 .i64 .i64 l.length (by rw [hz2]; omega) (by unfold maxLen; omega) (Nat.le_refl _)
  have hmk : (Instr.makeSlice 126 (.int .i64 0) (.int .i64 (l.length : Int))).run Tryz.prog w1 = .ok (.slice (some ⟨w1.heap.size, 0, none⟩) 0 l.length) w2 := by rw [← hmk]
  have hb2 : Below w.heap.size w w2 := bnext b1 ((Below.refl _ _).grown hg0 (Nat.le_refl _) (fun k hk => by cases hk));have hown0 : RunsAt w.heap.size (.slice (some ⟨w1.heap.size, 0, none⟩) 0 l.length) [] w2 := row_down b1.size hown0;have hown0 := Lib.hid hown0;have hb2 := Lib.hid hb2;clear hi hz0 hz1 hz2 hg0 b1 C HV;go_wp2
  go_loopw [3, 14] (fun vo p wr => ∃ k : Nat, p = .int .i64 k ∧ k ≤ l.length ∧ Hid (RunsAt w.heap.size vo (P k) wr) ∧ Below w.heap.size w wr) (fun _ p _ => l.length - (intOf p).toNat)
  case atStart => exact ⟨0, rfl, Nat.zero_le _, Lib.hid (by rw [H0.out]; exact hown0.out), hb2.out⟩
  case round =>
   clear hown0 hb2 hmk;obtain ⟨k, rfl, hk, HO, hb⟩ := hrel;by_cases hlt : k < l.length
   ·obtain ⟨g, o, rfl, hg, hc⟩ := H3.out (by omega)
    obtain ⟨x1, x2, x3⟩ := hc wr hb k hlt;have HE := Lib.hid (HT.out k hlt);have hln := HN.out k hk;have kb := Blk.new (entC (eat l k)) 53 wr;have hb1 := balloc hb (.cells (entC (eat l k)) 53);have HO1 := Lib.hid (HO.out.alloc (.cells (entC (eat l k)) 53));have hs1 := hb1.size;clear hc H3 HT HN HO;generalize P k = out at *;generalize eat l k = y at *;obtain ⟨ya, yp, yz⟩ := y;dsimp only at *;have k1 := kb.cell 1;have k2 := kb.cell 2;simp only [List.getElem?_toArray, List.getElem?_cons_zero, List.getElem?_cons_succ] at k1 k2
    have hlen : out.length ≤ 4000 := by omega
    clear kb hln
    go_upto_region 7 with fail
    generalize wr.alloc (.cells #[.int .i64 ya, .int .i64 yp, .int .i64 yz] 53) = w3 at *
    go_wp2_with (at_builtin; refine wpList_app rfl _ _ rfl w.heap.size _ out rfl (HO1.out.alloc _) ⟨w3.heap.size, 0, none⟩ 1 1 [(yp, yz)] rfl rfl (new_cells1 _ _ _) (by omega) (by rw [size_alloc]; omega) ?_)
    intro v' w4 h4 b4;have h4 := Lib.hid h4;have hb4 := (balloc hb1 _).trans b4;clear HO1 hb1 b4 k1 k2;go_wp2;exact ⟨⟨k + 1, by go_num, by omega, Lib.hid (by rw [HE.out]; exact h4.out), hb4⟩, by simp [intOf]; omega⟩
   ·obtain rfl : k = l.length := by omega
    have HI := Lib.hid (runsAt_in HO.out);rw [HF.out] at HI;obtain ⟨ad2, cap2, rfl, -⟩ := id HI.out;have hs := hb.size;clear HO HT HN;go_wp2_with fail
    refine (N.out _ _ HI.out).mono ?_; rintro e w5 ⟨v5, rfl, h5, b5⟩;have h5 := Lib.hid (row_down hs h5);go_wp2;go_ret;exact ⟨_, rfl, h5.out, bnext hb b5⟩
 ·rw [decide_eq_false hok] at C
  have C := Lib.hid C;rw [if_neg hok];clear hok H3
  go_enter Tryz.func66, Tryz.ntmps66
  go_wp2_with fail
  refine (C.out _ HV.out).mono ?_; rintro e w1 ⟨rfl, b1⟩;go_wp2;go_ret;exact ⟨_, rfl, World.ownsRow_nil _ _ _ _, b1⟩
theorem xlost_any (R O : List Ent) (hR : Rise 0 R) (hO : Rise 0 O) (hr : R.length ≤ 4000) (ho : O.length ≤ 4000) (v u : Value) (w : World) (hv : EntsIn v R w) (hu : EntsIn u O w) :
 Calls Tryz.prog 128 #[v, u] w fun e w' => ∃ v', e = .returned v' ∧ RunsAt w.heap.size v' (lostX R O) w' ∧ Below w.heap.size w w' := by
 have B1 := xblocks_any R (ok_fit fun e he => (hR.mem e he).1) hr v w hv;have B2 := fun W hu => xblocks_any O (ok_fit fun e he => (hO.mem e he).1) ho u W hu;unfold blocksV at B1 B2;rw [if_pos ((row_rise R).2 hR)] at B1;rw [if_pos ((row_rise O).2 hO)] at B2
 have hlr : (blocksX R).length ≤ 4000 := by have := norm_len (physR R); rw [phys_len] at this; unfold blocksX; omega
 have hlo : (blocksX O).length ≤ 4000 := by have := norm_len (physR O); rw [phys_len] at this; unfold blocksX; omega
 have M := Lib.hid fun v u W hv hu => minus_any (blocksX R) (blocksX O) (fit_norm _) (fit_norm _) (by omega) v u W hv hu;have HU := Lib.hid hu;have B1 := Lib.hid B1;have B2 := Lib.hid B2;obtain ⟨ad, cap, rfl, -⟩ := entsIn_cells hv;obtain ⟨ad2, cap2, rfl, -⟩ := entsIn_cells hu;unfold lostX;clear hv hu;by_cases h0 : R.length = 0
 ·rw [if_pos h0]
  have d0 : ((R.length : Int) == 0) = true := by rw [beq_iff_eq]; omega
  go_enter Tryz.func128, Tryz.ntmps128
  go_wp2;go_ret;exact ⟨_, rfl, World.ownsRow_nil _ _ _ _, Below.refl _ _⟩
 ·rw [if_neg h0]
  have d0 : ((R.length : Int) == 0) = false := by rw [beq_eq_false_iff_ne]; omega
  generalize blocksX R = X at *;generalize blocksX O = Y at *
  go_enter Tryz.func128, Tryz.ntmps128
  go_wp2_with fail
  refine B1.out.mono ?_; rintro e w1 ⟨v1, rfl, r1, b1⟩;have HU1 := Lib.hid (HU.out.kept b1);have R1 := Lib.hid r1;clear HU r1;go_wp2_with fail
  refine (B2.out _ HU1.out).mono ?_; rintro e w2 ⟨v2, rfl, r2, b2⟩;have R1 := Lib.hid (runsAt_in (row_kept R1.out b2));have R2 := Lib.hid (runsAt_in r2);have hb2 := bnext b1 b2;have hs := hb2.size;clear HU1 r2;go_wp2_with fail
  refine (M.out _ _ _ R1.out R2.out).mono ?_; rintro e w3 ⟨v3, rfl, r3, b3⟩;have R3 := Lib.hid (row_down hs r3);go_wp2;go_ret;exact ⟨_, rfl, R3.out, bnext hb2 b3⟩
open Go.RowKit
theorem singR_elem (l : List Int) (i : Int) : elemR (singR l) i ↔ i ∈ l ∧ okR (i, 1) := by
 unfold elemR singR;constructor
 ·rintro ⟨r, hr, h1, h2, h3⟩
  obtain ⟨b, hb, rfl⟩ := List.mem_map.1 hr;dsimp only at h2 h3
  obtain rfl : i = b := by omega
  exact ⟨hb, h1⟩
 ·rintro ⟨h, hk⟩
  exact ⟨(i, 1), List.mem_map.2 ⟨i, h, rfl⟩, hk, Int.le_refl _, by show i < i + 1; omega⟩
theorem physR_elem {l : List Ent} (h : RowOk true l) (i : Int) : elemR (physR l) i ↔ ∃ e ∈ l, e.phys ≤ i ∧ i < e.phys + e.len := by
 have ok : ∀ e ∈ l, okR (e.phys, e.len) := fun e he => by
  have := (entOk_leaf e).1 (((row_rise l).1 h).mem e he).1;unfold Lies at this;exact ⟨by show 0 ≤ e.phys; omega, by show 1 ≤ e.len; omega, by show e.phys + e.len ≤ (9223372036854775807 : Int); omega⟩
 unfold elemR physR;constructor
 ·rintro ⟨r, hr, h1, h2, h3⟩
  obtain ⟨e, he, rfl⟩ := List.mem_map.1 hr;exact ⟨e, he, h2, h3⟩
 ·rintro ⟨e, he, h2, h3⟩
  exact ⟨_, List.mem_map.2 ⟨e, he, rfl⟩, ok e he, h2, h3⟩
theorem norm_pos {l : List (Int × Int)} {e : Int} (h : Norm e l) : 0 < l.length ↔ ∃ i, elemR l i := by
 cases h with
 | nil => exact ⟨fun h => absurd h (by simp), fun ⟨i, h⟩ => absurd h (elemR_nil i)⟩
 | cons a b c => exact ⟨fun _ => ⟨_, _, List.mem_cons_self .., b, Int.le_refl _, by have := b.2.1; omega⟩, fun _ => by simp⟩
theorem hit_meet {l : List Ent} (h : RowOk true l) (bl : List Int) : decide (0 < (meetR (blocksV l) (singR bl)).length) = hitA l bl := by
 have hn : Norm (-1) (meetR (blocksV l) (singR bl)) := minus_norm _ _;unfold hitA;rw [Bool.eq_iff_iff, decide_eq_true_iff, List.any_eq_true, norm_pos hn];unfold blocksV;rw [if_pos h];unfold blocksX;constructor
 ·rintro ⟨i, hi⟩
  rw [meet_elem, norm_elem, physR_elem h, singR_elem] at hi;obtain ⟨⟨e, he, h1, h2⟩, h3, h4⟩ := hi;exact ⟨i, h3, List.any_eq_true.2 ⟨e, he, decide_eq_true ⟨h1, h2⟩⟩⟩
 ·rintro ⟨i, hi, h2⟩
  obtain ⟨e, he, h3⟩ := List.any_eq_true.1 h2;have h3 := of_decide_eq_true h3;refine ⟨i, ?_⟩;rw [meet_elem, norm_elem, physR_elem h, singR_elem];have := (entOk_leaf e).1 (((row_rise l).1 h).mem e he).1;unfold Lies at this;exact ⟨⟨e, he, h3⟩, hi, by show 0 ≤ i; omega, by show (1 : Int) ≤ 1; omega, by show i + 1 ≤ (9223372036854775807 : Int); omega⟩
theorem fkhit_any (l : List Ent) (h : RowOk true l) (hf : fitE l) (hl : l.length ≤ 4000) (bl : List Int) (hb : bl.length ≤ 900000) (hbf : ∀ b ∈ bl, I64 b) (v vb : Value) (w : World) (hv : EntsIn v l w) (hvb : IntsR vb bl w) :
 Calls Tryz.prog 59 #[v, vb] w fun e w' => e = .returned (.bool (hitA l bl)) ∧ Below w.heap.size w w' := by
 have HB := Lib.hid (xblocks_any l hf hl v w hv);have HS := Lib.hid fun W (h : IntsR vb bl W) => singles_any bl (by omega) vb W h
 have hfa : fitR (blocksV l) := by
  unfold blocksV; rw [if_pos h]; exact (norm_norm (physR l)).fit
 have hfs : fitR (singR bl) := fun r hr => by
  obtain ⟨b, hb2, rfl⟩ := List.mem_map.1 hr;exact ⟨hbf b hb2, (by decide : (-9223372036854775808 : Int) ≤ 1), (by decide : (1 : Int) ≤ 9223372036854775807)⟩
 have hla : (blocksV l).length ≤ 4000 := by
  unfold blocksV; rw [if_pos h]; exact Nat.le_trans (norm_len _) (by rw [phys_len]; exact hl)
 have HM := Lib.hid fun va vc W h1 h2 => meet_any (blocksV l) (singR bl) hfa hfs (by rw [singR_len]; omega) va vc W h1 h2;have HML := Lib.hid (hit_meet h bl);rw [← HML.out];have HVB := Lib.hid hvb;clear hv hvb hfa hfs hla hbf hf h HML;generalize blocksV l = A at *;generalize singR bl = C at *;generalize meetR A C = M at *
 go_enter Tryz.func59, Tryz.ntmps59
 go_wp2_with fail
 refine HB.out.mono ?_; rintro e w2 ⟨u, rfl, hu, b2⟩;go_wp2_with fail
 refine (HS.out _ (HVB.out.kept b2)).mono ?_; rintro e w3 ⟨u2, rfl, hu2, b3⟩;go_wp2_with fail
 refine (HM.out _ _ _ (runsAt_in (row_kept hu b3)) (runsAt_in hu2)).mono ?_; rintro e w4 ⟨u4, rfl, hu4, b4⟩;obtain ⟨ad, cp, rfl, -⟩ := (runsAt_in hu4 : RunsIn u4 M w4);have HZ := Lib.hid (bnext (bnext b2 b3) b4);clear HB HS HM HVB hu hu2 hu4 b2 b3 b4;go_wp2;go_ret;exact ⟨ret_bool (decide_eq_decide.2 ⟨fun h => by omega, fun h => by omega⟩), HZ.out⟩
open Go.RowKit
theorem fktake_any (fn : Nat) (caps : Array Value) (rd : Rd) (C B G R : Nat) (w0 : World) (hrd : Reads fn caps rd B w0) (hR : B ≤ R) (hCB : C ≤ B) (D : Nat) (hD : D ≤ 1000) : ∀ r, Takes fn caps rd C B G R w0 D r
 | 0 => take_step fn caps rd C B G R w0 hrd hR hCB D 0 hD (.inl rfl)
 | r + 1 => take_step fn caps rd C B G R w0 hrd hR hCB D (r + 1) hD (.inr (fktake_any fn caps rd C B G R w0 hrd hR hCB D hD r))
theorem rd_equal_nil (w : World) (fn : Nat) (caps : Array Value) : ∀ d, (Op.equalIn (d + 1) 102 (.func (.func fn) #[] caps) .nilFunc).run Tryz.prog w = .ok false w := fun d => by
 simp [Op.equalIn, run_underlying Tryz.underlying102]
theorem rd_run_nil (w : World) (fn : Nat) (caps : Array Value) : (binOp .eql 102 (.func (.func fn) #[] caps) .nilFunc).run Tryz.prog w = .ok (.bool false) w := by
 have h : (Op.equal 102 (.func (.func fn) #[] caps) .nilFunc).run Tryz.prog w = .ok false w := rd_equal_nil w fn caps 9999;simp only [binOp]
 simp [h]
theorem rooted_deep {depth : Int} {root : List Ent} (h : RootedA depth root) : 0 ≤ depth ∧ depth ≤ 4 ∧ root.length ≤ 4 := by
 unfold RootedA at h;rw [ok_kindN (by show (1 : Int) ≠ 0; decide)] at h;unfold Full at h;exact ⟨h.2.2.2.1.1, h.2.2.2.1.2, h.2.2.2.2.1⟩
theorem load_start (fn : Nat) (caps : Array Value) (D C : Nat) (w w2 : World) (hC : C ≤ w.heap.size) (hb : Below w.heap.size w w2) :
 ∃ w3 w4 w5, w2.alloc (.cells (madeCells #[.slice none 0 0] (D + 1)) 149) = w3 ∧ w3.alloc (.cells Tryz.zeroCells147 147) = w4 ∧
  w4.setRow w3.heap.size (rdC Tryz.zeroCells147 fn caps (.slice (some ⟨w2.heap.size, 0, none⟩) (D + 1) (D + 1))) = w5 ∧
  w4.heap[w3.heap.size]? = some (.cells Tryz.zeroCells147 147 (0, 0)) ∧
  ShpAt (EntsS C) w.heap.size w2.heap.size (List.replicate (D + 1) []) (fun _ => .slice none 0 0) w5 ∧ RdAt w3.heap.size fn caps [] (.slice (some ⟨w2.heap.size, 0, none⟩) (D + 1) (D + 1)) w5 ∧
  Below w2.heap.size w2 w5 ∧ w2.heap.size < w3.heap.size := by
 have hs := shape_start w2 (D + 1) (keeps_ents hC) hb.size;obtain ⟨w3, h3⟩ : ∃ w3, w2.alloc (.cells (madeCells #[.slice none 0 0] (D + 1)) 149) = w3 := ⟨_, rfl⟩;rw [h3] at hs
 have b3 : Below w2.heap.size w2 w3 := by rw [← h3]; exact balloc1 _ _
 have z3 : w3.heap.size = w2.heap.size + 1 := by rw [← h3, size_alloc]
 obtain ⟨w4, h4⟩ : ∃ w4, w3.alloc (.cells Tryz.zeroCells147 147) = w4 := ⟨_, rfl⟩
 have b4 : Below w3.heap.size w3 w4 := by rw [← h4]; exact balloc1 _ _
 have e4 : w4.heap[w3.heap.size]? = some (.cells Tryz.zeroCells147 147 (0, 0)) := by rw [← h4]; exact heap_alloc_new _ _
 obtain ⟨w5, h5⟩ : ∃ w5, w4.setRow w3.heap.size (rdC Tryz.zeroCells147 fn caps (.slice (some ⟨w2.heap.size, 0, none⟩) (D + 1) (D + 1))) = w5 := ⟨_, rfl⟩
 have e5 : Blk w3.heap.size (rdC Tryz.zeroCells147 fn caps (.slice (some ⟨w2.heap.size, 0, none⟩) (D + 1) (D + 1))) 147 w5 := by rw [← h5]; exact setRow_heap _ _ _ _ _ _ e4
 have z5 : Zone w3.heap.size (w3.heap.size + 1) w4 w5 := by
  rw [← h5];exact ⟨rfl, rfl, rfl, by simp, fun k hk hn => setRow_other _ _ k _ (by omega)⟩
 have t4 : TyAt w3.heap.size 147 w4 := ⟨_, _, e4⟩;have t5 : TyAt w3.heap.size 147 w5 := ⟨_, _, e5⟩;have hbs := hb.size;have g5 := Grows.zone1 (B := w.heap.size) (by decide) (by omega) z5 t4 t5;refine ⟨w3, w4, w5, h3, h4, h5, e4, (hs.kept b4).other t4 z5 g5, ⟨⟨e5.lt, fun j hj => ⟨(e5.cell j).trans (rdC_at fn caps _ j hj), e5.frozen j⟩⟩, t5⟩, ?_, by omega⟩;have b34 := bnext b3 b4;exact b34.trans (z5.below (by have := b34.size; omega) (by omega))
open Go.RowKit Go.Shelf
theorem concat2_any (A B : List Ent) (hl : (A ++ B).length ≤ 4000) (va vb : Value) (g : Nat) (T : TypeId) (w : World) (h : Blk g #[va, vb] T w) (hA : EntsIn va A w) (hB : EntsIn vb B w) :
 Calls Tryz.prog 126 #[.slice (some ⟨g, 0, none⟩) 2 2] w fun e w' => ∃ v, e = .returned v ∧ ExtsAt w.heap.size v (A ++ B) w' ∧ Below w.heap.size w w' := by
 have e : catE (fun j => match j with | 0 => A | _ => B) 2 = A ++ B := by simp [catE]
 have := xconcat_any 2 (by omega) (fun j => match j with | 0 => va | _ => vb) (fun j => match j with | 0 => A | _ => B) (by rw [e]; exact hl) g w h.lt
  (fun j hj => by match j, hj with
   | 0, _ => exact h.cell 0
   | 1, _ => exact h.cell 1)
  (fun j hj => by match j, hj with
   | 0, _ => exact hA
   | 1, _ => exact hB)
 rw [e] at this;exact this
def PutOk (l : List Ent) (x : Ent) : Prop := RowOk true l ∧ EntOk true x
instance (l : List Ent) (x : Ent) : Decidable (PutOk l x) := by unfold PutOk; infer_instance
def putO (l : List Ent) (x : Ent) : List Ent := if PutOk l x then putX l x else []
def putF (l : List Ent) (x : Ent) : List (Int × Int) := if PutOk l x then freedX l (putX l x) else []
def putE (l : List Ent) (x : Ent) : Int := if PutOk l x then 0 else 2
open Go.RowKit Go.Shelf
theorem prow_logs {l : List Ent} (h : RowOk true l) : ∀ k, k < l.length → (k : Int) ≤ (eat l k).log := fun k => by
 induction k with
 | zero =>
   intro hk;have := (entOk_leaf _).1 (h 0 hk).1;unfold Lies at this;omega
 | succ k ih =>
   intro hk;have h1 := ih (by omega);have h2 := (entOk_leaf _).1 (h k (by omega)).1;have h3 := (h (k + 1) hk).2 (by omega);rw [Nat.add_sub_cancel] at h3;unfold After at h3;omega
theorem prow_len {l : List Ent} (h : RowOk true l) : l.length ≤ 2048 := by
 by_cases e : l.length = 0
 ·omega
 ·have h1 := prow_logs h (l.length - 1) (by omega)
  have h2 := (entOk_leaf _).1 (h (l.length - 1) (by omega)).1;unfold Lies at h2;omega
def PunOk (l : List Ent) (a n : Int) : Prop := RowOk true l ∧ (0 ≤ a ∧ 0 ≤ n ∧ a ≤ 2048 ∧ n ≤ 2048 - a)
instance (l : List Ent) (a n : Int) : Decidable (PunOk l a n) := by unfold PunOk; infer_instance
def punX (l : List Ent) (a n : Int) : List Ent := if n = 0 then l else change l a (a + n) []
def punO (l : List Ent) (a n : Int) : List Ent := if PunOk l a n then punX l a n else []
def punF (l : List Ent) (a n : Int) : List (Int × Int) := if PunOk l a n then freedX l (punX l a n) else []
def punE (l : List Ent) (a n : Int) : Int := if PunOk l a n then 0 else 2
theorem pun_yes {l : List Ent} {a n : Int} (h : PunOk l a n) : punO l a n = punX l a n ∧ punF l a n = freedX l (punX l a n) ∧ punE l a n = 0 := by unfold punO punF punE; rw [if_pos h, if_pos h, if_pos h]; exact ⟨rfl, rfl, rfl⟩
theorem pun_no {l : List Ent} {a n : Int} (h : ¬ PunOk l a n) : punO l a n = [] ∧ punF l a n = [] ∧ punE l a n = 2 := by unfold punO punF punE; rw [if_neg h, if_neg h, if_neg h]; exact ⟨rfl, rfl, rfl⟩
theorem xpunch_any (l : List Ent) (hf : fitE l) (hl : l.length ≤ 2100) (a n : Int) (ha : I64 a) (hn : I64 n) (v : Value) (w : World) (hv : EntsIn v l w) :
 Calls Tryz.prog 100 #[v, .int .i64 a, .int .i64 n] w fun e w' => ∃ vo vf, e = .returned (.tuple #[vo, vf, .int .i64 (punE l a n)]) ∧ ExtsAt w.heap.size vo (punO l a n) w' ∧ RunsAt w.heap.size vf (punF l a n) w' ∧ Below w.heap.size w w' := by
 have C := fun w hv => xcheck_any l hf v w hv;have HV := Lib.hid hv;obtain ⟨ha1, ha2⟩ := ha;obtain ⟨hn1, hn2⟩ := hn;by_cases h1 : RowOk true l
 ·rw [decide_eq_true h1] at C
  have C := Lib.hid C;have NO : Hid (¬ (0 ≤ a ∧ 0 ≤ n ∧ a ≤ 2048 ∧ n ≤ 2048 - a) → punO l a n = [] ∧ punF l a n = [] ∧ punE l a n = 2) := Lib.hid fun h => pun_no fun k => h k.2;by_cases c1 : a < 0
  ·have d1 : decide (a < 0) = true := decide_eq_true c1
   have HN := Lib.hid (NO.out (by omega));clear NO;rw [HN.out.1, HN.out.2.1, HN.out.2.2];obtain ⟨ad, cap, rfl, -⟩ := entsIn_cells hv
   go_enter Tryz.func100, Tryz.ntmps100
   go_wp2_with fail
   refine (C.out _ HV.out).mono ?_; rintro e w1 ⟨rfl, b1⟩;go_wp2;go_ret3;exact ⟨_, _, rfl, World.ownsRow_nil _ _ _ _, World.ownsRow_nil _ _ _ _, b1⟩
  have d1 : decide (a < 0) = false := decide_eq_false c1;by_cases c2 : n < 0
  ·have d2 : decide (n < 0) = true := decide_eq_true c2
   have HN := Lib.hid (NO.out (by omega));clear NO;rw [HN.out.1, HN.out.2.1, HN.out.2.2];obtain ⟨ad, cap, rfl, -⟩ := entsIn_cells hv
   go_enter Tryz.func100, Tryz.ntmps100
   go_wp2_with fail
   refine (C.out _ HV.out).mono ?_; rintro e w1 ⟨rfl, b1⟩;go_wp2;go_ret3;exact ⟨_, _, rfl, World.ownsRow_nil _ _ _ _, World.ownsRow_nil _ _ _ _, b1⟩
  have d2 : decide (n < 0) = false := decide_eq_false c2;by_cases c3 : 2048 < a
  ·have d3 : decide (2048 < a) = true := decide_eq_true c3
   have HN := Lib.hid (NO.out (by omega));clear NO;rw [HN.out.1, HN.out.2.1, HN.out.2.2];obtain ⟨ad, cap, rfl, -⟩ := entsIn_cells hv
   go_enter Tryz.func100, Tryz.ntmps100
   go_wp2_with fail
   refine (C.out _ HV.out).mono ?_; rintro e w1 ⟨rfl, b1⟩;go_wp2;go_ret3;exact ⟨_, _, rfl, World.ownsRow_nil _ _ _ _, World.ownsRow_nil _ _ _ _, b1⟩
  have d3 : decide (2048 < a) = false := decide_eq_false c3;by_cases c4 : 2048 - a < n
  ·have d4 : decide (2048 - a < n) = true := decide_eq_true c4
   have HN := Lib.hid (NO.out (by omega));clear NO;rw [HN.out.1, HN.out.2.1, HN.out.2.2];obtain ⟨ad, cap, rfl, -⟩ := entsIn_cells hv
   go_enter Tryz.func100, Tryz.ntmps100
   go_wp2_with fail
   refine (C.out _ HV.out).mono ?_; rintro e w1 ⟨rfl, b1⟩;go_wp2;go_ret3;exact ⟨_, _, rfl, World.ownsRow_nil _ _ _ _, World.ownsRow_nil _ _ _ _, b1⟩
  have d4 : decide (2048 - a < n) = false := decide_eq_false c4;obtain ⟨e1, e2, e3⟩ := pun_yes (l := l) (a := a) (n := n) ⟨h1, by omega, by omega, by omega, by omega⟩;rw [e1, e2, e3];clear e1 e2 e3 NO;have hr := (row_rise l).1 h1;have hok : ∀ e ∈ l, EntOk true e := fun e he => (hr.mem e he).1;by_cases c5 : n = 0
  ·have d5 : (n == 0) = true := by rw [beq_iff_eq]; exact c5
   unfold punX;rw [if_pos c5, freed_self];have CL := Lib.hid fun W hv => xclone_any l (by omega) v W hv;clear h1 hr hok c5;obtain ⟨ad, cap, rfl, -⟩ := entsIn_cells hv
   go_enter Tryz.func100, Tryz.ntmps100
   go_wp2_with fail
   refine (C.out _ HV.out).mono ?_; rintro e w1 ⟨rfl, b1⟩;have HV := Lib.hid (HV.out.kept b1);clear C;go_wp2_with fail
   refine (CL.out _ HV.out).mono ?_; rintro e w2 ⟨v2, rfl, r2, b2⟩;have R2 := Lib.hid (row_down b1.size r2);go_wp2;go_ret3;exact ⟨_, _, rfl, R2.out, World.ownsRow_nil _ _ _ _, bnext b1 b2⟩
  ·have d5 : (n == 0) = false := by rw [beq_eq_false_iff_ne]; exact c5
   unfold punX;rw [if_neg c5]
   have hsum : a + n ≤ 2048 := by omega
   have hwr : IntKind.i64.wrap (a + n) = a + n := IntWalk.i64_in _ (by omega);have hp := punch_rise hr (a := a) (b := a + n) (by omega) (by omega);have HPL : (change l a (a + n) []).length ≤ 4000 := Nat.le_trans (prow_len ((row_rise _).2 hp)) (by decide)
   have hcat : keep l 0 a ++ keep l (a + n) 2048 = change l a (a + n) [] := by unfold change; rw [List.nil_append]
   have W1 := Lib.hid fun W hv => xwithin_any l hok (by omega) 0 a v W hv;have W2 := Lib.hid fun W hv => xwithin_any l hok (by omega) (a + n) 2048 v W hv;have W3 := Lib.hid fun W hv => xwithin_any l hok (by omega) a (a + n) v W hv;have CC := fun (W : World) (g : Nat) (va vb : Value) (h : Blk g #[va, vb] 42 W) ha hb => concat2_any (keep l 0 a) (keep l (a + n) 2048) (by rw [hcat]; exact HPL) va vb g 42 W h ha hb;rw [hcat] at CC;have CC := Lib.hid CC
   have hkl : (keep l a (a + n)).length ≤ 4000 := by have := keep_len l a (a + n); omega
   have L := fun v u W hv hu => xlost_any (keep l a (a + n)) (change l a (a + n) []) ((keep_rise hr _ _).1.down (by omega)) hp hkl HPL v u W hv hu;rw [lostX_is hr (a := a) (b := a + n) (by omega) (by omega) (nilOk _ 0).1 (nilOk 0 _).2] at L;have L := Lib.hid L;generalize change l a (a + n) [] = O at *;generalize freedX l O = F at *;generalize keep l 0 a = KA at *;generalize keep l (a + n) 2048 = KB at *;generalize keep l a (a + n) = KM at *;clear h1 hr hok hp HPL hkl hcat c5;obtain ⟨ad, cap, rfl, -⟩ := entsIn_cells hv
   go_enter Tryz.func100, Tryz.ntmps100
   go_wp2_with fail
   refine (C.out _ HV.out).mono ?_; rintro e w1 ⟨rfl, b1⟩;have HV := Lib.hid (HV.out.kept b1);have hb1 := b1;clear C b1;go_wp2_with fail
   refine (W1.out _ HV.out).mono ?_; rintro e w2 ⟨v2, rfl, r2, b2⟩;have hb2 := bnext hb1 b2;have HV := Lib.hid (HV.out.kept b2);obtain ⟨ad2, cp2, hs2, -⟩ := shape_of r2;subst hs2;have RA := Lib.hid (rowE_in r2);clear r2 b2 W1;go_wp2_with fail
   refine (W2.out _ HV.out).mono ?_; rintro e w3 ⟨v3, rfl, r3, b3⟩;have hb3 := bnext hb2 b3;have HV := Lib.hid (HV.out.kept b3);obtain ⟨ad3, cp3, hs3, -⟩ := shape_of r3;subst hs3;have bq := balloc1 w3 (.cells #[.slice ad2 KA.length cp2, .slice ad3 KB.length cp3] 42);have RB := Lib.hid ((rowE_in r3).kept bq);have RA := Lib.hid ((RA.out.kept b3).kept bq);have HT := Lib.hid (Blk.new #[.slice ad2 KA.length cp2, .slice ad3 KB.length cp3] 42 w3);have HV := Lib.hid (HV.out.kept bq);have hb4 := bnext hb3 bq;clear r3 b3 W2 bq;go_wp2_with fail
   refine (CC.out _ _ _ _ HT.out RA.out RB.out).mono ?_; rintro e w5 ⟨v5, rfl, r5, b5⟩;have hb5 := bnext hb4 b5;have HV := Lib.hid (HV.out.kept b5);obtain ⟨ad5, cp5, hs5, -⟩ := shape_of r5;subst hs5;have RO := Lib.hid (row_down hb4.size r5);clear r5 b5 CC HT RA RB;go_wp2_with fail
   refine (W3.out _ HV.out).mono ?_; rintro e w6 ⟨v6, rfl, r6, b6⟩;have hb6 := bnext hb5 b6;obtain ⟨ad6, cp6, hs6, -⟩ := shape_of r6;subst hs6;have RM := Lib.hid (rowE_in r6);have RO := Lib.hid (row_kept RO.out b6);clear r6 b6 W3;go_wp2_with fail
   refine (L.out _ _ _ RM.out (rowE_in RO.out)).mono ?_; rintro e w7 ⟨v7, rfl, r7, b7⟩;have hb7 := bnext hb6 b7;have RO := Lib.hid (row_kept RO.out b7);have RF := Lib.hid (row_down hb6.size r7);clear r7 b7 L;go_wp2;go_ret3;exact ⟨_, _, rfl, RO.out, RF.out, hb7⟩
 ·rw [decide_eq_false h1] at C
  have C := Lib.hid C;have NO : Hid (0 = 0 → punO l a n = [] ∧ punF l a n = [] ∧ punE l a n = 2) := Lib.hid fun _ => pun_no fun k => h1 k.1;have HN := Lib.hid (NO.out (by omega));clear NO;rw [HN.out.1, HN.out.2.1, HN.out.2.2];obtain ⟨ad, cap, rfl, -⟩ := entsIn_cells hv
  go_enter Tryz.func100, Tryz.ntmps100
  go_wp2_with fail
  refine (C.out _ HV.out).mono ?_; rintro e w1 ⟨rfl, b1⟩;go_wp2;go_ret3;exact ⟨_, _, rfl, World.ownsRow_nil _ _ _ _, World.ownsRow_nil _ _ _ _, b1⟩
def CutOk (l : List Ent) (f : Int) : Prop := RowOk true l ∧ 0 ≤ f
instance (l : List Ent) (f : Int) : Decidable (CutOk l f) := by unfold CutOk; infer_instance
def cutO (l : List Ent) (f : Int) : List Ent := if CutOk l f then cutX l f else []
def cutF (l : List Ent) (f : Int) : List (Int × Int) := if CutOk l f then freedX l (cutX l f) else []
def cutE (l : List Ent) (f : Int) : Int := if CutOk l f then 0 else 2
end Go.Proofs.YtknefoemgifbfaaGreat
