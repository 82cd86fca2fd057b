import Derived.Test.YtknefoemgifbfaaGreatPd38
import Derived.Test.YtknefoemgifbfaaGreatPd22
set_option linter.unusedVariables false
set_option linter.unusedSimpArgs false
set_option linter.constructorNameAsVariable false
set_option maxRecDepth 100000
set_option maxHeartbeats 16000000
namespace Go.Proofs.YtknefoemgifbfaaGreat
open Go.RowKit
theorem eqEnt_any (l m : List Ent) (v u : Value) (w : World) (hv : EntsIn v l w) (hu : EntsIn u m w) :
 Calls Tryz.prog 157 #[v, u] w fun e w' => e = .returned (.bool (decide (l = m))) ∧ Below w.heap.size w w' := by
 obtain ⟨ad, cap, rfl, c1, c2, c3, -⟩ := entsIn_cells hv;obtain ⟨ad2, cap2, rfl, c1', c2', c3', -⟩ := entsIn_cells hu
 have mixed : Tryz.prog.follows .mixedOrders = true := by kernel_rfl
 have H3 := Lib.hid c3;have H4 := Lib.hid c3';clear c3 c3' hv hu;by_cases hl : l.length = m.length
 ·have dl : ((l.length : Int) != (m.length : Int)) = false := by simp [hl]
  have HE : Hid ((∀ i, i < l.length → eat l i = eat m i) → decide (l = m) = true) := Lib.hid fun h => decide_eq_true (List.ext_getElem hl fun i h1 h2 => by
   have := h i h1
   rwa [eat_eq h1, eat_eq h2] at this)
  have HN : Hid (∀ i, eat l i ≠ eat m i → decide (l = m) = false) := Lib.hid fun i h => decide_eq_false fun e => h (by rw [e]);have HL := Lib.hid hl;clear hl
  go_enter Tryz.func157, Tryz.ntmps157
  go_wp2
  go_loopw [5, 13] (fun q5 p wr => ∃ k : Nat, p = .int .i64 k ∧ k ≤ l.length ∧ Hid (∀ i, i < k → eat l i = eat m i) ∧ Below w.heap.size w wr) (fun _ p _ => l.length - (intOf p).toNat)
  case atStart => exact ⟨0, rfl, Nat.zero_le _, Lib.hid (fun i h => by omega), Below.refl _ _⟩
  case round =>
   obtain ⟨k, rfl, hk, HK, hb⟩ := hrel;by_cases hlt : k < l.length
   ·have hltm : k < m.length := by have := HL.out; omega
    obtain ⟨g, o, rfl, hg, hc⟩ := H3.out (by omega);obtain ⟨g2, o2, rfl, hg2, hc2⟩ := H4.out (by omega);have k0 := fun p : BelowP wr => (hc p.to (hb.trans (p.h.mono hb.size)) k hlt).1;have k1 := fun p : BelowP wr => (hc p.to (hb.trans (p.h.mono hb.size)) k hlt).2.1;have k2 := fun p : BelowP wr => (hc p.to (hb.trans (p.h.mono hb.size)) k hlt).2.2;have n0 := fun p : BelowP wr => (hc2 p.to (hb.trans (p.h.mono hb.size)) k hltm).1;have n1 := fun p : BelowP wr => (hc2 p.to (hb.trans (p.h.mono hb.size)) k hltm).2.1;have n2 := fun p : BelowP wr => (hc2 p.to (hb.trans (p.h.mono hb.size)) k hltm).2.2;have RE := fun w => run_ent_eq (eat l k) (eat m k) w;by_cases he : eat l k = eat m k
    ·have HKN : Hid (∀ i, i < k + 1 → eat l i = eat m i) := Lib.hid fun i hi => by
      by_cases e : i = k
      ·subst e; exact he
      ·exact HK.out i (by omega)
     rw [decide_eq_true he] at RE;clear HK he hc hc2 HE HN;generalize eat l k = yl at *;generalize eat m k = ym at *;obtain ⟨a0, a1, a2⟩ := yl;obtain ⟨b0, b1, b2⟩ := ym;dsimp only at *;go_wp2;refine wp_region_quiet_below mixed (by kernel_rfl) ?_
     repeat (go_big_quiet_step (fail))
     refine wpQuiet_nil ?_;intro w0q hw';obtain ⟨⟨wq, bq⟩, hw''⟩ := hw';have hw2 : wq = w0q := hw''.symm;clear hw'';subst hw2;have hb2 := bnext hb bq;clear k0 k1 k2 n0 n1 n2 RE;go_wp2;exact ⟨⟨k + 1, by go_num, by omega, HKN, hb2⟩, by simp [intOf]; omega⟩
    ·have HR := Lib.hid (HN.out k he)
     rw [decide_eq_false he] at RE;clear HK he hc hc2 HE HN;generalize eat l k = yl at *;generalize eat m k = ym at *;obtain ⟨a0, a1, a2⟩ := yl;obtain ⟨b0, b1, b2⟩ := ym;dsimp only at *;go_wp2;refine wp_region_quiet_below mixed (by kernel_rfl) ?_
     repeat (go_big_quiet_step (fail))
     refine wpQuiet_nil ?_;intro w0q hw';obtain ⟨⟨wq, bq⟩, hw''⟩ := hw';have hw2 : wq = w0q := hw''.symm;clear hw'';subst hw2;have hb2 := bnext hb bq;clear k0 k1 k2 n0 n1 n2 RE;go_wp2;go_ret;exact ⟨ret_bool (by rw [HR.out]), hb2⟩
   ·obtain rfl : k = l.length := by omega
    have HR := Lib.hid (HE.out HK.out);go_wp2;go_ret;exact ⟨ret_bool (by rw [HR.out]), hb⟩
 ·have dl : ((l.length : Int) != (m.length : Int)) = true := by simp; omega
  have HR : Hid (decide (l = m) = false) := Lib.hid (decide_eq_false fun e => hl (by rw [e]));rw [HR.out];clear hl
  go_enter Tryz.func157, Tryz.ntmps157
  go_wp2;go_ret;exact ⟨rfl, Below.refl _ _⟩
theorem eqExt_any (l m : List Ent) (v u : Value) (w : World) (hv : EntsIn v l w) (hu : EntsIn u m w) :
 Calls Tryz.prog 105 #[v, u] w fun e w' => e = .returned (.bool (decide (l = m))) ∧ Below w.heap.size w w' := by
 obtain ⟨ad, cap, rfl, c1, c2, c3, -⟩ := entsIn_cells hv;obtain ⟨ad2, cap2, rfl, c1', c2', c3', -⟩ := entsIn_cells hu
 have mixed : Tryz.prog.follows .mixedOrders = true := by kernel_rfl
 have H3 := Lib.hid c3;have H4 := Lib.hid c3';clear c3 c3' hv hu;by_cases hl : l.length = m.length
 ·have dl : ((l.length : Int) != (m.length : Int)) = false := by simp [hl]
  have HE : Hid ((∀ i, i < l.length → eat l i = eat m i) → decide (l = m) = true) := Lib.hid fun h => decide_eq_true (List.ext_getElem hl fun i h1 h2 => by
   have := h i h1
   rwa [eat_eq h1, eat_eq h2] at this)
  have HN : Hid (∀ i, eat l i ≠ eat m i → decide (l = m) = false) := Lib.hid fun i h => decide_eq_false fun e => h (by rw [e]);have HL := Lib.hid hl;clear hl
  go_enter Tryz.func105, Tryz.ntmps105
  go_wp2
  go_loopw [5, 13] (fun q5 p wr => ∃ k : Nat, p = .int .i64 k ∧ k ≤ l.length ∧ Hid (∀ i, i < k → eat l i = eat m i) ∧ Below w.heap.size w wr) (fun _ p _ => l.length - (intOf p).toNat)
  case atStart => exact ⟨0, rfl, Nat.zero_le _, Lib.hid (fun i h => by omega), Below.refl _ _⟩
  case round =>
   obtain ⟨k, rfl, hk, HK, hb⟩ := hrel;by_cases hlt : k < l.length
   ·have hltm : k < m.length := by have := HL.out; omega
    obtain ⟨g, o, rfl, hg, hc⟩ := H3.out (by omega);obtain ⟨g2, o2, rfl, hg2, hc2⟩ := H4.out (by omega);have k0 := fun p : BelowP wr => (hc p.to (hb.trans (p.h.mono hb.size)) k hlt).1;have k1 := fun p : BelowP wr => (hc p.to (hb.trans (p.h.mono hb.size)) k hlt).2.1;have k2 := fun p : BelowP wr => (hc p.to (hb.trans (p.h.mono hb.size)) k hlt).2.2;have n0 := fun p : BelowP wr => (hc2 p.to (hb.trans (p.h.mono hb.size)) k hltm).1;have n1 := fun p : BelowP wr => (hc2 p.to (hb.trans (p.h.mono hb.size)) k hltm).2.1;have n2 := fun p : BelowP wr => (hc2 p.to (hb.trans (p.h.mono hb.size)) k hltm).2.2;have RE := fun w => run_ext_eq (eat l k) (eat m k) w;by_cases he : eat l k = eat m k
    ·have HKN : Hid (∀ i, i < k + 1 → eat l i = eat m i) := Lib.hid fun i hi => by
      by_cases e : i = k
      ·subst e; exact he
      ·exact HK.out i (by omega)
     rw [decide_eq_true he] at RE;clear HK he hc hc2 HE HN;generalize eat l k = yl at *;generalize eat m k = ym at *;obtain ⟨a0, a1, a2⟩ := yl;obtain ⟨b0, b1, b2⟩ := ym;dsimp only at *;go_wp2;refine wp_region_quiet_below mixed (by kernel_rfl) ?_
     repeat (go_big_quiet_step (fail))
     refine wpQuiet_nil ?_;intro w0q hw';obtain ⟨⟨wq, bq⟩, hw''⟩ := hw';have hw2 : wq = w0q := hw''.symm;clear hw'';subst hw2;have hb2 := bnext hb bq;clear k0 k1 k2 n0 n1 n2 RE;go_wp2;exact ⟨⟨k + 1, by go_num, by omega, HKN, hb2⟩, by simp [intOf]; omega⟩
    ·have HR := Lib.hid (HN.out k he)
     rw [decide_eq_false he] at RE;clear HK he hc hc2 HE HN;generalize eat l k = yl at *;generalize eat m k = ym at *;obtain ⟨a0, a1, a2⟩ := yl;obtain ⟨b0, b1, b2⟩ := ym;dsimp only at *;go_wp2;refine wp_region_quiet_below mixed (by kernel_rfl) ?_
     repeat (go_big_quiet_step (fail))
     refine wpQuiet_nil ?_;intro w0q hw';obtain ⟨⟨wq, bq⟩, hw''⟩ := hw';have hw2 : wq = w0q := hw''.symm;clear hw'';subst hw2;have hb2 := bnext hb bq;clear k0 k1 k2 n0 n1 n2 RE;go_wp2;go_ret;exact ⟨ret_bool (by rw [HR.out]), hb2⟩
   ·obtain rfl : k = l.length := by omega
    have HR := Lib.hid (HE.out HK.out);go_wp2;go_ret;exact ⟨ret_bool (by rw [HR.out]), hb⟩
 ·have dl : ((l.length : Int) != (m.length : Int)) = true := by simp; omega
  have HR : Hid (decide (l = m) = false) := Lib.hid (decide_eq_false fun e => hl (by rw [e]));rw [HR.out];clear hl
  go_enter Tryz.func105, Tryz.ntmps105
  go_wp2;go_ret;exact ⟨rfl, Below.refl _ _⟩
open Go.RowKit
theorem ents_t {v : Value} {l : List Ent} {w : World} (h : EntsIn v l w) : EntsT (frC w.heap.size) v l w := EntsT.old h (Nat.le_refl _) (Nat.le_refl _) (Below.refl _ _)
theorem begins_any (l node : List Ent) (v u : Value) (w : World) (hv : EntsIn v l w) (hu : EntsIn u node w) :
 Calls Tryz.prog 132 #[v, u] w fun e w' => e = .returned (.bool (beginsA l node)) ∧ Below w.heap.size w w' := by
 obtain ⟨la, lc, rfl, l1, l2, l3, l4⟩ := entsIn_cells hv;obtain ⟨na, nc, rfl, n1, n2, -⟩ := entsIn_cells hu;unfold beginsA;by_cases h : node.length ≤ l.length
 ·have d1 : decide ((l.length : Int) ≥ (node.length : Int)) = true := decide_eq_true (by omega)
  have hs := toE_run la l.length lc node.length (by omega) l4;have ht := (EntsT.take rfl (ents_t hv) h).now;have C := Lib.hid (eqEnt_any (l.take node.length) node _ _ w ht hu);rw [decide_eq_true h];clear hv hu l3 l4 ht
  go_enter Tryz.func132, Tryz.ntmps132
  go_wp2_with fail
  refine C.out.mono ?_; rintro e w2 ⟨rfl, b2⟩;go_wp2;go_ret;exact ⟨by rw [Bool.true_and]; rfl, b2⟩
 ·have d1 : decide ((l.length : Int) ≥ (node.length : Int)) = false := decide_eq_false (by omega)
  rw [decide_eq_false h];clear hv hu l3 l4
  go_enter Tryz.func132, Tryz.ntmps132
  go_wp2;go_ret;exact ⟨by rw [Bool.false_and]; rfl, Below.refl _ _⟩
theorem ends_any (l node : List Ent) (v u : Value) (w : World) (hv : EntsIn v l w) (hu : EntsIn u node w) :
 Calls Tryz.prog 133 #[v, u] w fun e w' => e = .returned (.bool (endsA l node)) ∧ Below w.heap.size w w' := by
 obtain ⟨la, lc, rfl, l1, l2, l3, l4⟩ := entsIn_cells hv;obtain ⟨na, nc, rfl, n1, n2, -⟩ := entsIn_cells hu;unfold endsA;by_cases h : node.length ≤ l.length
 ·have d1 : decide ((l.length : Int) ≥ (node.length : Int)) = true := decide_eq_true (by omega)
  obtain ⟨k, hk⟩ : ∃ k, l.length - node.length = k := ⟨_, rfl⟩;have hs := fromE_run la l.length lc k (by omega) (by omega);have ht := (fromE_ents rfl (ents_t hv) (k := k) (by omega)).now;have C := Lib.hid (eqEnt_any (l.drop k) node _ _ w ht hu);rw [decide_eq_true h, hk]
  have hsub : (l.length : Int) - (node.length : Int) = (k : Int) := by omega
  clear hv hu l3 l4 ht
  go_enter Tryz.func133, Tryz.ntmps133
  go_wp2_with fail
  refine C.out.mono ?_; rintro e w2 ⟨rfl, b2⟩;go_wp2;go_ret;exact ⟨by rw [Bool.true_and]; rfl, b2⟩
 ·have d1 : decide ((l.length : Int) ≥ (node.length : Int)) = false := decide_eq_false (by omega)
  rw [decide_eq_false h];clear hv hu l3 l4
  go_enter Tryz.func133, Tryz.ntmps133
  go_wp2;go_ret;exact ⟨by rw [Bool.false_and]; rfl, Below.refl _ _⟩
abbrev spanC (s : Span) : Array Value := #[.int .i64 (s.first : Int), .int .i64 (s.last : Int), .int .i64 (s.start : Int), .int .i64 (s.stop : Int)]
theorem all_any (ns : List (List Ent)) (l : List Ent) (v u : Value) (w : World) (hv : NodesIn v ns w) (hu : EntsIn u l w) :
 Calls Tryz.prog 108 #[v, u] w fun e w' => e = .returned (spanV (spanAll ns l)) ∧ Below w.heap.size w w' := by
 obtain ⟨la, lc, rfl, l1, l2, -⟩ := RowsIn.cells hv;obtain ⟨na, nc, rfl, n1, n2, -⟩ := entsIn_cells hu;have hX : Blk w.heap.size #[.int .i64 0, .int .i64 0, .int .i64 0, .int .i64 0] 200 (w.alloc (.cells #[.int .i64 0, .int .i64 0, .int .i64 0, .int .i64 0] 200)) := Blk.new _ _ _;have hb := balloc1 w (.cells #[.int .i64 0, .int .i64 0, .int .i64 0, .int .i64 0] 200);clear hv hu
 go_enter Tryz.func108, Tryz.ntmps108
 go_wp2
 (try simp only [Exit.inBlock, Exit.then])
 refine bodyPost_ret (v := spanV (spanAll ns l)) ?_ rfl ⟨rfl, ?_⟩
 ·rw [results_one_cell rfl]
  unfold spanAll;go_simp
 ·exact balloc1 _ _
theorem nodeAt_eq {ns : List (List Ent)} {i : Nat} (h : i < ns.length) : nodeAt ns i = ns[i] := by unfold nodeAt; rw [List.getElem?_eq_getElem h]; rfl
theorem node_len {v : Value} {ns : List (List Ent)} {w : World} (h : NodesIn v ns w) : ∃ ad cap, v = .slice ad ns.length cap ∧ ns.length ≤ cap ∧ cap ≤ 9223372036854775807 ∧ ∀ k, k < ns.length → ∃ g o a c, ad = some ⟨g, o, none⟩ ∧ ∀ w', Below w.heap.size w w' → w'.cell? ⟨g, o + k, none⟩ = some (.slice a (nodeAt ns k).length c) ∧ EntsIn (.slice a (nodeAt ns k).length c) (nodeAt ns k) w' := by
 obtain ⟨ad, cap, rfl, h1, h2, h3, -⟩ := RowsIn.cells h;refine ⟨ad, cap, rfl, h1, h2, fun k hk => ?_⟩;obtain ⟨g, o, e, hg, h4⟩ := h3 (by omega);obtain ⟨u, hu, hx⟩ := h4 k hk;rw [nodeAt_eq hk];obtain ⟨a, c, rfl, -⟩ := entsIn_cells hx;exact ⟨g, o, a, c, e, fun w' hb => ⟨(hb.cell (p := ⟨g, o + k, none⟩) hg).trans hu, hx.kept hb⟩⟩
theorem wider_any (ns : List (List Ent)) (l : List Ent) (s : Span) (hso : SpanOk ns l s) (hw : s.last - s.first < ns.length) (hl : l.length ≤ 100000) (hn : ns.length ≤ 100000) (v : Value) (w : World) (hv : NodesIn v ns w) :
 Calls Tryz.prog 134 #[spanV s, v] w fun e w' => e = .returned (spanV (wideA ns s)) ∧ Below w.heap.size w w' := by
 have mixed : Tryz.prog.follows .mixedOrders = true := by kernel_rfl
 obtain ⟨na, nc, rfl, n1, n2, n3⟩ := node_len hv;have hso2 := span_wide hso hw
 have hwE : Hid (0 < s.first → (nodeAt ns (s.first - 1)).length ≤ s.start) := Lib.hid fun h => by
  have h1 := lens_take (ns := ns) (i := s.first - 1) (by have := hso.b; have := hso.a; omega);rw [show s.first - 1 + 1 = s.first by omega, ← hso.e] at h1;omega
 have hwZ : Hid (¬ 0 < s.first → s.stop + (nodeAt ns s.last).length ≤ l.length) := Lib.hid fun h => by
  have h1 := lens_drop (ns := ns) (i := s.last) (by omega);have h2 := hso.f;omega
 have HWD : Hid (wideA ns s = wideA ns s) := Lib.hid rfl;have w1 := hso2.a;have w2 := hso2.b;have w3 := hso2.c;have w4 := hso2.d;have s1 := hso.a;have s2 := hso.b;have s3 := hso.c;have s4 := hso.d;clear hso hso2 hv;obtain ⟨F, T, A, Z⟩ := s;dsimp only at *;have b1 := balloc1 w (.cells #[.int .i64 (F : Int), .int .i64 (T : Int), .int .i64 (A : Int), .int .i64 (Z : Int)] 200);have b2 := bnext b1 (balloc1 _ (.cells #[.int .i64 0, .int .i64 0, .int .i64 0, .int .i64 0] 200));have hX : Blk w.heap.size #[.int .i64 (F : Int), .int .i64 (T : Int), .int .i64 (A : Int), .int .i64 (Z : Int)] 200 ((w.alloc (.cells #[.int .i64 (F : Int), .int .i64 (T : Int), .int .i64 (A : Int), .int .i64 (Z : Int)] 200)).alloc (.cells #[.int .i64 0, .int .i64 0, .int .i64 0, .int .i64 0] 200)) := (Blk.new _ _ _).kept1 (balloc1 _ _)
 have hR : Blk (w.heap.size + 1) #[.int .i64 0, .int .i64 0, .int .i64 0, .int .i64 0] 200 ((w.alloc (.cells #[.int .i64 (F : Int), .int .i64 (T : Int), .int .i64 (A : Int), .int .i64 (Z : Int)] 200)).alloc (.cells #[.int .i64 0, .int .i64 0, .int .i64 0, .int .i64 0] 200)) := by
  have := Blk.new #[.int .i64 0, .int .i64 0, .int .i64 0, .int .i64 0] 200 (w.alloc (.cells #[.int .i64 (F : Int), .int .i64 (T : Int), .int .i64 (A : Int), .int .i64 (Z : Int)] 200));rwa [size_alloc] at this
 have HX := Lib.hid hX;have HR := Lib.hid hR;have HB := Lib.hid b2;have HN := Lib.hid n3;clear n3 b1 b2 hX hR;generalize hw2 : (w.alloc (.cells #[.int .i64 (F : Int), .int .i64 (T : Int), .int .i64 (A : Int), .int .i64 (Z : Int)] 200)).alloc (.cells #[.int .i64 0, .int .i64 0, .int .i64 0, .int .i64 0] 200) = wx at *;have x0 := HX.out.cell 0;simp only [List.getElem?_toArray, List.getElem?_cons_zero] at x0;have f0 := HX.out.frozen 0;by_cases hF : 0 < F
 ·obtain ⟨F1, hF1⟩ : ∃ F1, F1 + 1 = F := ⟨F - 1, by omega⟩
  have hf1 : (F : Int) - 1 = (F1 : Int) := by omega
  obtain ⟨g, o, a, c, rfl, hk⟩ := HN.out F1 (by omega);obtain ⟨nl, hnl⟩ : ∃ nl, (nodeAt ns F1).length = nl := ⟨_, rfl⟩
  have hw' : wideA ns ⟨F, T, A, Z⟩ = ⟨F1, T, A - nl, Z⟩ := by unfold wideA; rw [if_pos hF]; dsimp only; rw [show F - 1 = F1 by omega, hnl]
  have hnA : nl ≤ A := by
   have := hwE.out;rw [show F - 1 = F1 by omega, hnl] at this;exact this hF
  obtain ⟨A1, hA1⟩ : ∃ A1, A - nl = A1 := ⟨_, rfl⟩
  have ha1 : (A : Int) - (nl : Int) = (A1 : Int) := by omega
  rw [hA1] at hw';rw [hw'] at w1 w2 w3 w4 ⊢;dsimp only at w1 w2 w3 w4;rw [hnl] at hk;have HX3 : Hid (Blk w.heap.size #[.int .i64 (F1 : Int), .int .i64 (T : Int), .int .i64 (A : Int), .int .i64 (Z : Int)] 200 (wx.setCell ⟨w.heap.size, 0, none⟩ (.int .i64 (F1 : Int)))) := Lib.hid (HX.out.set 0 (.int .i64 (F1 : Int)));have HR3 := Lib.hid (HR.out.other (p := ⟨w.heap.size, 0, none⟩) (by show w.heap.size ≠ w.heap.size + 1; omega) (.int .i64 (F1 : Int)));have HB3 := Lib.hid (HB.out.setCell (p := ⟨w.heap.size, 0, none⟩) (Nat.le_refl _) (.int .i64 (F1 : Int)));have HKK := Lib.hid hk;have d1 : decide ((F : Int) > 0) = true := decide_eq_true (by omega);clear hw' hA1 hnl hF1 hF hk
  go_enter Tryz.func134, Tryz.ntmps134
  go_upto_region 3 with fail
  try simp only [hf1]
  clear x0 f0 hw2;generalize wx.setCell ⟨w.heap.size, 0, none⟩ (.int .i64 (F1 : Int)) = w3 at *;have c0 := fun q : BelowP w3 => (HX3.out.kept1 q.h).cell 0;have c2 := fun q : BelowP w3 => (HX3.out.kept1 q.h).cell 2;have cn := fun q : BelowP w3 => (HKK.out q.to (HB3.out.trans (q.h.mono HB3.out.size))).1;simp only [List.getElem?_toArray, List.getElem?_cons_zero, List.getElem?_cons_succ] at c0 c2;refine wp_region_tail_below 10 mixed (by kernel_rfl) ?_;simp only [List.take_succ_cons, List.take_zero, List.drop_succ_cons, List.drop_zero]
  repeat (go_big_quiet_step (fail))
  refine wpQuiet_nil ?_;intro w0q hw';obtain ⟨⟨wq, bq⟩, hw''⟩ := hw';have hw2 : wq = w0q := hw''.symm;clear hw'';subst hw2;have q2 := (HX3.out.kept1 bq).cell 2;simp only [List.getElem?_toArray, List.getElem?_cons_zero, List.getElem?_cons_succ] at q2;have f2 := (HX3.out.kept1 bq).frozen 2;have HX4 : Hid (Blk w.heap.size #[.int .i64 (F1 : Int), .int .i64 (T : Int), .int .i64 (A1 : Int), .int .i64 (Z : Int)] 200 (wq.setCell ⟨w.heap.size, 2, none⟩ (.int .i64 (A1 : Int)))) := Lib.hid ((HX3.out.kept1 bq).set 2 (.int .i64 (A1 : Int)));have HR4 := Lib.hid ((HR3.out.kept1 bq).other (p := ⟨w.heap.size, 2, none⟩) (by show w.heap.size ≠ w.heap.size + 1; omega) (.int .i64 (A1 : Int)));have HB4 := Lib.hid ((HB3.out.trans (bq.mono HB3.out.size)).setCell (p := ⟨w.heap.size, 2, none⟩) (Nat.le_refl _) (.int .i64 (A1 : Int)));clear HX3 HR3 HB3 c0 c2 cn bq HKK
  go_upto_region 4 with fail
  try simp only [ha1]
  clear q2 f2;generalize wq.setCell ⟨w.heap.size, 2, none⟩ (.int .i64 (A1 : Int)) = w5 at *;have x0 := HX4.out.cell 0;have x1 := HX4.out.cell 1;have x2 := HX4.out.cell 2;have x3 := HX4.out.cell 3;have r0 := HR4.out.cell 0;have r1 := HR4.out.cell 1;have r2 := HR4.out.cell 2;have r3 := HR4.out.cell 3;have g0 := HR4.out.frozen 0;have g1 := HR4.out.frozen 1;have g2 := HR4.out.frozen 2;have g3 := HR4.out.frozen 3;simp only [List.getElem?_toArray, List.getElem?_cons_zero, List.getElem?_cons_succ] at x0 x1 x2 x3 r0 r1 r2 r3;have HD := Lib.hid fun (a b c d : Value) => (((HB4.out.setCell (p := ⟨w.heap.size + 1, 0, none⟩) (Nat.le_succ _) a).setCell (p := ⟨w.heap.size + 1, 1, none⟩) (Nat.le_succ _) b).setCell (p := ⟨w.heap.size + 1, 2, none⟩) (Nat.le_succ _) c).setCell (p := ⟨w.heap.size + 1, 3, none⟩) (Nat.le_succ _) d;go_wp2
  (try simp only [Exit.inBlock, Exit.then])
  refine bodyPost_ret (v := spanV _) ?_ rfl ⟨rfl, ?_⟩
  ·rw [results_one_cell rfl]
   go_simp
  ·exact HD.out _ _ _ _
 ·have hw' : wideA ns ⟨F, T, A, Z⟩ = ⟨F, T + 1, A, Z + (nodeAt ns T).length⟩ := by unfold wideA; rw [if_neg hF]
  have hZ := hwZ.out hF;obtain ⟨g, o, a, c, rfl, hk⟩ := HN.out T (by omega);obtain ⟨nl, hnl⟩ : ∃ nl, (nodeAt ns T).length = nl := ⟨_, rfl⟩;rw [hnl] at hw' hZ hk;obtain ⟨T1, hT1⟩ : ∃ T1, T + 1 = T1 := ⟨_, rfl⟩;obtain ⟨A1, hA1⟩ : ∃ A1, Z + nl = A1 := ⟨_, rfl⟩
  have ht1 : (T : Int) + 1 = (T1 : Int) := by omega
  have ha1 : (Z : Int) + (nl : Int) = (A1 : Int) := by omega
  rw [hT1, hA1] at hw';rw [hw'] at w1 w2 w3 w4 ⊢;dsimp only at w1 w2 w3 w4;have HKK := Lib.hid hk;have d1 : decide (0 < F) = false := decide_eq_false hF;clear hw' hT1 hA1 hnl hk
  go_enter Tryz.func134, Tryz.ntmps134
  go_upto_region 5 with fail
  clear x0 f0 hw2;have c1 := fun q : BelowP wx => (HX.out.kept1 q.h).cell 1;have c3 := fun q : BelowP wx => (HX.out.kept1 q.h).cell 3;have cn := fun q : BelowP wx => (HKK.out q.to (HB.out.trans (q.h.mono HB.out.size))).1;simp only [List.getElem?_toArray, List.getElem?_cons_zero, List.getElem?_cons_succ] at c1 c3;refine wp_region_tail_below 10 mixed (by kernel_rfl) ?_;simp only [List.take_succ_cons, List.take_zero, List.drop_succ_cons, List.drop_zero]
  repeat (go_big_quiet_step (fail))
  refine wpQuiet_nil ?_;intro w0q hw';obtain ⟨⟨wq, bq⟩, hw''⟩ := hw';have hw2 : wq = w0q := hw''.symm;clear hw'';subst hw2;have q3 := (HX.out.kept1 bq).cell 3;simp only [List.getElem?_toArray, List.getElem?_cons_zero, List.getElem?_cons_succ] at q3;have f3 := (HX.out.kept1 bq).frozen 3;have HX3 : Hid (Blk w.heap.size #[.int .i64 (F : Int), .int .i64 (T : Int), .int .i64 (A : Int), .int .i64 (A1 : Int)] 200 (wq.setCell ⟨w.heap.size, 3, none⟩ (.int .i64 (A1 : Int)))) := Lib.hid ((HX.out.kept1 bq).set 3 (.int .i64 (A1 : Int)));have HR3 := Lib.hid ((HR.out.kept1 bq).other (p := ⟨w.heap.size, 3, none⟩) (by show w.heap.size ≠ w.heap.size + 1; omega) (.int .i64 (A1 : Int)));have HB3 := Lib.hid ((HB.out.trans (bq.mono HB.out.size)).setCell (p := ⟨w.heap.size, 3, none⟩) (Nat.le_refl _) (.int .i64 (A1 : Int)));clear HX HR HB c1 c3 cn HKK bq
  go_upto_region 6 with fail
  try simp only [ha1]
  clear q3 f3;generalize wq.setCell ⟨w.heap.size, 3, none⟩ (.int .i64 (A1 : Int)) = w4 at *;have q1 := HX3.out.cell 1;simp only [List.getElem?_toArray, List.getElem?_cons_zero, List.getElem?_cons_succ] at q1;have f1 := HX3.out.frozen 1;have HX4 : Hid (Blk w.heap.size #[.int .i64 (F : Int), .int .i64 (T1 : Int), .int .i64 (A : Int), .int .i64 (A1 : Int)] 200 (w4.setCell ⟨w.heap.size, 1, none⟩ (.int .i64 (T1 : Int)))) := Lib.hid (HX3.out.set 1 (.int .i64 (T1 : Int)));have HR4 := Lib.hid (HR3.out.other (p := ⟨w.heap.size, 1, none⟩) (by show w.heap.size ≠ w.heap.size + 1; omega) (.int .i64 (T1 : Int)));have HB4 := Lib.hid (HB3.out.setCell (p := ⟨w.heap.size, 1, none⟩) (Nat.le_refl _) (.int .i64 (T1 : Int)));clear HX3 HR3 HB3
  go_upto_region 7 with fail
  try simp only [ht1]
  clear q1 f1;generalize w4.setCell ⟨w.heap.size, 1, none⟩ (.int .i64 (T1 : Int)) = w5 at *;have x0 := HX4.out.cell 0;have x1 := HX4.out.cell 1;have x2 := HX4.out.cell 2;have x3 := HX4.out.cell 3;have r0 := HR4.out.cell 0;have r1 := HR4.out.cell 1;have r2 := HR4.out.cell 2;have r3 := HR4.out.cell 3;have g0 := HR4.out.frozen 0;have g1 := HR4.out.frozen 1;have g2 := HR4.out.frozen 2;have g3 := HR4.out.frozen 3;simp only [List.getElem?_toArray, List.getElem?_cons_zero, List.getElem?_cons_succ] at x0 x1 x2 x3 r0 r1 r2 r3;have HD := Lib.hid fun (a b c d : Value) => (((HB4.out.setCell (p := ⟨w.heap.size + 1, 0, none⟩) (Nat.le_succ _) a).setCell (p := ⟨w.heap.size + 1, 1, none⟩) (Nat.le_succ _) b).setCell (p := ⟨w.heap.size + 1, 2, none⟩) (Nat.le_succ _) c).setCell (p := ⟨w.heap.size + 1, 3, none⟩) (Nat.le_succ _) d;go_wp2
  (try simp only [Exit.inBlock, Exit.then])
  refine bodyPost_ret (v := spanV _) ?_ rfl ⟨rfl, ?_⟩
  ·rw [results_one_cell rfl]
   go_simp
  ·exact HD.out _ _ _ _
end Go.Proofs.YtknefoemgifbfaaGreat
