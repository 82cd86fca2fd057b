import Derived.Test.YtknefoemgifbfaaGreatPd22
import Derived.Test.YtknefoemgifbfaaGreatPd02
set_option linter.unusedVariables false
set_option linter.unusedSimpArgs false
set_option linter.constructorNameAsVariable false
set_option maxRecDepth 100000
set_option maxHeartbeats 16000000
namespace Go.Proofs.YtknefoemgifbfaaGreat
open Go.RowKit Go.Shelf
def encCh (c : Int × ByteArray) : List Value := [.int .i64 c.1, .string c.2]
theorem encCh_cells (l : List (Int × ByteArray)) (j : Nat) (h : j < l.length * 2) : (chgsL l)[j]? = some ((encCh l[j / 2]!)[j % 2]!) := by
 have hk : j / 2 < l.length := by omega
 obtain ⟨h1, h2⟩ := chgsL_at l (j / 2) hk;rw [getElem!_pos l _ hk];rcases Nat.mod_two_eq_zero_or_one j with e | e
 ·have : 2 * (j / 2) = j := by omega
  rw [this] at h1; rw [h1, e]; rfl
 ·have : 2 * (j / 2) + 1 = j := by omega
  rw [this] at h2; rw [h2, e]; rfl
theorem holds_chgs {B g cap : Nat} {l : List (Int × ByteArray)} {w : World} (h : ChgsOwn B (.slice (some ⟨g, 0, none⟩) l.length cap) l w) : Sort.HoldsK encCh 2 w g 0 l.toArray := by
 intro j hj
 have hj : j < l.length * 2 := by simpa using hj
 rw [Nat.zero_add];refine ⟨?_, h.frozenAt j⟩;rw [h.cellAt j hj, encCh_cells l j hj, Sort.get_flatK encCh 2 l.toArray j (by simpa using hj)]
 simp
theorem chgs_sorted {B g cap n : Nat} {l s : List (Int × ByteArray)} {w : World} {os : Array Obj} (hl : s.length = l.length) (h : ChgsOwn B (.slice (some ⟨g, 0, none⟩) l.length cap) l w) :
 ChgsOwn B (.slice (some ⟨g, 0, none⟩) l.length cap) s (sortWorldK encCh 2 w g 0 n s.toArray os) := by
 rcases h.2 with ⟨h0, _⟩ | ⟨g', cap', cur, hv, hb, hcur, hle, hm, hsz, htk⟩
 ·cases h0
 cases hv
 have hg : g < w.heap.size := lt_of_block hcur
 have hblk : (sortWorldK encCh 2 w g 0 n s.toArray os).heap[g]? = some (.cells (Sort.putCells id 0 (Sort.flatK encCh 2 s.toArray) cur) 72 (0, 0)) := by
  unfold sortWorldK;rw [Sort.heap_grow_old _ _ (by simp [Sort.putRowK, Sort.putRow, Sort.mapBlock, Sort.ahead]; exact hg)]
  simp [Sort.putRowK, Sort.putRow, Sort.mapBlock, Sort.ahead, Array.getElem?_modify, hcur, Sort.onCells]
 refine ⟨chgsL_length s, .inr ⟨g, cap, _, by rw [hl], hb, hblk, by rw [hl]; exact hle, hm, by simp [Sort.putCells, hsz], ?_⟩⟩
 apply List.ext_getElem?
 intro j;by_cases hj : j < s.length * 2
 ·rw [List.getElem?_take_of_lt hj, Array.getElem?_toList, encCh_cells s j hj]
  have hjc : j < cur.size := by rw [hsz]; have : l.length ≤ cap := hle; omega
  have hf := Sort.get_flatK encCh 2 s.toArray j (by simpa using hj);rw [getElem!_pos _ j (by simpa using hj)] at hf
  simp [Sort.putCells, hjc, hj]
  simpa using hf
 ·rw [List.getElem?_take_eq_none (by omega), List.getElem?_eq_none (by rw [chgsL_length]; omega)]
theorem below_chgs {B g n : Nat} {l : List (Int × ByteArray)} {w : World} {os : Array Obj} (hg : B ≤ g) (hB : B ≤ w.heap.size) : Below B w (sortWorldK encCh 2 w g 0 n l.toArray os) := by
 have hs : (Sort.putRowK encCh 2 (Sort.ahead w n) g 0 l.toArray).heap.size = w.heap.size := by simp [Sort.putRowK, Sort.putRow, Sort.mapBlock, Sort.ahead]
 refine ⟨rfl, rfl, rfl, ?_, fun k hk => ?_⟩
 ·unfold sortWorldK Sort.grow
  show _ ≤ (Array.size (_ ++ os)); rw [Array.size_append, hs]; omega
 ·unfold sortWorldK
  rw [Sort.heap_grow_old _ _ (by rw [hs]; omega)]
  have : g ≠ k := by omega
  simp [Sort.putRowK, Sort.putRow, Sort.mapBlock, Sort.ahead, Array.getElem?_modify, this]
abbrev cmpCh (x y : Int × ByteArray) : Int := Lib.compareInt x.1 y.1
theorem ltBlock (x y : Int × ByteArray) : ltOf cmpCh x y = decide (x.1 < y.1) := by
 unfold ltOf cmpCh Lib.compareInt;by_cases h1 : x.1 < y.1
 ·simp [h1]
 ·by_cases h2 : y.1 < x.1 <;> simp [h1, h2]
theorem swoBlock : Sort.SWO (ltOf cmpCh) where
 irrefl x := by rw [ltBlock]; simp
 trans x y z h1 h2 := by rw [ltBlock] at *; simp only [decide_eq_true_eq] at *; omega
 ntrans x y z h1 h2 := by rw [ltBlock] at *; simp only [decide_eq_false_iff_not] at *; omega
theorem fcompare_any (x y : Int) (w : World) : Calls Tryz.prog 119 #[.int .i64 x, .int .i64 y] w fun e w' => e = .returned (.int .i64 (Lib.compareInt x y)) ∧ w' = w := AnyG.cmp_Compare_int Tryz.cmpInt x y w
theorem byBlock_any (x y : Int × ByteArray) (W : World) : Calls Tryz.prog 118 #[.agg #[.int .i64 x.1, .string x.2], .agg #[.int .i64 y.1, .string y.2]] W fun e w' => e = .returned (.int .i64 (cmpCh x y)) ∧ ∃ q os', w' = Sort.grow (W.drewN q) os' := by
 unfold cmpCh;have C := Lib.hid (fcompare_any x.1 y.1);generalize Lib.compareInt x.1 y.1 = r at *
 go_enter Tryz.func118, Tryz.ntmps118
 go_wp2_with fail
 refine (C.out _).mono ?_; rintro e w' ⟨rfl, rfl⟩;go_wp2;go_ret;exact ⟨rfl, 0, _, by rw [Sort.alloc_eq_grow, Sort.alloc_eq_grow, Sort.grow_grow]; rfl⟩
theorem sortsCh_none (ad : Option Addr) (cap : Nat) (f : Value) (w : World) :
 Calls Tryz.prog 117 #[.slice ad 0 cap, f] w fun e w' => e = .returned (.tuple #[]) ∧ w' = w := AnyF.slices_SortFunc_none Tryz.sortChg ad cap f w
theorem sortsCh_some (l : List (Int × ByteArray)) (B g cap : Nat) (W : World) (hB : B ≤ g) (hg : g < W.heap.size) (hl : l.length ≤ 1000000) (h : ChgsOwn B (.slice (some ⟨g, 0, none⟩) l.length cap) l W) :
 Calls Tryz.prog 117 #[.slice (some ⟨g, 0, none⟩) l.length cap, .func (.func 118) #[] #[]] W fun e w' => e = .returned (.tuple #[]) ∧
  ∃ s : List (Int × ByteArray), s.Perm l ∧ (∀ i j, (hi : i < j) → (hj : j < s.length) → s[i].1 ≤ s[j].1) ∧ ChgsOwn B (.slice (some ⟨g, 0, none⟩) l.length cap) s w' ∧ Below B W w' := by
 have eg : ∀ args w, (callFunc 118 args).run Tryz.prog w = .ok (.enter 118 args) w := enters_of Tryz.func118 (by kernel_rfl) rfl;have hcmp : CmpLays Tryz.prog 118 #[] encCh 2 cmpCh g 0 l.toArray.size W := fun _ _ _ _ x y => byBlock_any x y _;have hcon := AnyQ.slices_SortFunc Tryz.sortChg 2 Tryz.isAgg72 Tryz.sizeOf72 encCh (fun _ => rfl) (fun x v hv => by simp [encCh] at hv; rcases hv with rfl | rfl <;> rfl) cmpCh swoBlock 118 #[] g 0 cap l.toArray W eg hcmp (holds_chgs h) hg (by simp; omega);rw [List.size_toArray] at hcon;refine Calls.mono (show Calls Tryz.prog 117 _ _ _ from hcon) ?_;rintro e w' ⟨he, d', n, os, hp, hs, rfl⟩;obtain ⟨p1, p2, p3⟩ := hp
 have hlen : d'.toList.length = l.length := by simpa using p1
 have e1 : (d'.extract 0 l.length).toList = d'.toList := by
  rw [show l.length = d'.size from hlen.symm]; simp
 have e2 : ((l.toArray).extract 0 l.length).toList = l := by simp
 rw [e1, e2] at p3;refine ⟨he, d'.toList, p3, fun i j hij hj => ?_, chgs_sorted hlen h, ?_⟩
 ·have h1 := hs i j (Nat.zero_le _) hij (by omega)
  rw [ltBlock, getElem!_pos d' j (by simpa using hj), getElem!_pos d' i (by simp at hj; omega)] at h1;simp only [decide_eq_false_iff_not] at h1;simp only [Array.getElem_toList]; omega
 ·have := below_chgs (w := W) (n := n) (os := os) (l := d'.toList) hB (by omega)
  simpa using this
open Go.RowKit Go.Shelf
abbrev chV (c : Ch) : Value := .agg #[.int .i64 c.1, .string c.2]
theorem find1_any (c : Ch) (b : Int) (W : World) : Calls Tryz.prog 121 #[chV c, .int .i64 b] W fun e w' => e = .returned (.int .i64 (Lib.compareInt c.1 b)) ∧ Below W.heap.size W w' := by
 have C := Lib.hid (fun w => fcompare_any c.1 b w);generalize Lib.compareInt c.1 b = r at *
 go_enter Tryz.func121, Tryz.ntmps121
 go_wp2_with fail
 refine (C.out _).mono ?_; rintro e w' ⟨rfl, rfl⟩;go_wp2;go_ret;exact ⟨rfl, balloc1 _ _⟩
def RiseC (l : List Ch) : Prop := ∀ i j, (hi : i < j) → (hj : j < l.length) → l[i].1 ≤ l[j].1
theorem sortC_rise (l : List Ch) : RiseC (sortC l) := by
 have := List.pairwise_mergeSort (le := fun x y : Ch => decide (x.1 ≤ y.1)) (fun a b c => by simp only [decide_eq_true_eq]; omega) (fun a b => by simp only [Bool.or_eq_true, decide_eq_true_eq]; omega) l;intro i j hij hj;exact of_decide_eq_true (List.pairwise_iff_getElem.1 this i j (by unfold sortC at hj; omega) hj hij)
theorem cmp_lt (x y : Int) : (Lib.compareInt x y < 0) ↔ x < y := by
 unfold Lib.compareInt;by_cases h1 : x < y
 ·simp [h1]
 ·by_cases h2 : y < x <;> simp [h1, h2]
theorem cmp_eq (x y : Int) : (Lib.compareInt x y = 0) ↔ x = y := by
 unfold Lib.compareInt;by_cases h1 : x < y
 ·simp [h1]; omega
 ·by_cases h2 : y < x
  ·simp [h1, h2]; omega
  ·simp [h1, h2]; omega
structure EndsAt (l : List Ch) (b : Int) (i : Nat) : Prop where
 le : i ≤ l.length
 lo : ∀ k (hk : k < l.length), k < i → l[k].1 < b
 hi : ∀ k (hk : k < l.length), i ≤ k → b ≤ l[k].1
theorem find_ends {l : List Ch} {b : Int} {i : Nat} (hs : RiseC l) (h : EndsAt l b i) : findC l b = if hi : i < l.length then (if l[i].1 = b then some l[i] else none) else none := by
 unfold findC
 have e0 : (l.take i).find? (fun c => decide (c.1 = b)) = none := by
  rw [List.find?_eq_none];intro c hc;obtain ⟨k, hk, rfl⟩ := List.mem_iff_getElem.1 hc;rw [List.length_take] at hk;rw [List.getElem_take];have := h.lo k (by omega) (by omega)
  simp; omega
 by_cases hi : i < l.length
 ·rw [dif_pos hi]
  have e1 : l = l.take i ++ l[i] :: l.drop (i + 1) := by rw [← List.drop_eq_getElem_cons hi, List.take_append_drop]
  by_cases hb : l[i].1 = b
  ·rw [if_pos hb]
   conv => lhs; rw [e1]
   rw [List.find?_append, e0, List.find?_cons, decide_eq_true hb]; rfl
  ·rw [if_neg hb, List.find?_eq_none]
   intro c hc;obtain ⟨k, hk, rfl⟩ := List.mem_iff_getElem.1 hc;simp only [decide_eq_true_eq];by_cases q : k < i
   ·have := h.lo k hk q; omega
   ·by_cases q2 : k = i
    ·subst q2; exact hb
    ·intro e
     have h1 := h.hi i hi (Nat.le_refl _);have h2 := hs i k (by omega) hk;exact hb (by omega)
 ·rw [dif_neg hi]
  rw [List.take_of_length_le (by omega)] at e0;exact e0
theorem bsearch_any (l : List Ch) (hs : RiseC l) (hl : l.length ≤ 1000000) (b : Int) (v : Value) (w : World) (hv : ChgsIn v l w) :
 Calls Tryz.prog 120 #[v, .int .i64 b, .func (.func 121) #[] #[]] w fun e w' => (∃ (i : Nat) (f : Bool), e = .returned (.tuple #[.int .i64 (i : Int), .bool f]) ∧ EndsAt l b i ∧ f = (findC l b).isSome) ∧ Below w.heap.size w w' := by
 have eg : ∀ args w, (callFunc 121 args).run Tryz.prog w = .ok (.enter 121 args) w := enters_of Tryz.func121 (by kernel_rfl) rfl;obtain ⟨ad, cap, rfl, c1, c2, hc⟩ := ChgsIn.open hv
 have HC : Hid (∀ w', Below w.heap.size w w' → ∀ k (hk : k < l.length), ∃ g o, ad = some ⟨g, o, none⟩ ∧ w'.cell? ⟨g, o + k * 2, none⟩ = some (.int .i64 l[k].1) ∧ w'.cell? ⟨g, o + k * 2 + 1, none⟩ = some (.string l[k].2)) := Lib.hid fun w' hb k hk => by
  obtain ⟨g, o, e, hg, h⟩ := hc (by omega);obtain ⟨h1, h2⟩ := h k hk;exact ⟨g, o, e, (hb.cell (p := ⟨g, o + k * 2, none⟩) hg).trans h1, (hb.cell (p := ⟨g, o + k * 2 + 1, none⟩) hg).trans h2⟩
 have F := Lib.hid fun c W => find1_any c b W;have HS := Lib.hid hs;have HE := Lib.hid (fun i h => find_ends (l := l) (b := b) (i := i) hs h);clear hc hv hs
 go_enter Tryz.func120, Tryz.ntmps120
 go_wp2
 go_loopw [9, 10, 11] (fun p q q11 wr => ∃ i j : Nat, p = .int .i64 (i : Int) ∧ q = .int .i64 (j : Int) ∧ i ≤ j ∧ j ≤ l.length ∧ (∀ k (hk : k < l.length), k < i → l[k].1 < b) ∧ (∀ k (hk : k < l.length), j ≤ k → b ≤ l[k].1) ∧ Below w.heap.size w wr) (fun p q _ _ => (intOf q).toNat - (intOf p).toNat)
 case atStart => exact ⟨0, l.length, rfl, rfl, Nat.zero_le _, Nat.le_refl _, fun k _ h => by omega, fun k _ h => by omega, Below.refl _ _⟩
 case round =>
  obtain ⟨i, j, rfl, rfl, hij, hjl, hlo, hhi, hb⟩ := hrel;have HB := Lib.hid hb;by_cases hlt : i < j
  ·have hm : (i + j) / 2 < l.length := by omega
   obtain ⟨g, o, rfl, k1, k2⟩ := HC.out wr hb _ hm
   have HL : Hid (∀ k (hk : k < l.length), k ≤ (i + j) / 2 → l[k].1 ≤ l[(i + j) / 2].1) := Lib.hid fun k hk hle => by
    by_cases e : k = (i + j) / 2
    ·subst e; exact Int.le_refl _
    ·exact HS.out k _ (by omega) hm
   have HG : Hid (∀ k (hk : k < l.length), (i + j) / 2 ≤ k → l[(i + j) / 2].1 ≤ l[k].1) := Lib.hid fun k hk hle => by
    by_cases e : k = (i + j) / 2
    ·subst e; exact Int.le_refl _
    ·exact HS.out _ k (by omega) hk
   have FC := Lib.hid (F.out l[(i + j) / 2] wr);have HX : Hid (l[(i + j) / 2] = l[(i + j) / 2]) := Lib.hid rfl;have HLO := Lib.hid hlo;have HHI := Lib.hid hhi;clear hlo hhi;generalize l[(i + j) / 2] = x at *;obtain ⟨xb, xd⟩ := x;dsimp only at k1 k2;by_cases hx : xb < b
   ·have d1 : decide (Lib.compareInt xb b < 0) = true := decide_eq_true ((cmp_lt _ _).2 hx)
    clear HC;go_wp2_with fail
    refine FC.out.mono ?_; rintro e w2 ⟨rfl, b2⟩;have HB2 := Lib.hid (bnext HB.out b2);clear FC b2 hb HB k1 k2;dsimp only;generalize Lib.compareInt xb b = cv at *;go_wp2;exact ⟨⟨(i + j) / 2 + 1, j, by go_num, rfl, by omega, hjl, fun k hk hki => by have := HL.out k hk (by omega); omega, HHI.out, HB2.out⟩, by simp [intOf]; omega⟩
   ·have d1 : decide (Lib.compareInt xb b < 0) = false := decide_eq_false fun q => hx ((cmp_lt _ _).1 q)
    clear HC;go_wp2_with fail
    refine FC.out.mono ?_; rintro e w2 ⟨rfl, b2⟩;have HB2 := Lib.hid (bnext HB.out b2);clear FC b2 hb HB k1 k2;dsimp only;generalize Lib.compareInt xb b = cv at *;go_wp2;exact ⟨⟨i, (i + j) / 2, rfl, by go_num, by omega, by omega, HLO.out, fun k hk hki => by have := HG.out k hk hki; omega, HB2.out⟩, by simp [intOf]; omega⟩
  ·obtain rfl : j = i := by omega
   have hend : EndsAt l b j := ⟨hjl, hlo, hhi⟩;have HFE := Lib.hid (HE.out j hend);have HEN := Lib.hid hend;clear hlo hhi hend;by_cases hn : j < l.length
   ·obtain ⟨g, o, rfl, k1, k2⟩ := HC.out wr hb _ hn
    have FC := Lib.hid (F.out l[j] wr);have HF2 : Hid (findC l b = if l[j].1 = b then some l[j] else none) := Lib.hid (by rw [HFE.out, dif_pos hn]);clear HC HFE;generalize l[j] = x at *;obtain ⟨xb, xd⟩ := x;dsimp only at k1 k2
    have HR : Hid (decide (Lib.compareInt xb b = 0) = (findC l b).isSome) := Lib.hid (by
     rw [HF2.out];by_cases e : xb = b
     ·rw [if_pos e, decide_eq_true ((cmp_eq _ _).2 e)]; rfl
     ·rw [if_neg e, decide_eq_false fun q => e ((cmp_eq _ _).1 q)]; rfl)
    go_wp2_with fail
    refine FC.out.mono ?_; rintro e w2 ⟨rfl, b2⟩;have HB2 := Lib.hid (bnext HB.out b2);clear FC b2 hb HB k1 k2 HF2;dsimp only;generalize Lib.compareInt xb b = cv at *;go_wp2
    go_ret2
    refine ⟨⟨j, _, rfl, HEN.out, ?_⟩, HB2.out⟩;rw [← HR.out];by_cases q : cv = 0 <;> simp [q]
   ·have HR : Hid ((findC l b).isSome = false) := Lib.hid (by rw [HFE.out, dif_neg hn]; rfl)
    clear HFE HC;go_wp2
    go_ret2
    exact ⟨⟨j, _, rfl, HEN.out, HR.out.symm⟩, HB.out⟩
theorem fkfind_any (l : List Ch) (hs : RiseC l) (hl : l.length ≤ 1000000) (b : Int) (v : Value) (w : World) (hv : ChgsIn v l w) :
 Calls Tryz.prog 92 #[v, .int .i64 b] w fun e w' => e = .returned (.tuple #[chV ((findC l b).getD (0, ⟨#[]⟩)), .bool (findC l b).isSome]) ∧ Below w.heap.size w w' := by
 have HBS := Lib.hid fun W h => bsearch_any l hs hl b v W h;obtain ⟨ad, cap, rfl, c1, c2, hc⟩ := ChgsIn.open hv
 have HC : Hid (∀ w', Below w.heap.size w w' → ∀ k (hk : k < l.length), ∃ g o, ad = some ⟨g, o, none⟩ ∧ w'.cell? ⟨g, o + k * 2, none⟩ = some (.int .i64 l[k].1) ∧ w'.cell? ⟨g, o + k * 2 + 1, none⟩ = some (.string l[k].2)) := Lib.hid fun w' hb k hk => by
  obtain ⟨g, o, e, hg, h⟩ := hc (by omega);obtain ⟨h1, h2⟩ := h k hk;exact ⟨g, o, e, (hb.cell (p := ⟨g, o + k * 2, none⟩) hg).trans h1, (hb.cell (p := ⟨g, o + k * 2 + 1, none⟩) hg).trans h2⟩
 have HE := Lib.hid (fun i h => find_ends (l := l) (b := b) (i := i) hs h);have HV := Lib.hid hv;have b0 : Below w.heap.size w (w.alloc (.cells #[.int .i64 0, .string ⟨#[]⟩] 72)) := balloc1 _ _;have HB0 := Lib.hid b0;have HX := Lib.hid (HBS.out _ (hv.kept b0));clear hc hv hs HBS b0
 go_enter Tryz.func92, Tryz.ntmps92
 go_wp2_with fail
 refine HX.out.mono ?_; rintro e w2 ⟨⟨i, f, rfl, he, hf⟩, b2⟩;have HB2 := Lib.hid (bnext HB0.out b2);have hT : Blk w.heap.size #[.int .i64 0, .string ⟨#[]⟩] 72 w2 := (Blk.new _ _ w).kept1 b2;have HT := Lib.hid hT;have hF := HE.out i he;have HEA := Lib.hid he;clear HX b2 hT he
 cases hfc : findC l b with
 | none =>
   rw [hfc] at hf;simp only [Option.isSome_none] at hf;subst hf;have k0 := HT.out.cell 0;have k1 := HT.out.cell 1;simp only [List.getElem?_toArray, List.getElem?_cons_zero, List.getElem?_cons_succ] at k0 k1;have f0 := HT.out.frozen 0;have f1 := HT.out.frozen 1;have HFC := Lib.hid hfc;clear hfc hF HC;have HBX0 : Hid (∀ u v, Below w.heap.size w ((w2.setCell ⟨w.heap.size, 0, none⟩ u).setCell ⟨w.heap.size, 1, none⟩ v)) := Lib.hid fun u v => (HB2.out.setCell (Nat.le_refl _) _).setCell (Nat.le_refl _) _;generalize hbx : w.heap.size = bx at *;have HBX := Lib.hid hbx;clear hbx;go_wp2
   (try simp only [Exit.inBlock, Exit.then])
   refine bodyPost_ret (v := .tuple #[chV (0, ⟨#[]⟩), .bool false]) ?_ rfl ⟨by rw [HFC.out]; rfl, ?_⟩
   ·rw [results_cell_tmp rfl]
    go_simp
   ·have h9 := HBX0.out
    rw [← HBX.out] at h9 ⊢;exact h9 _ _
 | some c =>
   rw [hfc] at hf hF;simp only [Option.isSome_some] at hf;subst hf
   have hil : i < l.length := by
    by_cases q : i < l.length
    ·exact q
    ·rw [dif_neg q] at hF; cases hF
   have hci : l[i] = c := by
    rw [dif_pos hil] at hF;by_cases q : l[i].1 = b
    ·rw [if_pos q] at hF; injection hF with hF; exact hF.symm
    ·rw [if_neg q] at hF; cases hF
   obtain ⟨g, o, rfl, k2, k3⟩ := HC.out w2 HB2.out i hil;rw [hci] at k2 k3;have k0 := HT.out.cell 0;have k1 := HT.out.cell 1;simp only [List.getElem?_toArray, List.getElem?_cons_zero, List.getElem?_cons_succ] at k0 k1;have f0 := HT.out.frozen 0;have f1 := HT.out.frozen 1;obtain ⟨cb, cd⟩ := c;dsimp only at k2 k3;have HFC := Lib.hid hfc;clear hfc hF HC hci;have HBX0 : Hid (∀ u v, Below w.heap.size w ((w2.setCell ⟨w.heap.size, 0, none⟩ u).setCell ⟨w.heap.size, 1, none⟩ v)) := Lib.hid fun u v => (HB2.out.setCell (Nat.le_refl _) _).setCell (Nat.le_refl _) _;generalize hbx : w.heap.size = bx at *;have HBX := Lib.hid hbx;clear hbx;go_wp2
   (try simp only [Exit.inBlock, Exit.then])
   refine bodyPost_ret (v := .tuple #[chV (cb, cd), .bool true]) ?_ rfl ⟨by rw [HFC.out]; rfl, ?_⟩
   ·rw [results_cell_tmp rfl]
    go_simp
   ·have h9 := HBX0.out
    rw [← HBX.out] at h9 ⊢;exact h9 _ _
end Go.Proofs.YtknefoemgifbfaaGreat
