import Derived.Test.YtknefoemgifbfaaGreatPd27
import Derived.Test.YtknefoemgifbfaaGreatPd02
set_option linter.unusedVariables false
set_option linter.unusedSimpArgs false
set_option linter.constructorNameAsVariable false
set_option maxRecDepth 100000
set_option maxHeartbeats 16000000
namespace Go.Proofs.YtknefoemgifbfaaGreat
open Go.RowKit Go.Shelf
def encR (x : Int × Int) : List Value := [.int .i64 x.1, .int .i64 x.2]
theorem encR_cells (l : List (Int × Int)) (j : Nat) (h : j < l.length * 2) : (cellsR l)[j]? = some ((encR l[j / 2]!)[j % 2]!) := by
 have hk : j / 2 < l.length := by omega
 obtain ⟨h1, h2⟩ := cellsR_at l (j / 2) hk;rw [getElem!_pos l _ hk];rcases Nat.mod_two_eq_zero_or_one j with e | e
 ·have : j / 2 * 2 = j := by omega
  rw [this] at h1; rw [h1, e]; rfl
 ·have : j / 2 * 2 + 1 = j := by omega
  rw [this] at h2; rw [h2, e]; rfl
theorem holds_row {B g cap : Nat} {l : List (Int × Int)} {w : World} (h : RunsAt B (.slice (some ⟨g, 0, none⟩) l.length cap) l w) : Sort.HoldsK encR 2 w g 0 l.toArray := by
 intro j hj
 have hj : j < l.length * 2 := by simpa using hj
 rw [Nat.zero_add];refine ⟨?_, h.frozenAt j⟩;rw [h.cellAt j hj, encR_cells l j hj, Sort.get_flatK encR 2 l.toArray j (by simpa using hj)]
 simp
theorem row_sorted {B g cap n : Nat} {l s : List (Int × Int)} {w : World} {os : Array Obj} (hl : s.length = l.length) (h : RunsAt B (.slice (some ⟨g, 0, none⟩) l.length cap) l w) :
 RunsAt B (.slice (some ⟨g, 0, none⟩) l.length cap) s (sortWorldK encR 2 w g 0 n s.toArray os) := by
 rcases h.2 with ⟨h0, _⟩ | ⟨g', cap', cur, hv, hb, hcur, hle, hm, hsz, htk⟩
 ·cases h0
 cases hv
 have hg : g < w.heap.size := lt_of_block hcur
 have hblk : (sortWorldK encR 2 w g 0 n s.toArray os).heap[g]? = some (.cells (Sort.putCells id 0 (Sort.flatK encR 2 s.toArray) cur) 136 (0, 0)) := by
  unfold sortWorldK;rw [Sort.heap_grow_old _ _ (by simp [Sort.putRowK, Sort.putRow, Sort.mapBlock, Sort.ahead]; exact hg)]
  simp [Sort.putRowK, Sort.putRow, Sort.mapBlock, Sort.ahead, Array.getElem?_modify, hcur, Sort.onCells]
 refine ⟨cellsR_length s, .inr ⟨g, cap, _, by rw [hl], hb, hblk, by rw [hl]; exact hle, hm, by simp [Sort.putCells, hsz], ?_⟩⟩
 apply List.ext_getElem?
 intro j;by_cases hj : j < s.length * 2
 ·rw [List.getElem?_take_of_lt hj, Array.getElem?_toList, encR_cells s j hj]
  have hjc : j < cur.size := by rw [hsz]; have : l.length ≤ cap := hle; omega
  have hf := Sort.get_flatK encR 2 s.toArray j (by simpa using hj);rw [getElem!_pos _ j (by simpa using hj)] at hf
  simp [Sort.putCells, hjc, hj]
  simpa using hf
 ·rw [List.getElem?_take_eq_none (by omega), List.getElem?_eq_none (by rw [cellsR_length]; omega)]
theorem below_sorted {B g n : Nat} {l : List (Int × Int)} {w : World} {os : Array Obj} (hg : B ≤ g) (hB : B ≤ w.heap.size) : Below B w (sortWorldK encR 2 w g 0 n l.toArray os) := by
 have hs : (Sort.putRowK encR 2 (Sort.ahead w n) g 0 l.toArray).heap.size = w.heap.size := by simp [Sort.putRowK, Sort.putRow, Sort.mapBlock, Sort.ahead]
 refine ⟨rfl, rfl, rfl, ?_, fun k hk => ?_⟩
 ·unfold sortWorldK Sort.grow
  show _ ≤ (Array.size (_ ++ os)); rw [Array.size_append, hs]; omega
 ·unfold sortWorldK
  rw [Sort.heap_grow_old _ _ (by rw [hs]; omega)]
  have : g ≠ k := by omega
  simp [Sort.putRowK, Sort.putRow, Sort.mapBlock, Sort.ahead, Array.getElem?_modify, this]
theorem ltStart (x y : Int × Int) : ltOf (fun x y : Int × Int => Lib.compareInt x.1 y.1) x y = decide (x.1 < y.1) := by
 unfold ltOf Lib.compareInt;by_cases h1 : x.1 < y.1
 ·simp [h1]
 ·by_cases h2 : y.1 < x.1 <;> simp [h1, h2]
theorem swoStart : Sort.SWO (ltOf fun x y : Int × Int => Lib.compareInt x.1 y.1) where
 irrefl x := by rw [ltStart]; simp
 trans x y z h1 h2 := by rw [ltStart] at *; simp only [decide_eq_true_eq] at *; omega
 ntrans x y z h1 h2 := by rw [ltStart] at *; simp only [decide_eq_false_iff_not] at *; omega
theorem compare_any (x y : Int) (w : World) : Calls Tryz.prog 119 #[.int .i64 x, .int .i64 y] w fun e w' => e = .returned (.int .i64 (Lib.compareInt x y)) ∧ w' = w := AnyG.cmp_Compare_int Tryz.cmpInt x y w
theorem byStart_any (x y : Int × Int) (W : World) : Calls Tryz.prog 124 #[.agg #[.int .i64 x.1, .int .i64 x.2], .agg #[.int .i64 y.1, .int .i64 y.2]] W fun e w' => e = .returned (.int .i64 (Lib.compareInt x.1 y.1)) ∧ ∃ q os', w' = Sort.grow (W.drewN q) os' := by
 have C := Lib.hid (compare_any x.1 y.1);generalize Lib.compareInt x.1 y.1 = r at *
 go_enter Tryz.func124, Tryz.ntmps124
 go_wp2_with fail
 refine (C.out _).mono ?_; rintro e w' ⟨rfl, rfl⟩;go_wp2;go_ret;exact ⟨rfl, 0, _, by rw [Sort.alloc_eq_grow, Sort.alloc_eq_grow, Sort.grow_grow]; rfl⟩
theorem sorts_some (l : List (Int × Int)) (B g cap : Nat) (W : World) (hB : B ≤ g) (hg : g < W.heap.size) (hl : l.length ≤ 1000000) (h : RunsAt B (.slice (some ⟨g, 0, none⟩) l.length cap) l W) :
 Calls Tryz.prog 123 #[.slice (some ⟨g, 0, none⟩) l.length cap, .func (.func 124) #[] #[]] W fun e w' => e = .returned (.tuple #[]) ∧
  ∃ s, s.length = l.length ∧ (∀ r, r ∈ s ↔ r ∈ l) ∧ risingR s ∧ RunsAt B (.slice (some ⟨g, 0, none⟩) l.length cap) s w' ∧ Below B W w' := by
 have eg : ∀ args w, (callFunc 124 args).run Tryz.prog w = .ok (.enter 124 args) w := enters_of Tryz.func124 (by kernel_rfl) rfl;have hcmp : CmpLays Tryz.prog 124 #[] encR 2 (fun x y => Lib.compareInt x.1 y.1) g 0 l.toArray.size W := fun _ _ _ _ x y => byStart_any x y _;have hcon := AnyQ.slices_SortFunc Tryz.sortRun 2 Tryz.isAgg136 Tryz.sizeOf136 encR (fun _ => rfl) (fun x v hv => by simp [encR] at hv; rcases hv with rfl | rfl <;> rfl) (fun x y => Lib.compareInt x.1 y.1) swoStart 124 #[] g 0 cap l.toArray W eg hcmp (holds_row h) hg (by simp; omega);rw [List.size_toArray] at hcon;refine Calls.mono (show Calls Tryz.prog 123 _ _ _ from hcon) ?_;rintro e w' ⟨he, d', n, os, hp, hs, rfl⟩;obtain ⟨p1, p2, p3⟩ := hp
 have hlen : d'.toList.length = l.length := by simpa using p1
 have e1 : (d'.extract 0 l.length).toList = d'.toList := by
  rw [show l.length = d'.size from hlen.symm]; simp
 have e2 : ((l.toArray).extract 0 l.length).toList = l := by simp
 rw [e1, e2] at p3;refine ⟨he, d'.toList, hlen, fun r => p3.mem_iff, fun i j hij hj => ?_, row_sorted hlen h, ?_⟩
 ·have h1 := hs i j (Nat.zero_le _) hij (by omega)
  rw [ltStart, getElem!_pos d' j (by simpa using hj), getElem!_pos d' i (by simp at hj; omega)] at h1;simp only [decide_eq_false_iff_not] at h1;simp only [Array.getElem_toList]; omega
 ·have := below_sorted (w := W) (n := n) (os := os) (l := d'.toList) hB (by omega)
  simpa using this
open Go.RowKit Go.Shelf
theorem has_clo (i a b : Int) (ha : I64 a) (hb : I64 b) (B : Nat) (W : World) (hB : B < W.heap.size) (hc : W.cell? ⟨B, 0, none⟩ = some (.int .i64 i)) :
 Calls Tryz.prog 95 #[.agg #[.int .i64 a, .int .i64 b], .pointer (some ⟨B, 0, none⟩)] W fun e w' => e = .returned (.bool (decide (inR (a, b) i))) ∧ Below W.heap.size W w' := by
 have mixed : Tryz.prog.follows .mixedOrders = true := by kernel_rfl
 obtain ⟨y1, y2⟩ := two_gr W a b
 have hBq : B < (W.alloc (.cells #[.int .i64 a, .int .i64 b] 136)).heap.size := by rw [size_alloc]; omega
 have z := cell_gr (a := ⟨B, 0, none⟩) hBq (cell_old hB hc (.cells #[.int .i64 a, .int .i64 b] 136));have hbq := balloc (Below.refl W.heap.size W) (.cells #[.int .i64 a, .int .i64 b] 136);have V := valid_gr a b ha hb;by_cases hok : okR (a, b)
 ·rw [decide_eq_true hok] at V
  have hiE : I64 (a + b) := by
   have h1 : 0 ≤ a := hok.1; have h2 : 1 ≤ b := hok.2.1; have h3 : a + b ≤ 9223372036854775807 := hok.2.2;exact ⟨by omega, by omega⟩
  have E := Lib.hid (end_gr a b hiE)
  have HD : Hid (decide (inR (a, b) i) = (decide (a ≤ i) && decide (i < a + b))) := Lib.hid (by
   rw [Bool.eq_iff_iff]; simp only [Bool.and_eq_true, decide_eq_true_eq]; unfold inR
   exact ⟨fun h => h.2, fun h => ⟨hok, h⟩⟩)
  have V := Lib.hid V;clear hok hiE;by_cases h1 : a ≤ i
  ·have d1 : decide (a ≤ i) = true := decide_eq_true h1
   clear h1
   go_enter Tryz.func95, Tryz.ntmps95
   go_wp2;generalize W.alloc (.cells #[.int .i64 a, .int .i64 b] 136) = wq at *;refine wp_region_quiet_grown mixed (by kernel_rfl) ?_
   repeat (go_big_quiet_step (first | (go_at_call 96; refine Calls.grown_of (V.out _)) | (go_at_call 97; refine Calls.grown_of (E.out _))))
   refine wpQuiet_nil ?_;intro _ hw';obtain ⟨⟨nq, osq⟩, hw''⟩ := hw';subst hw'';go_wp2;go_ret;exact ⟨ret_bool (by rw [HD.out, d1]; simp), bgrow (below_drewN hbq _) _⟩
  ·have d1 : decide (a ≤ i) = false := decide_eq_false h1
   clear h1
   go_enter Tryz.func95, Tryz.ntmps95
   go_wp2;generalize W.alloc (.cells #[.int .i64 a, .int .i64 b] 136) = wq at *;refine wp_region_quiet_grown mixed (by kernel_rfl) ?_
   repeat (go_big_quiet_step (first | (go_at_call 96; refine Calls.grown_of (V.out _)) | (go_at_call 97; refine Calls.grown_of (E.out _))))
   refine wpQuiet_nil ?_;intro _ hw';obtain ⟨⟨nq, osq⟩, hw''⟩ := hw';subst hw'';go_wp2;go_ret;exact ⟨ret_bool (by rw [HD.out, d1]; simp), bgrow (below_drewN hbq _) _⟩
 ·rw [decide_eq_false hok] at V
  have HD : Hid (decide (inR (a, b) i) = false) := Lib.hid (decide_eq_false fun h => hok h.1);have V := Lib.hid V;clear hok
  go_enter Tryz.func95, Tryz.ntmps95
  go_wp2;generalize W.alloc (.cells #[.int .i64 a, .int .i64 b] 136) = wq at *;refine wp_region_quiet_grown mixed (by kernel_rfl) ?_
  repeat (go_big_quiet_step (first | (go_at_call 96; refine Calls.grown_of (V.out _))))
  refine wpQuiet_nil ?_;intro _ hw';obtain ⟨⟨nq, osq⟩, hw''⟩ := hw';subst hw'';go_wp2;go_ret;exact ⟨ret_bool (by rw [HD.out]), bgrow (below_drewN hbq _) _⟩
abbrev R64 : Type := { r : Int × Int // I64 r.1 ∧ I64 r.2 }
instance : Inhabited R64 := ⟨⟨(0, 0), by decide⟩⟩
def enc64 (x : R64) : List Value := [.int .i64 x.1.1, .int .i64 x.1.2]
def to64 (l : List (Int × Int)) (hf : ∀ r ∈ l, I64 r.1 ∧ I64 r.2) : List R64 := l.pmap (fun r h => ⟨r, h⟩) hf
theorem to64_len (l : List (Int × Int)) (hf : ∀ r ∈ l, I64 r.1 ∧ I64 r.2) : (to64 l hf).length = l.length := by unfold to64; simp
theorem to64_at (l : List (Int × Int)) (hf : ∀ r ∈ l, I64 r.1 ∧ I64 r.2) (j : Nat) (h : j < l.length) : ((to64 l hf)[j]!).1 = l[j] := by
 rw [getElem!_pos _ j (by rw [to64_len]; exact h)]; unfold to64; simp
theorem to64_any (i : Int) : ∀ (l : List (Int × Int)) (hf : ∀ r ∈ l, I64 r.1 ∧ I64 r.2), (to64 l hf).any (fun x => decide (inR x.1 i)) = decide (elemR l i)
 | [], hf => by simp [to64, elemR]
 | r :: l, hf => by
   have ih := to64_any i l (fun q hq => hf q (List.mem_cons_of_mem _ hq))
   show (decide (inR r i) || (to64 l _).any _) = _
   rw [ih, Bool.eq_iff_iff]; simp only [Bool.or_eq_true, decide_eq_true_eq]; exact (elemR_cons _ _ _).symm
theorem contains_some (l : List (Int × Int)) (hf : ∀ r ∈ l, I64 r.1 ∧ I64 r.2) (i : Int) (B : Nat) (g o cap : Nat) (w : World) (hB : B < w.heap.size) (hcB : w.cell? ⟨B, 0, none⟩ = some (.int .i64 i)) (hg : g < w.heap.size) (hlen : l.length ≤ 9223372036854775807)
 (hc : ∀ k (h : k < l.length), w.cell? ⟨g, o + k * 2, none⟩ = some (.int .i64 l[k].1) ∧ w.cell? ⟨g, o + k * 2 + 1, none⟩ = some (.int .i64 l[k].2)) :
 Calls Tryz.prog 94 #[.slice (some ⟨g, o, none⟩) l.length cap, .func (.func 95) #[] #[.pointer (some ⟨B, 0, none⟩)]] w fun e w' => e = .returned (.bool (decide (elemR l i))) ∧ Below w.heap.size w w' := by
 have eg : ∀ args w, (callFunc 95 args).run Tryz.prog w = .ok (.enter 95 args) w := enters_of Tryz.func95 (by kernel_rfl) rfl
 have hp : PredBelow Tryz.prog 95 #[.pointer (some ⟨B, 0, none⟩)] (fun x => .agg (enc64 x).toArray) (fun x => decide (inR x.1 i)) w := fun W x hb =>
  (has_clo i x.1.1 x.1.2 x.2.1 x.2.2 B W (Nat.lt_of_lt_of_le hB hb.size) ((hb.cell (p := ⟨B, 0, none⟩) hB).trans hcB)).mono fun e w' ⟨he, h2⟩ => ⟨he, hb.trans (h2.mono hb.size)⟩
 have hcon := AnyQ.slices_ContainsFunc Tryz.contRun 2 Tryz.isAgg136 Tryz.sizeOf136 enc64 (fun _ => rfl) (fun x => decide (inR x.1 i)) 95 #[.pointer (some ⟨B, 0, none⟩)] eg g o l.length cap (to64 l hf) w hp
  (by rw [to64_len]; exact Nat.le_refl _) hlen hg (fun j hj m u hm => by
   have hj : j < l.length := by rw [to64_len] at hj; exact hj
   obtain ⟨h1, h2⟩ := hc j hj;have e := to64_at l hf j hj;unfold enc64 at hm;rw [e] at hm
   match m, hm with
   | 0, hm => simp at hm; rw [← hm]; exact h1
   | 1, hm => simp at hm; rw [← hm]; exact h2
   | m + 2, hm => simp at hm)
 have ht : (to64 l hf).take l.length = to64 l hf := List.take_of_length_le (by rw [to64_len]; exact Nat.le_refl _);rw [ht, to64_any] at hcon;exact hcon
theorem index_none (ad : Option Addr) (cap : Nat) (f : Value) (w : World) :
 Calls Tryz.prog 122 #[.slice ad 0 cap, f] w fun e w' => e = .returned (.int .i64 (-1)) ∧ w' = w := by
 go_enter Tryz.func122, Tryz.ntmps122
 go_wp2;refine wp_loop_rounds 1 ?_;rw [rounds_succ];go_wp2;go_ret;exact ⟨rfl, rfl⟩
theorem contains_none (ad : Option Addr) (cap : Nat) (f : Value) (w : World) :
 Calls Tryz.prog 94 #[.slice ad 0 cap, f] w fun e w' => e = .returned (.bool false) ∧ w' = w := by
 have C := Lib.hid (index_none ad cap f)
 go_enter Tryz.func94, Tryz.ntmps94
 go_wp2_with fail
 refine (C.out _).mono ?_; rintro e w' ⟨rfl, rfl⟩;go_wp2;go_ret;exact ⟨rfl, rfl⟩
theorem has_any (l : List (Int × Int)) (hf : fitR l) (v : Value) (i : Int) (w : World) (hv : RunsIn v l w) :
 Calls Tryz.prog 65 #[v, .int .i64 i] w fun e w' => e = .returned (.bool (decide (elemR l i))) ∧ Below w.heap.size w w' := by
 obtain ⟨ad, cap, rfl, h1, h2, h3, -⟩ := id hv;have h2 : cap ≤ 9223372036854775807 := h2;have hmf : ∀ (fn : Fn) (first cap : Array Value) (w : World), (Instr.makeFunc fn first cap).run Tryz.prog w = .ok (.func fn first cap) w := fun _ _ _ _ => rfl;have hb0 := balloc (Below.refl w.heap.size w) (.cells #[.int .i64 i] 3)
 have C : Hid (Calls Tryz.prog 94 #[.slice ad l.length cap, .func (.func 95) #[] #[.pointer (some ⟨w.heap.size, 0, none⟩)]] (w.alloc (.cells #[.int .i64 i] 3)) fun e w' => e = .returned (.bool (decide (elemR l i))) ∧ Below w.heap.size w w') := by
  show Calls _ _ _ _ _
  by_cases hl : l.length = 0
  ·have hnil : l = [] := List.length_eq_zero_iff.1 hl
   subst hnil;refine (contains_none ad cap _ _).mono ?_;rintro e w' ⟨rfl, rfl⟩;exact ⟨ret_bool (by simp [elemR]), hb0⟩
  ·obtain ⟨g, o, rfl, hg, hc⟩ := h3 (by omega)
   refine (contains_some l hf i w.heap.size g o cap _ (by rw [size_alloc]; omega) ?_ (by rw [size_alloc]; omega) (by omega) fun k hk => ?_).mono ?_
   ·rw [World.cell?_alloc_mark]; rfl
   ·obtain ⟨c1, c2⟩ := hc k hk
    exact ⟨cell_old (a := ⟨g, o + k * 2, none⟩) hg c1 _, cell_old (a := ⟨g, o + k * 2 + 1, none⟩) hg c2 _⟩
   ·rintro e w' ⟨rfl, h⟩
    exact ⟨rfl, bnext hb0 h⟩
 generalize decide (elemR l i) = r at *;clear h3 hv hb0
 go_enter Tryz.func65, Tryz.ntmps65
 go_wp2_with fail
 refine C.out.mono ?_; rintro e w' ⟨rfl, hb⟩;go_wp2;go_ret;exact ⟨rfl, hb⟩
end Go.Proofs.YtknefoemgifbfaaGreat
