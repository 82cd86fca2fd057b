/- What slices.SortFunc makes of a row of runs; what slices.Sort makes of a row of ints; what slices.ContainsFunc tells of runs. -/
import Derived.Test.YtgcbfiecgiijkaaRNorm
import Derived.Test.YtgcbfiecgiijkaaRShelf
namespace Go.Proofs.Ytgcbfiecgiijkaa
set_option linter.unusedVariables false
open Go.RowKit Go.Shelf

/-- a run's two cells -/
def encR (x : Int × Int) : List Value := [.int .i64 x.1, .int .i64 x.2]
theorem encR_cells (l : List (Int × Int)) (j : Nat) (h : j < l.length * 2) : (cellsR l)[j]? = some ((encR l[j / 2]!)[j % 2]!) := by
  have hk : j / 2 < l.length := by omega
  obtain ⟨h1, h2⟩ := cellsR_at l (j / 2) hk
  rw [getElem!_pos l _ hk]
  rcases Nat.mod_two_eq_zero_or_one j with e | e
  · have : j / 2 * 2 = j := by omega
    rw [this] at h1; rw [h1, e]; rfl
  · have : j / 2 * 2 + 1 = j := by omega
    rw [this] at h2; rw [h2, e]; rfl
theorem holds_row {B g cap : Nat} {l : List (Int × Int)} {w : World} (h : RunsAt B (.slice (some ⟨g, 0, none⟩) l.length cap) l w) : Sort.HoldsK encR 2 w g 0 l.toArray := by
  intro j hj
  have hj : j < l.length * 2 := by simpa using hj
  rw [Nat.zero_add]
  refine ⟨?_, h.frozenAt j⟩
  rw [h.cellAt j hj, encR_cells l j hj, Sort.get_flatK encR 2 l.toArray j (by simpa using hj)]
  simp
theorem row_sorted {B g cap n : Nat} {l s : List (Int × Int)} {w : World} {os : Array Obj} (hl : s.length = l.length) (h : RunsAt B (.slice (some ⟨g, 0, none⟩) l.length cap) l w) :
    RunsAt B (.slice (some ⟨g, 0, none⟩) l.length cap) s (sortWorldK encR 2 w g 0 n s.toArray os) := by
  rcases h.2 with ⟨h0, _⟩ | ⟨g', cap', cur, hv, hb, hcur, hle, hm, hsz, htk⟩
  · cases h0
  cases hv
  have hg : g < w.heap.size := lt_of_block hcur
  have hblk : (sortWorldK encR 2 w g 0 n s.toArray os).heap[g]? = some (.cells (Sort.putCells id 0 (Sort.flatK encR 2 s.toArray) cur) 32 (0, 0)) := by
    unfold sortWorldK
    rw [Sort.heap_grow_old _ _ (by simp [Sort.putRowK, Sort.putRow, Sort.mapBlock, Sort.ahead]; exact hg)]
    simp [Sort.putRowK, Sort.putRow, Sort.mapBlock, Sort.ahead, Array.getElem?_modify, hcur, Sort.onCells]
  refine ⟨cellsR_length s, .inr ⟨g, cap, _, by rw [hl], hb, hblk, by rw [hl]; exact hle, hm, by simp [Sort.putCells, hsz], ?_⟩⟩
  apply List.ext_getElem?
  intro j
  by_cases hj : j < s.length * 2
  · rw [List.getElem?_take_of_lt hj, Array.getElem?_toList, encR_cells s j hj]
    have hjc : j < cur.size := by rw [hsz]; have : l.length ≤ cap := hle; omega
    have hf := Sort.get_flatK encR 2 s.toArray j (by simpa using hj)
    rw [getElem!_pos _ j (by simpa using hj)] at hf
    simp [Sort.putCells, hjc, hj]
    simpa using hf
  · rw [List.getElem?_take_eq_none (by omega), List.getElem?_eq_none (by rw [cellsR_length]; omega)]
theorem below_sorted {B g n : Nat} {l : List (Int × Int)} {w : World} {os : Array Obj} (hg : B ≤ g) (hB : B ≤ w.heap.size) : Below B w (sortWorldK encR 2 w g 0 n l.toArray os) := by
  have hs : (Sort.putRowK encR 2 (Sort.ahead w n) g 0 l.toArray).heap.size = w.heap.size := by simp [Sort.putRowK, Sort.putRow, Sort.mapBlock, Sort.ahead]
  refine ⟨rfl, rfl, rfl, ?_, fun k hk => ?_⟩
  · unfold sortWorldK Sort.grow
    show _ ≤ (Array.size (_ ++ os)); rw [Array.size_append, hs]; omega
  · unfold sortWorldK
    rw [Sort.heap_grow_old _ _ (by rw [hs]; omega)]
    have : g ≠ k := by omega
    simp [Sort.putRowK, Sort.putRow, Sort.mapBlock, Sort.ahead, Array.getElem?_modify, this]

theorem ltStart (x y : Int × Int) : ltOf (fun x y : Int × Int => Lib.compareInt x.1 y.1) x y = decide (x.1 < y.1) := by
  unfold ltOf Lib.compareInt
  by_cases h1 : x.1 < y.1
  · simp [h1]
  · by_cases h2 : y.1 < x.1 <;> simp [h1, h2]
theorem swoStart : Sort.SWO (ltOf fun x y : Int × Int => Lib.compareInt x.1 y.1) where
  irrefl x := by rw [ltStart]; simp
  trans x y z h1 h2 := by rw [ltStart] at *; simp only [decide_eq_true_eq] at *; omega
  ntrans x y z h1 h2 := by rw [ltStart] at *; simp only [decide_eq_false_iff_not] at *; omega
theorem compare_any (x y : Int) (w : World) : Calls Try.prog 56 #[.int .i64 x, .int .i64 y] w fun e w' => e = .returned (.int .i64 (Lib.compareInt x y)) ∧ w' = w := AnyG.cmp_Compare_int Try.cmpInt x y w
set_option maxHeartbeats 1000000 in
theorem byStart_any (x y : Int × Int) (W : World) : Calls Try.prog 55 #[.agg #[.int .i64 x.1, .int .i64 x.2], .agg #[.int .i64 y.1, .int .i64 y.2]] W fun e w' => e = .returned (.int .i64 (Lib.compareInt x.1 y.1)) ∧ ∃ q os', w' = Sort.grow (W.drewN q) os' := by
  have C := Lib.hid (compare_any x.1 y.1)
  generalize Lib.compareInt x.1 y.1 = r at *
  go_enter Try.func55, Try.ntmps55
  go_wp2_with fail
  refine (C.out _).mono ?_; rintro e w' ⟨rfl, rfl⟩
  go_wp2
  go_ret
  exact ⟨rfl, 0, _, by rw [Sort.alloc_eq_grow, Sort.alloc_eq_grow, Sort.grow_grow]; rfl⟩

theorem sorts_some (l : List (Int × Int)) (B g cap : Nat) (W : World) (hB : B ≤ g) (hg : g < W.heap.size) (hl : l.length ≤ 1000000) (h : RunsAt B (.slice (some ⟨g, 0, none⟩) l.length cap) l W) :
    Calls Try.prog 54 #[.slice (some ⟨g, 0, none⟩) l.length cap, .func (.func 55) #[] #[]] W fun e w' => e = .returned (.tuple #[]) ∧
      ∃ s, s.length = l.length ∧ (∀ r, r ∈ s ↔ r ∈ l) ∧ risingR s ∧ RunsAt B (.slice (some ⟨g, 0, none⟩) l.length cap) s w' ∧ Below B W w' := by
  have eg : ∀ args w, (callFunc 55 args).run Try.prog w = .ok (.enter 55 args) w := enters_of Try.func55 (by kernel_rfl) rfl
  have hcmp : CmpLays Try.prog 55 #[] encR 2 (fun x y => Lib.compareInt x.1 y.1) g 0 l.toArray.size W := fun _ _ _ _ x y => byStart_any x y _
  have hcon := AnyQ.slices_SortFunc Try.sortRun 2 Try.isAgg32 Try.sizeOf32 encR (fun _ => rfl) (fun x v hv => by simp [encR] at hv; rcases hv with rfl | rfl <;> rfl) (fun x y => Lib.compareInt x.1 y.1) swoStart 55 #[] g 0 cap l.toArray W eg hcmp (holds_row h) hg (by simp; omega)
  rw [List.size_toArray] at hcon
  refine Calls.mono (show Calls Try.prog 54 _ _ _ from hcon) ?_
  rintro e w' ⟨he, d', n, os, hp, hs, rfl⟩
  obtain ⟨p1, p2, p3⟩ := hp
  have hlen : d'.toList.length = l.length := by simpa using p1
  have e1 : (d'.extract 0 l.length).toList = d'.toList := by
    rw [show l.length = d'.size from hlen.symm]; simp
  have e2 : ((l.toArray).extract 0 l.length).toList = l := by simp
  rw [e1, e2] at p3
  refine ⟨he, d'.toList, hlen, fun r => p3.mem_iff, fun i j hij hj => ?_, row_sorted hlen h, ?_⟩
  · have h1 := hs i j (Nat.zero_le _) hij (by omega)
    rw [ltStart, getElem!_pos d' j (by simpa using hj), getElem!_pos d' i (by simp at hj; omega)] at h1
    simp only [decide_eq_false_iff_not] at h1
    simp only [Array.getElem_toList]; omega
  · have := below_sorted (w := W) (n := n) (os := os) (l := d'.toList) hB (by omega)
    simpa using this
end Go.Proofs.Ytgcbfiecgiijkaa
