/- The contracts of the document's Of. -/
import Derived.Test.YtonfloehobcfbaaGOf
namespace Go.Proofs.Ytonfloehobcfbaa
set_option linter.unusedVariables false
open Go.RowKit

theorem rof_off1 (b l i : Int) (h1 : b < 256) (w : World) :
    Calls Try.prog 28 #[.int .i64 b, .int .i64 l, .int .i64 i] w fun e w' => e = .returned offG ∧ Below w.heap.size w w' := by
  go_enter Try.func28, Try.ntmps28
  go_wp2
  refine bodyPost_ret (v := offG) ?_ rfl ⟨rfl, balloc1 _ _⟩
  rw [results_cell_tmp rfl]
  go_simp
theorem rof_off2 (b l i : Int) (h1 : 256 ≤ b) (h2 : 4096 < b) (w : World) :
    Calls Try.prog 28 #[.int .i64 b, .int .i64 l, .int .i64 i] w fun e w' => e = .returned offG ∧ Below w.heap.size w w' := by
  go_enter Try.func28, Try.ntmps28
  go_wp2
  refine bodyPost_ret (v := offG) ?_ rfl ⟨rfl, balloc1 _ _⟩
  rw [results_cell_tmp rfl]
  go_simp
theorem rof_off3 (b l i : Int) (h1 : 256 ≤ b) (h2 : b ≤ 4096) (h3 : l < 128) (w : World) :
    Calls Try.prog 28 #[.int .i64 b, .int .i64 l, .int .i64 i] w fun e w' => e = .returned offG ∧ Below w.heap.size w w' := by
  go_enter Try.func28, Try.ntmps28
  go_wp2
  refine bodyPost_ret (v := offG) ?_ rfl ⟨rfl, balloc1 _ _⟩
  rw [results_cell_tmp rfl]
  go_simp
theorem rof_off4 (b l i : Int) (h1 : 256 ≤ b) (h2 : b ≤ 4096) (h3 : 128 ≤ l) (h4 : 512 < l) (w : World) :
    Calls Try.prog 28 #[.int .i64 b, .int .i64 l, .int .i64 i] w fun e w' => e = .returned offG ∧ Below w.heap.size w w' := by
  go_enter Try.func28, Try.ntmps28
  go_wp2
  refine bodyPost_ret (v := offG) ?_ rfl ⟨rfl, balloc1 _ _⟩
  rw [results_cell_tmp rfl]
  go_simp
theorem rof_off5 (b l i : Int) (h1 : 256 ≤ b) (h2 : b ≤ 4096) (h3 : 128 ≤ l) (h4 : l ≤ 512) (h5 : i < 8) (w : World) :
    Calls Try.prog 28 #[.int .i64 b, .int .i64 l, .int .i64 i] w fun e w' => e = .returned offG ∧ Below w.heap.size w w' := by
  go_enter Try.func28, Try.ntmps28
  go_wp2
  refine bodyPost_ret (v := offG) ?_ rfl ⟨rfl, balloc1 _ _⟩
  rw [results_cell_tmp rfl]
  go_simp
theorem rof_off6 (b l i : Int) (h1 : 256 ≤ b) (h2 : b ≤ 4096) (h3 : 128 ≤ l) (h4 : l ≤ 512) (h5 : 8 ≤ i) (h6 : 512 < i) (w : World) :
    Calls Try.prog 28 #[.int .i64 b, .int .i64 l, .int .i64 i] w fun e w' => e = .returned offG ∧ Below w.heap.size w w' := by
  go_enter Try.func28, Try.ntmps28
  go_wp2
  refine bodyPost_ret (v := offG) ?_ rfl ⟨rfl, balloc1 _ _⟩
  rw [results_cell_tmp rfl]
  go_simp
theorem rof_off7 (b l : Int) (i : Nat) (h1 : 256 ≤ b) (h2 : b ≤ 4096) (h3 : 128 ≤ l) (h4 : l ≤ 512) (h5 : 8 ≤ (i : Int)) (h6 : (i : Int) ≤ 512) (h : (i : Int) % 2 ≠ 0) (w : World) :
    Calls Try.prog 28 #[.int .i64 b, .int .i64 l, .int .i64 (i : Int)] w fun e w' => e = .returned offG ∧ Below w.heap.size w w' := by
  have e1 : ((i : Int) % 2 != 0) = true := by rw [bne_iff_ne]; exact h
  clear h
  go_enter Try.func28, Try.ntmps28
  go_wp2
  refine bodyPost_ret (v := offG) ?_ rfl ⟨rfl, balloc1 _ _⟩
  rw [results_cell_tmp rfl]
  go_simp
end Go.Proofs.Ytonfloehobcfbaa
