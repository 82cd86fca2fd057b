/- Check. -/
import Derived.Test.YtgcbfiecgiijkaaRRow
namespace Go.Proofs.Ytgcbfiecgiijkaa
set_option linter.unusedVariables false
open Go.RowKit

theorem cell_gr {w : World} {a : Addr} {v : Value} (hb : a.block < w.heap.size) (h : w.cell? a = some v) : ∀ (n : Nat) (os : Array Obj), (Sort.grow (w.drewN n) os).cell? a = some v := fun n os => cell_grown hb h n os
theorem cell_old {w : World} {a : Addr} {v : Value} (hb : a.block < w.heap.size) (h : w.cell? a = some v) (o : Obj) : (w.alloc o).cell? a = some v := (World.cell?_of_block (heap_alloc_old _ _ hb)).trans h
/-- the cells of a block that was just made, in every world that comes of it -/
theorem two_gr (w : World) (a b : Int) : (∀ (n : Nat) (os : Array Obj), (Sort.grow ((w.alloc (.cells #[.int .i64 a, .int .i64 b] 32)).drewN n) os).cell? ⟨w.heap.size, 0, none⟩ = some (.int .i64 a)) ∧
    ∀ (n : Nat) (os : Array Obj), (Sort.grow ((w.alloc (.cells #[.int .i64 a, .int .i64 b] 32)).drewN n) os).cell? ⟨w.heap.size, 1, none⟩ = some (.int .i64 b) := by
  have hs : w.heap.size < (w.alloc (.cells #[.int .i64 a, .int .i64 b] 32)).heap.size := by show _ < (w.heap.push _).size; simp
  refine ⟨cell_gr hs ?_, cell_gr hs ?_⟩ <;> rw [World.cell?_alloc_mark] <;> rfl
theorem valid_gr (a b : Int) (ha : I64 a) (hb : I64 b) (W : World) :
    Calls Try.prog 53 #[.agg #[.int .i64 a, .int .i64 b]] W fun e w' => e = .returned (.bool (decide (okR (a, b)))) ∧ ∃ q os', w' = Sort.grow (W.drewN q) os' :=
  (valid_any a b ha hb W).mono fun e w' ⟨he, hw⟩ => ⟨he, 0, _, hw.trans (Sort.alloc_eq_grow _ _)⟩
theorem end_gr (a b : Int) (h : I64 (a + b)) (W : World) :
    Calls Try.prog 50 #[.agg #[.int .i64 a, .int .i64 b]] W fun e w' => e = .returned (.int .i64 (a + b)) ∧ ∃ q os', w' = Sort.grow (W.drewN q) os' :=
  (end_any a b h W).mono fun e w' ⟨he, hw⟩ => ⟨he, 0, _, hw.trans (Sort.alloc_eq_grow _ _)⟩

end Go.Proofs.Ytgcbfiecgiijkaa
