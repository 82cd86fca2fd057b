/- The layout of a device, in numbers; memory that grows. -/
import Derived.Test.YtonfloehobcfbaaBase
import Derived.Test.YtonfloehobcfbaaGNum
import Derived.WalkKit
import Derived.WalkSpells
import Derived.WalkLawsBesides
import Derived.Lib.Hide
import Derived.Laws.OwnMore
import Derived.Laws.StructEq
import Derived.Laws.Tables
import Derived.Laws.ResultCell
import Derived.Laws.IdiomStrings
import Derived.OneCell
import Derived.Deep.QuietTactic
import Derived.BigQuiet
import Derived.BigRegion
import Derived.IntWalk
import Derived.Below
namespace Go.Proofs.Ytonfloehobcfbaa
set_option linter.unusedVariables false
open Go.RowKit

theorem results_one_cell {fn : Func} {p : Tmp} {ty : TypeId} (h : fn.results = #[.cell p ty]) (tmps : Array Value) (P : Program) (w : World) :
    (results fn tmps).run P w = ((asAddr (tmps.getD p undef)).run P w).andThen fun a w₁ => (loadVar ty a).run P w₁ := by
  simp only [results, h]
  simp [Sem.run_bind, Result.andThen]

abbrev lay (b l i m t : Nat) : Value := .agg #[.int .i64 (b : Int), .int .i64 (l : Int), .int .i64 (i : Int), .int .i64 1, .int .i64 (1 + (l : Int)), .int .i64 (m : Int), .int .i64 (1 + (l : Int) + (m : Int)), .int .i64 (t : Int), .int .i64 (1 + (l : Int) + (m : Int) + (t : Int))]
abbrev noG : Value := .agg #[.int .i64 0, .int .i64 0, .int .i64 0, .int .i64 0, .int .i64 0, .int .i64 0, .int .i64 0, .int .i64 0, .int .i64 0]
abbrev geo (b l i la ma ml ta tl da : Int) : Value := .agg #[.int .i64 b, .int .i64 l, .int .i64 i, .int .i64 la, .int .i64 ma, .int .i64 ml, .int .i64 ta, .int .i64 tl, .int .i64 da]
/-! ### a layout in memory -/
abbrev cellsG (b l i la ma ml ta tl da : Int) : Array Value := #[.int .i64 b, .int .i64 l, .int .i64 i, .int .i64 la, .int .i64 ma, .int .i64 ml, .int .i64 ta, .int .i64 tl, .int .i64 da]
/-- the layout stands in block g -/
def GeoAt (g : Nat) (b l i la ma ml ta tl da : Int) (w : World) : Prop := w.heap[g]? = some (.cells (cellsG b l i la ma ml ta tl da) 47 (0, 0))
theorem GeoAt.cells {g : Nat} {b l i la ma ml ta tl da : Int} {w : World} (h : GeoAt g b l i la ma ml ta tl da w) :
    w.cell? ⟨g, 0, none⟩ = some (.int .i64 b) ∧ w.cell? ⟨g, 1, none⟩ = some (.int .i64 l) ∧ w.cell? ⟨g, 2, none⟩ = some (.int .i64 i) ∧ w.cell? ⟨g, 3, none⟩ = some (.int .i64 la) ∧ w.cell? ⟨g, 4, none⟩ = some (.int .i64 ma) ∧
    w.cell? ⟨g, 5, none⟩ = some (.int .i64 ml) ∧ w.cell? ⟨g, 6, none⟩ = some (.int .i64 ta) ∧ w.cell? ⟨g, 7, none⟩ = some (.int .i64 tl) ∧ w.cell? ⟨g, 8, none⟩ = some (.int .i64 da) := by
  unfold GeoAt at h; simp [World.cell?, h]
theorem GeoAt.frozen {g : Nat} {b l i la ma ml ta tl da : Int} {w : World} (h : GeoAt g b l i la ma ml ta tl da w) (j : Nat) : w.frozen? ⟨g, j, none⟩ = false := by
  unfold GeoAt at h; simp [World.frozen?, h]
theorem GeoAt.lt {g : Nat} {b l i la ma ml ta tl da : Int} {w : World} (h : GeoAt g b l i la ma ml ta tl da w) : g < w.heap.size := lt_of_block h
theorem GeoAt.kept {g B : Nat} {b l i la ma ml ta tl da : Int} {w w' : World} (h : GeoAt g b l i la ma ml ta tl da w) (hb : Below B w w') (hB : g < B) : GeoAt g b l i la ma ml ta tl da w' := (hb.block g hB).trans h
theorem GeoAt.kept1 {g : Nat} {b l i la ma ml ta tl da : Int} {w w' : World} (h : GeoAt g b l i la ma ml ta tl da w) (hb : Below w.heap.size w w') : GeoAt g b l i la ma ml ta tl da w' := h.kept hb h.lt
theorem GeoAt.new (b l i la ma ml ta tl da : Int) (w : World) : GeoAt w.heap.size b l i la ma ml ta tl da (w.alloc (.cells (cellsG b l i la ma ml ta tl da) 47)) := heap_alloc_new _ _
theorem GeoAt.set {g : Nat} {b l i la ma ml ta tl da : Int} {w : World} (h : GeoAt g b l i la ma ml ta tl da w) {p : Addr} (hp : p.block ≠ g) (v : Value) : GeoAt g b l i la ma ml ta tl da (w.setCell p v) :=
  (Below.heap_setCell w p v g (fun e => hp e.symm)).trans h
theorem GeoAt.setRow {g : Nat} {b l i la ma ml ta tl da : Int} {w : World} (h : GeoAt g b l i la ma ml ta tl da w) (j : Nat) (v : Value) : (w.setCell ⟨g, j, none⟩ v).heap[g]? = some (.cells ((cellsG b l i la ma ml ta tl da).setIfInBounds j v) 47 (0, 0)) :=
  heap_setCell_same _ _ j _ _ v h
/-- the number in a cell -/
def cellNat (g j : Nat) (w : World) : Nat := (intOf ((w.cell? ⟨g, j, none⟩).getD undef)).toNat
theorem geo_info : (Try.prog.info? 47).map (·.size) = some 9 := by kernel_rfl
/-- a whole layout is written over one that stands in block g -/
theorem wpList_store_geo {ops : Array Oper} {rest : List Oper} {o : Oper} {a : Act} {w : World} {Q : Exit → Act → World → Prop} (hgd : o.guard = none) (x y : Operand) (ho : o.op = .store 47 x y)
    {g : Nat} {b l i la ma ml ta tl da b' l' i' la' ma' ml' ta' tl' da' : Int} (hx : a.eval x = .pointer (some ⟨g, 0, none⟩)) (hy : a.eval y = .agg (cellsG b l i la ma ml ta tl da))
    (hg : GeoAt g b' l' i' la' ma' ml' ta' tl' da' w)
    (h : ∀ w2, GeoAt g b l i la ma ml ta tl da w2 → Below g w w2 → w2.heap.size = w.heap.size → (∀ k, k ≠ g → w2.heap[k]? = w.heap[k]?) → wpList Try.prog ops Q rest (a.put o.dst undef) w2) : wpList Try.prog ops Q (o :: rest) a w :=
  wpList_store_row hgd _ x y ho g (cellsG b l i la ma ml ta tl da) hx hy _ _ hg geo_info rfl (by simp [Value.oneCell'])
    (h _ (setRow_heap w g _ _ _ _ hg) ⟨rfl, rfl, rfl, by simp, fun k hk => setRow_other w g k _ (by omega)⟩ (by simp) (fun k hk => setRow_other w g k _ hk))
/-- a whole layout is written over nothing -/
theorem wpList_store_geo0 {ops : Array Oper} {rest : List Oper} {o : Oper} {a : Act} {w : World} {Q : Exit → Act → World → Prop} (hgd : o.guard = none) (x y : Operand) (ho : o.op = .store 47 x y)
    {g : Nat} {b l i la ma ml ta tl da : Int} (hx : a.eval x = .pointer (some ⟨g, 0, none⟩)) (hy : a.eval y = .agg (cellsG b l i la ma ml ta tl da))
    (hg : GeoAt g 0 0 0 0 0 0 0 0 0 w)
    (h : ∀ w2, GeoAt g b l i la ma ml ta tl da w2 → Below g w w2 → w2.heap.size = w.heap.size → (∀ k, k ≠ g → w2.heap[k]? = w.heap[k]?) → wpList Try.prog ops Q rest (a.put o.dst undef) w2) : wpList Try.prog ops Q (o :: rest) a w :=
  wpList_store_geo hgd x y ho hx hy hg h
theorem GeoAt.num {g : Nat} {b l i la ma ml ta tl da : Int} {w : World} (h : GeoAt g b l i la ma ml ta tl da w) : cellNat g 5 w = ml.toNat := by
  unfold cellNat; rw [h.cells.2.2.2.2.2.1]; rfl
theorem geo_held : Try.prog.stoodInHeld 47 = false := by kernel_rfl
end Go.Proofs.Ytonfloehobcfbaa
