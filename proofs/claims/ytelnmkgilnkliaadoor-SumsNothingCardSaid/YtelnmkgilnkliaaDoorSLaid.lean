/- From the condition on the table, as the program's text lays it, to what the walks ask. -/
import Derived.Test.YtelnmkgilnkliaaDoorSMore
import Derived.Test.YtelnmkgilnkliaaDoorTie
import Derived.LaidMore
import Derived.Lib.LaidTab
namespace Go.Proofs.YtelnmkgilnkliaaDoor
open Go.RowKit

def laidS : List (String × DataW Unit) := [("glissade/sums.halves", Rows.laid_glissade_sums_halves)]
theorem gHalves : Tryd.prog.globalNamed "glissade/sums.halves" = some 0 := by kernel_rfl
theorem tHalves : (Tryd.prog.globals[0]?).map (·.type) = some 39 := by kernel_rfl

theorem tab_of_laid {W : World} (h : laidMetH Tryd.prog laidS W) : Tab W := by
  rw [MakeChecks.laidMetH_plain _ _ _ (by kernel_rfl)] at h
  have hT := Lib.tabIs_of_head (k := .u32) (zs := tabL) gHalves tHalves Tryd.underlying39 Tryd.underlying22 (by kernel_rfl) (by kernel_rfl) h
  intro i hi
  rw [hT.cell gHalves i hi, tab_cell i hi]

/-- the door's own heap meets the condition -/
theorem door_met (os : Os) (args : Array Value) : laidMetH Tryd.prog laidS ((World.doorLaid Tryd.prog 400 os).forCall (fun _ _ => 0) ⟨#[], args, []⟩).memory :=
  laidMetH_of_parts3 (fuel := 8) (laidMet_of_run' 8 (by kernel_rfl) (by kernel_rfl)) (by kernel_rfl) (by kernel_rfl)
end Go.Proofs.YtelnmkgilnkliaaDoor
