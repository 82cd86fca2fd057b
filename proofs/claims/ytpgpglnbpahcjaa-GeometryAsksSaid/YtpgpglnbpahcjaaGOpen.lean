/- An argument that is a layout, read. -/
import Derived.Test.YtpgpglnbpahcjaaGMath
import Derived.Test.YtpgpglnbpahcjaaOpenInts
namespace Go.Proofs.Ytpgpglnbpahcjaa
set_option linter.unusedVariables false
open Go.ChangeShapes Go.WideShapes Go.ChangeAt Go.RowKit Go.Joins

theorem nine {l : List Int} (h : l.length = 9) : ∃ a b c d e f g h i, l = [a, b, c, d, e, f, g, h, i] := by
  match l, h with
  | [a, b, c, d, e, f, g, h, i], _ => exact ⟨a, b, c, d, e, f, g, h, i, rfl⟩
theorem geo_under : ∃ fs : Array Field, Try.prog.underlying 23 = some (.struct fs) ∧ Deep.oneCellFields Try.prog fs = true ∧ (fs.toList.all fun f => f.type == 3) = true ∧ fs.size = 9 := ⟨_, Try.underlying23, by kernel_rfl, by kernel_rfl, rfl⟩
theorem geo_cellsOf : Try.prog.cellsOf 23 = 9 := by kernel_rfl
theorem open_geo {H : Type} {enc : TypeId × Value → H} {W : World} {base : Nat} {v : Value} {d : DataW H} {p : List MemPlace} (hval : Value.okWide Try.prog W .any base 23 v)
    (h : DataW.Trod enc Try.prog W 0 (fun _ => true) true 23 v d p) : ∃ b l i la ma ml ta tl da : Int, v = geo b l i la ma ml ta tl da := by
  obtain ⟨fs, hs, h1, h2, h3⟩ := geo_under
  obtain ⟨zs, e1, rfl, _⟩ := open_struct_ints hs Try.underlying3 h1 h2 (geo_cellsOf.trans h3.symm) hval h
  obtain ⟨a, b, c, x, e, f, g, y, i, rfl⟩ := nine (e1.trans h3)
  exact ⟨a, b, c, x, e, f, g, y, i, rfl⟩
end Go.Proofs.Ytpgpglnbpahcjaa
