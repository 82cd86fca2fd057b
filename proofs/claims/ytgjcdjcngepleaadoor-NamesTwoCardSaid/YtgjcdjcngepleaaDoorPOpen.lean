/- Arguments that are texts, read; the start that fits: the listed tables laid. -/
import Derived.Test.YtgjcdjcngepleaaDoorTxt
import Derived.Test.YtgjcdjcngepleaaDoorLift
import Derived.Test.YtgjcdjcngepleaaDoorTie
import Derived.LaidMore
import Derived.Lay
namespace Go.Proofs.YtgjcdjcngepleaaDoor
set_option linter.unusedVariables false
open Go.ChangeShapes Go.WideShapes Go.ChangeAt Go.RowKit

theorem open_strs {H : Type} {enc : TypeId × Value → H} {W : World} {base : Nat} {v : Value} {d : DataW H} {p : List MemPlace} (hval : Value.okWide Tryd.prog W .any base 22 v)
    (h : DataW.Trod enc Tryd.prog W 0 (fun _ => true) true 22 v d p) : ∃ l : List ByteArray, (∀ x ∈ l, x.size ≤ maxLen) ∧ StrsIn v l W := by
  obtain ⟨a0, len, cap, rfl⟩ := okWide_slice Tryd.underlying22 hval
  obtain ⟨fuel, hf⟩ := h
  obtain ⟨l, h1, h2⟩ := open_strs_cell Tryd.underlying22 Tryd.underlying9 (by kernel_rfl) (by simpa [Value.cells] using hf)
  exact ⟨l, h2, h1⟩
def laidS : List (String × DataW Unit) := [("unicode/utf8.acceptRanges", Rows.laid_unicode_utf8_acceptRanges), ("unicode/utf8.first", Rows.laid_unicode_utf8_first)]
end Go.Proofs.YtgjcdjcngepleaaDoor
