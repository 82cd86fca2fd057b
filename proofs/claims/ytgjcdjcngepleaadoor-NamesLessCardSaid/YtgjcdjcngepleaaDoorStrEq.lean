/- Texts as lists of bytes: when they are the same. -/
import Derived.Test.YtgjcdjcngepleaaDoorKMath
namespace Go.Proofs.YtgjcdjcngepleaaDoor
set_option linter.unusedVariables false

theorem str_iff (a b : ByteArray) : (a.toList = b.toList) ↔ a = b := by
  constructor
  · intro e
    rw [ByteArray.toList_eq, ByteArray.toList_eq] at e
    have := congrArg bs e
    rwa [bs_of, bs_of] at this
  · rintro rfl; rfl
theorem str_beq (a b : ByteArray) : (a.toList == b.toList) = decide (a = b) := by rw [Bool.eq_iff_iff]; simp [str_iff]
end Go.Proofs.YtgjcdjcngepleaaDoor
