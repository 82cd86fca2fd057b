import Derived.Test.YtcpoajjgmfglfaaGreatRows
import Derived.Test.YtcpoajjgmfglfaaGreatPd15
import Derived.WalkKit
import Derived.WalkSpells
import Derived.WalkLawsBesides
import Derived.Lib.Hide
set_option linter.unusedVariables false
set_option linter.unusedSimpArgs false
set_option linter.constructorNameAsVariable false
/- The contracts of package words: what each of its functions answers, for every text of at most maxLen bytes. -/
namespace Go.Proofs.YtcpoajjgmfglfaaGreat
open Go.RowKit

/-- does a field of z bytes at a lie in len bytes? -/
def fieldOk (len : Nat) (a z : Int) : Bool := decide ((z = 1 ∨ z = 2 ∨ z = 4 ∨ z = 8) ∧ 0 ≤ a ∧ a ≤ len - z)

end Go.Proofs.YtcpoajjgmfglfaaGreat

/- The contracts of words.Get and of the document's Get, and of their twins for ints. -/
namespace Go.Proofs.YtcpoajjgmfglfaaGreat
open Go.RowKit

theorem leN_snoc (s : ByteArray) (a k : Nat) (h : a + k < s.size) : leN (fieldAt s a (k + 1)) = leN (fieldAt s a k) + 256 ^ k * s[a + k].toNat := by
  rw [fieldAt_succ s a k h, leN_append, fieldAt_length s a k (by omega)]; simp [leN]

/-- the number in the field of z bytes at a, or 0 -/
def getV (s : ByteArray) (a z : Int) : Nat := if fieldOk s.size a z then leN (fieldAt s a.toNat z.toNat) else 0

/-- the number as an int, or 0 -/
def intOk (s : ByteArray) (a z : Int) : Bool := fieldOk s.size a z && decide (getV s a z < 9223372036854775808)
def intV (s : ByteArray) (a z : Int) : Nat := if intOk s a z then getV s a z else 0

end Go.Proofs.YtcpoajjgmfglfaaGreat
