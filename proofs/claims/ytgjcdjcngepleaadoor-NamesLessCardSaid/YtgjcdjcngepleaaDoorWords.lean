/- The contracts of package words: what each of its functions answers, for every text of at most maxLen bytes. -/
import Derived.Test.YtgjcdjcngepleaaDoorRows
import Derived.Test.YtgjcdjcngepleaaDoorWMath
import Derived.WalkKit
import Derived.WalkSpells
import Derived.WalkLawsBesides
import Derived.Lib.Hide
namespace Go.Proofs.YtgjcdjcngepleaaDoor
open Go.RowKit

/-- does a field of z bytes at a lie in len bytes? -/
def fieldOk (len : Nat) (a z : Int) : Bool := decide ((z = 1 ∨ z = 2 ∨ z = 4 ∨ z = 8) ∧ 0 ≤ a ∧ a ≤ len - z)

theorem fieldOk_no {len : Nat} {a z : Int} (h : ¬ (z = 1 ∨ z = 2 ∨ z = 4 ∨ z = 8)) : fieldOk len a z = false := by
  unfold fieldOk; rw [decide_eq_false]; intro k; exact h k.1

end Go.Proofs.YtgjcdjcngepleaaDoor
