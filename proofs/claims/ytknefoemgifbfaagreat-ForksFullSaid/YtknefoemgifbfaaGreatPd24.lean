import Derived.Test.YtknefoemgifbfaaGreatPd03
import Derived.Test.YtknefoemgifbfaaGreatPd23
set_option linter.unusedVariables false
set_option linter.unusedSimpArgs false
set_option linter.constructorNameAsVariable false
namespace Go.Proofs.YtknefoemgifbfaaGreat
open Go.RowKit
def takenA (l : List Ent) (b : Int) : Bool := l.any fun e => decide (e.phys ≤ b ∧ b < e.phys + e.len)
end Go.Proofs.YtknefoemgifbfaaGreat
