import Derived.Test.YtknefoemgifbfaaGreatPd23
import Derived.Test.YtknefoemgifbfaaGreatPd03
set_option linter.unusedVariables false
set_option linter.unusedSimpArgs false
set_option linter.constructorNameAsVariable false
namespace Go.Proofs.YtknefoemgifbfaaGreat
open Go.RowKit
def entFT (s : ByteArray) (l : List Ent) (k : Nat) : ByteArray := s ++ bs (entsB (l.take k))
open Go.RowKit
end Go.Proofs.YtknefoemgifbfaaGreat
