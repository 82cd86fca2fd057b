import Derived.Test.YtknefoemgifbfaaGreatPd51
import Derived.Test.YtknefoemgifbfaaGreatPd22
import Derived.Test.YtknefoemgifbfaaGreatPd28
set_option linter.unusedVariables false
set_option linter.unusedSimpArgs false
set_option linter.constructorNameAsVariable false
namespace Go.Proofs.YtknefoemgifbfaaGreat
set_option maxRecDepth 100000
open Go.ChangeShapes Go.WideShapes Go.ChangeAt Go.RowKit
section
variable {H : Type} {enc : TypeId × Value → H} {w : World} {held : Bool}
end
structure FitI (x : Ino) : Prop where
 kind : I64 x.kind
 links : I64 x.links
 size : I64 x.size
 depth : I64 x.depth
 root : fitE x.root
set_option maxRecDepth 100000
open Go.ChangeShapes Go.WideShapes Go.ChangeAt Go.RowKit
section
variable {H : Type} {enc : TypeId × Value → H} {w : World} {held : Bool}
end
set_option maxRecDepth 100000
open Go.ChangeShapes Go.WideShapes Go.ChangeAt Go.RowKit
def fitC (l : List (Int × ByteArray)) : Prop := ∀ c ∈ l, I64 c.1 ∧ c.2.size ≤ maxLen
section
variable {H : Type} {enc : TypeId × Value → H} {w : World} {held : Bool}
end
end Go.Proofs.YtknefoemgifbfaaGreat
