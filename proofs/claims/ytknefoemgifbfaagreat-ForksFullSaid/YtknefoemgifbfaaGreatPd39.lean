import Derived.Test.YtknefoemgifbfaaGreatPd37
import Derived.Test.YtknefoemgifbfaaGreatPd38
import Derived.Test.YtknefoemgifbfaaGreatPd27
import Derived.Laws.MakeOwn
set_option linter.unusedVariables false
set_option linter.unusedSimpArgs false
set_option linter.constructorNameAsVariable false
namespace Go.Proofs.YtknefoemgifbfaaGreat
open Go.RowKit
def ends2 : List Ent := [⟨0, 0, -70⟩, ⟨0, 0, -71⟩]
def TwinX (B : Nat) (v : Value) (l : List Ent) (w : World) : Prop :=
 ∃ g cap, v = .slice (some ⟨g, 0, none⟩) l.length cap ∧ g < w.heap.size ∧ w.ownsRow B 53 3 (.slice (some ⟨g, 0, none⟩) (l.length + 2) cap) (l.length + 2) (cellsE (l ++ ends2))
end Go.Proofs.YtknefoemgifbfaaGreat
