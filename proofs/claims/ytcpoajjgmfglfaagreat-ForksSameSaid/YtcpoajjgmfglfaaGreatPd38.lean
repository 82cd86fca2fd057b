import Derived.Test.YtcpoajjgmfglfaaGreatPd35
import Derived.Test.YtcpoajjgmfglfaaGreatPd37
import Derived.Test.YtcpoajjgmfglfaaGreatPd13
import Derived.Test.YtcpoajjgmfglfaaGreatPd07
import Derived.Laws.MakeOwn
set_option linter.unusedVariables false
set_option linter.unusedSimpArgs false
set_option linter.constructorNameAsVariable false
/- Twin, Left, same: the laws' helpers. -/
namespace Go.Proofs.YtcpoajjgmfglfaaGreat
set_option linter.unusedVariables false
open Go.RowKit

def ends2 : List Ent := [⟨0, 0, -70⟩, ⟨0, 0, -71⟩]
/-- a twin of the list: in memory of its own, two exts of its own behind -/
def TwinX (B : Nat) (v : Value) (l : List Ent) (w : World) : Prop :=
  ∃ g cap, v = .slice (some ⟨g, 0, none⟩) l.length cap ∧ g < w.heap.size ∧ w.ownsRow B 53 3 (.slice (some ⟨g, 0, none⟩) (l.length + 2) cap) (l.length + 2) (cellsE (l ++ ends2))
end Go.Proofs.YtcpoajjgmfglfaaGreat
