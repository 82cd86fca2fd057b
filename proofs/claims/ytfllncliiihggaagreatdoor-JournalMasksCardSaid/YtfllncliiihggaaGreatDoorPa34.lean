import Derived.Test.YtfllncliiihggaaGreatDoorPa12
set_option linter.unusedVariables false
set_option linter.unusedSimpArgs false
set_option linter.constructorNameAsVariable false
/- The contracts of sums.Sum, and of the document's. -/
namespace Go.Proofs.YtfllncliiihggaaGreatDoor
open Go.RowKit

theorem sum_any (s : ByteArray) (hs : s.size ≤ maxLen) (w : World) (ht : Tab w) :
    Calls Tryz.prog 84 #[.string s] w fun e w' => e = .returned (.int .u32 (moreV 0 s.data.toList : Nat)) ∧ w = w' := by
  have M := Lib.hid (more_any 0 (by decide) s hs w ht)
  clear ht
  go_enter Tryz.func84, Tryz.ntmps84
  go_wp2_with fail
  refine M.out.mono ?_; rintro e w' ⟨rfl, rfl⟩
  go_wp2
  go_ret
  exact ⟨rfl, rfl⟩

end Go.Proofs.YtfllncliiihggaaGreatDoor
