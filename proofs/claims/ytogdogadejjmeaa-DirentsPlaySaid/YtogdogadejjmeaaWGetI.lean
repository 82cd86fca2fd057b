/- The document's Get for ints. -/
import Derived.Test.YtogdogadejjmeaaWGet
namespace Go.Proofs.Ytogdogadejjmeaa
open Go.RowKit

set_option maxHeartbeats 400000 in
theorem rgetInt_any (s : ByteArray) (hs : s.size ≤ maxLen) (a z : Int) (w : World) :
    Calls Try.prog 30 #[.string s, .int .i64 a, .int .i64 z] w fun e w' => e = .returned (.tuple #[.int .i64 (intV s a z), .bool (intOk s a z)]) ∧ w = w' := by
  have hv := rget_any s hs a z
  have hlt := getV_lt s a z
  unfold intV intOk
  generalize getV s a z = n at *
  generalize fieldOk s.size a z = b at *
  have HV := Lib.hid hv
  clear hv
  cases b
  all_goals
    by_cases hn : n < 9223372036854775808
    all_goals
      simp only [hn, decide_true, decide_false, Bool.and_true, Bool.and_false, Bool.and_self, Bool.false_eq_true, if_true, if_false, Int.natCast_zero]
      go_enter Try.func30, Try.ntmps30
      go_wp2_with (go_at_call 48; refine (HV.out _).mono ?_; rintro e w' ⟨rfl, rfl⟩)
      go_ret2
      exact ⟨rfl, rfl⟩

end Go.Proofs.Ytogdogadejjmeaa
