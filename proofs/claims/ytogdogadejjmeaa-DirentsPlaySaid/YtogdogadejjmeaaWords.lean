/- The contracts of package words: what each of its functions answers, for every text of at most maxLen bytes. -/
import Derived.Test.YtogdogadejjmeaaRows
import Derived.Test.YtogdogadejjmeaaWMath
import Derived.WalkKit
import Derived.WalkSpells
import Derived.WalkLawsBesides
import Derived.Lib.Hide
namespace Go.Proofs.Ytogdogadejjmeaa
open Go.RowKit

/-- does a field of z bytes at a lie in len bytes? -/
def fieldOk (len : Nat) (a z : Int) : Bool := decide ((z = 1 ∨ z = 2 ∨ z = 4 ∨ z = 8) ∧ 0 ≤ a ∧ a ≤ len - z)

theorem fieldOk_no {len : Nat} {a z : Int} (h : ¬ (z = 1 ∨ z = 2 ∨ z = 4 ∨ z = 8)) : fieldOk len a z = false := by
  unfold fieldOk; rw [decide_eq_false]; intro k; exact h k.1

set_option maxHeartbeats 400000 in
theorem valid_any (s : ByteArray) (hs : s.size ≤ maxLen) (a z : Int) (w : World) :
    Calls Try.prog 60 #[.string s, .int .i64 a, .int .i64 z] w fun e w' => e = .returned (.bool (fieldOk s.size a z)) ∧ w = w' := by
  unfold maxLen at hs
  by_cases hz : z = 1 ∨ z = 2 ∨ z = 4 ∨ z = 8
  · rcases hz with rfl | rfl | rfl | rfl
    all_goals
      go_enter Try.func60, Try.ntmps60
      go_wp2
      all_goals go_ret
      all_goals refine ⟨?_, rfl⟩
      all_goals simp [fieldOk]; try omega
  · have h1 : (z == 1) = false := by simp; omega
    have h2 : (z == 2) = false := by simp; omega
    have h4 : (z == 4) = false := by simp; omega
    have h8 : (z == 8) = false := by simp; omega
    rw [fieldOk_no hz]
    go_enter Try.func60, Try.ntmps60
    go_wp2
    go_ret
    exact ⟨rfl, rfl⟩

set_option maxHeartbeats 400000 in
theorem within_any (s : ByteArray) (hs : s.size ≤ maxLen) (a z : Int) (w : World) :
    Calls Try.prog 57 #[.string s, .int .i64 a, .int .i64 z] w fun e w' => e = .returned (.bool (fieldOk s.size a z)) ∧ w = w' := by
  unfold maxLen at hs
  by_cases hz : z = 1 ∨ z = 2 ∨ z = 4 ∨ z = 8
  · rcases hz with rfl | rfl | rfl | rfl
    all_goals
      go_enter Try.func57, Try.ntmps57
      go_wp2
      all_goals go_ret
      all_goals refine ⟨?_, rfl⟩
      all_goals simp [fieldOk]; try omega
  · have h1 : (z != 1) = true := by simp; omega
    have h2 : (z != 2) = true := by simp; omega
    have h4 : (z != 4) = true := by simp; omega
    have h8 : (z != 8) = true := by simp; omega
    rw [fieldOk_no hz]
    go_enter Try.func57, Try.ntmps57
    go_wp2
    go_ret
    exact ⟨rfl, rfl⟩

end Go.Proofs.Ytogdogadejjmeaa
