import Derived.Test.YtcpoajjgmfglfaaGreatRows
import Derived.Test.YtcpoajjgmfglfaaGreatPd15
import Derived.WalkKit
import Derived.WalkSpells
import Derived.WalkLawsBesides
import Derived.Lib.Hide
set_option linter.unusedVariables false
set_option linter.unusedSimpArgs false
set_option linter.constructorNameAsVariable false
/- The contracts of package words: what each of its functions answers, for every text of at most maxLen bytes. -/
namespace Go.Proofs.YtcpoajjgmfglfaaGreat
open Go.RowKit

/-- does a field of z bytes at a lie in len bytes? -/
def fieldOk (len : Nat) (a z : Int) : Bool := decide ((z = 1 ∨ z = 2 ∨ z = 4 ∨ z = 8) ∧ 0 ≤ a ∧ a ≤ len - z)

theorem fieldOk_no {len : Nat} {a z : Int} (h : ¬ (z = 1 ∨ z = 2 ∨ z = 4 ∨ z = 8)) : fieldOk len a z = false := by
  unfold fieldOk; rw [decide_eq_false]; intro k; exact h k.1

set_option maxHeartbeats 400000 in
theorem within_any (s : ByteArray) (hs : s.size ≤ maxLen) (a z : Int) (w : World) :
    Calls Tryz.prog 160 #[.string s, .int .i64 a, .int .i64 z] w fun e w' => e = .returned (.bool (fieldOk s.size a z)) ∧ w = w' := by
  unfold maxLen at hs
  by_cases hz : z = 1 ∨ z = 2 ∨ z = 4 ∨ z = 8
  · rcases hz with rfl | rfl | rfl | rfl
    all_goals
      go_enter Tryz.func160, Tryz.ntmps160
      go_wp2
      all_goals go_ret
      all_goals refine ⟨?_, rfl⟩
      all_goals simp [fieldOk]; try omega
  · have h1 : (z != 1) = true := by simp; omega
    have h2 : (z != 2) = true := by simp; omega
    have h4 : (z != 4) = true := by simp; omega
    have h8 : (z != 8) = true := by simp; omega
    rw [fieldOk_no hz]
    go_enter Tryz.func160, Tryz.ntmps160
    go_wp2
    go_ret
    exact ⟨rfl, rfl⟩

end Go.Proofs.YtcpoajjgmfglfaaGreat

/- The contracts of words.Get and of the document's Get, and of their twins for ints. -/
namespace Go.Proofs.YtcpoajjgmfglfaaGreat
open Go.RowKit

theorem leN_snoc (s : ByteArray) (a k : Nat) (h : a + k < s.size) : leN (fieldAt s a (k + 1)) = leN (fieldAt s a k) + 256 ^ k * s[a + k].toNat := by
  rw [fieldAt_succ s a k h, leN_append, fieldAt_length s a k (by omega)]; simp [leN]

theorem fieldOk_yes {len : Nat} {a z : Int} (h : fieldOk len a z = true) : ∃ (b y : Nat), a = b ∧ z = y ∧ (y = 1 ∨ y = 2 ∨ y = 4 ∨ y = 8) ∧ b + y ≤ len := by
  unfold fieldOk at h
  simp at h
  exact ⟨a.toNat, z.toNat, by omega, by omega, by omega, by omega⟩

/-- the number in the field of z bytes at a, or 0 -/
def getV (s : ByteArray) (a z : Int) : Nat := if fieldOk s.size a z then leN (fieldAt s a.toNat z.toNat) else 0

/-- the number as an int, or 0 -/
def intOk (s : ByteArray) (a z : Int) : Bool := fieldOk s.size a z && decide (getV s a z < 9223372036854775808)
def intV (s : ByteArray) (a z : Int) : Nat := if intOk s a z then getV s a z else 0

end Go.Proofs.YtcpoajjgmfglfaaGreat

/- The document's Get for ints. -/
namespace Go.Proofs.YtcpoajjgmfglfaaGreat
open Go.RowKit

end Go.Proofs.YtcpoajjgmfglfaaGreat
