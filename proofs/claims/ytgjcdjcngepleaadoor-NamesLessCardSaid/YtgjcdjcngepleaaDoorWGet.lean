/- The contracts of words.Get and of the document's Get, and of their twins for ints. -/
import Derived.Test.YtgjcdjcngepleaaDoorWords
namespace Go.Proofs.YtgjcdjcngepleaaDoor
open Go.RowKit

theorem leN_snoc (s : ByteArray) (a k : Nat) (h : a + k < s.size) : leN (fieldAt s a (k + 1)) = leN (fieldAt s a k) + 256 ^ k * s[a + k].toNat := by
  rw [fieldAt_succ s a k h, leN_append, fieldAt_length s a k (by omega)]; simp [leN]

theorem leN_cons (s : ByteArray) (a z k : Nat) (hk : k < z) (h : a + z ≤ s.size) : leN ((fieldAt s a z).drop k) = leN ((fieldAt s a z).drop (k + 1)) * 256 + s[a + k].toNat := by
  rw [fieldAt_drop s a z k hk h]; simp only [leN]; omega

theorem fieldOk_yes {len : Nat} {a z : Int} (h : fieldOk len a z = true) : ∃ (b y : Nat), a = b ∧ z = y ∧ (y = 1 ∨ y = 2 ∨ y = 4 ∨ y = 8) ∧ b + y ≤ len := by
  unfold fieldOk at h
  simp at h
  exact ⟨a.toNat, z.toNat, by omega, by omega, by omega, by omega⟩

/-- the number in the field of z bytes at a, or 0 -/
def getV (s : ByteArray) (a z : Int) : Nat := if fieldOk s.size a z then leN (fieldAt s a.toNat z.toNat) else 0

theorem getV_yes {s : ByteArray} {b y : Nat} (h : fieldOk s.size b y = true) : getV s b y = leN (fieldAt s b y) := by
  unfold getV; rw [if_pos h]; simp
theorem getV_no {s : ByteArray} {a z : Int} (h : fieldOk s.size a z = false) : getV s a z = 0 := by
  unfold getV; rw [if_neg (by simp [h])]
theorem getV_lt (s : ByteArray) (a z : Int) : getV s a z < 18446744073709551616 := by
  by_cases h : fieldOk s.size a z = true
  · obtain ⟨b, y, rfl, rfl, hy, hb⟩ := fieldOk_yes h
    rw [getV_yes h]
    have h2 := leN_lt (fieldAt s b y)
    rw [fieldAt_length s b y hb] at h2
    have h3 : (256 : Nat) ^ y ≤ 256 ^ 8 := Nat.pow_le_pow_right (by decide) (by omega)
    have h4 : (256 : Nat) ^ 8 = 18446744073709551616 := by decide
    omega
  · rw [getV_no (by simpa using h)]; decide

/-- the number as an int, or 0 -/
def intOk (s : ByteArray) (a z : Int) : Bool := fieldOk s.size a z && decide (getV s a z < 9223372036854775808)
def intV (s : ByteArray) (a z : Int) : Nat := if intOk s a z then getV s a z else 0

end Go.Proofs.YtgjcdjcngepleaaDoor
