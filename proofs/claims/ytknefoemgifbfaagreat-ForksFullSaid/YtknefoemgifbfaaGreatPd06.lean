import Derived.Laws.Bits64b
import Derived.Test.YtknefoemgifbfaaGreatRows
import Derived.WalkKit
import Derived.WalkSpells
import Derived.WalkLawsBesides
import Derived.Lib.Hide
set_option linter.unusedVariables false
set_option linter.unusedSimpArgs false
set_option linter.constructorNameAsVariable false
namespace Go.Proofs.YtknefoemgifbfaaGreat
def leN : List UInt8 → Nat
 | [] => 0
 | c :: r => c.toNat + 256 * leN r
def leB : Nat → Nat → List UInt8
 | 0, _ => []
 | k + 1, n => UInt8.ofNat n :: leB k (n / 256)
theorem leB_length (k n : Nat) : (leB k n).length = k := by
 induction k generalizing n with
 | zero => rfl
 | succ k ih => simp [leB, ih]
theorem leN_lt (l : List UInt8) : leN l < 256 ^ l.length := by
 induction l with
 | nil => simp [leN]
 | cons c r ih => have := c.toNat_lt; simp only [leN, List.length_cons, Nat.pow_succ]; omega
theorem leN_append (a b : List UInt8) : leN (a ++ b) = leN a + 256 ^ a.length * leN b := by
 induction a with
 | nil => simp [leN]
 | cons c r ih =>
   simp only [List.cons_append, leN, ih, List.length_cons, Nat.pow_succ, Nat.mul_add];rw [Nat.mul_right_comm]; omega
theorem leN_leB (k n : Nat) : leN (leB k n) = n % 256 ^ k := by
 induction k generalizing n with
 | zero => simp [leN, leB]; omega
 | succ k ih =>
   simp only [leN, leB, ih]
   have h1 : (UInt8.ofNat n).toNat = n % 256 := by simp
   rw [h1, Nat.pow_succ, Nat.mul_comm (256 ^ k) 256, Nat.mod_mul]
def fieldAt (s : ByteArray) (a z : Nat) : List UInt8 := (s.data.toList.drop a).take z
theorem fieldAt_length (s : ByteArray) (a z : Nat) (h : a + z ≤ s.size) : (fieldAt s a z).length = z := by
 have e : s.data.toList.length = s.size := rfl;unfold fieldAt;rw [List.length_take, List.length_drop, e]; omega
theorem fieldAt_succ (s : ByteArray) (a k : Nat) (h : a + k < s.size) : fieldAt s a (k + 1) = fieldAt s a k ++ [s[a + k]] := by
 have e : s.data.toList.length = s.size := rfl
 have hl : k < (s.data.toList.drop a).length := by rw [List.length_drop, e]; omega
 unfold fieldAt;rw [List.take_succ_eq_append_getElem hl];congr 2
 simp; rfl
open Go.RowKit
def fieldOk (len : Nat) (a z : Int) : Bool := decide ((z = 1 ∨ z = 2 ∨ z = 4 ∨ z = 8) ∧ 0 ≤ a ∧ a ≤ len - z)
open Go.RowKit
theorem leN_snoc (s : ByteArray) (a k : Nat) (h : a + k < s.size) : leN (fieldAt s a (k + 1)) = leN (fieldAt s a k) + 256 ^ k * s[a + k].toNat := by
 rw [fieldAt_succ s a k h, leN_append, fieldAt_length s a k (by omega)]; simp [leN]
def getV (s : ByteArray) (a z : Int) : Nat := if fieldOk s.size a z then leN (fieldAt s a.toNat z.toNat) else 0
def intOk (s : ByteArray) (a z : Int) : Bool := fieldOk s.size a z && decide (getV s a z < 9223372036854775808)
def intV (s : ByteArray) (a z : Int) : Nat := if intOk s a z then getV s a z else 0
open Go.RowKit
end Go.Proofs.YtknefoemgifbfaaGreat
