import Derived.Laws.Bits64b
import Derived.Test.YtknefoemgifbfaaGreatRows
import Derived.WalkKit
import Derived.WalkSpells
import Derived.WalkLawsBesides
import Derived.Lib.Hide
set_option linter.unusedVariables false
set_option linter.unusedSimpArgs false
set_option linter.constructorNameAsVariable false
set_option maxRecDepth 100000
set_option maxHeartbeats 16000000
namespace Go.Proofs.YtknefoemgifbfaaGreat
def leN : List UInt8 → Nat
 | [] => 0
 | c :: r => c.toNat + 256 * leN r
def leB : Nat → Nat → List UInt8
 | 0, _ => []
 | k + 1, n => UInt8.ofNat n :: leB k (n / 256)
theorem leB_length (k n : Nat) : (leB k n).length = k := by
 induction k generalizing n with
 | zero => rfl
 | succ k ih => simp [leB, ih]
theorem leN_lt (l : List UInt8) : leN l < 256 ^ l.length := by
 induction l with
 | nil => simp [leN]
 | cons c r ih => have := c.toNat_lt; simp only [leN, List.length_cons, Nat.pow_succ]; omega
theorem leN_append (a b : List UInt8) : leN (a ++ b) = leN a + 256 ^ a.length * leN b := by
 induction a with
 | nil => simp [leN]
 | cons c r ih =>
   simp only [List.cons_append, leN, ih, List.length_cons, Nat.pow_succ, Nat.mul_add];rw [Nat.mul_right_comm]; omega
theorem leN_leB (k n : Nat) : leN (leB k n) = n % 256 ^ k := by
 induction k generalizing n with
 | zero => simp [leN, leB]; omega
 | succ k ih =>
   simp only [leN, leB, ih]
   have h1 : (UInt8.ofNat n).toNat = n % 256 := by simp
   rw [h1, Nat.pow_succ, Nat.mul_comm (256 ^ k) 256, Nat.mod_mul]
theorem leB_succ_snoc (k n : Nat) : leB (k + 1) n = leB k n ++ [UInt8.ofNat (n / 256 ^ k)] := by
 induction k generalizing n with
 | zero => simp [leB]
 | succ k ih =>
   rw [show leB (k + 1 + 1) n = UInt8.ofNat n :: leB (k + 1) (n / 256) from rfl, ih];rw [show leB (k + 1) n = UInt8.ofNat n :: leB k (n / 256) from rfl];rw [Nat.div_div_eq_div_mul, Nat.pow_succ, Nat.mul_comm 256];rfl
def fieldAt (s : ByteArray) (a z : Nat) : List UInt8 := (s.data.toList.drop a).take z
theorem fieldAt_length (s : ByteArray) (a z : Nat) (h : a + z ≤ s.size) : (fieldAt s a z).length = z := by
 have e : s.data.toList.length = s.size := rfl;unfold fieldAt;rw [List.length_take, List.length_drop, e]; omega
theorem fieldAt_succ (s : ByteArray) (a k : Nat) (h : a + k < s.size) : fieldAt s a (k + 1) = fieldAt s a k ++ [s[a + k]] := by
 have e : s.data.toList.length = s.size := rfl
 have hl : k < (s.data.toList.drop a).length := by rw [List.length_drop, e]; omega
 unfold fieldAt;rw [List.take_succ_eq_append_getElem hl];congr 2
 simp; rfl
open Go.RowKit
def fieldOk (len : Nat) (a z : Int) : Bool := decide ((z = 1 ∨ z = 2 ∨ z = 4 ∨ z = 8) ∧ 0 ≤ a ∧ a ≤ len - z)
theorem fieldOk_no {len : Nat} {a z : Int} (h : ¬ (z = 1 ∨ z = 2 ∨ z = 4 ∨ z = 8)) : fieldOk len a z = false := by
 unfold fieldOk; rw [decide_eq_false]; intro k; exact h k.1
theorem within_any (s : ByteArray) (hs : s.size ≤ maxLen) (a z : Int) (w : World) :
 Calls Tryz.prog 160 #[.string s, .int .i64 a, .int .i64 z] w fun e w' => e = .returned (.bool (fieldOk s.size a z)) ∧ w = w' := by
 unfold maxLen at hs;by_cases hz : z = 1 ∨ z = 2 ∨ z = 4 ∨ z = 8
 ·rcases hz with rfl | rfl | rfl | rfl
  all_goals
   go_enter Tryz.func160, Tryz.ntmps160
   go_wp2
   all_goals go_ret
   all_goals refine ⟨?_, rfl⟩
   all_goals simp [fieldOk]; try omega
 ·have h1 : (z != 1) = true := by simp; omega
  have h2 : (z != 2) = true := by simp; omega
  have h4 : (z != 4) = true := by simp; omega
  have h8 : (z != 8) = true := by simp; omega
  rw [fieldOk_no hz]
  go_enter Tryz.func160, Tryz.ntmps160
  go_wp2;go_ret;exact ⟨rfl, rfl⟩
open Go.RowKit
theorem leN_snoc (s : ByteArray) (a k : Nat) (h : a + k < s.size) : leN (fieldAt s a (k + 1)) = leN (fieldAt s a k) + 256 ^ k * s[a + k].toNat := by
 rw [fieldAt_succ s a k h, leN_append, fieldAt_length s a k (by omega)]; simp [leN]
theorem fieldOk_yes {len : Nat} {a z : Int} (h : fieldOk len a z = true) : ∃ (b y : Nat), a = b ∧ z = y ∧ (y = 1 ∨ y = 2 ∨ y = 4 ∨ y = 8) ∧ b + y ≤ len := by
 unfold fieldOk at h
 simp at h
 exact ⟨a.toNat, z.toNat, by omega, by omega, by omega, by omega⟩
def getV (s : ByteArray) (a z : Int) : Nat := if fieldOk s.size a z then leN (fieldAt s a.toNat z.toNat) else 0
def intOk (s : ByteArray) (a z : Int) : Bool := fieldOk s.size a z && decide (getV s a z < 9223372036854775808)
def intV (s : ByteArray) (a z : Int) : Nat := if intOk s a z then getV s a z else 0
open Go.RowKit
end Go.Proofs.YtknefoemgifbfaaGreat
