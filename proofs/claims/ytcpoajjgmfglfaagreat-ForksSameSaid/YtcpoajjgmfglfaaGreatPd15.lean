import Derived.Laws.Bits64b
set_option linter.unusedVariables false
set_option linter.unusedSimpArgs false
set_option linter.constructorNameAsVariable false
/- Plain facts on numbers written as bytes, the lowest byte first: no program is named here. -/
namespace Go.Proofs.YtcpoajjgmfglfaaGreat

/-- the number of bytes l, the lowest first -/
def leN : List UInt8 → Nat
  | [] => 0
  | c :: r => c.toNat + 256 * leN r
/-- the k lowest bytes of n -/
def leB : Nat → Nat → List UInt8
  | 0, _ => []
  | k + 1, n => UInt8.ofNat n :: leB k (n / 256)

theorem leB_length (k n : Nat) : (leB k n).length = k := by
  induction k generalizing n with
  | zero => rfl
  | succ k ih => simp [leB, ih]

theorem leN_lt (l : List UInt8) : leN l < 256 ^ l.length := by
  induction l with
  | nil => simp [leN]
  | cons c r ih => have := c.toNat_lt; simp only [leN, List.length_cons, Nat.pow_succ]; omega

theorem leN_append (a b : List UInt8) : leN (a ++ b) = leN a + 256 ^ a.length * leN b := by
  induction a with
  | nil => simp [leN]
  | cons c r ih =>
    simp only [List.cons_append, leN, ih, List.length_cons, Nat.pow_succ, Nat.mul_add]
    rw [Nat.mul_right_comm]; omega

theorem leN_leB (k n : Nat) : leN (leB k n) = n % 256 ^ k := by
  induction k generalizing n with
  | zero => simp [leN, leB]; omega
  | succ k ih =>
    simp only [leN, leB, ih]
    have h1 : (UInt8.ofNat n).toNat = n % 256 := by simp
    rw [h1, Nat.pow_succ, Nat.mul_comm (256 ^ k) 256, Nat.mod_mul]

/-- the field of z bytes at a -/
def fieldAt (s : ByteArray) (a z : Nat) : List UInt8 := (s.data.toList.drop a).take z

theorem fieldAt_length (s : ByteArray) (a z : Nat) (h : a + z ≤ s.size) : (fieldAt s a z).length = z := by
  have e : s.data.toList.length = s.size := rfl
  unfold fieldAt
  rw [List.length_take, List.length_drop, e]; omega

theorem fieldAt_succ (s : ByteArray) (a k : Nat) (h : a + k < s.size) : fieldAt s a (k + 1) = fieldAt s a k ++ [s[a + k]] := by
  have e : s.data.toList.length = s.size := rfl
  have hl : k < (s.data.toList.drop a).length := by rw [List.length_drop, e]; omega
  unfold fieldAt
  rw [List.take_succ_eq_append_getElem hl]
  congr 2
  simp; rfl

end Go.Proofs.YtcpoajjgmfglfaaGreat
