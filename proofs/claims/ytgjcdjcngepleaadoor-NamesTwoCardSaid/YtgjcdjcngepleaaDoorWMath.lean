/- Plain facts on numbers written as bytes, the lowest byte first: no program is named here. -/
import Derived.Laws.Bits64b
namespace Go.Proofs.YtgjcdjcngepleaaDoor

/-- the number of bytes l, the lowest first -/
def leN : List UInt8 → Nat
  | [] => 0
  | c :: r => c.toNat + 256 * leN r
/-- the k lowest bytes of n -/
def leB : Nat → Nat → List UInt8
  | 0, _ => []
  | k + 1, n => UInt8.ofNat n :: leB k (n / 256)

theorem leB_length (k n : Nat) : (leB k n).length = k := by
  induction k generalizing n with
  | zero => rfl
  | succ k ih => simp [leB, ih]

theorem leN_lt (l : List UInt8) : leN l < 256 ^ l.length := by
  induction l with
  | nil => simp [leN]
  | cons c r ih => have := c.toNat_lt; simp only [leN, List.length_cons, Nat.pow_succ]; omega

theorem leN_append (a b : List UInt8) : leN (a ++ b) = leN a + 256 ^ a.length * leN b := by
  induction a with
  | nil => simp [leN]
  | cons c r ih =>
    simp only [List.cons_append, leN, ih, List.length_cons, Nat.pow_succ, Nat.mul_add]
    rw [Nat.mul_right_comm]; omega

theorem leN_leB (k n : Nat) : leN (leB k n) = n % 256 ^ k := by
  induction k generalizing n with
  | zero => simp [leN, leB]; omega
  | succ k ih =>
    simp only [leN, leB, ih]
    have h1 : (UInt8.ofNat n).toNat = n % 256 := by simp
    rw [h1, Nat.pow_succ, Nat.mul_comm (256 ^ k) 256, Nat.mod_mul]

theorem leB_leN (l : List UInt8) : leB l.length (leN l) = l := by
  induction l with
  | nil => rfl
  | cons c r ih =>
    have hc := c.toNat_lt
    simp only [leN, leB, List.length_cons]
    have h1 : (c.toNat + 256 * leN r) / 256 = leN r := by omega
    rw [h1, ih]
    congr 1
    apply UInt8.toNat_inj.1
    simp

theorem leB_mod (k n : Nat) : leB k (n % 256 ^ k) = leB k n := by
  have := leB_leN (leB k n)
  rw [leB_length, leN_leB] at this
  exact this

theorem leB_succ_snoc (k n : Nat) : leB (k + 1) n = leB k n ++ [UInt8.ofNat (n / 256 ^ k)] := by
  induction k generalizing n with
  | zero => simp [leB]
  | succ k ih =>
    rw [show leB (k + 1 + 1) n = UInt8.ofNat n :: leB (k + 1) (n / 256) from rfl, ih]
    rw [show leB (k + 1) n = UInt8.ofNat n :: leB k (n / 256) from rfl]
    rw [Nat.div_div_eq_div_mul, Nat.pow_succ, Nat.mul_comm 256]
    rfl

/-- the field of z bytes at a -/
def fieldAt (s : ByteArray) (a z : Nat) : List UInt8 := (s.data.toList.drop a).take z

theorem fieldAt_length (s : ByteArray) (a z : Nat) (h : a + z ≤ s.size) : (fieldAt s a z).length = z := by
  have e : s.data.toList.length = s.size := rfl
  unfold fieldAt
  rw [List.length_take, List.length_drop, e]; omega

theorem fieldAt_succ (s : ByteArray) (a k : Nat) (h : a + k < s.size) : fieldAt s a (k + 1) = fieldAt s a k ++ [s[a + k]] := by
  have e : s.data.toList.length = s.size := rfl
  have hl : k < (s.data.toList.drop a).length := by rw [List.length_drop, e]; omega
  unfold fieldAt
  rw [List.take_succ_eq_append_getElem hl]
  congr 2
  simp; rfl

theorem fieldAt_drop (s : ByteArray) (a z k : Nat) (hk : k < z) (h : a + z ≤ s.size) : (fieldAt s a z).drop k = s[a + k] :: (fieldAt s a z).drop (k + 1) := by
  have hl : k < (fieldAt s a z).length := by rw [fieldAt_length s a z h]; exact hk
  rw [List.drop_eq_getElem_cons hl]
  congr 1
  simp [fieldAt]; rfl

theorem or_step (n k : Nat) (c : Nat) (hk : k < 8) (hn : n < 256 ^ k) (hc : c < 256) :
    bits .or .u64 (n : Int) (IntKind.u64.wrap (IntKind.u64.wrap (c : Int) * 2 ^ (8 * k))) = ((n + 256 ^ k * c : Nat) : Int) := by
  have e : (256 : Nat) ^ k = 2 ^ (8 * k) := by rw [Nat.pow_mul]
  have h1 : IntKind.u64.wrap (c : Int) = c := by rw [IntKind.wrap_u64]; omega
  have hp : (2 : Nat) ^ (8 * k) ≤ 2 ^ 56 := Nat.pow_le_pow_right (by decide) (by omega)
  have hm : 2 ^ (8 * k) * c < 18446744073709551616 := by
    have h1 : 2 ^ (8 * k) * c ≤ 2 ^ 56 * 255 := Nat.mul_le_mul hp (by omega)
    have h2 : (2 : Nat) ^ 56 * 255 = 18374686479671623680 := by decide
    omega
  have h2 : IntKind.u64.wrap ((c : Int) * 2 ^ (8 * k)) = ((2 ^ (8 * k) * c : Nat) : Int) := by
    have e2 : (c : Int) * 2 ^ (8 * k) = ((2 ^ (8 * k) * c : Nat) : Int) := by
      rw [Int.natCast_mul, Int.natCast_pow, Int.mul_comm]; rfl
    rw [e2, IntKind.wrap_u64]
    generalize 2 ^ (8 * k) * c = m at hm
    omega
  have hn' : n < 2 ^ (8 * k) := by rw [← e]; exact hn
  rw [h1, h2, bits_or_u64_nat n _ (by omega) hm, Nat.or_comm, ← Nat.two_pow_add_eq_or_of_lt hn' c, e, Nat.add_comm]

end Go.Proofs.YtgjcdjcngepleaaDoor
