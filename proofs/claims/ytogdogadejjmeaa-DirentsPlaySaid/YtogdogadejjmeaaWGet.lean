/- The contracts of words.Get and of the document's Get, and of their twins for ints. -/
import Derived.Test.YtogdogadejjmeaaWords
namespace Go.Proofs.Ytogdogadejjmeaa
open Go.RowKit

theorem leN_snoc (s : ByteArray) (a k : Nat) (h : a + k < s.size) : leN (fieldAt s a (k + 1)) = leN (fieldAt s a k) + 256 ^ k * s[a + k].toNat := by
  rw [fieldAt_succ s a k h, leN_append, fieldAt_length s a k (by omega)]; simp [leN]

theorem leN_cons (s : ByteArray) (a z k : Nat) (hk : k < z) (h : a + z ≤ s.size) : leN ((fieldAt s a z).drop k) = leN ((fieldAt s a z).drop (k + 1)) * 256 + s[a + k].toNat := by
  rw [fieldAt_drop s a z k hk h]; simp only [leN]; omega

theorem fieldOk_yes {len : Nat} {a z : Int} (h : fieldOk len a z = true) : ∃ (b y : Nat), a = b ∧ z = y ∧ (y = 1 ∨ y = 2 ∨ y = 4 ∨ y = 8) ∧ b + y ≤ len := by
  unfold fieldOk at h
  simp at h
  exact ⟨a.toNat, z.toNat, by omega, by omega, by omega, by omega⟩

set_option maxHeartbeats 400000 in
theorem get_yes (s : ByteArray) (hs : s.size ≤ maxLen) (a z : Nat) (hz : z = 1 ∨ z = 2 ∨ z = 4 ∨ z = 8) (ha : a + z ≤ s.size) (w : World) :
    Calls Try.prog 58 #[.string s, .int .i64 a, .int .i64 z] w fun e w' => e = .returned (.tuple #[.int .u64 (leN (fieldAt s a z)), .bool true]) ∧ w = w' := by
  have hok : fieldOk s.size a z = true := by unfold fieldOk; simp; omega
  have hv := valid_any s hs a z
  rw [hok] at hv
  have HV := Lib.hid hv
  clear hv hok
  unfold maxLen at hs
  go_enter Try.func58, Try.ntmps58
  go_wp2_with (go_at_call 60; refine (HV.out _).mono ?_; rintro e w' ⟨rfl, rfl⟩)
  go_loop [8, 16] (fun n i => ∃ k : Nat, k ≤ z ∧ i = .int .i64 k ∧ n = .int .u64 (leN (fieldAt s a k))) (fun _ i => z - (intOf i).toNat)
  case atStart => exact ⟨0, Nat.zero_le _, rfl, rfl⟩
  case round =>
    obtain ⟨k, hk, rfl, rfl⟩ := hrel
    by_cases hlt : k < z
    · have h1 := leN_snoc s a k (by omega)
      have h2 := leN_lt (fieldAt s a k)
      rw [fieldAt_length s a k (by omega)] at h2
      have h3 := or_step _ k (s[a + k]'(by omega)).toNat (by omega) h2 (UInt8.toNat_lt _)
      rw [← h1] at h3
      have H3 := Lib.hid h3
      clear h1 h2 h3
      go_wp2
      exact ⟨⟨k + 1, by omega, by go_num, by rw [H3.out]⟩, by simp [intOf]; omega⟩
    · obtain rfl : k = z := by omega
      go_wp2
      go_ret2
      exact ⟨rfl, rfl⟩

set_option maxHeartbeats 400000 in
theorem get_no (s : ByteArray) (hs : s.size ≤ maxLen) (a z : Int) (h : fieldOk s.size a z = false) (w : World) :
    Calls Try.prog 58 #[.string s, .int .i64 a, .int .i64 z] w fun e w' => e = .returned (.tuple #[.int .u64 0, .bool false]) ∧ w = w' := by
  have hv := valid_any s hs a z
  rw [h] at hv
  have HV := Lib.hid hv
  clear hv h
  go_enter Try.func58, Try.ntmps58
  go_wp2_with (go_at_call 60; refine (HV.out _).mono ?_; rintro e w' ⟨rfl, rfl⟩)
  go_ret2
  exact ⟨rfl, rfl⟩

/-- the number in the field of z bytes at a, or 0 -/
def getV (s : ByteArray) (a z : Int) : Nat := if fieldOk s.size a z then leN (fieldAt s a.toNat z.toNat) else 0

theorem getV_yes {s : ByteArray} {b y : Nat} (h : fieldOk s.size b y = true) : getV s b y = leN (fieldAt s b y) := by
  unfold getV; rw [if_pos h]; simp
theorem getV_no {s : ByteArray} {a z : Int} (h : fieldOk s.size a z = false) : getV s a z = 0 := by
  unfold getV; rw [if_neg (by simp [h])]
theorem getV_lt (s : ByteArray) (a z : Int) : getV s a z < 18446744073709551616 := by
  by_cases h : fieldOk s.size a z = true
  · obtain ⟨b, y, rfl, rfl, hy, hb⟩ := fieldOk_yes h
    rw [getV_yes h]
    have h2 := leN_lt (fieldAt s b y)
    rw [fieldAt_length s b y hb] at h2
    have h3 : (256 : Nat) ^ y ≤ 256 ^ 8 := Nat.pow_le_pow_right (by decide) (by omega)
    have h4 : (256 : Nat) ^ 8 = 18446744073709551616 := by decide
    omega
  · rw [getV_no (by simpa using h)]; decide

theorem get_any (s : ByteArray) (hs : s.size ≤ maxLen) (a z : Int) (w : World) :
    Calls Try.prog 58 #[.string s, .int .i64 a, .int .i64 z] w fun e w' => e = .returned (.tuple #[.int .u64 (getV s a z), .bool (fieldOk s.size a z)]) ∧ w = w' := by
  by_cases h : fieldOk s.size a z = true
  · obtain ⟨b, y, rfl, rfl, hy, hb⟩ := fieldOk_yes h
    rw [h, getV_yes h]
    exact get_yes s hs b y hy hb w
  · have h' : fieldOk s.size a z = false := by simpa using h
    rw [h', getV_no h']
    exact get_no s hs a z h' w

set_option maxHeartbeats 400000 in
theorem rget_yes (s : ByteArray) (hs : s.size ≤ maxLen) (a z : Nat) (hz : z = 1 ∨ z = 2 ∨ z = 4 ∨ z = 8) (ha : a + z ≤ s.size) (w : World) :
    Calls Try.prog 48 #[.string s, .int .i64 a, .int .i64 z] w fun e w' => e = .returned (.tuple #[.int .u64 (leN (fieldAt s a z)), .bool true]) ∧ w = w' := by
  have hok : fieldOk s.size a z = true := by unfold fieldOk; simp; omega
  have hv := within_any s hs a z
  rw [hok] at hv
  have HV := Lib.hid hv
  clear hv hok
  unfold maxLen at hs
  have hz1 : 1 ≤ z := by omega
  have hz8 : z ≤ 8 := by omega
  clear hz
  go_enter Try.func48, Try.ntmps48
  go_wp2_with (go_at_call 57; refine (HV.out _).mono ?_; rintro e w' ⟨rfl, rfl⟩)
  go_loop [8, 9] (fun n i => (∃ j : Nat, j < z ∧ i = .int .i64 j ∧ n = .int .u64 (leN ((fieldAt s a z).drop (j + 1)))) ∨ (i = .int .i64 (-1) ∧ n = .int .u64 (leN (fieldAt s a z)))) (fun _ i => (intOf i + 1).toNat)
  case atStart =>
    refine .inl ⟨z - 1, by omega, by congr 1; omega, ?_⟩
    rw [show z - 1 + 1 = z by omega, List.drop_eq_nil_of_le (by rw [fieldAt_length s a z ha]; exact Nat.le_refl _)]; rfl
  case round =>
    rcases hrel with ⟨j, hj, rfl, rfl⟩ | ⟨rfl, rfl⟩
    · have h1 := leN_cons s a z j hj ha
      have hlt := leN_lt ((fieldAt s a z).drop j)
      rw [List.length_drop, fieldAt_length s a z ha] at hlt
      have h3 : (256 : Nat) ^ (z - j) ≤ 256 ^ 8 := Nat.pow_le_pow_right (by decide) (by omega)
      have h4 : (256 : Nat) ^ 8 = 18446744073709551616 := by decide
      have hc := (s[a + j]'(by omega)).toNat_lt
      have h5 : IntKind.u64.wrap (IntKind.u64.wrap ((leN ((fieldAt s a z).drop (j + 1)) : Int) * 256) + IntKind.u64.wrap ((s[a + j]'(by omega)).toNat : Int)) = (leN ((fieldAt s a z).drop j) : Int) := by
        rw [IntKind.wrap_u64, IntKind.wrap_u64, IntKind.wrap_u64]; omega
      have H5 := Lib.hid h5
      clear h1 hlt h3 h4 hc h5
      go_wp2
      refine ⟨?_, by simp [intOf]⟩
      rw [H5.out]
      cases j with
      | zero => exact .inr ⟨by go_num, rfl⟩
      | succ j => exact .inl ⟨j, by omega, by go_num, rfl⟩
    · go_wp2
      go_ret2
      exact ⟨rfl, rfl⟩

set_option maxHeartbeats 400000 in
theorem rget_no (s : ByteArray) (hs : s.size ≤ maxLen) (a z : Int) (h : fieldOk s.size a z = false) (w : World) :
    Calls Try.prog 48 #[.string s, .int .i64 a, .int .i64 z] w fun e w' => e = .returned (.tuple #[.int .u64 0, .bool false]) ∧ w = w' := by
  have hv := within_any s hs a z
  rw [h] at hv
  have HV := Lib.hid hv
  clear hv h
  go_enter Try.func48, Try.ntmps48
  go_wp2_with (go_at_call 57; refine (HV.out _).mono ?_; rintro e w' ⟨rfl, rfl⟩)
  go_ret2
  exact ⟨rfl, rfl⟩

theorem rget_any (s : ByteArray) (hs : s.size ≤ maxLen) (a z : Int) (w : World) :
    Calls Try.prog 48 #[.string s, .int .i64 a, .int .i64 z] w fun e w' => e = .returned (.tuple #[.int .u64 (getV s a z), .bool (fieldOk s.size a z)]) ∧ w = w' := by
  by_cases h : fieldOk s.size a z = true
  · obtain ⟨b, y, rfl, rfl, hy, hb⟩ := fieldOk_yes h
    rw [h, getV_yes h]
    exact rget_yes s hs b y hy hb w
  · have h' : fieldOk s.size a z = false := by simpa using h
    rw [h', getV_no h']
    exact rget_no s hs a z h' w

/-- the number as an int, or 0 -/
def intOk (s : ByteArray) (a z : Int) : Bool := fieldOk s.size a z && decide (getV s a z < 9223372036854775808)
def intV (s : ByteArray) (a z : Int) : Nat := if intOk s a z then getV s a z else 0

set_option maxHeartbeats 400000 in
theorem getInt_any (s : ByteArray) (hs : s.size ≤ maxLen) (a z : Int) (w : World) :
    Calls Try.prog 47 #[.string s, .int .i64 a, .int .i64 z] w fun e w' => e = .returned (.tuple #[.int .i64 (intV s a z), .bool (intOk s a z)]) ∧ w = w' := by
  have hv := get_any s hs a z
  have hlt := getV_lt s a z
  unfold intV intOk
  generalize getV s a z = n at *
  generalize fieldOk s.size a z = b at *
  have HV := Lib.hid hv
  clear hv
  cases b
  all_goals
    by_cases hn : n < 9223372036854775808
    all_goals
      simp only [hn, decide_true, decide_false, Bool.and_true, Bool.and_false, Bool.and_self, Bool.false_eq_true, if_true, if_false, Int.natCast_zero]
      go_enter Try.func47, Try.ntmps47
      go_wp2_with (go_at_call 58; refine (HV.out _).mono ?_; rintro e w' ⟨rfl, rfl⟩)
      go_ret2
      exact ⟨rfl, rfl⟩

end Go.Proofs.Ytogdogadejjmeaa
