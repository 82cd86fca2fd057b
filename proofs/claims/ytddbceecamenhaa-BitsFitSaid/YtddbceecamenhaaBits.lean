/- The contracts of package bits' small functions. -/
import Derived.Test.YtddbceecamenhaaRows
import Derived.Test.YtddbceecamenhaaBMath
import Derived.WalkKit
import Derived.WalkSpells
import Derived.WalkLawsBesides
import Derived.Lib.Hide
namespace Go.Proofs.Ytddbceecamenhaa
set_option linter.unusedVariables false
open Go.RowKit

theorem ofInt8 (a : Nat) (ha : a < 256) : (BitVec.ofInt 8 (a : Int)).toNat = a := by
  rw [BitVec.ofInt_natCast, BitVec.toNat_ofNat]; exact Nat.mod_eq_of_lt (by omega)
theorem wrap8 (a : Nat) (ha : a < 256) : IntKind.u8.wrap (a : Int) = a := by
  simp [IntKind.wrap, IntKind.bits, IntKind.signed]; omega
theorem xor8 (a b : Nat) (ha : a < 256) (hb : b < 256) : bits .xor .u8 (a : Int) (b : Int) = ((a ^^^ b : Nat) : Int) := by
  show IntKind.u8.wrap ((BitVec.ofInt 8 (a : Int) ^^^ BitVec.ofInt 8 (b : Int)).toNat : Int) = _
  rw [BitVec.toNat_xor, ofInt8 a ha, ofInt8 b hb]
  exact wrap8 _ (Nat.xor_lt_two_pow (n := 8) ha hb)
theorem and1_8 (a : Nat) (ha : a < 256) : bits .and .u8 (a : Int) 1 = ((a % 2 : Nat) : Int) := by
  show IntKind.u8.wrap ((BitVec.ofInt 8 (a : Int) &&& BitVec.ofInt 8 ((1 : Nat) : Int)).toNat : Int) = _
  rw [BitVec.toNat_and, ofInt8 a ha, ofInt8 1 (by decide), Nat.and_one_is_mod]
  exact wrap8 _ (by omega)
theorem div_pow (a k : Nat) : ((a : Int) / 2 ^ k) = ((a / 2 ^ k : Nat) : Int) := by rw [Int.natCast_ediv, Int.natCast_pow]; rfl
theorem bit_test8 (x j : Nat) (hx : x < 256) : (bits .and .u8 ((x : Int) / 2 ^ j) 1 == 1) = x.testBit j := by
  rw [div_pow, and1_8 _ (Nat.lt_of_le_of_lt (Nat.div_le_self _ _) hx), Nat.testBit_eq_decide_div_mod_eq, Bool.eq_iff_iff]
  simp only [beq_iff_eq, decide_eq_true_eq]; omega

/-- is there a bit i? -/
def isBit (s : ByteArray) (i : Int) : Bool := decide (0 ≤ i ∧ i < 8 * (s.size : Int))
/-- P3.1 -/
def hasV (s : ByteArray) (i : Int) : Bool := isBit s i && bitAt s i.toNat
theorem isBit_yes {s : ByteArray} {k : Nat} (h : k < 8 * s.size) : isBit s k = true := by unfold isBit; rw [decide_eq_true]; omega
theorem isBit_no {s : ByteArray} {i : Int} (h : ¬ (0 ≤ i ∧ i < 8 * (s.size : Int))) : isBit s i = false := by unfold isBit; exact decide_eq_false h
theorem hasV_yes {s : ByteArray} {k : Nat} (h : k < 8 * s.size) : hasV s k = bitAt s k := by unfold hasV; rw [isBit_yes h]; simp
theorem hasV_no {s : ByteArray} {i : Int} (h : ¬ (0 ≤ i ∧ i < 8 * (s.size : Int))) : hasV s i = false := by unfold hasV; rw [isBit_no h]; rfl
theorem hasV_nat (s : ByteArray) (k : Nat) : hasV s k = bitAt s k := by
  by_cases h : k < 8 * s.size
  · exact hasV_yes h
  · rw [hasV_no (by omega), bitAt_out s k (by omega)]
theorem bit_cases (s : ByteArray) (i : Int) : (∃ k : Nat, i = k ∧ k < 8 * s.size) ∨ ¬ (0 ≤ i ∧ i < 8 * (s.size : Int)) := by
  by_cases h : 0 ≤ i ∧ i < 8 * (s.size : Int)
  · exact .inl ⟨i.toNat, by omega, by omega⟩
  · exact .inr h

theorem ret_bool {a b : Bool} (h : a = b) : Ending.returned (.bool a) = .returned (.bool b) := by rw [h]
theorem ret_int {a b : Int} (h : a = b) : Ending.returned (.int .i64 a) = .returned (.int .i64 b) := by rw [h]

set_option maxHeartbeats 400000 in
theorem exists_any (s : ByteArray) (hs : s.size ≤ 2000) (i : Int) (w : World) :
    Calls Try.prog 24 #[.string s, .int .i64 i] w fun e w' => e = .returned (.bool (isBit s i)) ∧ w = w' := by
  go_enter Try.func24, Try.ntmps24
  go_wp2
  all_goals go_ret
  all_goals refine ⟨ret_bool ?_, rfl⟩
  all_goals unfold isBit
  all_goals simp
  all_goals try omega

set_option maxHeartbeats 400000 in
theorem has_any (s : ByteArray) (hs : s.size ≤ 2000) (i : Int) (w : World) :
    Calls Try.prog 10 #[.string s, .int .i64 i] w fun e w' => e = .returned (.bool (hasV s i)) ∧ w = w' := by
  have hE := exists_any s hs i
  rcases bit_cases s i with ⟨k, rfl, hk⟩ | h
  · rw [isBit_yes hk] at hE
    rw [hasV_yes hk]
    have HE := Lib.hid hE
    have hq : k / 8 < s.size := by omega
    obtain ⟨x, hx⟩ : ∃ x, s[k / 8].toNat = x := ⟨_, rfl⟩
    have hx2 : x < 256 := by rw [← hx]; exact UInt8.toNat_lt _
    have ht := bit_test8 x (k % 8) hx2
    have hb : bitAt s k = x.testBit (k % 8) := by unfold bitAt; rw [byteAt_eq s _ hq, hx]
    rw [← hb] at ht
    have hk2 : k ≤ 16000 := by omega
    clear hE hk hb
    go_enter Try.func10, Try.ntmps10
    go_wp2_with fail
    refine (HE.out _).mono ?_; rintro e w' ⟨rfl, rfl⟩
    go_wp2
    go_ret
    exact ⟨rfl, rfl⟩
  · rw [isBit_no h] at hE
    rw [hasV_no h]
    have HE := Lib.hid hE
    clear hE h
    go_enter Try.func10, Try.ntmps10
    go_wp2_with fail
    refine (HE.out _).mono ?_; rintro e w' ⟨rfl, rfl⟩
    go_wp2
    go_ret
    exact ⟨rfl, rfl⟩

/-- how many the first n are -/
def firstV (s : ByteArray) (n : Int) : Nat := (min (max n 0) (8 * (s.size : Int))).toNat
theorem firstV_le (s : ByteArray) (n : Int) : firstV s n ≤ 8 * s.size := by unfold firstV; omega

set_option maxHeartbeats 400000 in
theorem first_any (s : ByteArray) (hs : s.size ≤ 2000) (n : Int) (w : World) :
    Calls Try.prog 28 #[.string s, .int .i64 n] w fun e w' => e = .returned (.int .i64 (firstV s n : Nat)) ∧ w = w' := by
  go_enter Try.func28, Try.ntmps28
  go_wp2
  all_goals go_ret
  all_goals refine ⟨ret_int ?_, rfl⟩
  all_goals unfold firstV
  all_goals omega

set_option maxHeartbeats 400000 in
theorem rfirst_any (s : ByteArray) (hs : s.size ≤ 2000) (n : Int) (hn : n ≤ 9223372036854775807) (w : World) :
    Calls Try.prog 27 #[.string s, .int .i64 n] w fun e w' => e = .returned (.int .i64 (firstV s n : Nat)) ∧ w = w' := by
  by_cases h : n < 0
  · have e : firstV s n = 0 := by unfold firstV; omega
    rw [e]
    clear e
    go_enter Try.func27, Try.ntmps27
    go_wp2
    go_ret
    exact ⟨rfl, rfl⟩
  · obtain ⟨m, rfl⟩ := Int.eq_ofNat_of_zero_le (show 0 ≤ n by omega)
    by_cases h2 : s.size ≤ m / 8
    · have e : firstV s m = 8 * s.size := by unfold firstV; omega
      rw [e]
      clear e h
      go_enter Try.func27, Try.ntmps27
      go_wp2
      all_goals go_ret
      all_goals refine ⟨ret_int ?_, rfl⟩
      all_goals omega
    · have e : firstV s m = m := by unfold firstV; omega
      rw [e]
      clear e h
      go_enter Try.func27, Try.ntmps27
      go_wp2
      all_goals go_ret
      all_goals refine ⟨ret_int ?_, rfl⟩
      all_goals omega
end Go.Proofs.Ytddbceecamenhaa
