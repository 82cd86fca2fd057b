/- The contracts of package sums, and of the document's answer. -/
import Derived.Test.YtelnmkgilnkliaaDoorRows
import Derived.Test.YtelnmkgilnkliaaDoorSMath
import Derived.WalkKit
import Derived.WalkSpells
import Derived.WalkLawsBesides
import Derived.Lib.Hide
namespace Go.Proofs.YtelnmkgilnkliaaDoor
open Go.RowKit

theorem ret_u32 {a b : Int} (h : a = b) : Ending.returned (.int .u32 a) = .returned (.int .u32 b) := by rw [h]
theorem val_u32 {a b : Int} (h : a = b) : Value.int .u32 a = .int .u32 b := by rw [h]

theorem ofInt32 (a : Nat) (ha : a < 4294967296) : (BitVec.ofInt 32 (a : Int)).toNat = a := by
  rw [BitVec.ofInt_natCast, BitVec.toNat_ofNat]; exact Nat.mod_eq_of_lt (by omega)
theorem wrap32 (a : Nat) (ha : a < 4294967296) : IntKind.u32.wrap (a : Int) = a := by
  simp [IntKind.wrap, IntKind.bits, IntKind.signed]; omega
theorem xor32 (a b : Nat) (ha : a < 4294967296) (hb : b < 4294967296) : bits .xor .u32 (a : Int) (b : Int) = ((a ^^^ b : Nat) : Int) := by
  show IntKind.u32.wrap ((BitVec.ofInt 32 (a : Int) ^^^ BitVec.ofInt 32 (b : Int)).toNat : Int) = _
  rw [BitVec.toNat_xor, ofInt32 a ha, ofInt32 b hb]
  exact wrap32 _ (Nat.xor_lt_two_pow (n := 32) ha hb)
theorem and32 (a b : Nat) (ha : a < 4294967296) (hb : b < 4294967296) : bits .and .u32 (a : Int) (b : Int) = ((a &&& b : Nat) : Int) := by
  show IntKind.u32.wrap ((BitVec.ofInt 32 (a : Int) &&& BitVec.ofInt 32 (b : Int)).toNat : Int) = _
  rw [BitVec.toNat_and, ofInt32 a ha, ofInt32 b hb]
  exact wrap32 _ (Nat.and_lt_two_pow (n := 32) _ hb)
theorem and1_32 (a : Nat) (ha : a < 4294967296) : bits .and .u32 (a : Int) 1 = ((a % 2 : Nat) : Int) := by
  have := and32 a 1 ha (by decide)
  rw [Nat.and_one_is_mod] at this
  exact this
theorem and15_32 (a : Nat) (ha : a < 4294967296) : bits .and .u32 (a : Int) 15 = ((a % 16 : Nat) : Int) := by
  have := and32 a 15 ha (by decide)
  rw [show 15 = 2 ^ 4 - 1 from rfl, Nat.and_two_pow_sub_one_eq_mod] at this
  exact this
theorem bit_test (a : Nat) (ha : a < 4294967296) (d : Bool) (h : decide (a % 2 = 1) = d) : (bits .and .u32 (a : Int) 1 == 1) = d := by
  rw [and1_32 a ha, ← h, Bool.eq_iff_iff]
  simp only [beq_iff_eq, decide_eq_true_eq]; omega

set_option maxHeartbeats 400000 in
theorem shift_any (r : Nat) (hr : r < 4294967296) (w : World) :
    Calls Tryd.prog 20 #[.int .u32 r] w fun e w' => e = .returned (.int .u32 (shf r : Nat)) ∧ w = w' := by
  have hx := xor32 (r / 2) 3988292384 (by omega) (by decide)
  have HX := Lib.hid hx
  clear hx
  by_cases h : r % 2 = 1
  · have ht := bit_test r hr true (by simp [h])
    have e : shf r = r / 2 ^^^ 3988292384 := by unfold shf; rw [h]
    rw [e]
    clear e h
    go_enter Tryd.func20, Tryd.ntmps20
    go_wp2
    go_ret
    exact ⟨ret_u32 HX.out, rfl⟩
  · have ht := bit_test r hr false (by simp [h])
    have h0 : r % 2 = 0 := by omega
    have e : shf r = r / 2 := by unfold shf; rw [h0]; simp
    rw [e]
    clear e h h0
    go_enter Tryd.func20, Tryd.ntmps20
    go_wp2
    go_ret
    exact ⟨rfl, rfl⟩

theorem bit_at (a k : Nat) (ha : a < 4294967296) (d : Bool) (h : decide (a / 2 ^ k % 2 = 1) = d) : (bits .and .u32 ((a : Int) / 2 ^ k) 1 == 1) = d := by
  have e : ((a : Int) / 2 ^ k) = ((a / 2 ^ k : Nat) : Int) := by rw [Int.natCast_ediv, Int.natCast_pow]; rfl
  rw [e]
  exact bit_test _ (Nat.lt_of_le_of_lt (Nat.div_le_self _ _) ha) d h

set_option maxHeartbeats 400000 in
theorem times_any (a b : Nat) (ha : a < 4294967296) (hb : b < 4294967296) (w : World) :
    Calls Tryd.prog 19 #[.int .u32 a, .int .u32 b] w fun e w' => e = .returned (.int .u32 (mulK 32 a b : Nat)) ∧ w = w' := by
  go_enter Tryd.func19, Tryd.ntmps19
  go_wp2
  go_loop [1, 5, 7] (fun c p i => ∃ k : Nat, k ≤ 32 ∧ i = .int .i64 k ∧ c = .int .u32 (shN k b : Nat) ∧ p = .int .u32 (mulK k a b : Nat)) (fun _ _ i => 32 - (intOf i).toNat)
  case atStart => exact ⟨0, by decide, rfl, rfl, rfl⟩
  case round =>
    obtain ⟨k, hk, rfl, rfl, rfl⟩ := hrel
    have hs := shN_lt k b hb
    have hm := mulK_lt k a b hb
    by_cases hlt : k < 32
    · have S := Lib.hid (shift_any (shN k b) hs)
      have HS := Lib.hid (shN_succ k b)
      by_cases hbit : a / 2 ^ (31 - k) % 2 = 1
      · have ht := bit_at a (31 - k) ha true (by simp [hbit])
        have hx := xor32 (mulK k a b) (shN k b) hm hs
        have HX := Lib.hid hx
        have HM : Hid (mulK (k + 1) a b = mulK k a b ^^^ shN k b) := by show _ = _; rw [mulK, hbit, Nat.one_mul]
        clear hbit hx
        go_wp2_with fail
        refine (S.out _).mono ?_; rintro e w' ⟨rfl, rfl⟩
        go_wp2
        exact ⟨⟨k + 1, by omega, by go_num, by rw [HS.out], by rw [HM.out, HX.out]⟩, by simp [intOf]; omega⟩
      · have ht := bit_at a (31 - k) ha false (by simp [hbit])
        have HM : Hid (mulK (k + 1) a b = mulK k a b) := by
          have h0 : a / 2 ^ (31 - k) % 2 = 0 := by omega
          show _ = _; rw [mulK, h0, Nat.zero_mul, Nat.xor_zero]
        clear hbit
        go_wp2_with fail
        refine (S.out _).mono ?_; rintro e w' ⟨rfl, rfl⟩
        go_wp2
        exact ⟨⟨k + 1, by omega, by go_num, by rw [HS.out], by rw [HM.out]⟩, by simp [intOf]; omega⟩
    · obtain rfl : k = 32 := by omega
      go_wp2
      go_ret
      exact ⟨rfl, rfl⟩

theorem odd_test (m : Nat) (hm : m ≤ 1073741824) (d : Bool) (h : decide (m % 2 = 1) = d) : (bits .and .i64 (m : Int) 1 == 1) = d := by
  have h1 : (BitVec.ofInt 64 (m : Int)).toNat = m := by
    rw [BitVec.ofInt_natCast, BitVec.toNat_ofNat]; exact Nat.mod_eq_of_lt (by omega)
  have h2 : bits .and .i64 (m : Int) 1 = ((m % 2 : Nat) : Int) := by
    show IntKind.i64.wrap ((BitVec.ofInt 64 (m : Int) &&& BitVec.ofInt 64 1).toNat : Int) = _
    rw [BitVec.toNat_and, h1, show (BitVec.ofInt 64 1).toNat = 1 by decide, Nat.and_one_is_mod]
    simp [IntKind.wrap, IntKind.bits, IntKind.signed]; omega
  rw [h2, ← h, Bool.eq_iff_iff]
  simp only [beq_iff_eq, decide_eq_true_eq]; omega

theorem zeros_odd (r M m : Nat) (h : m % 2 = 1) : shN ((M + M) * (m / 2)) (shN M r) = shN (M * m) r := by
  rw [← shN_add]
  congr 1
  have e : m = 2 * (m / 2) + 1 := by omega
  conv => rhs; rw [e]
  rw [Nat.mul_add, Nat.mul_one, Nat.add_mul, ← Nat.mul_assoc, Nat.mul_comm M 2, Nat.two_mul, Nat.add_mul, Nat.add_comm]
theorem zeros_even (r M m : Nat) (h : m % 2 = 0) : shN ((M + M) * (m / 2)) r = shN (M * m) r := by
  congr 1
  have e : m = 2 * (m / 2) := by omega
  conv => rhs; rw [e]
  rw [← Nat.mul_assoc, Nat.mul_comm M 2, Nat.two_mul]

set_option maxHeartbeats 400000 in
theorem zeros_any (r n : Nat) (hr : r < 4294967296) (hn : n ≤ 1073741824) (w : World) :
    Calls Tryd.prog 18 #[.int .u32 r, .int .i64 n] w fun e w' => e = .returned (.int .u32 (shN (8 * n) r : Nat)) ∧ w = w' := by
  have T := Lib.hid times_any
  go_enter Tryd.func18, Tryd.ntmps18
  go_wp2
  go_loop [0, 1, 5] (fun c i f => ∃ m M R : Nat, m ≤ n ∧ R < 4294967296 ∧ i = .int .i64 m ∧ c = .int .u32 R ∧ f = .int .u32 (shN M 2147483648 : Nat) ∧ Hid (shN (M * m) R = shN (8 * n) r)) (fun _ i _ => (intOf i).toNat)
  case atStart => exact ⟨n, 8, r, Nat.le_refl _, hr, rfl, rfl, rfl, Lib.hid rfl⟩
  case round =>
    obtain ⟨m, M, R, hm, hR, rfl, rfl, rfl, HR⟩ := hrel
    have hf := shN_lt M 2147483648 (by decide)
    have hff := Lib.hid (mul_pow (shN M 2147483648) M hf)
    by_cases hpos : 0 < m
    · by_cases hodd : m % 2 = 1
      · have ht := odd_test m (by omega) true (by simp [hodd])
        have hz := Lib.hid (zeros_odd R M m hodd)
        have hRf := Lib.hid (mul_pow R M hR)
        have T1 := Lib.hid (T.out R (shN M 2147483648) hR hf)
        have T2 := Lib.hid (T.out (shN M 2147483648) (shN M 2147483648) hf hf)
        clear T hodd
        go_wp2_with fail
        refine (T1.out _).mono ?_; rintro e w' ⟨rfl, rfl⟩
        go_wp2_with fail
        refine (T2.out _).mono ?_; rintro e w' ⟨rfl, rfl⟩
        go_wp2
        exact ⟨⟨m / 2, M + M, shN M R, by omega, shN_lt _ _ hR, by go_num, by rw [hRf.out], by rw [hff.out, ← shN_add], Lib.hid (hz.out.trans HR.out)⟩, by simp [intOf]; omega⟩
      · have ht := odd_test m (by omega) false (by simp [hodd])
        have hz := Lib.hid (zeros_even R M m (by omega))
        have T2 := Lib.hid (T.out (shN M 2147483648) (shN M 2147483648) hf hf)
        clear T hodd
        go_wp2_with fail
        refine (T2.out _).mono ?_; rintro e w' ⟨rfl, rfl⟩
        go_wp2
        exact ⟨⟨m / 2, M + M, R, by omega, hR, by go_num, rfl, by rw [hff.out, ← shN_add], Lib.hid (hz.out.trans HR.out)⟩, by simp [intOf]; omega⟩
    · obtain rfl : m = 0 := by omega
      clear T
      go_wp2
      go_ret
      exact ⟨ret_u32 (by rw [← HR.out]; rfl), rfl⟩
end Go.Proofs.YtelnmkgilnkliaaDoor
