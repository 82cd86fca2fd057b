/- The contracts of the bit counts, of bits.next and bits.Count, and of the document's Has and Count. -/
import Derived.Test.YtddbceecamenhaaBTabs
namespace Go.Proofs.Ytddbceecamenhaa
set_option linter.unusedVariables false
open Go.RowKit

/-- the bits of a byte, turned where zeros are looked for -/
def flip (b : Bool) : Nat := if b then 0 else 255
theorem flip_lt (b : Bool) : flip b < 256 := by cases b <;> decide
theorem flip_bit (x : Nat) (b : Bool) (j : Nat) (hj : j < 8) : (x ^^^ flip b).testBit j = (x.testBit j == b) := by
  rw [Nat.testBit_xor]
  cases b
  · rw [show flip false = 2 ^ 8 - 1 from rfl, Nat.testBit_two_pow_sub_one, decide_eq_true hj]; cases x.testBit j <;> rfl
  · rw [show flip true = 0 from rfl, Nat.zero_testBit]; cases x.testBit j <;> rfl

/-- the search within a byte: nothing there -/
theorem rest_zero (s : ByteArray) (b : Bool) (i : Nat) (h : (byteAt s (i / 8) ^^^ flip b) / 2 ^ (i % 8) = 0) (m : Nat) (h1 : i ≤ m) (h2 : m < i / 8 * 8 + 8) : bitAt s m = !b := by
  have e : m / 8 = i / 8 := by omega
  have hb := congrArg (fun x => Nat.testBit x (m - i)) h
  simp only [Nat.testBit_div_two_pow, Nat.zero_testBit] at hb
  rw [show m - i + i % 8 = m % 8 by omega, flip_bit _ _ _ (by omega)] at hb
  unfold bitAt
  rw [e]
  revert hb
  cases (byteAt s (i / 8)).testBit (m % 8) <;> cases b <;> simp
/-- the search within a byte: there it is -/
theorem rest_some (s : ByteArray) (b : Bool) (i : Nat) (h : (byteAt s (i / 8) ^^^ flip b) / 2 ^ (i % 8) ≠ 0) :
    bitAt s (i + tz8 ((byteAt s (i / 8) ^^^ flip b) / 2 ^ (i % 8))) = b ∧ i + tz8 ((byteAt s (i / 8) ^^^ flip b) / 2 ^ (i % 8)) < i / 8 * 8 + 8 ∧
      ∀ m, i ≤ m → m < i + tz8 ((byteAt s (i / 8) ^^^ flip b) / 2 ^ (i % 8)) → bitAt s m = !b := by
  have hlt : byteAt s (i / 8) ^^^ flip b < 2 ^ 8 := Nat.xor_lt_two_pow (n := 8) (byteAt_lt s _) (flip_lt b)
  obtain ⟨t, ht⟩ : ∃ t, t = tz8 ((byteAt s (i / 8) ^^^ flip b) / 2 ^ (i % 8)) := ⟨_, rfl⟩
  obtain ⟨h1, h2, h3, h4⟩ := nxt_fact (fun j => ((byteAt s (i / 8) ^^^ flip b) / 2 ^ (i % 8)).testBit j) true 8 0
  rw [show nxt (fun j => ((byteAt s (i / 8) ^^^ flip b) / 2 ^ (i % 8)).testBit j) true 0 8 = t from ht.symm] at h1 h2 h3 h4
  rw [← ht]
  have hbit : ∀ j, ((byteAt s (i / 8) ^^^ flip b) / 2 ^ (i % 8)).testBit j = (byteAt s (i / 8) ^^^ flip b).testBit (j + i % 8) := fun j => by rw [Nat.testBit_div_two_pow]
  have hout : ∀ j, 8 ≤ j + i % 8 → ((byteAt s (i / 8) ^^^ flip b) / 2 ^ (i % 8)).testBit j = false := fun j hj => by
    rw [hbit]; exact Nat.testBit_lt_two_pow (Nat.lt_of_lt_of_le hlt (Nat.pow_le_pow_right (by decide) hj))
  have ht8 : t + i % 8 < 8 := by
    apply Decidable.byContradiction
    intro hge
    apply h
    apply Nat.eq_of_testBit_eq
    intro j
    rw [Nat.zero_testBit]
    by_cases hj : j < t
    · simpa using h3 j (Nat.zero_le _) hj
    · exact hout j (by omega)
  have h5 : ((byteAt s (i / 8) ^^^ flip b) / 2 ^ (i % 8)).testBit t = true := by
    rcases h4 with h4 | h4
    · omega
    · exact h4
  refine ⟨?_, by omega, fun m hm1 hm2 => ?_⟩
  · rw [hbit, flip_bit _ _ _ ht8] at h5
    unfold bitAt
    rw [show (i + t) / 8 = i / 8 by omega, show (i + t) % 8 = t + i % 8 by omega]
    simpa using h5
  · have h6 := h3 (m - i) (Nat.zero_le _) (by omega)
    simp only [Bool.not_true] at h6
    rw [hbit, flip_bit _ _ _ (by omega)] at h6
    unfold bitAt
    rw [show m / 8 = i / 8 by omega, show m % 8 = m - i + i % 8 by omega]
    revert h6
    cases (byteAt s (i / 8)).testBit (m - i + i % 8) <;> cases b <;> simp

theorem rest_test (x : Nat) (d : Bool) (h : decide (x = 0) = d) : ((x : Int) != 0) = !d := by
  rw [← h, Bool.eq_iff_iff]; simp

/-- where the search ends -/
theorem next_end (s : ByteArray) (b : Bool) (i n k j : Nat) (h0 : i ≤ k) (h1 : ∀ m, i ≤ m → m < k → bitAt s m = !b) (h2 : ∀ m, k ≤ m → m < j → bitAt s m = !b) (h3 : j = n ∨ (j < n ∧ bitAt s j = b)) (h4 : k ≤ j) (hi : i ≤ n) :
    nxt (bitAt s) b i (n - i) = j := by
  refine nxt_is _ _ _ _ _ (by omega) (by omega) (fun m a c => ?_) (h3.elim (fun h => .inl (by omega)) (fun h => .inr h.2))
  by_cases hm : m < k
  · exact h1 m a hm
  · exact h2 m (by omega) c

/-- where the search ends within a byte -/
theorem next_here (s : ByteArray) (b : Bool) (i n k t : Nat) (hi : i ≤ n) (h0 : i ≤ k) (hk : k < n) (h1 : ∀ m, i ≤ m → m < k → m < n → bitAt s m = !b) (h2 : bitAt s (k + t) = b) (h3 : ∀ m, k ≤ m → m < k + t → bitAt s m = !b) :
    nxt (bitAt s) b i (n - i) = min (k + t) n := by
  by_cases hm : k + t < n
  · rw [Nat.min_eq_left (by omega)]
    exact next_end s b i n k (k + t) h0 (fun m a c => h1 m a c (by omega)) h3 (.inr ⟨hm, h2⟩) (by omega) hi
  · rw [Nat.min_eq_right (by omega)]
    exact next_end s b i n k n h0 (fun m a c => h1 m a c (by omega)) (fun m a c => h3 m a (by omega)) (.inl rfl) (by omega) hi
theorem next_not (s : ByteArray) (b : Bool) (i n k : Nat) (hi : i ≤ n) (h0 : i ≤ k) (hk : n ≤ k) (h1 : ∀ m, i ≤ m → m < k → m < n → bitAt s m = !b) :
    nxt (bitAt s) b i (n - i) = n :=
  next_end s b i n n n hi (fun m a c => h1 m a (by omega) c) (fun m a c => by omega) (.inl rfl) (Nat.le_refl _) hi

set_option maxHeartbeats 1000000 in
theorem next_false (s : ByteArray) (hs : s.size ≤ 2000) (i n : Nat) (hi : i ≤ n) (hn : n ≤ 8 * s.size) (w : World) :
    Calls Try.prog 31 #[.string s, .int .i64 i, .int .i64 n, .bool false] w fun e w' => e = .returned (.int .i64 (nxt (bitAt s) false i (n - i) : Nat)) ∧ w = w' := by
  have HT := Lib.hid tz_any
  go_enter Try.func31, Try.ntmps31
  go_wp2
  go_loop [1] (fun p => ∃ k : Nat, p = .int .i64 k ∧ i ≤ k ∧ k ≤ n + 8 ∧ Hid (∀ m, i ≤ m → m < k → m < n → bitAt s m = !false)) (fun p => n + 8 - (intOf p).toNat)
  case atStart => exact ⟨i, rfl, Nat.le_refl _, by omega, Lib.hid fun m h1 h2 => by omega⟩
  case round =>
    obtain ⟨k, rfl, hk, hk2, HK⟩ := hrel
    by_cases hlt : k < n
    · have hq : k / 8 < s.size := by omega
      obtain ⟨x, hx⟩ : ∃ x, s[k / 8].toNat = x := ⟨_, rfl⟩
      have hx2 : x < 256 := by rw [← hx]; exact UInt8.toNat_lt _
      have HX := Lib.hid ((byteAt_eq s _ hq).trans hx)
      obtain ⟨y, hy⟩ : ∃ y, x ^^^ flip false = y := ⟨_, rfl⟩
      have f1 : bits .xor .u8 (x : Int) 255 = (y : Int) := by rw [← hy, ← xor8 x (flip false) hx2 (by decide)]; rfl
      obtain ⟨z, hz⟩ : ∃ z, y / 2 ^ (k % 8) = z := ⟨_, rfl⟩
      have f2 : ((y : Int) / 2 ^ (k % 8)) = (z : Int) := by rw [div_pow, hz]
      have hy2 : y < 256 := by rw [← hy]; exact Nat.xor_lt_two_pow (n := 8) hx2 (by decide)
      have hz2 : z < 256 := by rw [← hz]; exact Nat.lt_of_le_of_lt (Nat.div_le_self _ _) hy2
      have HE : Hid ((byteAt s (k / 8) ^^^ flip false) / 2 ^ (k % 8) = z) := by show _ = _; rw [HX.out, hy, hz]
      clear hy hz
      by_cases hz0 : z = 0
      · have ht : ((z : Int) != 0) = false := by rw [hz0]; rfl
        have HZ := Lib.hid (rest_zero s false k (HE.out.trans hz0))
        clear hz0 HT
        go_wp2
        exact ⟨⟨k / 8 * 8 + 8, by go_num, by omega, by omega, Lib.hid fun m h1 h2 h3 => by
          by_cases hm : m < k
          · exact HK.out m h1 hm h3
          · exact HZ.out m (by omega) h2⟩, by simp [intOf]; omega⟩
      · have ht : ((z : Int) != 0) = true := by rw [bne_iff_ne]; omega
        have hr := rest_some s false k (by rw [HE.out]; exact hz0)
        rw [HE.out] at hr
        have T := Lib.hid (HT.out z hz2)
        obtain ⟨t, et⟩ : ∃ t, tz8 z = t := ⟨_, rfl⟩
        rw [et] at T hr
        obtain ⟨r1, r2, r3⟩ := hr
        have ht8 : t ≤ 8 := by omega
        have HR := Lib.hid (next_here s false i n k t hi hk hlt HK.out r1 r3)
        clear hz0 HT et r1 r2 r3
        go_wp2_with fail
        refine (T.out _).mono ?_; rintro e w' ⟨rfl, rfl⟩
        go_wp2
        all_goals go_ret
        all_goals refine ⟨ret_int ?_, rfl⟩
        all_goals rw [HR.out]
        all_goals omega
    · have HR := Lib.hid (next_not s false i n k hi hk (by omega) HK.out)
      clear HT
      go_wp2
      go_ret
      exact ⟨ret_int (by rw [HR.out]), rfl⟩

set_option maxHeartbeats 1000000 in
theorem next_true (s : ByteArray) (hs : s.size ≤ 2000) (i n : Nat) (hi : i ≤ n) (hn : n ≤ 8 * s.size) (w : World) :
    Calls Try.prog 31 #[.string s, .int .i64 i, .int .i64 n, .bool true] w fun e w' => e = .returned (.int .i64 (nxt (bitAt s) true i (n - i) : Nat)) ∧ w = w' := by
  have HT := Lib.hid tz_any
  go_enter Try.func31, Try.ntmps31
  go_wp2
  go_loop [1] (fun p => ∃ k : Nat, p = .int .i64 k ∧ i ≤ k ∧ k ≤ n + 8 ∧ Hid (∀ m, i ≤ m → m < k → m < n → bitAt s m = !true)) (fun p => n + 8 - (intOf p).toNat)
  case atStart => exact ⟨i, rfl, Nat.le_refl _, by omega, Lib.hid fun m h1 h2 => by omega⟩
  case round =>
    obtain ⟨k, rfl, hk, hk2, HK⟩ := hrel
    by_cases hlt : k < n
    · have hq : k / 8 < s.size := by omega
      obtain ⟨x, hx⟩ : ∃ x, s[k / 8].toNat = x := ⟨_, rfl⟩
      have hx2 : x < 256 := by rw [← hx]; exact UInt8.toNat_lt _
      have HX := Lib.hid ((byteAt_eq s _ hq).trans hx)
      obtain ⟨y, hy⟩ : ∃ y, x ^^^ flip true = y := ⟨_, rfl⟩
      have f1 : bits .xor .u8 (x : Int) 0 = (y : Int) := by rw [← hy, ← xor8 x (flip true) hx2 (by decide)]; rfl
      obtain ⟨z, hz⟩ : ∃ z, y / 2 ^ (k % 8) = z := ⟨_, rfl⟩
      have f2 : ((y : Int) / 2 ^ (k % 8)) = (z : Int) := by rw [div_pow, hz]
      have hy2 : y < 256 := by rw [← hy]; exact Nat.xor_lt_two_pow (n := 8) hx2 (by decide)
      have hz2 : z < 256 := by rw [← hz]; exact Nat.lt_of_le_of_lt (Nat.div_le_self _ _) hy2
      have HE : Hid ((byteAt s (k / 8) ^^^ flip true) / 2 ^ (k % 8) = z) := by show _ = _; rw [HX.out, hy, hz]
      clear hy hz
      by_cases hz0 : z = 0
      · have ht : ((z : Int) != 0) = false := by rw [hz0]; rfl
        have HZ := Lib.hid (rest_zero s true k (HE.out.trans hz0))
        clear hz0 HT
        go_wp2
        exact ⟨⟨k / 8 * 8 + 8, by go_num, by omega, by omega, Lib.hid fun m h1 h2 h3 => by
          by_cases hm : m < k
          · exact HK.out m h1 hm h3
          · exact HZ.out m (by omega) h2⟩, by simp [intOf]; omega⟩
      · have ht : ((z : Int) != 0) = true := by rw [bne_iff_ne]; omega
        have hr := rest_some s true k (by rw [HE.out]; exact hz0)
        rw [HE.out] at hr
        have T := Lib.hid (HT.out z hz2)
        obtain ⟨t, et⟩ : ∃ t, tz8 z = t := ⟨_, rfl⟩
        rw [et] at T hr
        obtain ⟨r1, r2, r3⟩ := hr
        have ht8 : t ≤ 8 := by omega
        have HR := Lib.hid (next_here s true i n k t hi hk hlt HK.out r1 r3)
        clear hz0 HT et r1 r2 r3
        go_wp2_with fail
        refine (T.out _).mono ?_; rintro e w' ⟨rfl, rfl⟩
        go_wp2
        all_goals go_ret
        all_goals refine ⟨ret_int ?_, rfl⟩
        all_goals rw [HR.out]
        all_goals omega
    · have HR := Lib.hid (next_not s true i n k hi hk (by omega) HK.out)
      clear HT
      go_wp2
      go_ret
      exact ⟨ret_int (by rw [HR.out]), rfl⟩

set_option maxHeartbeats 1000000 in
theorem count_any (s : ByteArray) (hs : s.size ≤ 2000) (n : Int) (w : World) :
    Calls Try.prog 17 #[.string s, .int .i64 n] w fun e w' => e = .returned (.int .i64 (cnt (bitAt s) (firstV s n) : Nat)) ∧ w = w' := by
  have F := Lib.hid (first_any s hs n)
  have OC := Lib.hid oc_any
  have hN := firstV_le s n
  generalize firstV s n = N at *
  go_enter Try.func17, Try.ntmps17
  go_wp2_with fail
  refine (F.out _).mono ?_; rintro e w' ⟨rfl, rfl⟩
  go_wp2
  go_loop [5, 12] (fun c p => ∃ k q : Nat, p = .int .i64 k ∧ k ≤ N / 8 ∧ c = .int .i64 q ∧ q ≤ 8 * k ∧ Hid (cnt (bitAt s) (8 * k) = q)) (fun _ p => N / 8 - (intOf p).toNat)
  case atStart => exact ⟨0, 0, rfl, Nat.zero_le _, rfl, Nat.le_refl _, Lib.hid rfl⟩
  case round =>
    obtain ⟨k, q, rfl, hk, rfl, hq8, HQ⟩ := hrel
    by_cases hlt : k < N / 8
    · have hq : k < s.size := by omega
      obtain ⟨x, hx⟩ : ∃ x, s[k].toNat = x := ⟨_, rfl⟩
      have hx2 : x < 256 := by rw [← hx]; exact UInt8.toNat_lt _
      have O := Lib.hid (OC.out x hx2)
      obtain ⟨o, ho⟩ : ∃ o, oc8 x = o := ⟨_, rfl⟩
      have ho8 : o ≤ 8 := by rw [← ho]; exact cnt_le _ _
      have HN : Hid (cnt (bitAt s) (8 * (k + 1)) = q + o) := by
        show _ = _
        rw [show 8 * (k + 1) = 8 * k + 8 by omega, cnt_add, HQ.out, ← ho]
        congr 1
        refine cnt_congr fun j hj => ?_
        unfold bitAt
        rw [show (8 * k + j) / 8 = k by omega, show (8 * k + j) % 8 = j by omega, byteAt_eq s k hq, hx]
      rw [ho] at O
      clear OC ho
      go_wp2_with fail
      refine (O.out _).mono ?_; rintro e w' ⟨rfl, rfl⟩
      go_wp2
      exact ⟨⟨k + 1, q + o, by go_num, by omega, by go_num, by omega, HN⟩, by simp [intOf]; omega⟩
    · obtain rfl : k = N / 8 := by omega
      by_cases h8 : 0 < N % 8
      · have hq : N / 8 < s.size := by omega
        obtain ⟨x, hx⟩ : ∃ x, s[N / 8].toNat = x := ⟨_, rfl⟩
        have hx2 : x < 256 := by rw [← hx]; exact UInt8.toNat_lt _
        obtain ⟨y, hy⟩ : ∃ y, x * 2 ^ (8 - N % 8) % 256 = y := ⟨_, rfl⟩
        have hy2 : y < 256 := by omega
        have O := Lib.hid (OC.out y hy2)
        obtain ⟨o, ho⟩ : ∃ o, oc8 y = o := ⟨_, rfl⟩
        have ho8 : o ≤ 8 := by rw [← ho]; exact cnt_le _ _
        have HN : Hid (cnt (bitAt s) N = q + o) := by
          show _ = _
          rw [← ho, ← hy, oc_low x hx2 _ (by omega)]
          have e : cnt (bitAt s) N = cnt (bitAt s) (8 * (N / 8) + N % 8) := by congr 1; omega
          rw [e, cnt_add, HQ.out]
          congr 1
          refine cnt_congr fun j hj => ?_
          unfold bitAt
          rw [show (8 * (N / 8) + j) / 8 = N / 8 by omega, show (8 * (N / 8) + j) % 8 = j by omega, byteAt_eq s _ hq, hx]
        rw [ho] at O
        have fy : ((x : Int) * 2 ^ (8 - N % 8) % 256) = (y : Int) := by
          rw [← hy, Int.natCast_emod, Int.natCast_mul, Int.natCast_pow]; rfl
        clear OC ho hy
        go_wp2_with fail
        refine (O.out _).mono ?_; rintro e w' ⟨rfl, rfl⟩
        go_wp2
        go_ret
        exact ⟨ret_int (by rw [HN.out]; omega), rfl⟩
      · have HN : Hid (cnt (bitAt s) N = q) := by
          show _ = _
          rw [show N = 8 * (N / 8) by omega]; exact HQ.out
        clear OC
        go_wp2
        go_ret
        exact ⟨ret_int (by rw [HN.out]), rfl⟩
end Go.Proofs.Ytddbceecamenhaa
