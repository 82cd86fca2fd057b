/- The walk of WordsHalves. -/
import Derived.Test.YtefgjapclkdkoaaWLaws
import Derived.Test.YtefgjapclkdkoaaWFacts
namespace Go.Proofs.Ytefgjapclkdkoaa
open Go.RowKit

theorem halves_facts (s : ByteArray) (a : Int) (k : Nat) (hk : k = 1 ∨ k = 2 ∨ k = 4) (h : fieldOk s.size a (2 * k) = true) :
    fieldOk s.size a k = true ∧ fieldOk s.size (a + k) k = true ∧ getV s a (2 * k) = getV s a k + 256 ^ k * getV s (a + k) k ∧ getV s a k < 256 ^ k ∧ getV s (a + k) k < 256 ^ k ∧ 0 ≤ a ∧ a + 2 * k ≤ s.size := by
  obtain ⟨b, y, rfl, hy, hy2, hb⟩ := fieldOk_yes h
  have e : y = k + k := by omega
  subst e
  have h1 : fieldOk s.size b k = true := by unfold fieldOk; simp; omega
  have h2 : fieldOk s.size (b + k) k = true := by unfold fieldOk; simp; omega
  have c : (b : Int) + k = ((b + k : Nat) : Int) := by simp
  have h2' : fieldOk s.size ((b + k : Nat) : Int) k = true := by rw [← c]; exact h2
  have h0' : fieldOk s.size b ((k + k : Nat) : Int) = true := by rw [← hy]; exact h
  rw [hy, c, getV_yes h1, getV_yes h2', getV_yes h0', field_halves, leN_append, fieldAt_length s b k (by omega)]
  have l1 := leN_lt (fieldAt s b k)
  have l2 := leN_lt (fieldAt s (b + k) k)
  rw [fieldAt_length s b k (by omega)] at l1
  rw [fieldAt_length s (b + k) k (by omega)] at l2
  exact ⟨h1, h2', rfl, l1, l2, by omega, by omega⟩

set_option maxHeartbeats 400000 in
theorem halves1 (s : ByteArray) (hs : s.size ≤ maxLen) (a : Int) (x : Nat) (hx : x < 256) (hk : (x : Int) % 3 = 0) (w : World) :
    Calls Try.prog 7 #[.string s, .int .i64 a, .int .u8 x] w fun e w' => e = .returned (.bool true) ∧ Below w.heap.size w w' := by
  have AL := Lib.hid alive_any
  have g := get_any s hs a 2
  by_cases h : fieldOk s.size a 2 = true
  · obtain ⟨f1, f2, f3, l1, l2, a0, a1⟩ := halves_facts s a 1 (by decide) h
    have ga := get_any s hs a 1
    have gb := get_any s hs (a + 1) 1
    rw [h] at g
    rw [show ((1 : Nat) : Int) = 1 from rfl] at f1 f2 f3 a1
    have a2 : a + 1 ≤ 9223372036854775807 := by unfold maxLen at hs; omega
    rw [show (2 * (1 : Int)) = 2 from rfl] at f3 a1
    rw [f1] at ga
    rw [f2] at gb
    generalize getV s a 1 = p at *
    generalize getV s (a + 1) 1 = q at *
    generalize getV s a 2 = n at *
    have e256 : (256 : Nat) ^ 1 = 256 := by decide
    have l1' : p ≤ 255 := by omega
    have l2' : q ≤ 255 := by omega
    clear e256
    have f3' : n = p + 256 * q := f3
    have F := Lib.hid f3'
    have G := Lib.hid g
    have GA := Lib.hid ga
    have GB := Lib.hid gb
    clear g ga gb f1 f2 f3 f3' l1 l2 h
    unfold maxLen at hs
    go_enter Try.func7, Try.ntmps7
    go_wp2_with fail
    refine (G.out _).mono ?_; rintro e w' ⟨rfl, rfl⟩
    go_wp2_with fail
    refine (GA.out _).mono ?_; rintro e w' ⟨rfl, rfl⟩
    go_wp2_with fail
    refine (GB.out _).mono ?_; rintro e w' ⟨rfl, rfl⟩
    go_wp2_with fail
    go_loop [12, 14] (fun b i => ∃ (j r : Nat), j ≤ 1 ∧ i = .int .i64 j ∧ b = .int .u64 r ∧ Hid (r = q * 256 ^ j)) (fun _ i => 1 - (intOf i).toNat)
    case atStart => exact ⟨0, q, Nat.zero_le _, rfl, rfl, by show q = q * 256 ^ 0; simp⟩
    case round =>
      obtain ⟨j, r, hj, rfl, rfl, HR⟩ := hrel
      by_cases hlt : j < 1
      · have hr : r ≤ 72057594037927935 := by
          rw [HR.out]
          have e1 : q * 256 ^ j ≤ 255 * 256 ^ 0 := Nat.mul_le_mul l2' (Nat.pow_le_pow_right (by decide) (by omega))
          exact Nat.le_trans e1 (by decide)
        go_wp2
        exact ⟨⟨j + 1, r * 256, by omega, by go_num, by go_num, by show r * 256 = q * 256 ^ (j + 1); rw [HR.out, Nat.pow_succ, Nat.mul_assoc]⟩, by simp [intOf]; omega⟩
      · obtain rfl : j = 1 := by omega
        have hr : r = 256 * q := by rw [HR.out, Nat.mul_comm]
        have hn : n = p + r := by rw [F.out, hr]
        have hb : (p : Int) + (r : Int) ≤ 18446744073709551615 := by omega
        have he : ((n : Int) == (p : Int) + (r : Int)) = true := by rw [beq_iff_eq]; omega
        clear hr hn hlt hj
        go_wp2_with fail
        refine (AL.out _).mono ?_; rintro e w1 ⟨rfl, hb1⟩
        go_wp2
        go_ret
        exact ⟨rfl, below_boxed hb1⟩
  · have h' : fieldOk s.size a 2 = false := by simpa using h
    rw [h', getV_no h'] at g
    have G := Lib.hid g
    clear g h h'
    go_enter Try.func7, Try.ntmps7
    go_wp2_with fail
    refine (G.out _).mono ?_; rintro e w' ⟨rfl, rfl⟩
    go_wp2_with fail
    refine (AL.out _).mono ?_; rintro e w1 ⟨rfl, hb1⟩
    go_wp2
    go_ret
    exact ⟨rfl, below_boxed hb1⟩

set_option maxHeartbeats 400000 in
theorem halves2 (s : ByteArray) (hs : s.size ≤ maxLen) (a : Int) (x : Nat) (hx : x < 256) (hk : (x : Int) % 3 = 1) (w : World) :
    Calls Try.prog 7 #[.string s, .int .i64 a, .int .u8 x] w fun e w' => e = .returned (.bool true) ∧ Below w.heap.size w w' := by
  have AL := Lib.hid alive_any
  have g := get_any s hs a 4
  by_cases h : fieldOk s.size a 4 = true
  · obtain ⟨f1, f2, f3, l1, l2, a0, a1⟩ := halves_facts s a 2 (by decide) h
    have ga := get_any s hs a 2
    have gb := get_any s hs (a + 2) 2
    rw [h] at g
    rw [show ((2 : Nat) : Int) = 2 from rfl] at f1 f2 f3 a1
    have a2 : a + 2 ≤ 9223372036854775807 := by unfold maxLen at hs; omega
    rw [show (2 * (2 : Int)) = 4 from rfl] at f3 a1
    rw [f1] at ga
    rw [f2] at gb
    generalize getV s a 2 = p at *
    generalize getV s (a + 2) 2 = q at *
    generalize getV s a 4 = n at *
    have e256 : (256 : Nat) ^ 2 = 65536 := by decide
    have l1' : p ≤ 65535 := by omega
    have l2' : q ≤ 65535 := by omega
    clear e256
    have f3' : n = p + 65536 * q := f3
    have F := Lib.hid f3'
    have G := Lib.hid g
    have GA := Lib.hid ga
    have GB := Lib.hid gb
    clear g ga gb f1 f2 f3 f3' l1 l2 h
    unfold maxLen at hs
    go_enter Try.func7, Try.ntmps7
    go_wp2_with fail
    refine (G.out _).mono ?_; rintro e w' ⟨rfl, rfl⟩
    go_wp2_with fail
    refine (GA.out _).mono ?_; rintro e w' ⟨rfl, rfl⟩
    go_wp2_with fail
    refine (GB.out _).mono ?_; rintro e w' ⟨rfl, rfl⟩
    go_wp2_with fail
    go_loop [12, 14] (fun b i => ∃ (j r : Nat), j ≤ 2 ∧ i = .int .i64 j ∧ b = .int .u64 r ∧ Hid (r = q * 256 ^ j)) (fun _ i => 2 - (intOf i).toNat)
    case atStart => exact ⟨0, q, Nat.zero_le _, rfl, rfl, by show q = q * 256 ^ 0; simp⟩
    case round =>
      obtain ⟨j, r, hj, rfl, rfl, HR⟩ := hrel
      by_cases hlt : j < 2
      · have hr : r ≤ 72057594037927935 := by
          rw [HR.out]
          have e1 : q * 256 ^ j ≤ 65535 * 256 ^ 1 := Nat.mul_le_mul l2' (Nat.pow_le_pow_right (by decide) (by omega))
          exact Nat.le_trans e1 (by decide)
        go_wp2
        exact ⟨⟨j + 1, r * 256, by omega, by go_num, by go_num, by show r * 256 = q * 256 ^ (j + 1); rw [HR.out, Nat.pow_succ, Nat.mul_assoc]⟩, by simp [intOf]; omega⟩
      · obtain rfl : j = 2 := by omega
        have hr : r = 65536 * q := by rw [HR.out, Nat.mul_comm]
        have hn : n = p + r := by rw [F.out, hr]
        have hb : (p : Int) + (r : Int) ≤ 18446744073709551615 := by omega
        have he : ((n : Int) == (p : Int) + (r : Int)) = true := by rw [beq_iff_eq]; omega
        clear hr hn hlt hj
        go_wp2_with fail
        refine (AL.out _).mono ?_; rintro e w1 ⟨rfl, hb1⟩
        go_wp2
        go_ret
        exact ⟨rfl, below_boxed hb1⟩
  · have h' : fieldOk s.size a 4 = false := by simpa using h
    rw [h', getV_no h'] at g
    have G := Lib.hid g
    clear g h h'
    go_enter Try.func7, Try.ntmps7
    go_wp2_with fail
    refine (G.out _).mono ?_; rintro e w' ⟨rfl, rfl⟩
    go_wp2_with fail
    refine (AL.out _).mono ?_; rintro e w1 ⟨rfl, hb1⟩
    go_wp2
    go_ret
    exact ⟨rfl, below_boxed hb1⟩

set_option maxHeartbeats 400000 in
theorem halves4 (s : ByteArray) (hs : s.size ≤ maxLen) (a : Int) (x : Nat) (hx : x < 256) (hk : (x : Int) % 3 = 2) (w : World) :
    Calls Try.prog 7 #[.string s, .int .i64 a, .int .u8 x] w fun e w' => e = .returned (.bool true) ∧ Below w.heap.size w w' := by
  have AL := Lib.hid alive_any
  have g := get_any s hs a 8
  by_cases h : fieldOk s.size a 8 = true
  · obtain ⟨f1, f2, f3, l1, l2, a0, a1⟩ := halves_facts s a 4 (by decide) h
    have ga := get_any s hs a 4
    have gb := get_any s hs (a + 4) 4
    rw [h] at g
    rw [show ((4 : Nat) : Int) = 4 from rfl] at f1 f2 f3 a1
    have a2 : a + 4 ≤ 9223372036854775807 := by unfold maxLen at hs; omega
    rw [show (2 * (4 : Int)) = 8 from rfl] at f3 a1
    rw [f1] at ga
    rw [f2] at gb
    generalize getV s a 4 = p at *
    generalize getV s (a + 4) 4 = q at *
    generalize getV s a 8 = n at *
    have e256 : (256 : Nat) ^ 4 = 4294967296 := by decide
    have l1' : p ≤ 4294967295 := by omega
    have l2' : q ≤ 4294967295 := by omega
    clear e256
    have f3' : n = p + 4294967296 * q := f3
    have F := Lib.hid f3'
    have G := Lib.hid g
    have GA := Lib.hid ga
    have GB := Lib.hid gb
    clear g ga gb f1 f2 f3 f3' l1 l2 h
    unfold maxLen at hs
    go_enter Try.func7, Try.ntmps7
    go_wp2_with fail
    refine (G.out _).mono ?_; rintro e w' ⟨rfl, rfl⟩
    go_wp2_with fail
    refine (GA.out _).mono ?_; rintro e w' ⟨rfl, rfl⟩
    go_wp2_with fail
    refine (GB.out _).mono ?_; rintro e w' ⟨rfl, rfl⟩
    go_wp2_with fail
    go_loop [12, 14] (fun b i => ∃ (j r : Nat), j ≤ 4 ∧ i = .int .i64 j ∧ b = .int .u64 r ∧ Hid (r = q * 256 ^ j)) (fun _ i => 4 - (intOf i).toNat)
    case atStart => exact ⟨0, q, Nat.zero_le _, rfl, rfl, by show q = q * 256 ^ 0; simp⟩
    case round =>
      obtain ⟨j, r, hj, rfl, rfl, HR⟩ := hrel
      by_cases hlt : j < 4
      · have hr : r ≤ 72057594037927935 := by
          rw [HR.out]
          have e1 : q * 256 ^ j ≤ 4294967295 * 256 ^ 3 := Nat.mul_le_mul l2' (Nat.pow_le_pow_right (by decide) (by omega))
          exact Nat.le_trans e1 (by decide)
        go_wp2
        exact ⟨⟨j + 1, r * 256, by omega, by go_num, by go_num, by show r * 256 = q * 256 ^ (j + 1); rw [HR.out, Nat.pow_succ, Nat.mul_assoc]⟩, by simp [intOf]; omega⟩
      · obtain rfl : j = 4 := by omega
        have hr : r = 4294967296 * q := by rw [HR.out, Nat.mul_comm]
        have hn : n = p + r := by rw [F.out, hr]
        have hb : (p : Int) + (r : Int) ≤ 18446744073709551615 := by omega
        have he : ((n : Int) == (p : Int) + (r : Int)) = true := by rw [beq_iff_eq]; omega
        clear hr hn hlt hj
        go_wp2_with fail
        refine (AL.out _).mono ?_; rintro e w1 ⟨rfl, hb1⟩
        go_wp2
        go_ret
        exact ⟨rfl, below_boxed hb1⟩
  · have h' : fieldOk s.size a 8 = false := by simpa using h
    rw [h', getV_no h'] at g
    have G := Lib.hid g
    clear g h h'
    go_enter Try.func7, Try.ntmps7
    go_wp2_with fail
    refine (G.out _).mono ?_; rintro e w' ⟨rfl, rfl⟩
    go_wp2_with fail
    refine (AL.out _).mono ?_; rintro e w1 ⟨rfl, hb1⟩
    go_wp2
    go_ret
    exact ⟨rfl, below_boxed hb1⟩

theorem halves_walk (s : ByteArray) (hs : s.size ≤ maxLen) (a : Int) (x : Nat) (hx : x < 256) (w : World) :
    Calls Try.prog 7 #[.string s, .int .i64 a, .int .u8 x] w fun e w' => e = .returned (.bool true) ∧ Below w.heap.size w w' := by
  have hk : (x : Int) % 3 = 0 ∨ (x : Int) % 3 = 1 ∨ (x : Int) % 3 = 2 := by omega
  rcases hk with hk | hk | hk
  · exact halves1 s hs a x hx hk w
  · exact halves2 s hs a x hx hk w
  · exact halves4 s hs a x hx hk w

end Go.Proofs.Ytefgjapclkdkoaa
