/- The walk of WordsApart. -/
import Derived.Test.YtefgjapclkdkoaaWLaws
import Derived.Test.YtefgjapclkdkoaaWFacts
namespace Go.Proofs.Ytefgjapclkdkoaa
open Go.RowKit

theorem apart_facts (s : ByteArray) (a z b y : Int) (n m : Nat) (h1 : putOk s.size a z n = true) (h2 : putOk s.size b y m = true) (hd : a + z ≤ b ∨ b + y ≤ a) :
    putOk (putV s a z n).size b y m = true ∧ putOk (putV s b y m).size a z n = true ∧ putV (putV s a z n) b y m = putV (putV s b y m) a z n := by
  have k1 := h1
  have k2 := h2
  obtain ⟨a, z, rfl, rfl, hz, ha, hn⟩ := putOk_yes k1
  obtain ⟨b, y, rfl, rfl, hy, hb, hm⟩ := putOk_yes k2
  have s1 := putS_size s a z n ha
  have s2 := putS_size s b y m hb
  have e1 : putOk (putS s a z n).size b y m = true := by rw [s1]; exact h2
  have e2 : putOk (putS s b y m).size a z n = true := by rw [s2]; exact h1
  rw [putV_yes h1, putV_yes h2, putV_yes e1, putV_yes e2]
  exact ⟨e1, e2, putS_comm s a z n b y m ha hb (by omega)⟩

theorem ok_bounds {len : Nat} {a z : Int} {n : Nat} (h : putOk len a z n = true) : 0 ≤ a ∧ 0 ≤ z ∧ a + z ≤ len := by
  obtain ⟨b, y, rfl, rfl, hy, hb, _⟩ := putOk_yes h
  omega

theorem put_small (s : ByteArray) (hs : s.size ≤ maxLen) (a z : Int) (n : Nat) : (putV s a z n).size ≤ maxLen := by
  by_cases h : putOk s.size a z n = true
  · have k := h
    obtain ⟨b, y, rfl, rfl, hy, hb, _⟩ := putOk_yes k
    rw [putV_yes h, putS_size s b y n hb]; exact hs
  · rw [putV_no (by simpa using h)]; decide

set_option maxHeartbeats 400000 in
theorem apart_no (s : ByteArray) (hs : s.size ≤ maxLen) (a z b y : Int) (n m : Nat) (hn : n < 18446744073709551616) (hm : m < 18446744073709551616) (w : World)
    (h : (putOk s.size a z n && putOk s.size b y m) = false) :
    Calls Try.prog 9 #[.string s, .agg #[.int .i64 a, .int .i64 z, .int .i64 b, .int .i64 y], .agg #[.int .u64 n, .int .u64 m]] w fun e w' => e = .returned (.bool true) ∧ Below w.heap.size w w' := by
  have P1 := Lib.hid (put_any s hs a z n hn)
  have P2 := Lib.hid (put_any s hs b y m hm)
  have AL := Lib.hid alive_any
  generalize putOk s.size a z n = p at *
  generalize putOk s.size b y m = q at *
  generalize putV s a z n = t at *
  generalize putV s b y m = u at *
  clear hs hn hm
  cases p
  all_goals cases q
  case true.true => cases h
  all_goals
    clear h
    go_enter Try.func9, Try.ntmps9
    go_wp2_with fail
    refine (P1.out _).mono ?_; rintro e w1 ⟨rfl, hb1⟩
    obtain ⟨hc1, hf1⟩ := bcell hb1
    go_wp2_with fail
    refine (P2.out _).mono ?_; rintro e w2 ⟨rfl, hb2⟩
    clear hc1 hf1
    go_wp2_with fail
    refine (AL.out _).mono ?_; rintro e w3 ⟨rfl, hb3⟩
    go_wp2
    go_ret
    exact ⟨rfl, below_boxed (below_boxed (hb1.trans ((hb2.mono hb1.size).trans (hb3.mono (hb1.trans (hb2.mono hb1.size)).size))))⟩

set_option maxHeartbeats 400000 in
theorem apart_meet (s : ByteArray) (hs : s.size ≤ maxLen) (a z b y : Int) (n m : Nat) (hn : n < 18446744073709551616) (hm : m < 18446744073709551616) (w : World)
    (h1 : putOk s.size a z n = true) (h2 : putOk s.size b y m = true) (hd : a < b + y ∧ b < a + z) :
    Calls Try.prog 9 #[.string s, .agg #[.int .i64 a, .int .i64 z, .int .i64 b, .int .i64 y], .agg #[.int .u64 n, .int .u64 m]] w fun e w' => e = .returned (.bool true) ∧ Below w.heap.size w w' := by
  have p1 := put_any s hs a z n hn
  have p2 := put_any s hs b y m hm
  rw [h1] at p1
  rw [h2] at p2
  have P1 := Lib.hid p1
  have P2 := Lib.hid p2
  have AL := Lib.hid alive_any
  obtain ⟨a0, z0, az⟩ := ok_bounds h1
  obtain ⟨b0, y0, bz⟩ := ok_bounds h2
  generalize putV s a z n = t at *
  generalize putV s b y m = u at *
  unfold maxLen at hs
  have d1 := decide_eq_true hd.1
  have d2 := decide_eq_true hd.2
  clear p1 p2 h1 h2 hn hm hd
  go_enter Try.func9, Try.ntmps9
  go_wp2_with fail
  refine (P1.out _).mono ?_; rintro e w1 ⟨rfl, hb1⟩
  obtain ⟨hc1, hf1⟩ := bcell hb1
  go_wp2_with fail
  refine (P2.out _).mono ?_; rintro e w2 ⟨rfl, hb2⟩
  have hb12 := hb1.trans (hb2.mono hb1.size)
  obtain ⟨hc2, hf2⟩ := bcell hb12
  clear hc1 hf1
  go_wp2_with fail
  refine (AL.out _).mono ?_; rintro e w3 ⟨rfl, hb3⟩
  go_wp2
  go_ret
  exact ⟨rfl, below_boxed (below_boxed (hb12.trans (hb3.mono hb12.size)))⟩

set_option maxHeartbeats 1000000 in
theorem apart_yes (s : ByteArray) (hs : s.size ≤ maxLen) (a z b y : Int) (n m : Nat) (hn : n < 18446744073709551616) (hm : m < 18446744073709551616) (w : World)
    (h1 : putOk s.size a z n = true) (h2 : putOk s.size b y m = true) (hd : b + y ≤ a ∨ (a < b + y ∧ a + z ≤ b)) :
    Calls Try.prog 9 #[.string s, .agg #[.int .i64 a, .int .i64 z, .int .i64 b, .int .i64 y], .agg #[.int .u64 n, .int .u64 m]] w fun e w' => e = .returned (.bool true) ∧ Below w.heap.size w w' := by
  have p1 := put_any s hs a z n hn
  have p2 := put_any s hs b y m hm
  obtain ⟨f1, f2, f3⟩ := apart_facts s a z b y n m h1 h2 (by omega)
  have p3 := put_any (putV s a z n) (put_small s hs a z n) b y m hm
  have p4 := put_any (putV s b y m) (put_small s hs b y m) a z n hn
  rw [h1] at p1
  rw [h2] at p2
  rw [f1, f3] at p3
  rw [f2] at p4
  have P1 := Lib.hid p1
  have P2 := Lib.hid p2
  have P3 := Lib.hid p3
  have P4 := Lib.hid p4
  have AL := Lib.hid alive_any
  obtain ⟨a0, z0, az⟩ := ok_bounds h1
  obtain ⟨b0, y0, bz⟩ := ok_bounds h2
  clear p1 p2 p3 p4 f1 f2 f3
  generalize putV s a z n = t at *
  generalize putV s b y m = u at *
  generalize putV u a z n = v at *
  unfold maxLen at hs
  clear h1 h2 hn hm
  rcases hd with hd | ⟨hd1, hd2⟩
  case' inl => have d1 := decide_eq_false (Int.not_lt.2 hd)
  case' inr =>
    have d1 := decide_eq_true hd1
    have d2 := decide_eq_false (Int.not_lt.2 hd2)
  all_goals
    go_enter Try.func9, Try.ntmps9
    go_wp2_with fail
    refine (P1.out _).mono ?_; rintro e w1 ⟨rfl, hb1⟩
    obtain ⟨hc1, hf1⟩ := bcell hb1
    go_wp2_with fail
    refine (P2.out _).mono ?_; rintro e w2 ⟨rfl, hb2⟩
    have hb12 := hb1.trans (hb2.mono hb1.size)
    obtain ⟨hc2, hf2⟩ := bcell hb12
    clear hc1 hf1
    go_wp2_with fail
    refine (P3.out _).mono ?_; rintro e w3 ⟨rfl, hb3⟩
    have hb13 := hb12.trans (hb3.mono hb12.size)
    obtain ⟨hc3, hf3⟩ := bcell hb13
    clear hc2 hf2
    go_wp2_with fail
    refine (P4.out _).mono ?_; rintro e w4 ⟨rfl, hb4⟩
    have hb14 := hb13.trans (hb4.mono hb13.size)
    clear hc3 hf3
    go_wp2_with fail
    refine (AL.out _).mono ?_; rintro e w5 ⟨rfl, hb5⟩
    go_wp2
    go_ret
    exact ⟨rfl, below_boxed (below_boxed (hb14.trans (hb5.mono hb14.size)))⟩

theorem apart_walk (s : ByteArray) (hs : s.size ≤ maxLen) (a z b y : Int) (n m : Nat) (hn : n < 18446744073709551616) (hm : m < 18446744073709551616) (w : World) :
    Calls Try.prog 9 #[.string s, .agg #[.int .i64 a, .int .i64 z, .int .i64 b, .int .i64 y], .agg #[.int .u64 n, .int .u64 m]] w fun e w' => e = .returned (.bool true) ∧ Below w.heap.size w w' := by
  by_cases h1 : putOk s.size a z n = true
  · by_cases h2 : putOk s.size b y m = true
    · by_cases hd : a < b + y ∧ b < a + z
      · exact apart_meet s hs a z b y n m hn hm w h1 h2 hd
      · exact apart_yes s hs a z b y n m hn hm w h1 h2 (by omega)
    · exact apart_no s hs a z b y n m hn hm w (by simp [h2])
  · exact apart_no s hs a z b y n m hn hm w (by simp [h1])

end Go.Proofs.Ytefgjapclkdkoaa
