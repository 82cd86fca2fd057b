/- The walk of WordsBack. -/
import Derived.Test.YtefgjapclkdkoaaWApart
import Derived.StillTailTactics
import Derived.IntWalk
namespace Go.Proofs.Ytefgjapclkdkoaa
open Go.RowKit

theorem back_facts (s : ByteArray) (a z : Int) (n : Nat) (h : putOk s.size a z n = true) : ∃ (b y : Nat), a = b ∧ z = y ∧ y ≤ 8 ∧ b + y ≤ s.size ∧
    (putV s a z n).size = s.size ∧ fieldOk (putV s a z n).size a z = true ∧ getV (putV s a z n) a z = n ∧ (putV s a z n).extract 0 b = s.extract 0 b ∧ (putV s a z n).extract (b + y) (putV s a z n).size = s.extract (b + y) s.size := by
  have k := h
  obtain ⟨b, y, rfl, rfl, hy, hb, hn⟩ := putOk_yes k
  have hf : fieldOk s.size b y = true := by unfold fieldOk; simp; omega
  have hs := putS_size s b y n hb
  have hf' : fieldOk (putS s b y n).size b y = true := by rw [hs]; exact hf
  refine ⟨b, y, rfl, rfl, by omega, hb, ?_⟩
  rw [putV_yes h]
  refine ⟨hs, hf', ?_, head_put s b y n hb, tail_put s b y n hb⟩
  rw [getV_yes hf', field_put s b y n hb, leN_leB, Nat.mod_eq_of_lt hn]

set_option maxHeartbeats 400000 in
theorem back_no (s : ByteArray) (hs : s.size ≤ maxLen) (a z : Int) (n : Nat) (hn : n < 18446744073709551616) (h : putOk s.size a z n = false) (w : World) :
    Calls Try.prog 6 #[.string s, .agg #[.int .i64 a, .int .i64 z], .int .u64 n] w fun e w' => e = .returned (.bool true) ∧ Below w.heap.size w w' := by
  have p := put_any s hs a z n hn
  rw [h, putV_no h] at p
  have P := Lib.hid p
  have AL := Lib.hid alive_any
  clear p h hn hs
  go_enter Try.func6, Try.ntmps6
  go_wp2_with fail
  refine (P.out _).mono ?_; rintro e w1 ⟨rfl, hb1⟩
  go_wp2_with fail
  refine (AL.out _).mono ?_; rintro e w2 ⟨rfl, hb2⟩
  go_wp2
  go_ret
  exact ⟨rfl, below_boxed (hb1.trans (hb2.mono hb1.size))⟩

set_option maxHeartbeats 400000 in
theorem back_yes (s : ByteArray) (hs : s.size ≤ maxLen) (a z : Int) (n : Nat) (hn : n < 18446744073709551616) (h : putOk s.size a z n = true) (w : World) :
    Calls Try.prog 6 #[.string s, .agg #[.int .i64 a, .int .i64 z], .int .u64 n] w fun e w' => e = .returned (.bool true) ∧ Below w.heap.size w w' := by
  have p := put_any s hs a z n hn
  obtain ⟨b, y, rfl, rfl, hy, hb, f1, f2, f3, f4, f5⟩ := back_facts s a z n h
  have g := get_any (putV s b y n) (put_small s hs b y n) b y
  rw [h] at p
  rw [f2, f3] at g
  generalize putV s b y n = t at *
  have P := Lib.hid p
  have G := Lib.hid g
  have F1 := Lib.hid f1
  have F4 := Lib.hid f4
  have F5 := Lib.hid f5
  have AL := Lib.hid alive_any
  have hs' := hs
  unfold maxLen at hs'
  have d1 : decide ((b : Int) < 0) = false := by rw [decide_eq_false_iff_not]; omega
  have d2 : decide ((y : Int) < 0) = false := by rw [decide_eq_false_iff_not]; omega
  have d3 : decide ((8 : Int) < (y : Int)) = false := by rw [decide_eq_false_iff_not]; omega
  have d4 : decide ((s.size : Int) - (y : Int) < (b : Int)) = false := by rw [decide_eq_false_iff_not]; omega
  have d5 : ((t.size : Int) != (s.size : Int)) = false := by rw [F1.out]; simp
  clear p g h hn f1 f2 f3 f4 f5 hs
  go_enter Try.func6, Try.ntmps6
  go_wp2_with fail
  refine (P.out _).mono ?_; rintro e w1 ⟨rfl, hb1⟩
  obtain ⟨hc1, hf1⟩ := bcell hb1
  go_wp2_with fail
  refine (G.out _).mono ?_; rintro e w' ⟨rfl, rfl⟩
  go_wp2_with fail
  have u1 : s.size ≤ t.size := by rw [F1.out]; exact Nat.le_refl _
  have u2 : t.size ≤ s.size := by rw [F1.out]; exact Nat.le_refl _
  have q1 : ((t.extract 0 b).toList == (s.extract 0 b).toList) = true := by rw [F4.out]; simp
  have q2 : ((t.extract (b + y) t.size).toList == (s.extract (b + y) s.size).toList) = true := by rw [F5.out]; simp
  have v0 : (0 : Int) ≤ (b : Int) := by omega
  have v1 : b ≤ t.size := by omega
  have v2 : b ≤ s.size := by omega
  have v3 : b + y ≤ t.size := by omega
  have v5 : (b : Int) ≤ (t.size : Int) := by omega
  have v6 : (b : Int) ≤ (s.size : Int) := by omega
  have v7 : (b : Int) + (y : Int) ≤ (t.size : Int) := by omega
  have v8 : (b : Int) + (y : Int) ≤ (s.size : Int) := by omega
  have v9 : (0 : Int) ≤ (b : Int) + (y : Int) := by omega
  have va : IntKind.i64.wrap ((b : Int) + (y : Int)) = (b : Int) + (y : Int) := IntWalk.i64_in _ (by omega)
  have vb : ((b : Int) + (y : Int)).toNat = b + y := by omega
  go_still_tail 35, (by kernel_rfl)
  change wpList _ _ _ _ _ w1.drew
  have hb1' := hb1.drew
  generalize w1.drew = w2 at hb1' ⊢
  clear u1 u2 q1 q2 v0 v1 v2 v3 v5 v6 v7 v8 v9 va vb hc1 hf1
  go_wp2_with fail
  refine (AL.out _).mono ?_; rintro e w3 ⟨rfl, hb3⟩
  go_wp2
  go_ret
  exact ⟨rfl, below_boxed (hb1'.trans (hb3.mono hb1'.size))⟩

theorem back_walk (s : ByteArray) (hs : s.size ≤ maxLen) (a z : Int) (n : Nat) (hn : n < 18446744073709551616) (w : World) :
    Calls Try.prog 6 #[.string s, .agg #[.int .i64 a, .int .i64 z], .int .u64 n] w fun e w' => e = .returned (.bool true) ∧ Below w.heap.size w w' := by
  by_cases h : putOk s.size a z n = true
  · exact back_yes s hs a z n hn h w
  · exact back_no s hs a z n hn (by simpa using h) w

end Go.Proofs.Ytefgjapclkdkoaa
