/- The walks of the outright laws of layer 1. -/
import Derived.Test.YtefgjapclkdkoaaWLaws
import Derived.Test.YtefgjapclkdkoaaWFacts
namespace Go.Proofs.Ytefgjapclkdkoaa
open Go.RowKit

theorem stays_facts (s : ByteArray) (a z : Int) (h : fieldOk s.size a z = true) : putOk s.size a z (getV s a z) = true ∧ putV s a z (getV s a z) = s := by
  obtain ⟨b, y, rfl, rfl, hy, hb⟩ := fieldOk_yes h
  have hlt : getV s b y < 256 ^ y := by
    rw [getV_yes h]; have := leN_lt (fieldAt s b y); rwa [fieldAt_length s b y hb] at this
  have hp : putOk s.size b y (getV s b y) = true := by unfold putOk; rw [h]; simpa using hlt
  refine ⟨hp, ?_⟩
  rw [putV_yes hp, getV_yes h, put_field s b y hb]

set_option maxHeartbeats 1000000 in
theorem stays_walk (s : ByteArray) (hs : s.size ≤ maxLen) (a z : Int) (w : World) :
    Calls Try.prog 8 #[.string s, .agg #[.int .i64 a, .int .i64 z]] w fun e w' => e = .returned (.bool true) ∧ Below w.heap.size w w' := by
  have g := get_any s hs a z
  have p := put_any s hs a z (getV s a z) (getV_lt s a z)
  have AL := Lib.hid alive_any
  by_cases h : fieldOk s.size a z = true
  · obtain ⟨f1, f2⟩ := stays_facts s a z h
    rw [h] at g
    rw [f1, f2] at p
    unfold fieldOk at h
    rw [decide_eq_true_eq] at h
    obtain ⟨hy, h0, hi⟩ := h
    generalize getV s a z = n at *
    have G := Lib.hid g
    have P := Lib.hid p
    clear g p f1 f2
    unfold maxLen at hs
    have hd0 := decide_eq_true h0
    have hd := decide_eq_true hi
    rcases hy with rfl | rfl | rfl | rfl
    all_goals
      go_enter Try.func8, Try.ntmps8
      go_wp2_with fail
      refine (G.out _).mono ?_; rintro e w' ⟨rfl, rfl⟩
      go_wp2_with fail
      refine (P.out _).mono ?_; rintro e w1 ⟨rfl, hb1⟩
      go_wp2_with fail
      refine (AL.out _).mono ?_; rintro e w2 ⟨rfl, hb2⟩
      go_wp2
      go_ret
      exact ⟨rfl, below_boxed (hb1.trans (hb2.mono hb1.size))⟩
  · have h' : fieldOk s.size a z = false := by simpa using h
    have hq : putOk s.size a z (getV s a z) = false := by unfold putOk; rw [h']; rfl
    rw [h'] at g
    rw [hq] at p
    generalize getV s a z = n at *
    generalize putV s a z n = t at *
    have G := Lib.hid g
    have P := Lib.hid p
    clear g p hq h
    unfold maxLen at hs
    unfold fieldOk at h'
    rw [decide_eq_false_iff_not] at h'
    have H := Lib.hid h'
    clear h'
    by_cases hz : z = 1 ∨ z = 2 ∨ z = 4 ∨ z = 8
    · have hr : a < 0 ∨ (0 ≤ a ∧ (s.size : Int) - z < a) := by have := H.out; omega
      rcases hz with rfl | rfl | rfl | rfl
      all_goals
        rcases hr with hr | ⟨hr, hr2⟩
        case' inl => have hd := decide_eq_false (Int.not_le.2 hr)
        case' inr =>
          have hd0 := decide_eq_true hr
          have hd := decide_eq_false (Int.not_le.2 hr2)
        all_goals
          go_enter Try.func8, Try.ntmps8
          go_wp2_with fail
          refine (G.out _).mono ?_; rintro e w' ⟨rfl, rfl⟩
          go_wp2_with fail
          refine (P.out _).mono ?_; rintro e w1 ⟨rfl, hb1⟩
          go_wp2_with fail
          refine (AL.out _).mono ?_; rintro e w2 ⟨rfl, hb2⟩
          go_wp2
          go_ret
          exact ⟨rfl, below_boxed (hb1.trans (hb2.mono hb1.size))⟩
    · have h1 : (z == 1) = false := by simp; omega
      have h2 : (z == 2) = false := by simp; omega
      have h4 : (z == 4) = false := by simp; omega
      have h8 : (z == 8) = false := by simp; omega
      clear hz
      go_enter Try.func8, Try.ntmps8
      go_wp2_with fail
      refine (G.out _).mono ?_; rintro e w' ⟨rfl, rfl⟩
      go_wp2_with fail
      refine (P.out _).mono ?_; rintro e w1 ⟨rfl, hb1⟩
      go_wp2_with fail
      refine (AL.out _).mono ?_; rintro e w2 ⟨rfl, hb2⟩
      go_wp2
      go_ret
      exact ⟨rfl, below_boxed (hb1.trans (hb2.mono hb1.size))⟩

end Go.Proofs.Ytefgjapclkdkoaa
