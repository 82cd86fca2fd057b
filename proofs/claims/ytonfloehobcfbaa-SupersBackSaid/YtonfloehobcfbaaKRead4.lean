/- read, all of it. -/
import Derived.Test.YtonfloehobcfbaaKRead3
namespace Go.Proofs.Ytonfloehobcfbaa
set_option linter.unusedVariables false
open Go.RowKit

/-! ### all of it -/
theorem read_yes (s : ByteArray) (hs : s.size ≤ maxLen) (h : ReadOk s) (w : World) :
    Calls Try.prog 31 #[.string s] w fun e w' => ∃ vh vm, e = .returned (.tuple #[recV (readR s) vh vm, .bool true]) ∧ RecOwn w.heap.size (readR s) vh vm w' ∧ Below w.heap.size w w' := by
  obtain ⟨h0, h1, h2, h3, h4⟩ := h
  by_cases k1 : kindOf s = 1
  · refine (read_1 s hs h0 k1 (h1 k1) w).mono ?_; rintro e w' ⟨rfl, b⟩
    refine ⟨.slice none 0 0, .slice none 0 0, ?_, ?_, b⟩
    · simp [readR, k1]
    · unfold RecOwn readR; simp [k1]; exact ⟨World.ownsRow_nil _ _ _ _, World.ownsRow_nil _ _ _ _⟩
  · by_cases k2 : kindOf s = 2
    · refine (read_2 s hs h0 k2 (h2 k2).1 (by have := h2 k2; omega) (h2 k2).2 w).mono ?_; rintro e w' ⟨vh, vm, rfl, a, c, b⟩
      refine ⟨vh, vm, ?_, ?_, b⟩
      · simp [readR, k2]
      · unfold RecOwn readR; simp only [k2]; exact ⟨by simpa using a, by simpa using c⟩
    · by_cases k3 : kindOf s = 3
      · refine (read_3 s hs h0 k3 (h3 k3).1 (h3 k3).2 w).mono ?_; rintro e w' ⟨vh, vm, rfl, a, c, b⟩
        refine ⟨vh, vm, ?_, ?_, b⟩
        · simp [readR, k3]
        · unfold RecOwn readR; simp only [k3]; exact ⟨by simpa using a, by simpa using c⟩
      · by_cases k4 : kindOf s = 4
        · refine (read_4 s hs h0 k4 (h4 k4) w).mono ?_; rintro e w' ⟨rfl, b⟩
          refine ⟨.slice none 0 0, .slice none 0 0, ?_, ?_, b⟩
          · simp [readR, k4]
          · unfold RecOwn readR; simp [k4]; exact ⟨World.ownsRow_nil _ _ _ _, World.ownsRow_nil _ _ _ _⟩
        · refine (read_0 s hs h0 k1 k2 k3 k4 w).mono ?_; rintro e w' ⟨rfl, b⟩
          refine ⟨.slice none 0 0, .slice none 0 0, ?_, ?_, b⟩
          · simp [readR, k1, k2, k3, k4]
          · unfold RecOwn readR; simp [k1, k2, k3, k4]; exact ⟨World.ownsRow_nil _ _ _ _, World.ownsRow_nil _ _ _ _⟩
theorem read_no (s : ByteArray) (hs : s.size ≤ maxLen) (h : ¬ ReadOk s) (w : World) :
    Calls Try.prog 31 #[.string s] w fun e w' => ∃ (k : Int) (q : Nat) (p : Int) (ah : Option Addr) (nh ch : Nat) (am : Option Addr) (nm cm m : Nat), e = .returned (.tuple #[recA k q p (.slice ah nh ch) (.slice am nm cm) m, .bool false]) ∧ Below w.heap.size w w' := by
  by_cases h0 : 13 ≤ s.size
  · by_cases k1 : kindOf s = 1
    · exact (read_1n s hs h0 k1 (fun h1 => h (by unfold ReadOk; omega)) w).mono fun e w' ⟨he, b⟩ => ⟨_, _, _, _, _, _, _, _, _, _, he, b⟩
    · by_cases k2 : kindOf s = 2
      · by_cases hb : HomesBad s
        · exact (read_2h s hs h0 k2 hb w).mono fun e w' ⟨_, _, _, _, _, _, he, b⟩ => ⟨_, _, _, _, _, _, _, _, _, _, he, b⟩
        · have hb := Classical.not_not.1 hb
          exact (read_2m s hs h0 k2 hb.1 hb.2 (fun h1 => h (by unfold ReadOk; omega)) w).mono fun e w' ⟨_, _, _, _, _, _, he, b⟩ => ⟨_, _, _, _, _, _, _, _, _, _, he, b⟩
      · by_cases k3 : kindOf s = 3
        · exact (read_3n s hs h0 k3 (fun h1 => h (by unfold ReadOk; omega)) w).mono fun e w' ⟨_, _, _, _, _, _, he, b⟩ => ⟨_, _, _, _, _, _, _, _, _, _, he, b⟩
        · by_cases k4 : kindOf s = 4
          · exact (read_4n s hs h0 k4 (fun h1 => h (by unfold ReadOk; omega)) w).mono fun e w' ⟨he, b⟩ => ⟨_, _, _, _, _, _, _, _, _, _, he, b⟩
          · exact absurd (by unfold ReadOk; omega) h
  · exact (read_short s hs (by omega) w).mono fun e w' ⟨he, b⟩ => ⟨0, 0, 0, none, 0, 0, none, 0, 0, 0, he, b⟩
end Go.Proofs.Ytonfloehobcfbaa
