/- The walk of SupersMay. -/
import Derived.Test.YtonfloehobcfbaaUAlive
namespace Go.Proofs.Ytonfloehobcfbaa
set_option linter.unusedVariables false
open Go.RowKit

/-- what Of tells of any three numbers -/
theorem of_code (b l i : Int) : ∃ (g0 g1 g2 g3 g4 g5 g6 g7 g8 c : Int), (c = 0 ∧ okG b l i ∨ c = 2 ∧ ¬ okG b l i) ∧
    ∀ w, Calls Try.prog 19 #[.int .i64 b, .int .i64 l, .int .i64 i] w fun e w' => e = .returned (.tuple #[geo g0 g1 g2 g3 g4 g5 g6 g7 g8, .int .i64 c]) ∧ Below w.heap.size w w' := by
  by_cases h : okG b l i
  · obtain ⟨b', l', i', m, t, rfl, rfl, rfl, hok⟩ := okG_yes h
    exact ⟨_, _, _, _, _, _, _, _, _, 0, .inl ⟨rfl, h⟩, fun w => of_yes b' l' i' m t hok w⟩
  · exact ⟨_, _, _, _, _, _, _, _, _, 2, .inr ⟨rfl, h⟩, fun w => of_off b l i h w⟩
set_option maxRecDepth 100000 in
set_option maxHeartbeats 8000000 in
theorem umay_walk (b l i c : Int) (w : World) :
    Calls Try.prog 7 #[.agg #[.int .i64 b, .int .i64 l, .int .i64 i], .int .i64 c] w fun e w' => e = .returned (.bool true) ∧ Below w.heap.size w w' := by
  obtain ⟨g0, g1, g2, g3, g4, g5, g6, g7, g8, k, hk, O⟩ := of_code b l i
  have O := Lib.hid O
  have C : ∀ w, Calls Try.prog 12 #[.agg #[.int .i64 b, .int .i64 l, .int .i64 i, .int .i64 c, .int .i64 0, .int .i64 0, .int .i64 0, .int .i64 0, .int .i64 0, .int .i64 0]] w fun e w' => e = .returned (.bool (decide (SupOk ⟨b, l, i, c, 0, 0, 0, 0, 0, 0⟩))) ∧ Below w.heap.size w w' := fun w => check_any ⟨b, l, i, c, 0, 0, 0, 0, 0, 0⟩ w
  have AL := Lib.hid ualive_any
  have hb0 := balloc1 w (.cells #[.int .i64 b, .int .i64 l, .int .i64 i] 45)
  have hA0 : Blk w.heap.size #[.int .i64 b, .int .i64 l, .int .i64 i] 45 (w.alloc (.cells #[.int .i64 b, .int .i64 l, .int .i64 i] 45)) := Blk.new _ _ _
  rw [show decide (SupOk ⟨b, l, i, c, 0, 0, 0, 0, 0, 0⟩) = decide (okG b l i ∧ 0 ≤ c ∧ c ≤ b) from decide_eq_decide.2 (may_iff b l i c)] at C
  have hc0 : 0 ≤ c ∨ ¬ 0 ≤ c := Classical.em _
  have hc1 : c ≤ b ∨ ¬ c ≤ b := Classical.em _
  rcases hk with ⟨rfl, hg⟩ | ⟨rfl, hg⟩
  all_goals rcases hc0 with h0 | h0
  all_goals rcases hc1 with h1 | h1
  all_goals
    obtain ⟨r, hr⟩ : ∃ r, decide (okG b l i ∧ 0 ≤ c ∧ c ≤ b) = r := ⟨_, rfl⟩
    rw [hr] at C
    simp only [hg, h0, h1, true_and, and_true, false_and, and_false, decide_true, decide_false, and_self] at hr
    subst hr
    have C := Lib.hid C
    have q0 := Bool.eq_iff_iff.1 (rfl : decide (0 ≤ c) = decide (0 ≤ c))
    clear hg q0
    go_enter Try.func7, Try.ntmps7
    go_wp2_with fail
    refine (O.out _).mono ?_; rintro e w1 ⟨rfl, b1⟩
    have hA1 := hA0.kept1 b1
    have hb1 := bnext hb0 b1
    have a0 := hA1.cell 0; have a1 := hA1.cell 1; have a2 := hA1.cell 2
    have hA15 := hA1.kept1 (balloc1 w1 (.cells (cellsG g0 g1 g2 g3 g4 g5 g6 g7 g8) 47))
    have e0 := hA15.cell 0; have e1 := hA15.cell 1; have e2 := hA15.cell 2
    simp at e0 e1 e2
    have hA2 := (hA1.kept1 (balloc1 w1 (.cells (cellsG g0 g1 g2 g3 g4 g5 g6 g7 g8) 47))).kept1 (balloc1 _ (.cells #[.int .i64 b, .int .i64 l, .int .i64 i, .int .i64 c, .int .i64 0, .int .i64 0, .int .i64 0, .int .i64 0, .int .i64 0, .int .i64 0] 23))
    have hb2 := balloc (balloc hb1 (.cells (cellsG g0 g1 g2 g3 g4 g5 g6 g7 g8) 47)) (.cells #[.int .i64 b, .int .i64 l, .int .i64 i, .int .i64 c, .int .i64 0, .int .i64 0, .int .i64 0, .int .i64 0, .int .i64 0, .int .i64 0] 23)
    simp at a0 a1 a2
    clear hA0 hb0 b1 hA1 hb1 hA15
    go_wp2_with fail
    refine (C.out _).mono ?_; rintro e w3 ⟨rfl, b3⟩
    have d0 := (hA2.kept1 b3).cell 0
    have hb3 := bnext hb2 b3
    simp at d0
    clear hA2 hb2 b3 a0 a1 a2 e0 e1 e2
    go_wp2_with fail
    refine (AL.out _).mono ?_; rintro e w4 ⟨rfl, b4⟩
    go_wp2
    go_ret
    first | exact ⟨rfl, bnext hb3 b4⟩ | exact ⟨ret_bool (by simp; omega), bnext hb3 b4⟩
end Go.Proofs.Ytonfloehobcfbaa
