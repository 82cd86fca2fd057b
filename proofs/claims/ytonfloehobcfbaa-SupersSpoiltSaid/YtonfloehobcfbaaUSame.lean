/- Superblocks, and arrays of six numbers, held against one another. -/
import Derived.Test.YtonfloehobcfbaaUAlive
import Derived.Laws.StructEq
namespace Go.Proofs.Ytonfloehobcfbaa
set_option linter.unusedVariables false
open Go.RowKit

instance : DecidableEq Sup := fun s t => decidable_of_iff (fld s = fld t) ⟨fld_inj, fun e => by rw [e]⟩
theorem sup_held : Try.prog.stoodInHeld 23 = false := by kernel_rfl
set_option maxRecDepth 100000 in
set_option maxHeartbeats 4000000 in
theorem run_sup_eq (s t : Sup) (w : World) : (Op.equalIn 10000 23 (supV s) (supV t)).run Try.prog w = .ok (decide (s = t)) w := by
  have gh := sup_held
  obtain ⟨a0, a1, a2, a3, a4, a5, a6, a7, a8, a9⟩ := s
  obtain ⟨b0, b1, b2, b3, b4, b5, b6, b7, b8, b9⟩ := t
  by_cases h0 : a0 = b0
  · have e0 : (a0 == b0) = true := by rw [beq_iff_eq]; exact h0
    by_cases h1 : a1 = b1
    · have e1 : (a1 == b1) = true := by rw [beq_iff_eq]; exact h1
      by_cases h2 : a2 = b2
      · have e2 : (a2 == b2) = true := by rw [beq_iff_eq]; exact h2
        by_cases h3 : a3 = b3
        · have e3 : (a3 == b3) = true := by rw [beq_iff_eq]; exact h3
          by_cases h4 : a4 = b4
          · have e4 : (a4 == b4) = true := by rw [beq_iff_eq]; exact h4
            by_cases h5 : a5 = b5
            · have e5 : (a5 == b5) = true := by rw [beq_iff_eq]; exact h5
              by_cases h6 : a6 = b6
              · have e6 : (a6 == b6) = true := by rw [beq_iff_eq]; exact h6
                by_cases h7 : a7 = b7
                · have e7 : (a7 == b7) = true := by rw [beq_iff_eq]; exact h7
                  by_cases h8 : a8 = b8
                  · have e8 : (a8 == b8) = true := by rw [beq_iff_eq]; exact h8
                    by_cases h9 : a9 = b9
                    · have e9 : (a9 == b9) = true := by rw [beq_iff_eq]; exact h9
                      have HR : Hid (decide (Sup.mk a0 a1 a2 a3 a4 a5 a6 a7 a8 a9 = Sup.mk b0 b1 b2 b3 b4 b5 b6 b7 b8 b9) = true) := Lib.hid (by simp [*])
                      rw [HR.out]
                      clear h0 h1 h2 h3 h4 h5 h6 h7 h8 h9
                      go_simp
                    · have e9 : (a9 == b9) = false := by rw [beq_eq_false_iff_ne]; exact h9
                      have HR : Hid (decide (Sup.mk a0 a1 a2 a3 a4 a5 a6 a7 a8 a9 = Sup.mk b0 b1 b2 b3 b4 b5 b6 b7 b8 b9) = false) := Lib.hid (by simp [*])
                      rw [HR.out]
                      clear h0 h1 h2 h3 h4 h5 h6 h7 h8 h9
                      go_simp
                  · have e8 : (a8 == b8) = false := by rw [beq_eq_false_iff_ne]; exact h8
                    have HR : Hid (decide (Sup.mk a0 a1 a2 a3 a4 a5 a6 a7 a8 a9 = Sup.mk b0 b1 b2 b3 b4 b5 b6 b7 b8 b9) = false) := Lib.hid (by simp [*])
                    rw [HR.out]
                    clear h0 h1 h2 h3 h4 h5 h6 h7 h8
                    go_simp
                · have e7 : (a7 == b7) = false := by rw [beq_eq_false_iff_ne]; exact h7
                  have HR : Hid (decide (Sup.mk a0 a1 a2 a3 a4 a5 a6 a7 a8 a9 = Sup.mk b0 b1 b2 b3 b4 b5 b6 b7 b8 b9) = false) := Lib.hid (by simp [*])
                  rw [HR.out]
                  clear h0 h1 h2 h3 h4 h5 h6 h7
                  go_simp
              · have e6 : (a6 == b6) = false := by rw [beq_eq_false_iff_ne]; exact h6
                have HR : Hid (decide (Sup.mk a0 a1 a2 a3 a4 a5 a6 a7 a8 a9 = Sup.mk b0 b1 b2 b3 b4 b5 b6 b7 b8 b9) = false) := Lib.hid (by simp [*])
                rw [HR.out]
                clear h0 h1 h2 h3 h4 h5 h6
                go_simp
            · have e5 : (a5 == b5) = false := by rw [beq_eq_false_iff_ne]; exact h5
              have HR : Hid (decide (Sup.mk a0 a1 a2 a3 a4 a5 a6 a7 a8 a9 = Sup.mk b0 b1 b2 b3 b4 b5 b6 b7 b8 b9) = false) := Lib.hid (by simp [*])
              rw [HR.out]
              clear h0 h1 h2 h3 h4 h5
              go_simp
          · have e4 : (a4 == b4) = false := by rw [beq_eq_false_iff_ne]; exact h4
            have HR : Hid (decide (Sup.mk a0 a1 a2 a3 a4 a5 a6 a7 a8 a9 = Sup.mk b0 b1 b2 b3 b4 b5 b6 b7 b8 b9) = false) := Lib.hid (by simp [*])
            rw [HR.out]
            clear h0 h1 h2 h3 h4
            go_simp
        · have e3 : (a3 == b3) = false := by rw [beq_eq_false_iff_ne]; exact h3
          have HR : Hid (decide (Sup.mk a0 a1 a2 a3 a4 a5 a6 a7 a8 a9 = Sup.mk b0 b1 b2 b3 b4 b5 b6 b7 b8 b9) = false) := Lib.hid (by simp [*])
          rw [HR.out]
          clear h0 h1 h2 h3
          go_simp
      · have e2 : (a2 == b2) = false := by rw [beq_eq_false_iff_ne]; exact h2
        have HR : Hid (decide (Sup.mk a0 a1 a2 a3 a4 a5 a6 a7 a8 a9 = Sup.mk b0 b1 b2 b3 b4 b5 b6 b7 b8 b9) = false) := Lib.hid (by simp [*])
        rw [HR.out]
        clear h0 h1 h2
        go_simp
    · have e1 : (a1 == b1) = false := by rw [beq_eq_false_iff_ne]; exact h1
      have HR : Hid (decide (Sup.mk a0 a1 a2 a3 a4 a5 a6 a7 a8 a9 = Sup.mk b0 b1 b2 b3 b4 b5 b6 b7 b8 b9) = false) := Lib.hid (by simp [*])
      rw [HR.out]
      clear h0 h1
      go_simp
  · have e0 : (a0 == b0) = false := by rw [beq_eq_false_iff_ne]; exact h0
    have HR : Hid (decide (Sup.mk a0 a1 a2 a3 a4 a5 a6 a7 a8 a9 = Sup.mk b0 b1 b2 b3 b4 b5 b6 b7 b8 b9) = false) := Lib.hid (by simp [*])
    rw [HR.out]
    clear h0
    go_simp

theorem run_arr_eq (a0 a1 a2 a3 a4 a5 b0 b1 b2 b3 b4 b5 : Int) (w : World) : (Op.equalIn 10000 51 (.agg #[.int .i64 a0, .int .i64 a1, .int .i64 a2, .int .i64 a3, .int .i64 a4, .int .i64 a5]) (.agg #[.int .i64 b0, .int .i64 b1, .int .i64 b2, .int .i64 b3, .int .i64 b4, .int .i64 b5])).run Try.prog w
    = .ok (decide (a0 = b0 ∧ a1 = b1 ∧ a2 = b2 ∧ a3 = b3 ∧ a4 = b4 ∧ a5 = b5)) w := by
  have h0 := Try.underlying51
  rw [show (10000 : Nat) = 9999 + 1 from rfl, Op.equalIn]
  simp only [Sem.run_bind, run_underlying h0, Result.andThen_ok, Std.Legacy.Range.forIn_eq_forIn_range', Std.Legacy.Range.size]
  go_simp
  rw [show List.range' 0 6 = [0, 1, 2, 3, 4, 5] from rfl]
  simp only [List.forIn_cons, List.forIn_nil]
  by_cases h0 : a0 = b0
  · have e0 : (a0 == b0) = true := by rw [beq_iff_eq]; exact h0
    have d0 : decide (a0 = b0) = true := decide_eq_true h0
    by_cases h1 : a1 = b1
    · have e1 : (a1 == b1) = true := by rw [beq_iff_eq]; exact h1
      have d1 : decide (a1 = b1) = true := decide_eq_true h1
      by_cases h2 : a2 = b2
      · have e2 : (a2 == b2) = true := by rw [beq_iff_eq]; exact h2
        have d2 : decide (a2 = b2) = true := decide_eq_true h2
        by_cases h3 : a3 = b3
        · have e3 : (a3 == b3) = true := by rw [beq_iff_eq]; exact h3
          have d3 : decide (a3 = b3) = true := decide_eq_true h3
          by_cases h4 : a4 = b4
          · have e4 : (a4 == b4) = true := by rw [beq_iff_eq]; exact h4
            have d4 : decide (a4 = b4) = true := decide_eq_true h4
            by_cases h5 : a5 = b5
            · have e5 : (a5 == b5) = true := by rw [beq_iff_eq]; exact h5
              have d5 : decide (a5 = b5) = true := decide_eq_true h5
              go_simp
            · have e5 : (a5 == b5) = false := by rw [beq_eq_false_iff_ne]; exact h5
              have d5 : decide (a5 = b5) = false := decide_eq_false h5
              go_simp
          · have e4 : (a4 == b4) = false := by rw [beq_eq_false_iff_ne]; exact h4
            have d4 : decide (a4 = b4) = false := decide_eq_false h4
            go_simp
        · have e3 : (a3 == b3) = false := by rw [beq_eq_false_iff_ne]; exact h3
          have d3 : decide (a3 = b3) = false := decide_eq_false h3
          go_simp
      · have e2 : (a2 == b2) = false := by rw [beq_eq_false_iff_ne]; exact h2
        have d2 : decide (a2 = b2) = false := decide_eq_false h2
        go_simp
    · have e1 : (a1 == b1) = false := by rw [beq_eq_false_iff_ne]; exact h1
      have d1 : decide (a1 = b1) = false := decide_eq_false h1
      go_simp
  · have e0 : (a0 == b0) = false := by rw [beq_eq_false_iff_ne]; exact h0
    have d0 : decide (a0 = b0) = false := decide_eq_false h0
    go_simp
end Go.Proofs.Ytonfloehobcfbaa
