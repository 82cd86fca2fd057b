/- A superblock in memory; within, numberAt, still, moving. -/
import Derived.Test.YtonfloehobcfbaaUMath
import Derived.Test.YtonfloehobcfbaaGOf
namespace Go.Proofs.Ytonfloehobcfbaa
set_option linter.unusedVariables false
open Go.RowKit

abbrev supV (s : Sup) : Value := .agg #[.int .i64 s.blocks, .int .i64 s.log, .int .i64 s.inodes, .int .i64 s.cursor, .int .i64 s.inode, .int .i64 s.logical, .int .i64 s.from_, .int .i64 s.to_, .int .i64 s.len, .int .i64 s.moved]
abbrev supC (s : Sup) : Array Value := #[.int .i64 s.blocks, .int .i64 s.log, .int .i64 s.inodes, .int .i64 s.cursor, .int .i64 s.inode, .int .i64 s.logical, .int .i64 s.from_, .int .i64 s.to_, .int .i64 s.len, .int .i64 s.moved]
/-- the superblock stands in block g -/
abbrev SupAt (g : Nat) (s : Sup) (w : World) : Prop := Blk g (supC s) 23 w
theorem SupAt.cells {g : Nat} {s : Sup} {w : World} (h : SupAt g s w) :
    w.cell? ⟨g, 0, none⟩ = some (.int .i64 s.blocks) ∧ w.cell? ⟨g, 1, none⟩ = some (.int .i64 s.log) ∧ w.cell? ⟨g, 2, none⟩ = some (.int .i64 s.inodes) ∧ w.cell? ⟨g, 3, none⟩ = some (.int .i64 s.cursor) ∧ w.cell? ⟨g, 4, none⟩ = some (.int .i64 s.inode) ∧
    w.cell? ⟨g, 5, none⟩ = some (.int .i64 s.logical) ∧ w.cell? ⟨g, 6, none⟩ = some (.int .i64 s.from_) ∧ w.cell? ⟨g, 7, none⟩ = some (.int .i64 s.to_) ∧ w.cell? ⟨g, 8, none⟩ = some (.int .i64 s.len) ∧ w.cell? ⟨g, 9, none⟩ = some (.int .i64 s.moved) :=
  ⟨h.cell 0, h.cell 1, h.cell 2, h.cell 3, h.cell 4, h.cell 5, h.cell 6, h.cell 7, h.cell 8, h.cell 9⟩
theorem SupAt.at {g : Nat} {s : Sup} {w : World} (h : SupAt g s w) (j : Nat) (hj : j < 10) : w.cell? ⟨g, j, none⟩ = some (.int .i64 (fldAt s j)) := by
  rw [h.cell j]
  match j, hj with
  | 0, _ => rfl | 1, _ => rfl | 2, _ => rfl | 3, _ => rfl | 4, _ => rfl | 5, _ => rfl | 6, _ => rfl | 7, _ => rfl | 8, _ => rfl | 9, _ => rfl

theorem uwithin_yes (n a b : Int) (h1 : a ≤ n) (h2 : n ≤ b) (w : World) :
    Calls Try.prog 25 #[.int .i64 n, .int .i64 a, .int .i64 b] w fun e w' => e = .returned (.bool true) ∧ w = w' := by
  go_enter Try.func25, Try.ntmps25
  go_wp2
  go_ret
  exact ⟨rfl, rfl⟩
theorem uwithin_no (n a b : Int) (h : n < a ∨ b < n) (w : World) :
    Calls Try.prog 25 #[.int .i64 n, .int .i64 a, .int .i64 b] w fun e w' => e = .returned (.bool false) ∧ w = w' := by
  by_cases h1 : a ≤ n
  · have h2 : b < n := by omega
    go_enter Try.func25, Try.ntmps25
    go_wp2
    go_ret
    exact ⟨ret_bool (by simp; omega), rfl⟩
  · have h2 : n < a := by omega
    go_enter Try.func25, Try.ntmps25
    go_wp2
    go_ret
    exact ⟨rfl, rfl⟩
theorem numberAt_any (i : Nat) (h : i ≤ 100000) (w : World) :
    Calls Try.prog 23 #[.int .i64 (i : Int)] w fun e w' => e = .returned (.int .i64 (8 + 4 * (i : Int))) ∧ w = w' := by
  go_enter Try.func23, Try.ntmps23
  go_wp2
  go_ret
  exact ⟨ret_int (by omega), rfl⟩

set_option maxHeartbeats 4000000 in
theorem still_any (s : Sup) (w : World) :
    Calls Try.prog 26 #[supV s] w fun e w' => e = .returned (.bool (decide (Still s))) ∧ Below w.heap.size w w' := by
  obtain ⟨b, l, i, c, n, g, f, t, k, m⟩ := s
  unfold Still
  dsimp only
  by_cases h0 : n = 0
  · have e0 : (n == 0) = true := by rw [beq_iff_eq]; exact h0
    by_cases h1 : g = 0
    · have e1 : (g == 0) = true := by rw [beq_iff_eq]; exact h1
      by_cases h2 : f = 0
      · have e2 : (f == 0) = true := by rw [beq_iff_eq]; exact h2
        by_cases h3 : t = 0
        · have e3 : (t == 0) = true := by rw [beq_iff_eq]; exact h3
          by_cases h4 : k = 0
          · have e4 : (k == 0) = true := by rw [beq_iff_eq]; exact h4
            by_cases h5 : m = 0
            · have e5 : (m == 0) = true := by rw [beq_iff_eq]; exact h5
              have HR : Hid (decide (n = 0 ∧ g = 0 ∧ f = 0 ∧ t = 0 ∧ k = 0 ∧ m = 0) = true) := Lib.hid (by simp; omega)
              rw [HR.out]
              clear HR h0 h1 h2 h3 h4 h5
              go_enter Try.func26, Try.ntmps26
              go_wp2
              go_ret
              exact ⟨rfl, balloc1 _ _⟩
            · have e5 : (m == 0) = false := by rw [beq_eq_false_iff_ne]; exact h5
              have HR : Hid (decide (n = 0 ∧ g = 0 ∧ f = 0 ∧ t = 0 ∧ k = 0 ∧ m = 0) = false) := Lib.hid (by simp; omega)
              rw [HR.out]
              clear HR h0 h1 h2 h3 h4 h5
              go_enter Try.func26, Try.ntmps26
              go_wp2
              go_ret
              exact ⟨rfl, balloc1 _ _⟩
          · have e4 : (k == 0) = false := by rw [beq_eq_false_iff_ne]; exact h4
            have HR : Hid (decide (n = 0 ∧ g = 0 ∧ f = 0 ∧ t = 0 ∧ k = 0 ∧ m = 0) = false) := Lib.hid (by simp; omega)
            rw [HR.out]
            clear HR h0 h1 h2 h3 h4
            go_enter Try.func26, Try.ntmps26
            go_wp2
            go_ret
            exact ⟨rfl, balloc1 _ _⟩
        · have e3 : (t == 0) = false := by rw [beq_eq_false_iff_ne]; exact h3
          have HR : Hid (decide (n = 0 ∧ g = 0 ∧ f = 0 ∧ t = 0 ∧ k = 0 ∧ m = 0) = false) := Lib.hid (by simp; omega)
          rw [HR.out]
          clear HR h0 h1 h2 h3
          go_enter Try.func26, Try.ntmps26
          go_wp2
          go_ret
          exact ⟨rfl, balloc1 _ _⟩
      · have e2 : (f == 0) = false := by rw [beq_eq_false_iff_ne]; exact h2
        have HR : Hid (decide (n = 0 ∧ g = 0 ∧ f = 0 ∧ t = 0 ∧ k = 0 ∧ m = 0) = false) := Lib.hid (by simp; omega)
        rw [HR.out]
        clear HR h0 h1 h2
        go_enter Try.func26, Try.ntmps26
        go_wp2
        go_ret
        exact ⟨rfl, balloc1 _ _⟩
    · have e1 : (g == 0) = false := by rw [beq_eq_false_iff_ne]; exact h1
      have HR : Hid (decide (n = 0 ∧ g = 0 ∧ f = 0 ∧ t = 0 ∧ k = 0 ∧ m = 0) = false) := Lib.hid (by simp; omega)
      rw [HR.out]
      clear HR h0 h1
      go_enter Try.func26, Try.ntmps26
      go_wp2
      go_ret
      exact ⟨rfl, balloc1 _ _⟩
  · have e0 : (n == 0) = false := by rw [beq_eq_false_iff_ne]; exact h0
    have HR : Hid (decide (n = 0 ∧ g = 0 ∧ f = 0 ∧ t = 0 ∧ k = 0 ∧ m = 0) = false) := Lib.hid (by simp; omega)
    rw [HR.out]
    clear HR h0
    go_enter Try.func26, Try.ntmps26
    go_wp2
    go_ret
    exact ⟨rfl, balloc1 _ _⟩

set_option maxHeartbeats 4000000 in
theorem moving_any (s : Sup) (hb1 : 256 ≤ s.blocks) (hb2 : s.blocks ≤ 4096) (hi1 : 8 ≤ s.inodes) (hi2 : s.inodes ≤ 512) (w : World) :
    Calls Try.prog 27 #[supV s] w fun e w' => e = .returned (.bool (decide (Moves s))) ∧ Below w.heap.size w w' := by
  obtain ⟨b, l, i, c, n, g, f, t, k, m⟩ := s
  unfold Moves
  dsimp only at *
  have hb := balloc1 w (.cells #[.int .i64 b, .int .i64 l, .int .i64 i, .int .i64 c, .int .i64 n, .int .i64 g, .int .i64 f, .int .i64 t, .int .i64 k, .int .i64 m] 23)
  by_cases h0 : 2 ≤ k ∧ k ≤ b
  · skip
    by_cases h1 : 1 ≤ m ∧ m ≤ (k - 1)
    · skip
      by_cases h2 : 0 ≤ n ∧ n ≤ (i - 1)
      · skip
        by_cases h3 : 0 ≤ g ∧ g ≤ (2048 - k)
        · skip
          by_cases h4 : 0 ≤ f ∧ f ≤ (b - k)
          · skip
            by_cases h5 : 0 ≤ t ∧ t ≤ (b - k)
            · skip
              have HR : Hid (decide (2 ≤ k ∧ k ≤ b ∧ 1 ≤ m ∧ m < k ∧ 0 ≤ n ∧ n < i ∧ 0 ≤ g ∧ g + k ≤ 2048 ∧ 0 ≤ f ∧ f + k ≤ b ∧ 0 ≤ t ∧ t + k ≤ b) = true) := Lib.hid (by simp; omega)
              have W0 := Lib.hid (uwithin_yes k 2 b h0.1 h0.2)
              have W1 := Lib.hid (uwithin_yes m 1 (k - 1) h1.1 h1.2)
              have W2 := Lib.hid (uwithin_yes n 0 (i - 1) h2.1 h2.2)
              have W3 := Lib.hid (uwithin_yes g 0 (2048 - k) h3.1 h3.2)
              have W4 := Lib.hid (uwithin_yes f 0 (b - k) h4.1 h4.2)
              have W5 := Lib.hid (uwithin_yes t 0 (b - k) h5.1 h5.2)
              obtain ⟨h0a, h0b⟩ := h0
              rw [HR.out]
              clear HR h1 h2 h3 h4 h5
              go_enter Try.func27, Try.ntmps27
              go_wp2_with fail
              refine (W0.out _).mono ?_; rintro e w' ⟨rfl, rfl⟩
              go_wp2_with fail
              refine (W1.out _).mono ?_; rintro e w' ⟨rfl, rfl⟩
              go_wp2_with fail
              refine (W2.out _).mono ?_; rintro e w' ⟨rfl, rfl⟩
              go_wp2_with fail
              refine (W3.out _).mono ?_; rintro e w' ⟨rfl, rfl⟩
              go_wp2_with fail
              refine (W4.out _).mono ?_; rintro e w' ⟨rfl, rfl⟩
              go_wp2_with fail
              refine (W5.out _).mono ?_; rintro e w' ⟨rfl, rfl⟩
              go_wp2
              go_ret
              exact ⟨rfl, hb⟩
            · skip
              have HR : Hid (decide (2 ≤ k ∧ k ≤ b ∧ 1 ≤ m ∧ m < k ∧ 0 ≤ n ∧ n < i ∧ 0 ≤ g ∧ g + k ≤ 2048 ∧ 0 ≤ f ∧ f + k ≤ b ∧ 0 ≤ t ∧ t + k ≤ b) = false) := Lib.hid (by simp; omega)
              have W0 := Lib.hid (uwithin_yes k 2 b h0.1 h0.2)
              have W1 := Lib.hid (uwithin_yes m 1 (k - 1) h1.1 h1.2)
              have W2 := Lib.hid (uwithin_yes n 0 (i - 1) h2.1 h2.2)
              have W3 := Lib.hid (uwithin_yes g 0 (2048 - k) h3.1 h3.2)
              have W4 := Lib.hid (uwithin_yes f 0 (b - k) h4.1 h4.2)
              have W5 := Lib.hid (uwithin_no t 0 (b - k) (by omega))
              obtain ⟨h0a, h0b⟩ := h0
              rw [HR.out]
              clear HR h1 h2 h3 h4 h5
              go_enter Try.func27, Try.ntmps27
              go_wp2_with fail
              refine (W0.out _).mono ?_; rintro e w' ⟨rfl, rfl⟩
              go_wp2_with fail
              refine (W1.out _).mono ?_; rintro e w' ⟨rfl, rfl⟩
              go_wp2_with fail
              refine (W2.out _).mono ?_; rintro e w' ⟨rfl, rfl⟩
              go_wp2_with fail
              refine (W3.out _).mono ?_; rintro e w' ⟨rfl, rfl⟩
              go_wp2_with fail
              refine (W4.out _).mono ?_; rintro e w' ⟨rfl, rfl⟩
              go_wp2_with fail
              refine (W5.out _).mono ?_; rintro e w' ⟨rfl, rfl⟩
              go_wp2
              go_ret
              exact ⟨rfl, hb⟩
          · skip
            have HR : Hid (decide (2 ≤ k ∧ k ≤ b ∧ 1 ≤ m ∧ m < k ∧ 0 ≤ n ∧ n < i ∧ 0 ≤ g ∧ g + k ≤ 2048 ∧ 0 ≤ f ∧ f + k ≤ b ∧ 0 ≤ t ∧ t + k ≤ b) = false) := Lib.hid (by simp; omega)
            have W0 := Lib.hid (uwithin_yes k 2 b h0.1 h0.2)
            have W1 := Lib.hid (uwithin_yes m 1 (k - 1) h1.1 h1.2)
            have W2 := Lib.hid (uwithin_yes n 0 (i - 1) h2.1 h2.2)
            have W3 := Lib.hid (uwithin_yes g 0 (2048 - k) h3.1 h3.2)
            have W4 := Lib.hid (uwithin_no f 0 (b - k) (by omega))
            obtain ⟨h0a, h0b⟩ := h0
            rw [HR.out]
            clear HR h1 h2 h3 h4
            go_enter Try.func27, Try.ntmps27
            go_wp2_with fail
            refine (W0.out _).mono ?_; rintro e w' ⟨rfl, rfl⟩
            go_wp2_with fail
            refine (W1.out _).mono ?_; rintro e w' ⟨rfl, rfl⟩
            go_wp2_with fail
            refine (W2.out _).mono ?_; rintro e w' ⟨rfl, rfl⟩
            go_wp2_with fail
            refine (W3.out _).mono ?_; rintro e w' ⟨rfl, rfl⟩
            go_wp2_with fail
            refine (W4.out _).mono ?_; rintro e w' ⟨rfl, rfl⟩
            go_wp2
            go_ret
            exact ⟨rfl, hb⟩
        · skip
          have HR : Hid (decide (2 ≤ k ∧ k ≤ b ∧ 1 ≤ m ∧ m < k ∧ 0 ≤ n ∧ n < i ∧ 0 ≤ g ∧ g + k ≤ 2048 ∧ 0 ≤ f ∧ f + k ≤ b ∧ 0 ≤ t ∧ t + k ≤ b) = false) := Lib.hid (by simp; omega)
          have W0 := Lib.hid (uwithin_yes k 2 b h0.1 h0.2)
          have W1 := Lib.hid (uwithin_yes m 1 (k - 1) h1.1 h1.2)
          have W2 := Lib.hid (uwithin_yes n 0 (i - 1) h2.1 h2.2)
          have W3 := Lib.hid (uwithin_no g 0 (2048 - k) (by omega))
          obtain ⟨h0a, h0b⟩ := h0
          rw [HR.out]
          clear HR h1 h2 h3
          go_enter Try.func27, Try.ntmps27
          go_wp2_with fail
          refine (W0.out _).mono ?_; rintro e w' ⟨rfl, rfl⟩
          go_wp2_with fail
          refine (W1.out _).mono ?_; rintro e w' ⟨rfl, rfl⟩
          go_wp2_with fail
          refine (W2.out _).mono ?_; rintro e w' ⟨rfl, rfl⟩
          go_wp2_with fail
          refine (W3.out _).mono ?_; rintro e w' ⟨rfl, rfl⟩
          go_wp2
          go_ret
          exact ⟨rfl, hb⟩
      · skip
        have HR : Hid (decide (2 ≤ k ∧ k ≤ b ∧ 1 ≤ m ∧ m < k ∧ 0 ≤ n ∧ n < i ∧ 0 ≤ g ∧ g + k ≤ 2048 ∧ 0 ≤ f ∧ f + k ≤ b ∧ 0 ≤ t ∧ t + k ≤ b) = false) := Lib.hid (by simp; omega)
        have W0 := Lib.hid (uwithin_yes k 2 b h0.1 h0.2)
        have W1 := Lib.hid (uwithin_yes m 1 (k - 1) h1.1 h1.2)
        have W2 := Lib.hid (uwithin_no n 0 (i - 1) (by omega))
        obtain ⟨h0a, h0b⟩ := h0
        rw [HR.out]
        clear HR h1 h2
        go_enter Try.func27, Try.ntmps27
        go_wp2_with fail
        refine (W0.out _).mono ?_; rintro e w' ⟨rfl, rfl⟩
        go_wp2_with fail
        refine (W1.out _).mono ?_; rintro e w' ⟨rfl, rfl⟩
        go_wp2_with fail
        refine (W2.out _).mono ?_; rintro e w' ⟨rfl, rfl⟩
        go_wp2
        go_ret
        exact ⟨rfl, hb⟩
    · skip
      have HR : Hid (decide (2 ≤ k ∧ k ≤ b ∧ 1 ≤ m ∧ m < k ∧ 0 ≤ n ∧ n < i ∧ 0 ≤ g ∧ g + k ≤ 2048 ∧ 0 ≤ f ∧ f + k ≤ b ∧ 0 ≤ t ∧ t + k ≤ b) = false) := Lib.hid (by simp; omega)
      have W0 := Lib.hid (uwithin_yes k 2 b h0.1 h0.2)
      have W1 := Lib.hid (uwithin_no m 1 (k - 1) (by omega))
      obtain ⟨h0a, h0b⟩ := h0
      rw [HR.out]
      clear HR h1
      go_enter Try.func27, Try.ntmps27
      go_wp2_with fail
      refine (W0.out _).mono ?_; rintro e w' ⟨rfl, rfl⟩
      go_wp2_with fail
      refine (W1.out _).mono ?_; rintro e w' ⟨rfl, rfl⟩
      go_wp2
      go_ret
      exact ⟨rfl, hb⟩
  · skip
    have HR : Hid (decide (2 ≤ k ∧ k ≤ b ∧ 1 ≤ m ∧ m < k ∧ 0 ≤ n ∧ n < i ∧ 0 ≤ g ∧ g + k ≤ 2048 ∧ 0 ≤ f ∧ f + k ≤ b ∧ 0 ≤ t ∧ t + k ≤ b) = false) := Lib.hid (by simp; omega)
    have W0 := Lib.hid (uwithin_no k 2 b (by omega))
    rw [HR.out]
    clear HR h0
    go_enter Try.func27, Try.ntmps27
    go_wp2_with fail
    refine (W0.out _).mono ?_; rintro e w' ⟨rfl, rfl⟩
    go_wp2
    go_ret
    exact ⟨rfl, hb⟩
end Go.Proofs.Ytonfloehobcfbaa
