/- Check, the program's and the document's. -/
import Derived.Test.YtonfloehobcfbaaUNum
import Derived.Test.YtonfloehobcfbaaGRef2
import Derived.Deep.CutBlock
import Derived.Deep.DeepCutAuto
namespace Go.Proofs.Ytonfloehobcfbaa
set_option linter.unusedVariables false
open Go.RowKit

def Yes (b : Bool) (P : Prop) : Prop := b = true ↔ P
def EqB (a b : Bool) : Prop := a = b
theorem supOk_no1 {s : Sup} (h : ¬ okG s.blocks s.log s.inodes) : decide (SupOk s) = false := decide_eq_false fun k => h k.1
theorem supOk_no2 {s : Sup} (h : ¬ (0 ≤ s.cursor ∧ s.cursor ≤ s.blocks)) : decide (SupOk s) = false := decide_eq_false fun k => h k.2.1
theorem supOk_of {s : Sup} (h1 : okG s.blocks s.log s.inodes) (h2 : 0 ≤ s.cursor ∧ s.cursor ≤ s.blocks) : decide (SupOk s) = (decide (Still s) || decide (Moves s)) := by
  unfold SupOk; rw [← Bool.decide_or]; simp [h1, h2]
set_option maxHeartbeats 4000000 in
theorem check_any (s : Sup) (w : World) :
    Calls Try.prog 12 #[supV s] w fun e w' => e = .returned (.bool (decide (SupOk s))) ∧ Below w.heap.size w w' := by
  have ST := fun w => still_any s w
  by_cases hg : okG s.blocks s.log s.inodes
  · have MO := fun w => moving_any s hg.1 hg.2.1 hg.2.2.2.2.1 hg.2.2.2.2.2.1 w
    by_cases hc : 0 ≤ s.cursor ∧ s.cursor ≤ s.blocks
    · have HR := Lib.hid (supOk_of hg hc)
      have WI := Lib.hid (fun w => uwithin_yes s.cursor 0 s.blocks hc.1 hc.2 w)
      obtain ⟨b', l', i', m', t', e1, e2, e3, hok⟩ := okG_yes hg
      have OF := fun w => of_yes b' l' i' m' t' hok w
      rw [← e1, ← e2, ← e3] at OF
      have OF := Lib.hid OF
      rw [HR.out]
      have hS0 : SupAt w.heap.size s (w.alloc (.cells (supC s) 23)) := Blk.new _ _ _
      have hB0 := balloc1 w (.cells (supC s) 23)
      generalize decide (Still s) = st at *
      generalize decide (Moves s) = mo at *
      have ST := Lib.hid ST
      have MO := Lib.hid MO
      obtain ⟨b, l, i, c, n, g, f, t, k, m⟩ := s
      dsimp only at *
      clear hg hc hok HR e1 e2 e3
      go_enter Try.func12, Try.ntmps12
      go_wp2_with fail
      refine (OF.out _).mono ?_; rintro e w1 ⟨rfl, b1⟩
      have hS1 := (hS0.kept1 b1).kept1 (balloc1 _ (.cells (cellsG (b' : Int) (l' : Int) (i' : Int) 1 (1 + (l' : Int)) (m' : Int) (1 + (l' : Int) + (m' : Int)) (t' : Int) (1 + (l' : Int) + (m' : Int) + (t' : Int))) 47))
      have hB1 := balloc (bnext hB0 b1) (.cells (cellsG (b' : Int) (l' : Int) (i' : Int) 1 (1 + (l' : Int)) (m' : Int) (1 + (l' : Int) + (m' : Int)) (t' : Int) (1 + (l' : Int) + (m' : Int) + (t' : Int))) 47)
      obtain ⟨c0, c1, c2, c3, c4, c5, c6, c7, c8, c9⟩ := SupAt.cells (hS0.kept1 b1)
      obtain ⟨d0, d1, d2, d3, d4, d5, d6, d7, d8, d9⟩ := SupAt.cells hS1
      have HS1 := Lib.hid hS1
      clear hS0 hB0 b1 hS1
      go_wp2_with fail
      refine (WI.out _).mono ?_; rintro e w2 ⟨rfl, rfl⟩
      go_wp2_with fail
      refine (ST.out _).mono ?_; rintro e w2 ⟨rfl, b2⟩
      cases st with
      | true =>
        go_wp2
        go_ret
        exact ⟨rfl, bnext hB1 b2⟩
      | false =>
        have hB2 := bnext hB1 b2
        obtain ⟨y0, y1, y2, y3, y4, y5, y6, y7, y8, y9⟩ := SupAt.cells (HS1.out.kept1 b2)
        go_wp2_with fail
        refine (MO.out _).mono ?_; rintro e w3 ⟨rfl, b3⟩
        go_wp2
        go_ret
        exact ⟨rfl, bnext hB2 b3⟩
    · have HR := Lib.hid (supOk_no2 hc)
      have WI := Lib.hid (fun w => uwithin_no s.cursor 0 s.blocks (by omega) w)
      obtain ⟨b', l', i', m', t', e1, e2, e3, hok⟩ := okG_yes hg
      have OF := fun w => of_yes b' l' i' m' t' hok w
      rw [← e1, ← e2, ← e3] at OF
      have OF := Lib.hid OF
      rw [HR.out]
      have hS0 : SupAt w.heap.size s (w.alloc (.cells (supC s) 23)) := Blk.new _ _ _
      have hB0 := balloc1 w (.cells (supC s) 23)
      obtain ⟨b, l, i, c, n, g, f, t, k, m⟩ := s
      dsimp only at *
      clear hg hc hok HR e1 e2 e3 ST MO
      go_enter Try.func12, Try.ntmps12
      go_wp2_with fail
      refine (OF.out _).mono ?_; rintro e w1 ⟨rfl, b1⟩
      have hB1 := balloc (bnext hB0 b1) (.cells (cellsG (b' : Int) (l' : Int) (i' : Int) 1 (1 + (l' : Int)) (m' : Int) (1 + (l' : Int) + (m' : Int)) (t' : Int) (1 + (l' : Int) + (m' : Int) + (t' : Int))) 47)
      obtain ⟨d0, d1, d2, d3, d4, d5, d6, d7, d8, d9⟩ := SupAt.cells ((hS0.kept1 b1).kept1 (balloc1 _ (.cells (cellsG (b' : Int) (l' : Int) (i' : Int) 1 (1 + (l' : Int)) (m' : Int) (1 + (l' : Int) + (m' : Int)) (t' : Int) (1 + (l' : Int) + (m' : Int) + (t' : Int))) 47)))
      clear hS0 hB0 b1
      go_wp2_with fail
      refine (WI.out _).mono ?_; rintro e w2 ⟨rfl, rfl⟩
      go_wp2
      go_ret
      exact ⟨rfl, hB1⟩
  · have HR := Lib.hid (supOk_no1 hg)
    have OF := Lib.hid (fun w => of_off s.blocks s.log s.inodes hg w)
    rw [HR.out]
    have hB0 := balloc1 w (.cells (supC s) 23)
    obtain ⟨b, l, i, c, n, g, f, t, k, m⟩ := s
    dsimp only at *
    clear hg HR ST
    go_enter Try.func12, Try.ntmps12
    go_wp2_with fail
    refine (OF.out _).mono ?_; rintro e w1 ⟨rfl, b1⟩
    go_wp2
    go_ret
    exact ⟨rfl, balloc (bnext hB0 b1) _⟩

set_option maxRecDepth 100000 in
set_option maxHeartbeats 8000000 in
theorem rcheck_any (s : Sup) (w : World) :
    Calls Try.prog 13 #[supV s] w fun e w' => e = .returned (.bool (decide (SupOk s))) ∧ Below w.heap.size w w' := by
  by_cases hg : okG s.blocks s.log s.inodes
  · obtain ⟨b', l', i', m', t', e1, e2, e3, hok⟩ := okG_yes hg
    have OF := fun w => rof_yes b' l' i' m' t' hok w
    rw [← e1, ← e2, ← e3] at OF
    have OF := Lib.hid OF
    have hS0 : SupAt w.heap.size s (w.alloc (.cells (supC s) 23)) := Blk.new _ _ _
    have hB0 := balloc1 w (.cells (supC s) 23)
    by_cases hc1 : s.cursor < 0
    · have HR := Lib.hid (supOk_no2 (s := s) (by omega))
      rw [HR.out]
      obtain ⟨b, l, i, c, n, g, f, t, k, m⟩ := s
      dsimp only at *
      clear hg hok HR e1 e2 e3
      go_enter Try.func13, Try.ntmps13
      go_wp2_with fail
      refine (OF.out _).mono ?_; rintro e w1 ⟨rfl, b1⟩
      have hB1 := balloc (bnext hB0 b1) (.cells (cellsG (b' : Int) (l' : Int) (i' : Int) 1 (1 + (l' : Int)) (m' : Int) (1 + (l' : Int) + (m' : Int)) (t' : Int) (1 + (l' : Int) + (m' : Int) + (t' : Int))) 47)
      obtain ⟨d0, d1, d2, d3, d4, d5, d6, d7, d8, d9⟩ := SupAt.cells ((hS0.kept1 b1).kept1 (balloc1 _ (.cells (cellsG (b' : Int) (l' : Int) (i' : Int) 1 (1 + (l' : Int)) (m' : Int) (1 + (l' : Int) + (m' : Int)) (t' : Int) (1 + (l' : Int) + (m' : Int) + (t' : Int))) 47)))
      clear hS0 hB0 b1
      go_wp2
      go_ret
      exact ⟨rfl, hB1⟩
    by_cases hc2 : s.blocks < s.cursor
    · have HR := Lib.hid (supOk_no2 (s := s) (by omega))
      rw [HR.out]
      obtain ⟨b, l, i, c, n, g, f, t, k, m⟩ := s
      dsimp only at *
      clear hg hok HR e1 e2 e3
      go_enter Try.func13, Try.ntmps13
      go_wp2_with fail
      refine (OF.out _).mono ?_; rintro e w1 ⟨rfl, b1⟩
      have hB1 := balloc (bnext hB0 b1) (.cells (cellsG (b' : Int) (l' : Int) (i' : Int) 1 (1 + (l' : Int)) (m' : Int) (1 + (l' : Int) + (m' : Int)) (t' : Int) (1 + (l' : Int) + (m' : Int) + (t' : Int))) 47)
      obtain ⟨d0, d1, d2, d3, d4, d5, d6, d7, d8, d9⟩ := SupAt.cells ((hS0.kept1 b1).kept1 (balloc1 _ (.cells (cellsG (b' : Int) (l' : Int) (i' : Int) 1 (1 + (l' : Int)) (m' : Int) (1 + (l' : Int) + (m' : Int)) (t' : Int) (1 + (l' : Int) + (m' : Int) + (t' : Int))) 47)))
      clear hS0 hB0 b1
      go_wp2
      go_ret
      exact ⟨rfl, hB1⟩
    have HR := Lib.hid (supOk_of hg (by omega))
    rw [HR.out]
    unfold Still Moves
    obtain ⟨R, HRR⟩ : ∃ R, EqB (decide (s.inode = 0 ∧ s.logical = 0 ∧ s.from_ = 0 ∧ s.to_ = 0 ∧ s.len = 0 ∧ s.moved = 0) || decide (2 ≤ s.len ∧ s.len ≤ s.blocks ∧ 1 ≤ s.moved ∧ s.moved < s.len ∧ 0 ≤ s.inode ∧ s.inode < s.inodes ∧ 0 ≤ s.logical ∧ s.logical + s.len ≤ 2048 ∧ 0 ≤ s.from_ ∧ s.from_ + s.len ≤ s.blocks ∧ 0 ≤ s.to_ ∧ s.to_ + s.len ≤ s.blocks)) R := ⟨_, rfl⟩
    rw [show _ = R from HRR]
    obtain ⟨b, l, i, c, n, g, f, t, k, m⟩ := s
    dsimp only at *
    have hb1 : 256 ≤ b := hg.1
    have hb2 : b ≤ 4096 := hg.2.1
    have hi1 : 8 ≤ i := hg.2.2.2.2.1
    have hi2 : i ≤ 512 := hg.2.2.2.2.2.1
    clear hg hok HR e1 e2 e3
    go_enter Try.func13, Try.ntmps13
    go_wp2_with fail
    refine (OF.out _).mono ?_; rintro e w1 ⟨rfl, b1⟩
    have hB1 := balloc (bnext hB0 b1) (.cells (cellsG (b' : Int) (l' : Int) (i' : Int) 1 (1 + (l' : Int)) (m' : Int) (1 + (l' : Int) + (m' : Int)) (t' : Int) (1 + (l' : Int) + (m' : Int) + (t' : Int))) 47)
    have hS1 := (hS0.kept1 b1).kept1 (balloc1 _ (.cells (cellsG (b' : Int) (l' : Int) (i' : Int) 1 (1 + (l' : Int)) (m' : Int) (1 + (l' : Int) + (m' : Int)) (t' : Int) (1 + (l' : Int) + (m' : Int) + (t' : Int))) 47))
    obtain ⟨d0, d1, d2, d3, d4, d5, d6, d7, d8, d9⟩ := SupAt.cells hS1
    have HB1 := Lib.hid hB1
    have HS1 := Lib.hid hS1
    clear hS0 hB0 b1 hB1 hS1
    go_upto_region 4 with fail
    go_cut [56] (fun q wx => ∃ β : Bool, q = .bool β ∧ Yes β (n = 0 ∧ g = 0 ∧ f = 0 ∧ t = 0 ∧ k = 0 ∧ m = 0) ∧ SupAt w.heap.size ⟨b, l, i, c, n, g, f, t, k, m⟩ wx ∧ Below w.heap.size w wx)
    case first =>
      by_cases h0 : n = 0
      · have e0 : (n == 0) = true := by rw [beq_iff_eq]; exact h0
        by_cases h1 : g = 0
        · have e1 : (g == 0) = true := by rw [beq_iff_eq]; exact h1
          by_cases h2 : f = 0
          · have e2 : (f == 0) = true := by rw [beq_iff_eq]; exact h2
            by_cases h3 : t = 0
            · have e3 : (t == 0) = true := by rw [beq_iff_eq]; exact h3
              by_cases h4 : k = 0
              · have e4 : (k == 0) = true := by rw [beq_iff_eq]; exact h4
                by_cases h5 : m = 0
                · have e5 : (m == 0) = true := by rw [beq_iff_eq]; exact h5
                  have HQ : Yes true (n = 0 ∧ g = 0 ∧ f = 0 ∧ t = 0 ∧ k = 0 ∧ m = 0) := by unfold Yes; simp; omega
                  clear h0 h1 h2 h3 h4 h5
                  go_wp2
                  go_meet
                  case rel => exact ⟨true, rfl, HQ, HS1.out, HB1.out⟩
                · have e5 : (m == 0) = false := by rw [beq_eq_false_iff_ne]; exact h5
                  have HQ : Yes false (n = 0 ∧ g = 0 ∧ f = 0 ∧ t = 0 ∧ k = 0 ∧ m = 0) := by unfold Yes; simp; omega
                  clear h0 h1 h2 h3 h4 h5
                  go_wp2
                  go_meet
                  case rel => exact ⟨false, rfl, HQ, HS1.out, HB1.out⟩
              · have e4 : (k == 0) = false := by rw [beq_eq_false_iff_ne]; exact h4
                have HQ : Yes false (n = 0 ∧ g = 0 ∧ f = 0 ∧ t = 0 ∧ k = 0 ∧ m = 0) := by unfold Yes; simp; omega
                clear h0 h1 h2 h3 h4
                go_wp2
                go_meet
                case rel => exact ⟨false, rfl, HQ, HS1.out, HB1.out⟩
            · have e3 : (t == 0) = false := by rw [beq_eq_false_iff_ne]; exact h3
              have HQ : Yes false (n = 0 ∧ g = 0 ∧ f = 0 ∧ t = 0 ∧ k = 0 ∧ m = 0) := by unfold Yes; simp; omega
              clear h0 h1 h2 h3
              go_wp2
              go_meet
              case rel => exact ⟨false, rfl, HQ, HS1.out, HB1.out⟩
          · have e2 : (f == 0) = false := by rw [beq_eq_false_iff_ne]; exact h2
            have HQ : Yes false (n = 0 ∧ g = 0 ∧ f = 0 ∧ t = 0 ∧ k = 0 ∧ m = 0) := by unfold Yes; simp; omega
            clear h0 h1 h2
            go_wp2
            go_meet
            case rel => exact ⟨false, rfl, HQ, HS1.out, HB1.out⟩
        · have e1 : (g == 0) = false := by rw [beq_eq_false_iff_ne]; exact h1
          have HQ : Yes false (n = 0 ∧ g = 0 ∧ f = 0 ∧ t = 0 ∧ k = 0 ∧ m = 0) := by unfold Yes; simp; omega
          clear h0 h1
          go_wp2
          go_meet
          case rel => exact ⟨false, rfl, HQ, HS1.out, HB1.out⟩
      · have e0 : (n == 0) = false := by rw [beq_eq_false_iff_ne]; exact h0
        have HQ : Yes false (n = 0 ∧ g = 0 ∧ f = 0 ∧ t = 0 ∧ k = 0 ∧ m = 0) := by unfold Yes; simp; omega
        clear h0
        go_wp2
        go_meet
        case rel => exact ⟨false, rfl, HQ, HS1.out, HB1.out⟩
    case rest =>
      obtain ⟨β, rfl, hβ, hS2, hB2⟩ := hcut
      obtain ⟨c0, c1, c2, c3, c4, c5, c6, c7, c8, c9⟩ := SupAt.cells hS2
      cases β with
      | true =>
        have hst := hβ.1 rfl
        have HR : EqB (decide (n = 0 ∧ g = 0 ∧ f = 0 ∧ t = 0 ∧ k = 0 ∧ m = 0) || decide (2 ≤ k ∧ k ≤ b ∧ 1 ≤ m ∧ m < k ∧ 0 ≤ n ∧ n < i ∧ 0 ≤ g ∧ g + k ≤ 2048 ∧ 0 ≤ f ∧ f + k ≤ b ∧ 0 ≤ t ∧ t + k ≤ b)) true := (by unfold EqB; rw [decide_eq_true hst]; rfl)
        clear hβ hst d0 d1 d2 d3 d4 d5 d6 d7 d8 d9
        go_wp2
        go_ret
        exact ⟨ret_bool ((Eq.symm (show _ = _ from HR)).trans HRR), hB2⟩
      | false =>
        have hst : ¬ (n = 0 ∧ g = 0 ∧ f = 0 ∧ t = 0 ∧ k = 0 ∧ m = 0) := fun h => by have := hβ.2 h; cases this
        have HRS : EqB (decide (n = 0 ∧ g = 0 ∧ f = 0 ∧ t = 0 ∧ k = 0 ∧ m = 0) || decide (2 ≤ k ∧ k ≤ b ∧ 1 ≤ m ∧ m < k ∧ 0 ≤ n ∧ n < i ∧ 0 ≤ g ∧ g + k ≤ 2048 ∧ 0 ≤ f ∧ f + k ≤ b ∧ 0 ≤ t ∧ t + k ≤ b)) (decide (2 ≤ k ∧ k ≤ b ∧ 1 ≤ m ∧ m < k ∧ 0 ≤ n ∧ n < i ∧ 0 ≤ g ∧ g + k ≤ 2048 ∧ 0 ≤ f ∧ f + k ≤ b ∧ 0 ≤ t ∧ t + k ≤ b)) := (by unfold EqB; rw [decide_eq_false hst]; rfl)
        have HS2 := Lib.hid hS2
        have HB2 := Lib.hid hB2
        clear hβ hst HS1 HB1 hS2 hB2 d0 d1 d2 d3 d4 d5 d6 d7 d8 d9
        go_upto_region 6 with fail
        go_cut [90] (fun q wx => ∃ β : Bool, q = .bool β ∧ Yes β (¬ (2 ≤ k ∧ k ≤ b ∧ 1 ≤ m ∧ m < k ∧ 0 ≤ n ∧ n < i)) ∧ SupAt w.heap.size ⟨b, l, i, c, n, g, f, t, k, m⟩ wx ∧ Below w.heap.size w wx)
        case first =>
          by_cases h0 : k < 2
          · have q0 : decide (k < 2) = true := decide_eq_true h0
            have HQ : Yes true (¬ (2 ≤ k ∧ k ≤ b ∧ 1 ≤ m ∧ m < k ∧ 0 ≤ n ∧ n < i)) := by unfold Yes; simp; omega
            go_wp2
            go_meet
            case rel => exact ⟨true, rfl, HQ, HS2.out, HB2.out⟩
          have q0 : decide (k < 2) = false := decide_eq_false h0
          by_cases h1 : b < k
          · have q1 : decide (b < k) = true := decide_eq_true h1
            have HQ : Yes true (¬ (2 ≤ k ∧ k ≤ b ∧ 1 ≤ m ∧ m < k ∧ 0 ≤ n ∧ n < i)) := by unfold Yes; simp; omega
            go_wp2
            go_meet
            case rel => exact ⟨true, rfl, HQ, HS2.out, HB2.out⟩
          have q1 : decide (b < k) = false := decide_eq_false h1
          by_cases h2 : m < 1
          · have q2 : decide (m < 1) = true := decide_eq_true h2
            have HQ : Yes true (¬ (2 ≤ k ∧ k ≤ b ∧ 1 ≤ m ∧ m < k ∧ 0 ≤ n ∧ n < i)) := by unfold Yes; simp; omega
            go_wp2
            go_meet
            case rel => exact ⟨true, rfl, HQ, HS2.out, HB2.out⟩
          have q2 : decide (m < 1) = false := decide_eq_false h2
          by_cases h3 : k ≤ m
          · have q3 : decide (k ≤ m) = true := decide_eq_true h3
            have HQ : Yes true (¬ (2 ≤ k ∧ k ≤ b ∧ 1 ≤ m ∧ m < k ∧ 0 ≤ n ∧ n < i)) := by unfold Yes; simp; omega
            go_wp2
            go_meet
            case rel => exact ⟨true, rfl, HQ, HS2.out, HB2.out⟩
          have q3 : decide (k ≤ m) = false := decide_eq_false h3
          by_cases h4 : n < 0
          · have q4 : decide (n < 0) = true := decide_eq_true h4
            have HQ : Yes true (¬ (2 ≤ k ∧ k ≤ b ∧ 1 ≤ m ∧ m < k ∧ 0 ≤ n ∧ n < i)) := by unfold Yes; simp; omega
            go_wp2
            go_meet
            case rel => exact ⟨true, rfl, HQ, HS2.out, HB2.out⟩
          have q4 : decide (n < 0) = false := decide_eq_false h4
          by_cases h5 : i ≤ n
          · have q5 : decide (i ≤ n) = true := decide_eq_true h5
            have HQ : Yes true (¬ (2 ≤ k ∧ k ≤ b ∧ 1 ≤ m ∧ m < k ∧ 0 ≤ n ∧ n < i)) := by unfold Yes; simp; omega
            go_wp2
            go_meet
            case rel => exact ⟨true, rfl, HQ, HS2.out, HB2.out⟩
          have q5 : decide (i ≤ n) = false := decide_eq_false h5
          have HQ : Yes false (¬ (2 ≤ k ∧ k ≤ b ∧ 1 ≤ m ∧ m < k ∧ 0 ≤ n ∧ n < i)) := by unfold Yes; simp; omega
          go_wp2
          go_meet
          case rel => exact ⟨false, rfl, HQ, HS2.out, HB2.out⟩
        case rest =>
          obtain ⟨β, rfl, hβ, hS3, hB3⟩ := hcut
          obtain ⟨d0, d1, d2, d3, d4, d5, d6, d7, d8, d9⟩ := SupAt.cells hS3
          cases β with
          | true =>
            have hno := hβ.1 rfl
            have HR : EqB (decide (2 ≤ k ∧ k ≤ b ∧ 1 ≤ m ∧ m < k ∧ 0 ≤ n ∧ n < i ∧ 0 ≤ g ∧ g + k ≤ 2048 ∧ 0 ≤ f ∧ f + k ≤ b ∧ 0 ≤ t ∧ t + k ≤ b)) false := (decide_eq_false (by omega))
            clear hβ hno HS2 HB2 c0 c1 c2 c3 c4 c5 c6 c7 c8 c9
            go_wp2
            go_ret
            exact ⟨ret_bool ((Eq.symm (show _ = _ from HR)).trans ((Eq.symm (show _ = _ from HRS)).trans HRR)), hB3⟩
          | false =>
            have hno : (2 ≤ k ∧ k ≤ b ∧ 1 ≤ m ∧ m < k ∧ 0 ≤ n ∧ n < i) := Classical.byContradiction fun h => by have := hβ.2 h; cases this
            obtain ⟨k1, k2, k3, k4, k5, k6⟩ := hno
            clear hβ HS2 HB2 c0 c1 c2 c3 c4 c5 c6 c7 c8 c9 hS3
            by_cases h0 : 0 ≤ g
            · have q0 : decide (0 ≤ g) = true := decide_eq_true h0
              by_cases h1 : g ≤ 2048 - k
              · have q1 : decide (g ≤ 2048 - k) = true := decide_eq_true h1
                by_cases h2 : 0 ≤ f
                · have q2 : decide (0 ≤ f) = true := decide_eq_true h2
                  by_cases h3 : f ≤ b - k
                  · have q3 : decide (f ≤ b - k) = true := decide_eq_true h3
                    by_cases h4 : 0 ≤ t
                    · have q4 : decide (0 ≤ t) = true := decide_eq_true h4
                      by_cases h5 : t ≤ b - k
                      · have q5 : decide (t ≤ b - k) = true := decide_eq_true h5
                        have HR : EqB (decide (2 ≤ k ∧ k ≤ b ∧ 1 ≤ m ∧ m < k ∧ 0 ≤ n ∧ n < i ∧ 0 ≤ g ∧ g + k ≤ 2048 ∧ 0 ≤ f ∧ f + k ≤ b ∧ 0 ≤ t ∧ t + k ≤ b)) true := (decide_eq_true (by omega))
                        go_wp2
                        go_ret
                        exact ⟨ret_bool ((Eq.symm (show _ = _ from HR)).trans ((Eq.symm (show _ = _ from HRS)).trans HRR)), hB3⟩
                      · have q5 : decide (t ≤ b - k) = false := decide_eq_false h5
                        have HR : EqB (decide (2 ≤ k ∧ k ≤ b ∧ 1 ≤ m ∧ m < k ∧ 0 ≤ n ∧ n < i ∧ 0 ≤ g ∧ g + k ≤ 2048 ∧ 0 ≤ f ∧ f + k ≤ b ∧ 0 ≤ t ∧ t + k ≤ b)) false := (decide_eq_false (by omega))
                        go_wp2
                        go_ret
                        exact ⟨ret_bool ((Eq.symm (show _ = _ from HR)).trans ((Eq.symm (show _ = _ from HRS)).trans HRR)), hB3⟩
                    · have q4 : decide (0 ≤ t) = false := decide_eq_false h4
                      have HR : EqB (decide (2 ≤ k ∧ k ≤ b ∧ 1 ≤ m ∧ m < k ∧ 0 ≤ n ∧ n < i ∧ 0 ≤ g ∧ g + k ≤ 2048 ∧ 0 ≤ f ∧ f + k ≤ b ∧ 0 ≤ t ∧ t + k ≤ b)) false := (decide_eq_false (by omega))
                      go_wp2
                      go_ret
                      exact ⟨ret_bool ((Eq.symm (show _ = _ from HR)).trans ((Eq.symm (show _ = _ from HRS)).trans HRR)), hB3⟩
                  · have q3 : decide (f ≤ b - k) = false := decide_eq_false h3
                    have HR : EqB (decide (2 ≤ k ∧ k ≤ b ∧ 1 ≤ m ∧ m < k ∧ 0 ≤ n ∧ n < i ∧ 0 ≤ g ∧ g + k ≤ 2048 ∧ 0 ≤ f ∧ f + k ≤ b ∧ 0 ≤ t ∧ t + k ≤ b)) false := (decide_eq_false (by omega))
                    go_wp2
                    go_ret
                    exact ⟨ret_bool ((Eq.symm (show _ = _ from HR)).trans ((Eq.symm (show _ = _ from HRS)).trans HRR)), hB3⟩
                · have q2 : decide (0 ≤ f) = false := decide_eq_false h2
                  have HR : EqB (decide (2 ≤ k ∧ k ≤ b ∧ 1 ≤ m ∧ m < k ∧ 0 ≤ n ∧ n < i ∧ 0 ≤ g ∧ g + k ≤ 2048 ∧ 0 ≤ f ∧ f + k ≤ b ∧ 0 ≤ t ∧ t + k ≤ b)) false := (decide_eq_false (by omega))
                  go_wp2
                  go_ret
                  exact ⟨ret_bool ((Eq.symm (show _ = _ from HR)).trans ((Eq.symm (show _ = _ from HRS)).trans HRR)), hB3⟩
              · have q1 : decide (g ≤ 2048 - k) = false := decide_eq_false h1
                have HR : EqB (decide (2 ≤ k ∧ k ≤ b ∧ 1 ≤ m ∧ m < k ∧ 0 ≤ n ∧ n < i ∧ 0 ≤ g ∧ g + k ≤ 2048 ∧ 0 ≤ f ∧ f + k ≤ b ∧ 0 ≤ t ∧ t + k ≤ b)) false := (decide_eq_false (by omega))
                go_wp2
                go_ret
                exact ⟨ret_bool ((Eq.symm (show _ = _ from HR)).trans ((Eq.symm (show _ = _ from HRS)).trans HRR)), hB3⟩
            · have q0 : decide (0 ≤ g) = false := decide_eq_false h0
              have HR : EqB (decide (2 ≤ k ∧ k ≤ b ∧ 1 ≤ m ∧ m < k ∧ 0 ≤ n ∧ n < i ∧ 0 ≤ g ∧ g + k ≤ 2048 ∧ 0 ≤ f ∧ f + k ≤ b ∧ 0 ≤ t ∧ t + k ≤ b)) false := (decide_eq_false (by omega))
              go_wp2
              go_ret
              exact ⟨ret_bool ((Eq.symm (show _ = _ from HR)).trans ((Eq.symm (show _ = _ from HRS)).trans HRR)), hB3⟩
  · have HR := Lib.hid (supOk_no1 hg)
    have OF := Lib.hid (fun w => rof_off s.blocks s.log s.inodes hg w)
    rw [HR.out]
    have hB0 := balloc1 w (.cells (supC s) 23)
    obtain ⟨b, l, i, c, n, g, f, t, k, m⟩ := s
    dsimp only at *
    clear hg HR
    go_enter Try.func13, Try.ntmps13
    go_wp2_with fail
    refine (OF.out _).mono ?_; rintro e w1 ⟨rfl, b1⟩
    go_wp2
    go_ret
    exact ⟨rfl, balloc (bnext hB0 b1) _⟩
end Go.Proofs.Ytonfloehobcfbaa
