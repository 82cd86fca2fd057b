/- The walk of SupersSlide. -/
import Derived.Test.YtonfloehobcfbaaULaw2
import Derived.Test.YtonfloehobcfbaaUSame
import Derived.Deep.Cut
import Derived.Deep.CutBlock
import Derived.Deep.DeepCutAuto
namespace Go.Proofs.Ytonfloehobcfbaa
set_option linter.unusedVariables false
open Go.RowKit

set_option maxRecDepth 100000 in
set_option maxHeartbeats 8000000 in
theorem uslide_zero (b l i n g f t k m : Int) (hz : n = 0 ∧ g = 0 ∧ f = 0 ∧ t = 0 ∧ k = 0 ∧ m = 0) (w : World) :
    Calls Try.prog 8 #[.agg #[.int .i64 b, .int .i64 l, .int .i64 i], .agg #[.int .i64 n, .int .i64 g, .int .i64 f, .int .i64 t, .int .i64 k, .int .i64 m]] w fun e w' => e = .returned (.bool true) ∧ Below w.heap.size w w' := by
  obtain ⟨g0, g1, g2, g3, g4, g5, g6, g7, g8, c, hcode, O⟩ := of_code b l i
  have O := Lib.hid O
  have C : ∀ w, Calls Try.prog 12 #[.agg #[.int .i64 b, .int .i64 l, .int .i64 i, .int .i64 0, .int .i64 n, .int .i64 g, .int .i64 f, .int .i64 t, .int .i64 k, .int .i64 m]] w fun e w' => e = .returned (.bool (decide (SupOk ⟨b, l, i, 0, n, g, f, t, k, m⟩))) ∧ Below w.heap.size w w' := fun w => check_any ⟨b, l, i, 0, n, g, f, t, k, m⟩ w
  rw [show decide (SupOk ⟨b, l, i, 0, n, g, f, t, k, m⟩) = decide (okG b l i ∧ ((n = 0 ∧ g = 0 ∧ f = 0 ∧ t = 0 ∧ k = 0 ∧ m = 0) ∨ (2 ≤ k ∧ k ≤ 4096 ∧ 0 < m ∧ m < k ∧ 0 ≤ n ∧ n < i ∧ 0 ≤ g ∧ g ≤ 2048 - k ∧ 0 ≤ f ∧ f ≤ b - k ∧ 0 ≤ t ∧ t ≤ b - k))) from decide_eq_decide.2 (slide_iff b l i n g f t k m)] at C
  have AL := Lib.hid ualive_any
  have AE := fun w => run_arr_eq n g f t k m 0 0 0 0 0 0 w
  have hb0 := balloc (balloc1 w (.cells #[.int .i64 b, .int .i64 l, .int .i64 i] 45)) (.cells #[.int .i64 n, .int .i64 g, .int .i64 f, .int .i64 t, .int .i64 k, .int .i64 m] 51)
  have hL0 : Blk w.heap.size #[.int .i64 b, .int .i64 l, .int .i64 i] 45 ((w.alloc (.cells #[.int .i64 b, .int .i64 l, .int .i64 i] 45)).alloc (.cells #[.int .i64 n, .int .i64 g, .int .i64 f, .int .i64 t, .int .i64 k, .int .i64 m] 51)) := (Blk.new _ _ _).kept1 (balloc1 _ _)
  have hX0 : Blk (w.heap.size + 1) #[.int .i64 n, .int .i64 g, .int .i64 f, .int .i64 t, .int .i64 k, .int .i64 m] 51 ((w.alloc (.cells #[.int .i64 b, .int .i64 l, .int .i64 i] 45)).alloc (.cells #[.int .i64 n, .int .i64 g, .int .i64 f, .int .i64 t, .int .i64 k, .int .i64 m] 51)) := by
    have := Blk.new #[.int .i64 n, .int .i64 g, .int .i64 f, .int .i64 t, .int .i64 k, .int .i64 m] 51 (w.alloc (.cells #[.int .i64 b, .int .i64 l, .int .i64 i] 45))
    rwa [size_alloc] at this
  rw [decide_eq_true hz] at AE
  have hk : k < 2 := by omega
  rcases hcode with ⟨rfl, hg⟩ | ⟨rfl, hg⟩
  · rw [decide_eq_true ⟨hg, .inl hz⟩] at C
    have C := Lib.hid C
    clear hg hz
    go_enter Try.func8, Try.ntmps8
    go_wp2_with fail
    refine (O.out _).mono ?_; rintro e w1 ⟨rfl, b1⟩
    have hL1 := hL0.kept1 b1
    have hX1 := hX0.kept1 b1
    have hb1 := bnext hb0 b1
    have hz1 : w1.heap.size + 1 = w1.heap.size + 1 := rfl
    have bG := balloc1 w1 (.cells (cellsG g0 g1 g2 g3 g4 g5 g6 g7 g8) 47)
    have a0 := (hL1.kept1 bG).cell 0; have a1 := (hL1.kept1 bG).cell 1; have a2 := (hL1.kept1 bG).cell 2
    have x0 := (hX1.kept1 bG).cell 0; have x1 := (hX1.kept1 bG).cell 1; have x2 := (hX1.kept1 bG).cell 2; have x3 := (hX1.kept1 bG).cell 3; have x4 := (hX1.kept1 bG).cell 4; have x5 := (hX1.kept1 bG).cell 5
    simp at a0 a1 a2 x0 x1 x2 x3 x4 x5
    obtain ⟨w2, hw2⟩ : ∃ w2, (w1.alloc (.cells (cellsG g0 g1 g2 g3 g4 g5 g6 g7 g8) 47)).alloc (.cells #[.int .i64 b, .int .i64 l, .int .i64 i, .int .i64 0, .int .i64 n, .int .i64 g, .int .i64 f, .int .i64 t, .int .i64 k, .int .i64 m] 23) = w2 := ⟨_, rfl⟩
    have b12 : Below w1.heap.size w1 w2 := by rw [← hw2]; exact balloc bG _
    have hS2 : SupAt (w1.heap.size + 1) ⟨b, l, i, 0, n, g, f, t, k, m⟩ w2 := by
      have := Blk.new #[.int .i64 b, .int .i64 l, .int .i64 i, .int .i64 0, .int .i64 n, .int .i64 g, .int .i64 f, .int .i64 t, .int .i64 k, .int .i64 m] 23 (w1.alloc (.cells (cellsG g0 g1 g2 g3 g4 g5 g6 g7 g8) 47))
      rw [size_alloc] at this
      rw [← hw2]; exact this
    have hL2 := hL1.kept1 b12
    have hX2 := hX1.kept1 b12
    have HB2 := Lib.hid (bnext hb1 b12)
    have HW2 := Lib.hid hw2
    have HZ := Lib.hid (SupAt.cells hS2)
    have HL2 := Lib.hid hL2
    have HX2 := Lib.hid hX2
    clear hL0 hX0 hb0 b1 hL1 hX1 hb1 hz1 bG hw2 b12 hS2 hL2 hX2
    go_upto_region 3 with fail
    try rw [HW2.out]
    clear HW2 a0 a1 a2 x0 x1 x2 x3 x4 x5
    obtain ⟨z0, z1, z2, z3, z4, z5, z6, z7, z8, z9⟩ := HZ.out
    have x0 := HX2.out.cell 0; have x1 := HX2.out.cell 1; have x2 := HX2.out.cell 2; have x3 := HX2.out.cell 3; have x4 := HX2.out.cell 4; have x5 := HX2.out.cell 5
    simp at x0 x1 x2 x3 x4 x5
    obtain ⟨z0, z1, z2, z3, z4, z5, z6, z7, z8, z9⟩ := HZ.out
    go_wp2_with fail
    refine (C.out _).mono ?_; rintro e w8 ⟨rfl, b8⟩
    have hb8 := bnext HB2.out b8
    go_wp2_with fail
    refine (AL.out _).mono ?_; rintro e w9 ⟨rfl, b9⟩
    go_wp2
    go_ret
    exact ⟨rfl, bnext hb8 b9⟩
  · rw [decide_eq_false (fun h => hg h.1)] at C
    have C := Lib.hid C
    clear hg hz
    go_enter Try.func8, Try.ntmps8
    go_wp2_with fail
    refine (O.out _).mono ?_; rintro e w1 ⟨rfl, b1⟩
    have hL1 := hL0.kept1 b1
    have hX1 := hX0.kept1 b1
    have hb1 := bnext hb0 b1
    have hz1 : w1.heap.size + 1 = w1.heap.size + 1 := rfl
    have bG := balloc1 w1 (.cells (cellsG g0 g1 g2 g3 g4 g5 g6 g7 g8) 47)
    have a0 := (hL1.kept1 bG).cell 0; have a1 := (hL1.kept1 bG).cell 1; have a2 := (hL1.kept1 bG).cell 2
    have x0 := (hX1.kept1 bG).cell 0; have x1 := (hX1.kept1 bG).cell 1; have x2 := (hX1.kept1 bG).cell 2; have x3 := (hX1.kept1 bG).cell 3; have x4 := (hX1.kept1 bG).cell 4; have x5 := (hX1.kept1 bG).cell 5
    simp at a0 a1 a2 x0 x1 x2 x3 x4 x5
    obtain ⟨w2, hw2⟩ : ∃ w2, (w1.alloc (.cells (cellsG g0 g1 g2 g3 g4 g5 g6 g7 g8) 47)).alloc (.cells #[.int .i64 b, .int .i64 l, .int .i64 i, .int .i64 0, .int .i64 n, .int .i64 g, .int .i64 f, .int .i64 t, .int .i64 k, .int .i64 m] 23) = w2 := ⟨_, rfl⟩
    have b12 : Below w1.heap.size w1 w2 := by rw [← hw2]; exact balloc bG _
    have hS2 : SupAt (w1.heap.size + 1) ⟨b, l, i, 0, n, g, f, t, k, m⟩ w2 := by
      have := Blk.new #[.int .i64 b, .int .i64 l, .int .i64 i, .int .i64 0, .int .i64 n, .int .i64 g, .int .i64 f, .int .i64 t, .int .i64 k, .int .i64 m] 23 (w1.alloc (.cells (cellsG g0 g1 g2 g3 g4 g5 g6 g7 g8) 47))
      rw [size_alloc] at this
      rw [← hw2]; exact this
    have hL2 := hL1.kept1 b12
    have hX2 := hX1.kept1 b12
    have HB2 := Lib.hid (bnext hb1 b12)
    have HW2 := Lib.hid hw2
    have HZ := Lib.hid (SupAt.cells hS2)
    have HL2 := Lib.hid hL2
    have HX2 := Lib.hid hX2
    clear hL0 hX0 hb0 b1 hL1 hX1 hb1 hz1 bG hw2 b12 hS2 hL2 hX2
    go_upto_region 3 with fail
    try rw [HW2.out]
    clear HW2 a0 a1 a2 x0 x1 x2 x3 x4 x5
    obtain ⟨z0, z1, z2, z3, z4, z5, z6, z7, z8, z9⟩ := HZ.out
    have x0 := HX2.out.cell 0; have x1 := HX2.out.cell 1; have x2 := HX2.out.cell 2; have x3 := HX2.out.cell 3; have x4 := HX2.out.cell 4; have x5 := HX2.out.cell 5
    simp at x0 x1 x2 x3 x4 x5
    obtain ⟨z0, z1, z2, z3, z4, z5, z6, z7, z8, z9⟩ := HZ.out
    go_wp2_with fail
    refine (C.out _).mono ?_; rintro e w8 ⟨rfl, b8⟩
    have hb8 := bnext HB2.out b8
    go_wp2_with fail
    refine (AL.out _).mono ?_; rintro e w9 ⟨rfl, b9⟩
    go_wp2
    go_ret
    exact ⟨rfl, bnext hb8 b9⟩

set_option maxRecDepth 100000 in
set_option maxHeartbeats 8000000 in
theorem uslide_far (b l i n g f t k m : Int) (hz : ¬ (n = 0 ∧ g = 0 ∧ f = 0 ∧ t = 0 ∧ k = 0 ∧ m = 0)) (hk : k < 2 ∨ 4096 < k) (w : World) :
    Calls Try.prog 8 #[.agg #[.int .i64 b, .int .i64 l, .int .i64 i], .agg #[.int .i64 n, .int .i64 g, .int .i64 f, .int .i64 t, .int .i64 k, .int .i64 m]] w fun e w' => e = .returned (.bool true) ∧ Below w.heap.size w w' := by
  obtain ⟨g0, g1, g2, g3, g4, g5, g6, g7, g8, c, hcode, O⟩ := of_code b l i
  have O := Lib.hid O
  have C : ∀ w, Calls Try.prog 12 #[.agg #[.int .i64 b, .int .i64 l, .int .i64 i, .int .i64 0, .int .i64 n, .int .i64 g, .int .i64 f, .int .i64 t, .int .i64 k, .int .i64 m]] w fun e w' => e = .returned (.bool (decide (SupOk ⟨b, l, i, 0, n, g, f, t, k, m⟩))) ∧ Below w.heap.size w w' := fun w => check_any ⟨b, l, i, 0, n, g, f, t, k, m⟩ w
  rw [show decide (SupOk ⟨b, l, i, 0, n, g, f, t, k, m⟩) = decide (okG b l i ∧ ((n = 0 ∧ g = 0 ∧ f = 0 ∧ t = 0 ∧ k = 0 ∧ m = 0) ∨ (2 ≤ k ∧ k ≤ 4096 ∧ 0 < m ∧ m < k ∧ 0 ≤ n ∧ n < i ∧ 0 ≤ g ∧ g ≤ 2048 - k ∧ 0 ≤ f ∧ f ≤ b - k ∧ 0 ≤ t ∧ t ≤ b - k))) from decide_eq_decide.2 (slide_iff b l i n g f t k m)] at C
  have AL := Lib.hid ualive_any
  have AE := fun w => run_arr_eq n g f t k m 0 0 0 0 0 0 w
  have hb0 := balloc (balloc1 w (.cells #[.int .i64 b, .int .i64 l, .int .i64 i] 45)) (.cells #[.int .i64 n, .int .i64 g, .int .i64 f, .int .i64 t, .int .i64 k, .int .i64 m] 51)
  have hL0 : Blk w.heap.size #[.int .i64 b, .int .i64 l, .int .i64 i] 45 ((w.alloc (.cells #[.int .i64 b, .int .i64 l, .int .i64 i] 45)).alloc (.cells #[.int .i64 n, .int .i64 g, .int .i64 f, .int .i64 t, .int .i64 k, .int .i64 m] 51)) := (Blk.new _ _ _).kept1 (balloc1 _ _)
  have hX0 : Blk (w.heap.size + 1) #[.int .i64 n, .int .i64 g, .int .i64 f, .int .i64 t, .int .i64 k, .int .i64 m] 51 ((w.alloc (.cells #[.int .i64 b, .int .i64 l, .int .i64 i] 45)).alloc (.cells #[.int .i64 n, .int .i64 g, .int .i64 f, .int .i64 t, .int .i64 k, .int .i64 m] 51)) := by
    have := Blk.new #[.int .i64 n, .int .i64 g, .int .i64 f, .int .i64 t, .int .i64 k, .int .i64 m] 51 (w.alloc (.cells #[.int .i64 b, .int .i64 l, .int .i64 i] 45))
    rwa [size_alloc] at this
  rw [decide_eq_false hz] at AE
  have hk2 : (k < 2) ∨ (2 ≤ k ∧ 4096 < k) := by omega
  rcases hcode with ⟨rfl, hg⟩ | ⟨rfl, hg⟩
  all_goals
    rw [decide_eq_false (by omega)] at C
    have C := Lib.hid C
    clear hg hz hk
    rcases hk2 with hk | ⟨hk, hk2⟩
    · go_enter Try.func8, Try.ntmps8
      go_wp2_with fail
      refine (O.out _).mono ?_; rintro e w1 ⟨rfl, b1⟩
      have hL1 := hL0.kept1 b1
      have hX1 := hX0.kept1 b1
      have hb1 := bnext hb0 b1
      have hz1 : w1.heap.size + 1 = w1.heap.size + 1 := rfl
      have bG := balloc1 w1 (.cells (cellsG g0 g1 g2 g3 g4 g5 g6 g7 g8) 47)
      have a0 := (hL1.kept1 bG).cell 0; have a1 := (hL1.kept1 bG).cell 1; have a2 := (hL1.kept1 bG).cell 2
      have x0 := (hX1.kept1 bG).cell 0; have x1 := (hX1.kept1 bG).cell 1; have x2 := (hX1.kept1 bG).cell 2; have x3 := (hX1.kept1 bG).cell 3; have x4 := (hX1.kept1 bG).cell 4; have x5 := (hX1.kept1 bG).cell 5
      simp at a0 a1 a2 x0 x1 x2 x3 x4 x5
      obtain ⟨w2, hw2⟩ : ∃ w2, (w1.alloc (.cells (cellsG g0 g1 g2 g3 g4 g5 g6 g7 g8) 47)).alloc (.cells #[.int .i64 b, .int .i64 l, .int .i64 i, .int .i64 0, .int .i64 n, .int .i64 g, .int .i64 f, .int .i64 t, .int .i64 k, .int .i64 m] 23) = w2 := ⟨_, rfl⟩
      have b12 : Below w1.heap.size w1 w2 := by rw [← hw2]; exact balloc bG _
      have hS2 : SupAt (w1.heap.size + 1) ⟨b, l, i, 0, n, g, f, t, k, m⟩ w2 := by
        have := Blk.new #[.int .i64 b, .int .i64 l, .int .i64 i, .int .i64 0, .int .i64 n, .int .i64 g, .int .i64 f, .int .i64 t, .int .i64 k, .int .i64 m] 23 (w1.alloc (.cells (cellsG g0 g1 g2 g3 g4 g5 g6 g7 g8) 47))
        rw [size_alloc] at this
        rw [← hw2]; exact this
      have hL2 := hL1.kept1 b12
      have hX2 := hX1.kept1 b12
      have HB2 := Lib.hid (bnext hb1 b12)
      have HW2 := Lib.hid hw2
      have HZ := Lib.hid (SupAt.cells hS2)
      have HL2 := Lib.hid hL2
      have HX2 := Lib.hid hX2
      clear hL0 hX0 hb0 b1 hL1 hX1 hb1 hz1 bG hw2 b12 hS2 hL2 hX2
      go_upto_region 3 with fail
      try rw [HW2.out]
      clear HW2 a0 a1 a2 x0 x1 x2 x3 x4 x5
      obtain ⟨z0, z1, z2, z3, z4, z5, z6, z7, z8, z9⟩ := HZ.out
      have x0 := HX2.out.cell 0; have x1 := HX2.out.cell 1; have x2 := HX2.out.cell 2; have x3 := HX2.out.cell 3; have x4 := HX2.out.cell 4; have x5 := HX2.out.cell 5
      simp at x0 x1 x2 x3 x4 x5
      obtain ⟨z0, z1, z2, z3, z4, z5, z6, z7, z8, z9⟩ := HZ.out
      go_wp2_with fail
      refine (C.out _).mono ?_; rintro e w8 ⟨rfl, b8⟩
      have hb8 := bnext HB2.out b8
      go_wp2_with fail
      refine (AL.out _).mono ?_; rintro e w9 ⟨rfl, b9⟩
      go_wp2
      go_ret
      exact ⟨rfl, bnext hb8 b9⟩
    · go_enter Try.func8, Try.ntmps8
      go_wp2_with fail
      refine (O.out _).mono ?_; rintro e w1 ⟨rfl, b1⟩
      have hL1 := hL0.kept1 b1
      have hX1 := hX0.kept1 b1
      have hb1 := bnext hb0 b1
      have hz1 : w1.heap.size + 1 = w1.heap.size + 1 := rfl
      have bG := balloc1 w1 (.cells (cellsG g0 g1 g2 g3 g4 g5 g6 g7 g8) 47)
      have a0 := (hL1.kept1 bG).cell 0; have a1 := (hL1.kept1 bG).cell 1; have a2 := (hL1.kept1 bG).cell 2
      have x0 := (hX1.kept1 bG).cell 0; have x1 := (hX1.kept1 bG).cell 1; have x2 := (hX1.kept1 bG).cell 2; have x3 := (hX1.kept1 bG).cell 3; have x4 := (hX1.kept1 bG).cell 4; have x5 := (hX1.kept1 bG).cell 5
      simp at a0 a1 a2 x0 x1 x2 x3 x4 x5
      obtain ⟨w2, hw2⟩ : ∃ w2, (w1.alloc (.cells (cellsG g0 g1 g2 g3 g4 g5 g6 g7 g8) 47)).alloc (.cells #[.int .i64 b, .int .i64 l, .int .i64 i, .int .i64 0, .int .i64 n, .int .i64 g, .int .i64 f, .int .i64 t, .int .i64 k, .int .i64 m] 23) = w2 := ⟨_, rfl⟩
      have b12 : Below w1.heap.size w1 w2 := by rw [← hw2]; exact balloc bG _
      have hS2 : SupAt (w1.heap.size + 1) ⟨b, l, i, 0, n, g, f, t, k, m⟩ w2 := by
        have := Blk.new #[.int .i64 b, .int .i64 l, .int .i64 i, .int .i64 0, .int .i64 n, .int .i64 g, .int .i64 f, .int .i64 t, .int .i64 k, .int .i64 m] 23 (w1.alloc (.cells (cellsG g0 g1 g2 g3 g4 g5 g6 g7 g8) 47))
        rw [size_alloc] at this
        rw [← hw2]; exact this
      have hL2 := hL1.kept1 b12
      have hX2 := hX1.kept1 b12
      have HB2 := Lib.hid (bnext hb1 b12)
      have HW2 := Lib.hid hw2
      have HZ := Lib.hid (SupAt.cells hS2)
      have HL2 := Lib.hid hL2
      have HX2 := Lib.hid hX2
      clear hL0 hX0 hb0 b1 hL1 hX1 hb1 hz1 bG hw2 b12 hS2 hL2 hX2
      go_upto_region 3 with fail
      try rw [HW2.out]
      clear HW2 a0 a1 a2 x0 x1 x2 x3 x4 x5
      obtain ⟨z0, z1, z2, z3, z4, z5, z6, z7, z8, z9⟩ := HZ.out
      have x0 := HX2.out.cell 0; have x1 := HX2.out.cell 1; have x2 := HX2.out.cell 2; have x3 := HX2.out.cell 3; have x4 := HX2.out.cell 4; have x5 := HX2.out.cell 5
      simp at x0 x1 x2 x3 x4 x5
      obtain ⟨z0, z1, z2, z3, z4, z5, z6, z7, z8, z9⟩ := HZ.out
      go_wp2_with fail
      refine (C.out _).mono ?_; rintro e w8 ⟨rfl, b8⟩
      have hb8 := bnext HB2.out b8
      go_wp2_with fail
      refine (AL.out _).mono ?_; rintro e w9 ⟨rfl, b9⟩
      go_wp2
      go_ret
      exact ⟨rfl, bnext hb8 b9⟩

set_option maxRecDepth 100000 in
set_option maxHeartbeats 8000000 in
theorem uslide_in (b l i n g f t k m : Int) (hz : ¬ (n = 0 ∧ g = 0 ∧ f = 0 ∧ t = 0 ∧ k = 0 ∧ m = 0)) (hk1 : 2 ≤ k) (hk2 : k ≤ 4096) (w : World) :
    Calls Try.prog 8 #[.agg #[.int .i64 b, .int .i64 l, .int .i64 i], .agg #[.int .i64 n, .int .i64 g, .int .i64 f, .int .i64 t, .int .i64 k, .int .i64 m]] w fun e w' => e = .returned (.bool true) ∧ Below w.heap.size w w' := by
  obtain ⟨g0, g1, g2, g3, g4, g5, g6, g7, g8, c, hcode, O⟩ := of_code b l i
  have O := Lib.hid O
  have C : ∀ w, Calls Try.prog 12 #[.agg #[.int .i64 b, .int .i64 l, .int .i64 i, .int .i64 0, .int .i64 n, .int .i64 g, .int .i64 f, .int .i64 t, .int .i64 k, .int .i64 m]] w fun e w' => e = .returned (.bool (decide (SupOk ⟨b, l, i, 0, n, g, f, t, k, m⟩))) ∧ Below w.heap.size w w' := fun w => check_any ⟨b, l, i, 0, n, g, f, t, k, m⟩ w
  rw [show decide (SupOk ⟨b, l, i, 0, n, g, f, t, k, m⟩) = decide (okG b l i ∧ ((n = 0 ∧ g = 0 ∧ f = 0 ∧ t = 0 ∧ k = 0 ∧ m = 0) ∨ (2 ≤ k ∧ k ≤ 4096 ∧ 0 < m ∧ m < k ∧ 0 ≤ n ∧ n < i ∧ 0 ≤ g ∧ g ≤ 2048 - k ∧ 0 ≤ f ∧ f ≤ b - k ∧ 0 ≤ t ∧ t ≤ b - k))) from decide_eq_decide.2 (slide_iff b l i n g f t k m)] at C
  have AL := Lib.hid ualive_any
  have AE := fun w => run_arr_eq n g f t k m 0 0 0 0 0 0 w
  have hb0 := balloc (balloc1 w (.cells #[.int .i64 b, .int .i64 l, .int .i64 i] 45)) (.cells #[.int .i64 n, .int .i64 g, .int .i64 f, .int .i64 t, .int .i64 k, .int .i64 m] 51)
  have hL0 : Blk w.heap.size #[.int .i64 b, .int .i64 l, .int .i64 i] 45 ((w.alloc (.cells #[.int .i64 b, .int .i64 l, .int .i64 i] 45)).alloc (.cells #[.int .i64 n, .int .i64 g, .int .i64 f, .int .i64 t, .int .i64 k, .int .i64 m] 51)) := (Blk.new _ _ _).kept1 (balloc1 _ _)
  have hX0 : Blk (w.heap.size + 1) #[.int .i64 n, .int .i64 g, .int .i64 f, .int .i64 t, .int .i64 k, .int .i64 m] 51 ((w.alloc (.cells #[.int .i64 b, .int .i64 l, .int .i64 i] 45)).alloc (.cells #[.int .i64 n, .int .i64 g, .int .i64 f, .int .i64 t, .int .i64 k, .int .i64 m] 51)) := by
    have := Blk.new #[.int .i64 n, .int .i64 g, .int .i64 f, .int .i64 t, .int .i64 k, .int .i64 m] 51 (w.alloc (.cells #[.int .i64 b, .int .i64 l, .int .i64 i] 45))
    rwa [size_alloc] at this
  rw [decide_eq_false hz] at AE
  obtain ⟨bk, hbk⟩ : ∃ bk, IntKind.i64.wrap (b - k) = bk := ⟨_, rfl⟩
  obtain ⟨r, hr⟩ : ∃ r, decide (okG b l i ∧ ((n = 0 ∧ g = 0 ∧ f = 0 ∧ t = 0 ∧ k = 0 ∧ m = 0) ∨ (2 ≤ k ∧ k ≤ 4096 ∧ 0 < m ∧ m < k ∧ 0 ≤ n ∧ n < i ∧ 0 ≤ g ∧ g ≤ 2048 - k ∧ 0 ≤ f ∧ f ≤ b - k ∧ 0 ≤ t ∧ t ≤ b - k))) = r := ⟨_, rfl⟩
  rw [hr] at C
  have HR : Hid (∀ β, Yes β (0 < m ∧ m < k ∧ 0 ≤ n ∧ n < i ∧ 0 ≤ g ∧ g ≤ 2048 - k ∧ 0 ≤ f ∧ f ≤ bk ∧ 0 ≤ t ∧ t ≤ bk) → r = (c == 0 && β)) := Lib.hid fun β hβ => by
    unfold Yes at hβ
    rw [← hr]
    rcases hcode with ⟨rfl, hg⟩ | ⟨rfl, hg⟩
    · have h1 := hg.1
      have h2 := hg.2.1
      have e : bk = b - k := by rw [← hbk, IntKind.wrap_i64]; omega
      subst e
      cases β with
      | true => have := hβ.1 rfl; rw [decide_eq_true ⟨hg, .inr (by omega)⟩]; rfl
      | false =>
        rw [decide_eq_false]
        · rfl
        · rintro ⟨_, h | h⟩
          · exact hz h
          · have := hβ.2 (by omega); cases this
    · rw [decide_eq_false (fun h => hg h.1)]; cases β <;> rfl
  have hc : c = 0 ∨ c = 2 := by rcases hcode with ⟨h, _⟩ | ⟨h, _⟩ <;> simp [h]
  have C := Lib.hid C
  clear hr hcode hz
  have HC := Lib.hid hc
  clear hc
  go_enter Try.func8, Try.ntmps8
  go_wp2_with fail
  refine (O.out _).mono ?_; rintro e w1 ⟨rfl, b1⟩
  have hL1 := hL0.kept1 b1
  have hX1 := hX0.kept1 b1
  have hb1 := bnext hb0 b1
  have hz1 : w1.heap.size + 1 = w1.heap.size + 1 := rfl
  have bG := balloc1 w1 (.cells (cellsG g0 g1 g2 g3 g4 g5 g6 g7 g8) 47)
  have a0 := (hL1.kept1 bG).cell 0; have a1 := (hL1.kept1 bG).cell 1; have a2 := (hL1.kept1 bG).cell 2
  have x0 := (hX1.kept1 bG).cell 0; have x1 := (hX1.kept1 bG).cell 1; have x2 := (hX1.kept1 bG).cell 2; have x3 := (hX1.kept1 bG).cell 3; have x4 := (hX1.kept1 bG).cell 4; have x5 := (hX1.kept1 bG).cell 5
  simp at a0 a1 a2 x0 x1 x2 x3 x4 x5
  obtain ⟨w2, hw2⟩ : ∃ w2, (w1.alloc (.cells (cellsG g0 g1 g2 g3 g4 g5 g6 g7 g8) 47)).alloc (.cells #[.int .i64 b, .int .i64 l, .int .i64 i, .int .i64 0, .int .i64 n, .int .i64 g, .int .i64 f, .int .i64 t, .int .i64 k, .int .i64 m] 23) = w2 := ⟨_, rfl⟩
  have b12 : Below w1.heap.size w1 w2 := by rw [← hw2]; exact balloc bG _
  have hS2 : SupAt (w1.heap.size + 1) ⟨b, l, i, 0, n, g, f, t, k, m⟩ w2 := by
    have := Blk.new #[.int .i64 b, .int .i64 l, .int .i64 i, .int .i64 0, .int .i64 n, .int .i64 g, .int .i64 f, .int .i64 t, .int .i64 k, .int .i64 m] 23 (w1.alloc (.cells (cellsG g0 g1 g2 g3 g4 g5 g6 g7 g8) 47))
    rw [size_alloc] at this
    rw [← hw2]; exact this
  have hL2 := hL1.kept1 b12
  have hX2 := hX1.kept1 b12
  have HB2 := Lib.hid (bnext hb1 b12)
  have HW2 := Lib.hid hw2
  have HZ := Lib.hid (SupAt.cells hS2)
  have HL2 := Lib.hid hL2
  have HX2 := Lib.hid hX2
  clear hL0 hX0 hb0 b1 hL1 hX1 hb1 hz1 bG hw2 b12 hS2 hL2 hX2
  go_upto_region 3 with fail
  try rw [HW2.out]
  clear HW2 a0 a1 a2 x0 x1 x2 x3 x4 x5
  obtain ⟨z0, z1, z2, z3, z4, z5, z6, z7, z8, z9⟩ := HZ.out
  have x0 := HX2.out.cell 0; have x1 := HX2.out.cell 1; have x2 := HX2.out.cell 2; have x3 := HX2.out.cell 3; have x4 := HX2.out.cell 4; have x5 := HX2.out.cell 5
  simp at x0 x1 x2 x3 x4 x5
  have k1 : decide (2 ≤ k) = true := decide_eq_true hk1
  have k2 : decide (k ≤ 4096) = true := decide_eq_true hk2
  have l0 := HL2.out.cell 0; have l2 := HL2.out.cell 2
  simp at l0 l2
  go_upto_region 6 with fail
  go_cut [9] (fun q wx => ∃ β : Bool, q = .bool β ∧ Yes β (0 < m ∧ m < k ∧ 0 ≤ n ∧ n < i ∧ 0 ≤ g ∧ g ≤ 2048 - k ∧ 0 ≤ f ∧ f ≤ bk ∧ 0 ≤ t ∧ t ≤ bk) ∧ wx = w2)
  case first =>
    by_cases h0 : 0 < m
    · have q0 : decide (0 < m) = true := decide_eq_true h0
      by_cases h1 : m < k
      · have q1 : decide (m < k) = true := decide_eq_true h1
        by_cases h2 : 0 ≤ n
        · have q2 : decide (0 ≤ n) = true := decide_eq_true h2
          by_cases h3 : n < i
          · have q3 : decide (n < i) = true := decide_eq_true h3
            by_cases h4 : 0 ≤ g
            · have q4 : decide (0 ≤ g) = true := decide_eq_true h4
              by_cases h5 : g ≤ 2048 - k
              · have q5 : decide (g ≤ 2048 - k) = true := decide_eq_true h5
                by_cases h6 : 0 ≤ f
                · have q6 : decide (0 ≤ f) = true := decide_eq_true h6
                  by_cases h7 : f ≤ bk
                  · have q7 : decide (f ≤ bk) = true := decide_eq_true h7
                    by_cases h8 : 0 ≤ t
                    · have q8 : decide (0 ≤ t) = true := decide_eq_true h8
                      by_cases h9 : t ≤ bk
                      · have q9 : decide (t ≤ bk) = true := decide_eq_true h9
                        have HQ : Yes true (0 < m ∧ m < k ∧ 0 ≤ n ∧ n < i ∧ 0 ≤ g ∧ g ≤ 2048 - k ∧ 0 ≤ f ∧ f ≤ bk ∧ 0 ≤ t ∧ t ≤ bk) := by unfold Yes; simp; omega
                        go_wp2
                        go_meet
                        case rel => exact ⟨true, rfl, HQ, rfl⟩
                      · have q9 : decide (t ≤ bk) = false := decide_eq_false h9
                        have HQ : Yes false (0 < m ∧ m < k ∧ 0 ≤ n ∧ n < i ∧ 0 ≤ g ∧ g ≤ 2048 - k ∧ 0 ≤ f ∧ f ≤ bk ∧ 0 ≤ t ∧ t ≤ bk) := by unfold Yes; simp; omega
                        go_wp2
                        go_meet
                        case rel => exact ⟨false, rfl, HQ, rfl⟩
                    · have q8 : decide (0 ≤ t) = false := decide_eq_false h8
                      have HQ : Yes false (0 < m ∧ m < k ∧ 0 ≤ n ∧ n < i ∧ 0 ≤ g ∧ g ≤ 2048 - k ∧ 0 ≤ f ∧ f ≤ bk ∧ 0 ≤ t ∧ t ≤ bk) := by unfold Yes; simp; omega
                      go_wp2
                      go_meet
                      case rel => exact ⟨false, rfl, HQ, rfl⟩
                  · have q7 : decide (f ≤ bk) = false := decide_eq_false h7
                    have HQ : Yes false (0 < m ∧ m < k ∧ 0 ≤ n ∧ n < i ∧ 0 ≤ g ∧ g ≤ 2048 - k ∧ 0 ≤ f ∧ f ≤ bk ∧ 0 ≤ t ∧ t ≤ bk) := by unfold Yes; simp; omega
                    go_wp2
                    go_meet
                    case rel => exact ⟨false, rfl, HQ, rfl⟩
                · have q6 : decide (0 ≤ f) = false := decide_eq_false h6
                  have HQ : Yes false (0 < m ∧ m < k ∧ 0 ≤ n ∧ n < i ∧ 0 ≤ g ∧ g ≤ 2048 - k ∧ 0 ≤ f ∧ f ≤ bk ∧ 0 ≤ t ∧ t ≤ bk) := by unfold Yes; simp; omega
                  go_wp2
                  go_meet
                  case rel => exact ⟨false, rfl, HQ, rfl⟩
              · have q5 : decide (g ≤ 2048 - k) = false := decide_eq_false h5
                have HQ : Yes false (0 < m ∧ m < k ∧ 0 ≤ n ∧ n < i ∧ 0 ≤ g ∧ g ≤ 2048 - k ∧ 0 ≤ f ∧ f ≤ bk ∧ 0 ≤ t ∧ t ≤ bk) := by unfold Yes; simp; omega
                go_wp2
                go_meet
                case rel => exact ⟨false, rfl, HQ, rfl⟩
            · have q4 : decide (0 ≤ g) = false := decide_eq_false h4
              have HQ : Yes false (0 < m ∧ m < k ∧ 0 ≤ n ∧ n < i ∧ 0 ≤ g ∧ g ≤ 2048 - k ∧ 0 ≤ f ∧ f ≤ bk ∧ 0 ≤ t ∧ t ≤ bk) := by unfold Yes; simp; omega
              go_wp2
              go_meet
              case rel => exact ⟨false, rfl, HQ, rfl⟩
          · have q3 : decide (n < i) = false := decide_eq_false h3
            have HQ : Yes false (0 < m ∧ m < k ∧ 0 ≤ n ∧ n < i ∧ 0 ≤ g ∧ g ≤ 2048 - k ∧ 0 ≤ f ∧ f ≤ bk ∧ 0 ≤ t ∧ t ≤ bk) := by unfold Yes; simp; omega
            go_wp2
            go_meet
            case rel => exact ⟨false, rfl, HQ, rfl⟩
        · have q2 : decide (0 ≤ n) = false := decide_eq_false h2
          have HQ : Yes false (0 < m ∧ m < k ∧ 0 ≤ n ∧ n < i ∧ 0 ≤ g ∧ g ≤ 2048 - k ∧ 0 ≤ f ∧ f ≤ bk ∧ 0 ≤ t ∧ t ≤ bk) := by unfold Yes; simp; omega
          go_wp2
          go_meet
          case rel => exact ⟨false, rfl, HQ, rfl⟩
      · have q1 : decide (m < k) = false := decide_eq_false h1
        have HQ : Yes false (0 < m ∧ m < k ∧ 0 ≤ n ∧ n < i ∧ 0 ≤ g ∧ g ≤ 2048 - k ∧ 0 ≤ f ∧ f ≤ bk ∧ 0 ≤ t ∧ t ≤ bk) := by unfold Yes; simp; omega
        go_wp2
        go_meet
        case rel => exact ⟨false, rfl, HQ, rfl⟩
    · have q0 : decide (0 < m) = false := decide_eq_false h0
      have HQ : Yes false (0 < m ∧ m < k ∧ 0 ≤ n ∧ n < i ∧ 0 ≤ g ∧ g ≤ 2048 - k ∧ 0 ≤ f ∧ f ≤ bk ∧ 0 ≤ t ∧ t ≤ bk) := by unfold Yes; simp; omega
      go_wp2
      go_meet
      case rel => exact ⟨false, rfl, HQ, rfl⟩
  case rest =>
    obtain ⟨β, rfl, hβ, rfl⟩ := hcut
    have hr2 := HR.out β hβ
    rcases HC.out with rfl | rfl
    · obtain rfl : r = β := hr2
      clear hβ HR HC l0 l2 hbk
      cases r
      · obtain ⟨z0, z1, z2, z3, z4, z5, z6, z7, z8, z9⟩ := HZ.out
        go_wp2_with fail
        refine (C.out _).mono ?_; rintro e w8 ⟨rfl, b8⟩
        have hb8 := bnext HB2.out b8
        go_wp2_with fail
        refine (AL.out _).mono ?_; rintro e w9 ⟨rfl, b9⟩
        go_wp2
        go_ret
        exact ⟨rfl, bnext hb8 b9⟩
      · obtain ⟨z0, z1, z2, z3, z4, z5, z6, z7, z8, z9⟩ := HZ.out
        go_wp2_with fail
        refine (C.out _).mono ?_; rintro e w8 ⟨rfl, b8⟩
        have hb8 := bnext HB2.out b8
        go_wp2_with fail
        refine (AL.out _).mono ?_; rintro e w9 ⟨rfl, b9⟩
        go_wp2
        go_ret
        exact ⟨rfl, bnext hb8 b9⟩
    · obtain rfl : r = false := hr2
      clear hβ HR HC l0 l2 hbk
      obtain ⟨z0, z1, z2, z3, z4, z5, z6, z7, z8, z9⟩ := HZ.out
      go_wp2_with fail
      refine (C.out _).mono ?_; rintro e w8 ⟨rfl, b8⟩
      have hb8 := bnext HB2.out b8
      go_wp2_with fail
      refine (AL.out _).mono ?_; rintro e w9 ⟨rfl, b9⟩
      go_wp2
      go_ret
      exact ⟨rfl, bnext hb8 b9⟩
theorem uslide_walk (b l i n g f t k m : Int) (w : World) :
    Calls Try.prog 8 #[.agg #[.int .i64 b, .int .i64 l, .int .i64 i], .agg #[.int .i64 n, .int .i64 g, .int .i64 f, .int .i64 t, .int .i64 k, .int .i64 m]] w fun e w' => e = .returned (.bool true) ∧ Below w.heap.size w w' := by
  by_cases hz : n = 0 ∧ g = 0 ∧ f = 0 ∧ t = 0 ∧ k = 0 ∧ m = 0
  · exact uslide_zero b l i n g f t k m hz w
  · by_cases h1 : 2 ≤ k
    · by_cases h2 : k ≤ 4096
      · exact uslide_in b l i n g f t k m hz h1 h2 w
      · exact uslide_far b l i n g f t k m hz (by omega) w
    · exact uslide_far b l i n g f t k m hz (by omega) w
end Go.Proofs.Ytonfloehobcfbaa
