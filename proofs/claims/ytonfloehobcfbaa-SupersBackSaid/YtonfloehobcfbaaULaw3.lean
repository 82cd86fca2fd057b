/- The walk of SupersBack. -/
import Derived.Test.YtonfloehobcfbaaUAlive
import Derived.Test.YtonfloehobcfbaaKDec
namespace Go.Proofs.Ytonfloehobcfbaa
set_option linter.unusedVariables false
open Go.RowKit

theorem sup_begins (s : Sup) : ¬ Begins (sup s) := by
  intro h
  have e1 := begins_list h
  rw [sup_list] at e1
  have e2 := congrArg (fun l : List UInt8 => l.head?) e1
  simp [supL, supHead] at e2
set_option maxRecDepth 100000 in
set_option maxHeartbeats 8000000 in
theorem uback_walk (s : Sup) (b : ByteArray) (hs : b.size ≤ maxLen) (w : World) :
    Calls Try.prog 5 #[supV s, .string b] w fun e w' => e = .returned (.bool true) ∧ Below w.heap.size w w' := by
  have gh : Try.prog.stoodInHeld 23 = false := by kernel_rfl
  have C := fun w => check_any s w
  have hS0 : SupAt w.heap.size s (w.alloc (.cells (supC s) 23)) := Blk.new _ _ _
  have hb0 := balloc1 w (.cells (supC s) 23)
  have AL := Lib.hid ualive_any
  by_cases h : SupOk s
  · have E := Lib.hid (fun w => uenc_yes s h w)
    rw [decide_eq_true h] at C
    have C := Lib.hid C
    have hsz := sup_size s
    have D : ∀ w, Calls Try.prog 15 #[.string (sup s)] w fun e w' => e = .returned (.tuple #[supV s, .int .i64 0]) ∧ Below w.heap.size w w' := fun w => by
      have := udec_yes (sup s) (by rw [sup_size]; unfold maxLen; omega) (isSup_of h) w
      rwa [read_sup h] at this
    have D := Lib.hid D
    have R := Lib.hid (fun w => dec_no (sup s) (by rw [sup_size]; unfold maxLen; omega) (sup_isBlk s) w)
    generalize sup s = T at *
    obtain ⟨y0, y1, y2, y3, y4, y5, y6, y7, y8, y9⟩ := s
    clear h
    go_enter Try.func5, Try.ntmps5
    go_wp2_with fail
    refine (E.out _).mono ?_; rintro e w1 ⟨rfl, b1⟩
    have hS1 := hS0.kept1 b1
    have hb1 := bnext hb0 b1
    obtain ⟨c0, c1, c2, c3, c4, c5, c6, c7, c8, c9⟩ := SupAt.cells hS1
    have HS1 := Lib.hid hS1
    clear hS0 hb0 b1 hS1
    go_wp2_with fail
    refine (C.out _).mono ?_; rintro e w2 ⟨rfl, b2⟩
    have hS2 := HS1.out.kept1 b2
    have hb2 := bnext hb1 b2
    clear c0 c1 c2 c3 c4 c5 c6 c7 c8 c9 HS1 hb1 b2
    go_wp2_with fail
    refine (D.out _).mono ?_; rintro e w3 ⟨rfl, b3⟩
    obtain ⟨w4, hw4⟩ : ∃ w4, w3.alloc (.cells #[.int .i64 y0, .int .i64 y1, .int .i64 y2, .int .i64 y3, .int .i64 y4, .int .i64 y5, .int .i64 y6, .int .i64 y7, .int .i64 y8, .int .i64 y9] 23) = w4 := ⟨_, rfl⟩
    have b34 : Below w3.heap.size w3 w4 := by rw [← hw4]; exact balloc1 _ _
    have hS4 := (hS2.kept1 b3).kept1 b34
    have hT4 : SupAt w3.heap.size ⟨y0, y1, y2, y3, y4, y5, y6, y7, y8, y9⟩ w4 := by rw [← hw4]; exact Blk.new _ _ w3
    have hb4 := bnext (bnext hb2 b3) b34
    clear hS2 hb2 b3 b34
    go_wp2_with fail
    refine (R.out _).mono ?_; rintro e w5 ⟨rfl, b5⟩
    clear hw4
    obtain ⟨w6, hw6⟩ : ∃ w6, w5.alloc (.cells #[.int .i64 0, .int .u64 0, .int .i64 0, .slice none 0 0, .slice none 0 0, .int .u32 0] 37) = w6 := ⟨_, rfl⟩
    have b56 : Below w5.heap.size w5 w6 := by rw [← hw6]; exact balloc1 _ _
    have hS6 := (hS4.kept1 b5).kept1 b56
    have hT6 := (hT4.kept1 b5).kept1 b56
    have hb6 := bnext (bnext hb4 b5) b56
    obtain ⟨c0, c1, c2, c3, c4, c5, c6, c7, c8, c9⟩ := SupAt.cells hS6
    obtain ⟨d0, d1, d2, d3, d4, d5, d6, d7, d8, d9⟩ := SupAt.cells hT6
    have HW6 := Lib.hid hw6
    clear hS4 hT4 hb4 b5 b56 hw6 hS6 hT6
    go_upto_region 7 with fail
    rw [HW6.out]
    clear HW6
    by_cases hk : IsSup b
    · have hk2 := hk.2
      have D2 := fun w => udec_yes b hs hk w
      have C2 := fun w => check_any (readS b) w
      rw [decide_eq_true hk.1] at C2
      have E2 := fun w => uenc_yes (readS b) hk.1 w
      rw [hk2] at E2
      have M := Lib.hid (fun w => mask_no b hs (by rw [← hk2]; exact sup_begins _) w)
      generalize readS b = Y at *
      obtain ⟨x0, x1, x2, x3, x4, x5, x6, x7, x8, x9⟩ := Y
      have D2 := Lib.hid D2
      have C2 := Lib.hid C2
      have E2 := Lib.hid E2
      clear hk hk2
      go_wp2_with fail
      refine (D2.out _).mono ?_; rintro e w7 ⟨rfl, b7⟩
      obtain ⟨w8, hw8⟩ : ∃ w8, w7.alloc (.cells #[.int .i64 x0, .int .i64 x1, .int .i64 x2, .int .i64 x3, .int .i64 x4, .int .i64 x5, .int .i64 x6, .int .i64 x7, .int .i64 x8, .int .i64 x9] 23) = w8 := ⟨_, rfl⟩
      have hU8 : SupAt w7.heap.size ⟨x0, x1, x2, x3, x4, x5, x6, x7, x8, x9⟩ w8 := by rw [← hw8]; exact Blk.new _ _ w7
      have hb8 : Below w.heap.size w w8 := by rw [← hw8]; exact balloc (bnext hb6 b7) _
      obtain ⟨k0, k1, k2, k3, k4, k5, k6, k7, k8, k9⟩ := SupAt.cells hU8
      have HU8 := Lib.hid hU8
      clear hb6 b7 hU8
      go_wp2_with fail
      refine (E2.out _).mono ?_; rintro e w9 ⟨rfl, b9⟩
      have hU9 := HU8.out.kept1 b9
      have hb9 := bnext hb8 b9
      clear hw8 b9 hb8 HU8 k0 k1 k2 k3 k4 k5 k6 k7 k8 k9
      obtain ⟨k0, k1, k2, k3, k4, k5, k6, k7, k8, k9⟩ := SupAt.cells hU9
      clear hU9
      go_wp2_with fail
      refine (M.out _).mono ?_; rintro e w10 ⟨rfl, rfl⟩
      go_wp2_with fail
      refine (C2.out _).mono ?_; rintro e w11 ⟨rfl, b11⟩
      have hb11 := bnext hb9 b11
      clear hb9 b11 k0 k1 k2 k3 k4 k5 k6 k7 k8 k9
      go_wp2_with fail
      refine (AL.out _).mono ?_; rintro e w12 ⟨rfl, b12⟩
      go_wp2
      go_ret
      exact ⟨rfl, bnext hb11 b12⟩
    · have D2 : Hid (∀ w, Calls Try.prog 15 #[.string b] w fun e w' => e = .returned (.tuple #[.agg #[.int .i64 0, .int .i64 0, .int .i64 0, .int .i64 0, .int .i64 0, .int .i64 0, .int .i64 0, .int .i64 0, .int .i64 0, .int .i64 0], .int .i64 80]) ∧ Below w.heap.size w w') := Lib.hid (fun w => udec_no b hs hk w)
      clear hk
      go_wp2_with fail
      refine (D2.out _).mono ?_; rintro e w7 ⟨rfl, b7⟩
      have hb7 := balloc (bnext hb6 b7) (.cells #[.int .i64 0, .int .i64 0, .int .i64 0, .int .i64 0, .int .i64 0, .int .i64 0, .int .i64 0, .int .i64 0, .int .i64 0, .int .i64 0] 23)
      clear hb6 b7
      go_wp2_with fail
      refine (AL.out _).mono ?_; rintro e w12 ⟨rfl, b12⟩
      go_wp2
      go_ret
      exact ⟨rfl, bnext hb7 b12⟩
  · have E := Lib.hid (fun w => uenc_no s h w)
    rw [decide_eq_false h] at C
    have C := Lib.hid C
    obtain ⟨y0, y1, y2, y3, y4, y5, y6, y7, y8, y9⟩ := s
    clear h
    go_enter Try.func5, Try.ntmps5
    go_wp2_with fail
    refine (E.out _).mono ?_; rintro e w1 ⟨rfl, b1⟩
    have hS1 := hS0.kept1 b1
    have hb1 := bnext hb0 b1
    obtain ⟨c0, c1, c2, c3, c4, c5, c6, c7, c8, c9⟩ := SupAt.cells hS1
    clear hS0 hb0 b1 hS1
    go_wp2_with fail
    refine (C.out _).mono ?_; rintro e w6 ⟨rfl, b6⟩
    have hb6 := bnext hb1 b6
    clear b6 hb1 c0 c1 c2 c3 c4 c5 c6 c7 c8 c9
    by_cases hk : IsSup b
    · have hk2 := hk.2
      have D2 := fun w => udec_yes b hs hk w
      have C2 := fun w => check_any (readS b) w
      rw [decide_eq_true hk.1] at C2
      have E2 := fun w => uenc_yes (readS b) hk.1 w
      rw [hk2] at E2
      have M := Lib.hid (fun w => mask_no b hs (by rw [← hk2]; exact sup_begins _) w)
      generalize readS b = Y at *
      obtain ⟨x0, x1, x2, x3, x4, x5, x6, x7, x8, x9⟩ := Y
      have D2 := Lib.hid D2
      have C2 := Lib.hid C2
      have E2 := Lib.hid E2
      clear hk hk2
      go_wp2_with fail
      refine (D2.out _).mono ?_; rintro e w7 ⟨rfl, b7⟩
      obtain ⟨w8, hw8⟩ : ∃ w8, w7.alloc (.cells #[.int .i64 x0, .int .i64 x1, .int .i64 x2, .int .i64 x3, .int .i64 x4, .int .i64 x5, .int .i64 x6, .int .i64 x7, .int .i64 x8, .int .i64 x9] 23) = w8 := ⟨_, rfl⟩
      have hU8 : SupAt w7.heap.size ⟨x0, x1, x2, x3, x4, x5, x6, x7, x8, x9⟩ w8 := by rw [← hw8]; exact Blk.new _ _ w7
      have hb8 : Below w.heap.size w w8 := by rw [← hw8]; exact balloc (bnext hb6 b7) _
      obtain ⟨k0, k1, k2, k3, k4, k5, k6, k7, k8, k9⟩ := SupAt.cells hU8
      have HU8 := Lib.hid hU8
      clear hb6 b7 hU8
      go_wp2_with fail
      refine (E2.out _).mono ?_; rintro e w9 ⟨rfl, b9⟩
      have hU9 := HU8.out.kept1 b9
      have hb9 := bnext hb8 b9
      clear hw8 b9 hb8 HU8 k0 k1 k2 k3 k4 k5 k6 k7 k8 k9
      obtain ⟨k0, k1, k2, k3, k4, k5, k6, k7, k8, k9⟩ := SupAt.cells hU9
      clear hU9
      go_wp2_with fail
      refine (M.out _).mono ?_; rintro e w10 ⟨rfl, rfl⟩
      go_wp2_with fail
      refine (C2.out _).mono ?_; rintro e w11 ⟨rfl, b11⟩
      have hb11 := bnext hb9 b11
      clear hb9 b11 k0 k1 k2 k3 k4 k5 k6 k7 k8 k9
      go_wp2_with fail
      refine (AL.out _).mono ?_; rintro e w12 ⟨rfl, b12⟩
      go_wp2
      go_ret
      exact ⟨rfl, bnext hb11 b12⟩
    · have D2 : Hid (∀ w, Calls Try.prog 15 #[.string b] w fun e w' => e = .returned (.tuple #[.agg #[.int .i64 0, .int .i64 0, .int .i64 0, .int .i64 0, .int .i64 0, .int .i64 0, .int .i64 0, .int .i64 0, .int .i64 0, .int .i64 0], .int .i64 80]) ∧ Below w.heap.size w w') := Lib.hid (fun w => udec_no b hs hk w)
      clear hk
      go_wp2_with fail
      refine (D2.out _).mono ?_; rintro e w7 ⟨rfl, b7⟩
      have hb7 := balloc (bnext hb6 b7) (.cells #[.int .i64 0, .int .i64 0, .int .i64 0, .int .i64 0, .int .i64 0, .int .i64 0, .int .i64 0, .int .i64 0, .int .i64 0, .int .i64 0] 23)
      clear hb6 b7
      go_wp2_with fail
      refine (AL.out _).mono ?_; rintro e w12 ⟨rfl, b12⟩
      go_wp2
      go_ret
      exact ⟨rfl, bnext hb7 b12⟩
end Go.Proofs.Ytonfloehobcfbaa
