/- The walks of SupersEncode, SupersDecode. -/
import Derived.Test.YtonfloehobcfbaaUAlive
import Derived.Test.YtonfloehobcfbaaURDec
namespace Go.Proofs.Ytonfloehobcfbaa
set_option linter.unusedVariables false
open Go.RowKit

set_option maxRecDepth 100000 in
set_option maxHeartbeats 4000000 in
theorem uencode_walk (s : Sup) (w : World) :
    Calls Try.prog 3 #[supV s] w fun e w' => e = .returned (.bool true) ∧ Below w.heap.size w w' := by
  have mixed : Try.prog.follows .mixedOrders = true := by kernel_rfl
  obtain ⟨T, c, E, RE⟩ : ∃ (T : ByteArray) (c : Int), Hid (∀ w, Calls Try.prog 10 #[supV s] w fun e w' => e = .returned (.tuple #[.string T, .int .i64 c]) ∧ Below w.heap.size w w') ∧
      Hid (∀ w, Calls Try.prog 11 #[supV s] w fun e w' => e = .returned (.tuple #[.string T, .int .i64 c]) ∧ Below w.heap.size w w') := by
    by_cases h : SupOk s
    · exact ⟨_, _, Lib.hid fun w => uenc_yes s h w, Lib.hid fun w => urenc_yes s h w⟩
    · exact ⟨_, _, Lib.hid fun w => uenc_no s h w, Lib.hid fun w => urenc_no s h w⟩
  have C := fun w => check_any s w
  have RC := fun w => rcheck_any s w
  generalize decide (SupOk s) = b at *
  have C := Lib.hid C
  have RC := Lib.hid RC
  have AL := Lib.hid ualive_any
  have hS0 : SupAt w.heap.size s (w.alloc (.cells (supC s) 23)) := Blk.new _ _ _
  have hb0 := balloc1 w (.cells (supC s) 23)
  go_enter Try.func3, Try.ntmps3
  go_wp2_with fail
  refine (E.out _).mono ?_; rintro e w1 ⟨rfl, b1⟩
  have hS1 := hS0.kept1 b1
  have hb1 := bnext hb0 b1
  obtain ⟨c0, c1, c2, c3, c4, c5, c6, c7, c8, c9⟩ := SupAt.cells hS1
  have HS1 := Lib.hid hS1
  clear hS0 hb0 b1 hS1
  go_wp2_with fail
  refine (RE.out _).mono ?_; rintro e w2 ⟨rfl, b2⟩
  have hS2 := HS1.out.kept1 b2
  have hb2 := bnext hb1 b2
  have kb := fun p : BelowP w2 => SupAt.cells (hS2.kept1 p.h)
  have k0 := fun p => (kb p).1
  have k1 := fun p => (kb p).2.1
  have k2 := fun p => (kb p).2.2.1
  have k3 := fun p => (kb p).2.2.2.1
  have k4 := fun p => (kb p).2.2.2.2.1
  have k5 := fun p => (kb p).2.2.2.2.2.1
  have k6 := fun p => (kb p).2.2.2.2.2.2.1
  have k7 := fun p => (kb p).2.2.2.2.2.2.2.1
  have k8 := fun p => (kb p).2.2.2.2.2.2.2.2.1
  have k9 := fun p => (kb p).2.2.2.2.2.2.2.2.2
  clear kb hb1 hS2 b2 HS1 c0 c1 c2 c3 c4 c5 c6 c7 c8 c9
  cases b <;>
  · go_wp2
    refine wp_region_quiet_below mixed (by kernel_rfl) ?_
    repeat (go_big_quiet_step (first | (go_at_call 12; refine calls_below (C.out _)) | (go_at_call 13; refine calls_below (RC.out _)) | (go_at_call 14; refine calls_below (AL.out _))))
    refine wpQuiet_nil ?_
    intro w0q hw'
    obtain ⟨⟨wq, bq⟩, hw''⟩ := hw'
    have hw2 : wq = w0q := hw''.symm
    clear hw''
    subst hw2
    have hb5 := bnext hb2 bq
    clear hb2 bq k0 k1 k2 k3 k4 k5 k6 k7 k8 k9
    go_wp2
    go_ret
    exact ⟨rfl, hb5⟩

/-- what both tell of a text -/
theorem udec_both (b : ByteArray) (hs : b.size ≤ maxLen) : ∃ (S : Sup) (c : Int), (∀ w, Calls Try.prog 15 #[.string b] w fun e w' => e = .returned (.tuple #[supV S, .int .i64 c]) ∧ Below w.heap.size w w') ∧
    (∀ w, Calls Try.prog 16 #[.string b] w fun e w' => e = .returned (.tuple #[supV S, .int .i64 c]) ∧ Below w.heap.size w w') := by
  by_cases h : IsSup b
  · exact ⟨_, _, fun w => udec_yes b hs h w, fun w => urdec_yes b hs h w⟩
  · exact ⟨_, _, fun w => udec_no b hs h w, fun w => urdec_no b hs h w⟩
set_option maxRecDepth 100000 in
set_option maxHeartbeats 4000000 in
theorem udecode_walk (b : ByteArray) (hs : b.size ≤ maxLen) (w : World) :
    Calls Try.prog 4 #[.string b] w fun e w' => e = .returned (.bool true) ∧ Below w.heap.size w w' := by
  have gh : Try.prog.stoodInHeld 23 = false := by kernel_rfl
  obtain ⟨S, c, D, RD⟩ := udec_both b hs
  have D := Lib.hid D
  have RD := Lib.hid RD
  have AL := Lib.hid ualive_any
  obtain ⟨x0, x1, x2, x3, x4, x5, x6, x7, x8, x9⟩ := S
  go_enter Try.func4, Try.ntmps4
  go_wp2_with fail
  refine (D.out _).mono ?_; rintro e w1 ⟨rfl, b1⟩
  obtain ⟨w2, hw2⟩ : ∃ w2, w1.alloc (.cells #[.int .i64 x0, .int .i64 x1, .int .i64 x2, .int .i64 x3, .int .i64 x4, .int .i64 x5, .int .i64 x6, .int .i64 x7, .int .i64 x8, .int .i64 x9] 23) = w2 := ⟨_, rfl⟩
  have hS2 : SupAt w1.heap.size ⟨x0, x1, x2, x3, x4, x5, x6, x7, x8, x9⟩ w2 := by rw [← hw2]; exact Blk.new _ _ w1
  have hb2 : Below w.heap.size w w2 := by rw [← hw2]; exact balloc b1 _
  go_wp2_with fail
  refine (RD.out _).mono ?_; rintro e w3 ⟨rfl, b3⟩
  have hS3 := hS2.kept1 b3
  have hb3 := bnext hb2 b3
  clear b1 hw2 hS2 hb2
  obtain ⟨w4, hw4⟩ : ∃ w4, w3.alloc (.cells #[.int .i64 x0, .int .i64 x1, .int .i64 x2, .int .i64 x3, .int .i64 x4, .int .i64 x5, .int .i64 x6, .int .i64 x7, .int .i64 x8, .int .i64 x9] 23) = w4 := ⟨_, rfl⟩
  have hS4 := hS3.kept1 (show Below w3.heap.size w3 w4 by rw [← hw4]; exact balloc1 _ _)
  have hT4 : SupAt w3.heap.size ⟨x0, x1, x2, x3, x4, x5, x6, x7, x8, x9⟩ w4 := by rw [← hw4]; exact Blk.new _ _ w3
  have hb4 : Below w.heap.size w w4 := by rw [← hw4]; exact balloc hb3 _
  obtain ⟨c0, c1, c2, c3, c4, c5, c6, c7, c8, c9⟩ := SupAt.cells hS4
  obtain ⟨d0, d1, d2, d3, d4, d5, d6, d7, d8, d9⟩ := SupAt.cells hT4
  clear hS4 hT4 hS3 b3 hb3
  go_wp2_with fail
  refine (AL.out _).mono ?_; rintro e w5 ⟨rfl, b5⟩
  have hb5 := bnext hb4 b5
  go_wp2
  go_ret
  exact ⟨rfl, hb5⟩
end Go.Proofs.Ytonfloehobcfbaa
