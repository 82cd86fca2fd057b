/- The chapter's examples. -/
import Derived.Test.YtonfloehobcfbaaUDec2
import Derived.Test.YtonfloehobcfbaaKMaskM
import Derived.Deep.Cut
namespace Go.Proofs.Ytonfloehobcfbaa
set_option linter.unusedVariables false
open Go.RowKit

def supX : Sup := ⟨256, 128, 8, 134, 0, 0, 0, 0, 0, 0⟩
def supY : Sup := ⟨256, 128, 8, 257, 0, 0, 0, 0, 0, 0⟩
def supZ : Sup := ⟨256, 128, 8, 0, 7, 3, 200, 190, 4, 3⟩
def supW : Sup := ⟨256, 128, 8, 0, 7, 3, 200, 190, 4, 4⟩
theorem supX_ok : SupOk supX := by decide
theorem supY_no : ¬ SupOk supY := by decide
theorem supZ_ok : SupOk supZ := by decide
theorem supW_no : ¬ SupOk supW := by decide
theorem uzeros_no : ¬ IsSup (bs (zeroL 128)) := by
  rintro ⟨-, h⟩
  have e := congrArg (fun b : ByteArray => b.data.toList.head?) h
  rw [sup_list, bs_list] at e
  simp [supL, supHead, zeroL] at e
set_option maxRecDepth 100000 in
set_option maxHeartbeats 4000000 in
theorem ualive_any (w : World) :
    Calls Try.prog 14 #[] w fun e w' => e = .returned (.bool true) ∧ Below w.heap.size w w' := by
  have gh : Try.prog.stoodInHeld 23 = false := by kernel_rfl
  obtain ⟨S, E1, D1, hsz, h24⟩ : ∃ S : ByteArray,
      Hid (∀ w, Calls Try.prog 10 #[.agg #[.int .i64 256, .int .i64 128, .int .i64 8, .int .i64 134, .int .i64 0, .int .i64 0, .int .i64 0, .int .i64 0, .int .i64 0, .int .i64 0]] w fun e w' => e = supRet S ∧ Below w.heap.size w w') ∧
      Hid (∀ w, Calls Try.prog 15 #[.string S] w fun e w' => e = .returned (.tuple #[.agg #[.int .i64 256, .int .i64 128, .int .i64 8, .int .i64 134, .int .i64 0, .int .i64 0, .int .i64 0, .int .i64 0, .int .i64 0, .int .i64 0], .int .i64 0]) ∧ Below w.heap.size w w') ∧
      S.size = 128 ∧ ((S.extract 0 24).toList == [103, 108, 105, 115, 115, 97, 100, 101, 0, 1, 0, 0, 128, 0, 0, 0, 8, 0, 0, 0, 134, 0, 0, 0]) = true := by
    refine ⟨sup supX, Lib.hid fun w => uenc_yes supX supX_ok w, Lib.hid fun w => ?_, sup_size _, ?_⟩
    · have := udec_yes (sup supX) (by rw [sup_size]; unfold maxLen; omega) (isSup_of supX_ok) w
      rwa [read_sup supX_ok] at this
    · rw [ext_list, sup_list]; rfl
  have D2 : Hid (∀ w, Calls Try.prog 15 #[.string (bs (zeroL 128))] w fun e w' => e = .returned (.tuple #[.agg #[.int .i64 0, .int .i64 0, .int .i64 0, .int .i64 0, .int .i64 0, .int .i64 0, .int .i64 0, .int .i64 0, .int .i64 0, .int .i64 0], .int .i64 80]) ∧ Below w.heap.size w w') := Lib.hid (fun w => udec_no (bs (zeroL 128)) (by rw [bs_size, zeroL_length]; unfold maxLen; omega) uzeros_no w)
  have C1 := fun w => check_any supY w
  rw [decide_eq_false supY_no] at C1
  have C2 := fun w => check_any supZ w
  rw [decide_eq_true supZ_ok] at C2
  have C3 := fun w => check_any supW w
  rw [decide_eq_false supW_no] at C3
  have C1 := Lib.hid C1
  have C2 := Lib.hid C2
  have C3 := Lib.hid C3
  have hm : ∀ w, (Instr.makeSlice 53 (.int .i64 128) (.int .i64 128)).run Try.prog w = .ok (.slice (some ⟨w.heap.size, 0, none⟩) 128 128) (w.alloc (.cells (madeCells #[.int .u8 0] 128) 5)) := fun w => kz_made 128 (by omega) w
  have hbk := fun w => kz_back w 128
  generalize bs (zeroL 128) = Z at *
  go_enter Try.func14, Try.ntmps14
  go_wp2_with fail
  refine (E1.out _).mono ?_; rintro e w1 ⟨rfl, b1⟩
  have hS0 : SupAt w.heap.size supX (w.alloc (.cells (supC supX) 23)) := Blk.new _ _ _
  have hS1 := hS0.kept1 b1
  have hb1 := bnext (balloc1 w (.cells (supC supX) 23)) b1
  clear b1 hS0
  go_wp2_with fail
  refine (D1.out _).mono ?_; rintro e w2 ⟨rfl, b2⟩
  have hS2 := hS1.kept1 b2
  have hb2 := bnext hb1 b2
  have hT3 : SupAt w2.heap.size supX (w2.alloc (.cells (supC supX) 23)) := Blk.new _ _ _
  have hS3 := hS2.kept1 (balloc1 w2 (.cells (supC supX) 23))
  have hb3 := balloc hb2 (.cells (supC supX) 23)
  obtain ⟨w3, hw3⟩ : ∃ w3, w2.alloc (.cells #[.int .i64 256, .int .i64 128, .int .i64 8, .int .i64 134, .int .i64 0, .int .i64 0, .int .i64 0, .int .i64 0, .int .i64 0, .int .i64 0] 23) = w3 := ⟨_, rfl⟩
  have hT3 : SupAt w2.heap.size supX w3 := by rw [← hw3]; exact hT3
  have hS3 : SupAt w.heap.size supX w3 := by rw [← hw3]; exact hS3
  have hb3 : Below w.heap.size w w3 := by rw [← hw3]; exact hb3
  have HW3 := Lib.hid hw3
  clear b2 hS1 hb1 hS2 hb2 hw3
  obtain ⟨w4, hw4⟩ : ∃ w4, w3.alloc (.cells (madeCells #[.int .u8 0] 128) 5) = w4 := ⟨_, rfl⟩
  have hT4 := hT3.kept1 (show Below w3.heap.size w3 w4 by rw [← hw4]; exact balloc1 _ _)
  have hS4 := hS3.kept1 (show Below w3.heap.size w3 w4 by rw [← hw4]; exact balloc1 _ _)
  have hb4 : Below w.heap.size w w4 := by rw [← hw4]; exact balloc hb3 _
  have hm3 := hm w3
  have hbk3 := hbk w3
  rw [hw4] at hm3 hbk3
  clear hT3 hS3 hb3 hw4 hm hbk
  go_upto_region 4 with fail
  rw [HW3.out]
  go_wp2_with fail
  refine (D2.out _).mono ?_; rintro e w5 ⟨rfl, b5⟩
  have hT5 := hT4.kept1 b5
  have hS5 := hS4.kept1 b5
  have hb5 := bnext hb4 b5
  obtain ⟨w6, hw6⟩ : ∃ w6, w5.alloc (.cells #[.int .i64 0, .int .i64 0, .int .i64 0, .int .i64 0, .int .i64 0, .int .i64 0, .int .i64 0, .int .i64 0, .int .i64 0, .int .i64 0] 23) = w6 := ⟨_, rfl⟩
  have hT6 := hT5.kept1 (show Below w5.heap.size w5 w6 by rw [← hw6]; exact balloc1 _ _)
  have hS6 := hS5.kept1 (show Below w5.heap.size w5 w6 by rw [← hw6]; exact balloc1 _ _)
  have hb6 : Below w.heap.size w w6 := by rw [← hw6]; exact balloc hb5 _
  have HW6 := Lib.hid hw6
  clear hT4 hS4 hb4 hm3 hbk3 b5 hT5 hS5 hb5 hw6 HW3 E1 D1 D2
  obtain ⟨c0, c1, c2, c3, c4, c5, c6, c7, c8, c9⟩ := SupAt.cells hS6
  obtain ⟨d0, d1, d2, d3, d4, d5, d6, d7, d8, d9⟩ := SupAt.cells hT6
  clear hS6 hT6
  unfold supX at *
  dsimp only at *
  go_upto_region 5 with fail
  rw [HW6.out]
  go_wp2_with fail
  refine (C1.out _).mono ?_; rintro e w7 ⟨rfl, b7⟩
  have hb7 := bnext hb6 b7
  go_wp2_with fail
  refine (C2.out _).mono ?_; rintro e w8 ⟨rfl, b8⟩
  have hb8 := bnext hb7 b8
  go_wp2_with fail
  refine (C3.out _).mono ?_; rintro e w9 ⟨rfl, b9⟩
  have hb9 := bnext hb8 b9
  go_wp2
  go_ret
  exact ⟨rfl, hb9⟩
end Go.Proofs.Ytonfloehobcfbaa
