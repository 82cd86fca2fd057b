/- Decode, the program's and the document's. -/
import Derived.Test.YtonfloehobcfbaaUDec
namespace Go.Proofs.Ytonfloehobcfbaa
set_option linter.unusedVariables false
open Go.RowKit

abbrev decBad : Ending := .returned (.tuple #[supV noS, .int .i64 80])
set_option maxRecDepth 100000 in
set_option maxHeartbeats 4000000 in
theorem udec_noenc (b : ByteArray) (hs : b.size ≤ maxLen) (h : ¬ SupOk (readX b)) (w : World) :
    Calls Try.prog 15 #[.string b] w fun e w' => e = decBad ∧ Below w.heap.size w w' := by
  have R := Lib.hid (fun w => uread_any b hs w)
  generalize readX b = s at *
  obtain ⟨w0, hw0⟩ : ∃ w0, w.alloc (.cells #[.int .i64 0, .int .i64 0, .int .i64 0, .int .i64 0, .int .i64 0, .int .i64 0, .int .i64 0, .int .i64 0, .int .i64 0, .int .i64 0] 23) = w0 := ⟨_, rfl⟩
  have hZ0 : SupAt w.heap.size noS w0 := by rw [← hw0]; exact Blk.new _ _ w
  have hb0 : Below w.heap.size w w0 := by rw [← hw0]; exact balloc1 w _
  have hs0 : w0.heap.size = w.heap.size + 1 := by rw [← hw0, size_alloc]
  obtain ⟨x0, x1, x2, x3, x4, x5, x6, x7, x8, x9⟩ := s
  go_enter Try.func15, Try.ntmps15
  go_wp2_with fail
  refine (R.out _).mono ?_; rintro e w1 ⟨rfl, b1⟩
  have hb1 := bnext hb0 b1
  obtain ⟨w2, hw2⟩ : ∃ w2, w1.alloc (.cells #[.int .i64 x0, .int .i64 x1, .int .i64 x2, .int .i64 x3, .int .i64 x4, .int .i64 x5, .int .i64 x6, .int .i64 x7, .int .i64 x8, .int .i64 x9] 23) = w2 := ⟨_, rfl⟩
  have hb2 : Below w.heap.size w w2 := by rw [← hw2]; exact balloc hb1 _
  have hZ2 := (hZ0.kept1 b1).kept1 (show Below w1.heap.size w1 w2 by rw [← hw2]; exact balloc1 w1 _)
  have hS2 : SupAt w1.heap.size ⟨x0, x1, x2, x3, x4, x5, x6, x7, x8, x9⟩ w2 := by rw [← hw2]; exact Blk.new _ _ w1
  have hsz : w.heap.size < w1.heap.size := by have := b1.size; omega
  clear hw0 hZ0 hb0 b1 hb1 R hs0
  have E := Lib.hid (fun w => uenc_no ⟨x0, x1, x2, x3, x4, x5, x6, x7, x8, x9⟩ h w)
  clear h
  obtain ⟨d0, d1, d2, d3, d4, d5, d6, d7, d8, d9⟩ := SupAt.cells hS2
  have HW2 := Lib.hid hw2
  clear hw2
  go_wp2_with fail
  try rw [HW2.out]
  refine (E.out _).mono ?_; rintro e w4 ⟨rfl, b4⟩
  have HZ := Lib.hid (hZ2.kept1 b4)
  have HB := Lib.hid (bnext hb2 b4)
  clear hZ2 hb2 b4 d0 d1 d2 d3 d4 d5 d6 d7 d8 d9 E HW2 hS2
  go_wp2_with (refine wpList_store_sup (s := noS) rfl _ _ rfl rfl rfl HZ.out ?_)
  intro w5 h5 hl5 hs5 _
  obtain ⟨y0, y1, y2, y3, y4, y5, y6, y7, y8, y9⟩ := SupAt.cells h5
  have hbe : Below w.heap.size w w5 := HB.out.trans hl5
  clear hl5 hs5
  go_wp2
  refine bodyPost_ret (v := .tuple #[supV noS, .int .i64 80]) ?_ rfl ⟨rfl, hbe⟩
  rw [results_cell_tmp rfl]
  go_simp
set_option maxRecDepth 100000 in
set_option maxHeartbeats 4000000 in
theorem udec_other (b : ByteArray) (hs : b.size ≤ maxLen) (h : SupOk (readX b)) (hne : sup (readX b) ≠ b) (w : World) :
    Calls Try.prog 15 #[.string b] w fun e w' => e = decBad ∧ Below w.heap.size w w' := by
  have R := Lib.hid (fun w => uread_any b hs w)
  generalize readX b = s at *
  obtain ⟨w0, hw0⟩ : ∃ w0, w.alloc (.cells #[.int .i64 0, .int .i64 0, .int .i64 0, .int .i64 0, .int .i64 0, .int .i64 0, .int .i64 0, .int .i64 0, .int .i64 0, .int .i64 0] 23) = w0 := ⟨_, rfl⟩
  have hZ0 : SupAt w.heap.size noS w0 := by rw [← hw0]; exact Blk.new _ _ w
  have hb0 : Below w.heap.size w w0 := by rw [← hw0]; exact balloc1 w _
  have hs0 : w0.heap.size = w.heap.size + 1 := by rw [← hw0, size_alloc]
  obtain ⟨x0, x1, x2, x3, x4, x5, x6, x7, x8, x9⟩ := s
  go_enter Try.func15, Try.ntmps15
  go_wp2_with fail
  refine (R.out _).mono ?_; rintro e w1 ⟨rfl, b1⟩
  have hb1 := bnext hb0 b1
  obtain ⟨w2, hw2⟩ : ∃ w2, w1.alloc (.cells #[.int .i64 x0, .int .i64 x1, .int .i64 x2, .int .i64 x3, .int .i64 x4, .int .i64 x5, .int .i64 x6, .int .i64 x7, .int .i64 x8, .int .i64 x9] 23) = w2 := ⟨_, rfl⟩
  have hb2 : Below w.heap.size w w2 := by rw [← hw2]; exact balloc hb1 _
  have hZ2 := (hZ0.kept1 b1).kept1 (show Below w1.heap.size w1 w2 by rw [← hw2]; exact balloc1 w1 _)
  have hS2 : SupAt w1.heap.size ⟨x0, x1, x2, x3, x4, x5, x6, x7, x8, x9⟩ w2 := by rw [← hw2]; exact Blk.new _ _ w1
  have hsz : w.heap.size < w1.heap.size := by have := b1.size; omega
  clear hw0 hZ0 hb0 b1 hb1 R hs0
  have E := fun w => uenc_yes ⟨x0, x1, x2, x3, x4, x5, x6, x7, x8, x9⟩ h w
  have hd := supText_ne hne
  generalize sup ⟨x0, x1, x2, x3, x4, x5, x6, x7, x8, x9⟩ = T at *
  have E := Lib.hid E
  clear h hne
  obtain ⟨d0, d1, d2, d3, d4, d5, d6, d7, d8, d9⟩ := SupAt.cells hS2
  have HW2 := Lib.hid hw2
  clear hw2
  go_wp2_with fail
  try rw [HW2.out]
  refine (E.out _).mono ?_; rintro e w4 ⟨rfl, b4⟩
  have HZ := Lib.hid (hZ2.kept1 b4)
  have HB := Lib.hid (bnext hb2 b4)
  clear hZ2 hb2 b4 d0 d1 d2 d3 d4 d5 d6 d7 d8 d9 E HW2 hS2
  go_wp2_with (refine wpList_store_sup (s := noS) rfl _ _ rfl rfl rfl HZ.out ?_)
  intro w5 h5 hl5 hs5 _
  obtain ⟨y0, y1, y2, y3, y4, y5, y6, y7, y8, y9⟩ := SupAt.cells h5
  have hbe : Below w.heap.size w w5 := HB.out.trans hl5
  clear hl5 hs5
  go_wp2
  refine bodyPost_ret (v := .tuple #[supV noS, .int .i64 80]) ?_ rfl ⟨rfl, hbe⟩
  rw [results_cell_tmp rfl]
  go_simp
set_option maxRecDepth 100000 in
set_option maxHeartbeats 4000000 in
theorem udec_same (b : ByteArray) (hs : b.size ≤ maxLen) (h : SupOk (readX b)) (he : sup (readX b) = b) (w : World) :
    Calls Try.prog 15 #[.string b] w fun e w' => e = .returned (.tuple #[supV (readX b), .int .i64 0]) ∧ Below w.heap.size w w' := by
  have R := Lib.hid (fun w => uread_any b hs w)
  generalize readX b = s at *
  obtain ⟨w0, hw0⟩ : ∃ w0, w.alloc (.cells #[.int .i64 0, .int .i64 0, .int .i64 0, .int .i64 0, .int .i64 0, .int .i64 0, .int .i64 0, .int .i64 0, .int .i64 0, .int .i64 0] 23) = w0 := ⟨_, rfl⟩
  have hZ0 : SupAt w.heap.size noS w0 := by rw [← hw0]; exact Blk.new _ _ w
  have hb0 : Below w.heap.size w w0 := by rw [← hw0]; exact balloc1 w _
  have hs0 : w0.heap.size = w.heap.size + 1 := by rw [← hw0, size_alloc]
  obtain ⟨x0, x1, x2, x3, x4, x5, x6, x7, x8, x9⟩ := s
  go_enter Try.func15, Try.ntmps15
  go_wp2_with fail
  refine (R.out _).mono ?_; rintro e w1 ⟨rfl, b1⟩
  have hb1 := bnext hb0 b1
  obtain ⟨w2, hw2⟩ : ∃ w2, w1.alloc (.cells #[.int .i64 x0, .int .i64 x1, .int .i64 x2, .int .i64 x3, .int .i64 x4, .int .i64 x5, .int .i64 x6, .int .i64 x7, .int .i64 x8, .int .i64 x9] 23) = w2 := ⟨_, rfl⟩
  have hb2 : Below w.heap.size w w2 := by rw [← hw2]; exact balloc hb1 _
  have hZ2 := (hZ0.kept1 b1).kept1 (show Below w1.heap.size w1 w2 by rw [← hw2]; exact balloc1 w1 _)
  have hS2 : SupAt w1.heap.size ⟨x0, x1, x2, x3, x4, x5, x6, x7, x8, x9⟩ w2 := by rw [← hw2]; exact Blk.new _ _ w1
  have hsz : w.heap.size < w1.heap.size := by have := b1.size; omega
  clear hw0 hZ0 hb0 b1 hb1 R hs0
  have E := fun w => uenc_yes ⟨x0, x1, x2, x3, x4, x5, x6, x7, x8, x9⟩ h w
  rw [he] at E
  have E := Lib.hid E
  clear h he
  obtain ⟨d0, d1, d2, d3, d4, d5, d6, d7, d8, d9⟩ := SupAt.cells hS2
  have HW2 := Lib.hid hw2
  clear hw2
  go_wp2_with fail
  try rw [HW2.out]
  refine (E.out _).mono ?_; rintro e w4 ⟨rfl, b4⟩
  have HZ := Lib.hid (hZ2.kept1 b4)
  have HB := Lib.hid (bnext hb2 b4)
  have hS4 := hS2.kept1 b4
  clear hZ2 hb2 b4 d0 d1 d2 d3 d4 d5 d6 d7 d8 d9 E HW2 hS2
  obtain ⟨d0, d1, d2, d3, d4, d5, d6, d7, d8, d9⟩ := SupAt.cells hS4
  clear hS4
  go_wp2_with (refine wpList_store_sup (s := ⟨x0, x1, x2, x3, x4, x5, x6, x7, x8, x9⟩) rfl _ _ rfl rfl rfl HZ.out ?_)
  intro w5 h5 hl5 hs5 _
  obtain ⟨y0, y1, y2, y3, y4, y5, y6, y7, y8, y9⟩ := SupAt.cells h5
  have hbe : Below w.heap.size w w5 := HB.out.trans hl5
  clear hl5 hs5
  go_wp2
  refine bodyPost_ret (v := .tuple #[supV ⟨x0, x1, x2, x3, x4, x5, x6, x7, x8, x9⟩, .int .i64 0]) ?_ rfl ⟨rfl, hbe⟩
  rw [results_cell_tmp rfl]
  go_simp
theorem udec_yes (b : ByteArray) (hs : b.size ≤ maxLen) (h : IsSup b) (w : World) :
    Calls Try.prog 15 #[.string b] w fun e w' => e = .returned (.tuple #[supV (readS b), .int .i64 0]) ∧ Below w.heap.size w w' := by
  have k := (isSup_iff b).2 h
  have := udec_same b hs k.1 k.2 w
  rwa [readX_in (isSup_size h)] at this
theorem udec_no (b : ByteArray) (hs : b.size ≤ maxLen) (h : ¬ IsSup b) (w : World) :
    Calls Try.prog 15 #[.string b] w fun e w' => e = decBad ∧ Below w.heap.size w w' := by
  by_cases h1 : SupOk (readX b)
  · exact udec_other b hs h1 (fun h2 => h ((isSup_iff b).1 ⟨h1, h2⟩)) w
  · exact udec_noenc b hs h1 w
end Go.Proofs.Ytonfloehobcfbaa
