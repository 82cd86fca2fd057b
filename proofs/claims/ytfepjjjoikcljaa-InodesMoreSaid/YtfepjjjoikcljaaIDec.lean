/- Decode, the program's. -/
import Derived.Test.YtfepjjjoikcljaaIRead
import Derived.Test.YtfepjjjoikcljaaIEnc
namespace Go.Proofs.Ytfepjjjoikcljaa
set_option linter.unusedVariables false
open Go.RowKit

abbrev inoBadD : Ending := .returned (.tuple #[inoV noI (.slice none 0 0), .int .i64 80])
theorem inoText_ne {a b : ByteArray} (h : a ≠ b) : (a.toList == b.toList) = false := by
  rw [beq_eq_false_iff_ne]
  intro e
  apply h
  rw [ByteArray.toList_eq, ByteArray.toList_eq] at e
  cases a; cases b; simp at e; rw [e]
theorem readP_fit (s : ByteArray) : fitE (readP s).root := fitG (numP_fit s) _
set_option maxRecDepth 100000 in
set_option maxHeartbeats 4000000 in
theorem idec_noenc (s : ByteArray) (hs : s.size ≤ maxLen) (h : ¬ InoOk (readP s)) (w : World) :
    Calls Try.prog 15 #[.string s] w fun e w' => e = inoBadD ∧ Below w.heap.size w w' := by
  have hf := readP_fit s
  have R := Lib.hid (fun w => iread_any s hs w)
  generalize readP s = x at *
  obtain ⟨w0, hw0⟩ : ∃ w0, w.alloc (.cells #[.int .i64 0, .bool false, .int .i64 0, .int .i64 0, .int .i64 0, .slice none 0 0] 24) = w0 := ⟨_, rfl⟩
  have hZ0 : Blk w.heap.size noC 24 w0 := by rw [← hw0]; exact Blk.new _ _ w
  have hb0 : Below w.heap.size w w0 := by rw [← hw0]; exact balloc1 w _
  have hs0 : w0.heap.size = w.heap.size + 1 := by rw [← hw0, size_alloc]
  obtain ⟨kd, pn, lk, sz, dp, rt⟩ := x
  dsimp only at *
  go_enter Try.func15, Try.ntmps15
  go_wp2_with fail
  refine (R.out _).mono ?_; rintro e w1 ⟨v, rfl, hR1, b1⟩
  have hb1 := bnext hb0 b1
  obtain ⟨ad, cap, rfl, -⟩ := shape_of hR1
  obtain ⟨w2, hw2⟩ : ∃ w2, w1.alloc (.cells #[.int .i64 kd, .bool pn, .int .i64 lk, .int .i64 sz, .int .i64 dp, .slice ad rt.length cap] 24) = w2 := ⟨_, rfl⟩
  have hb2 : Below w.heap.size w w2 := by rw [← hw2]; exact balloc hb1 _
  have hZ2 := (hZ0.kept1 b1).kept1 (show Below w1.heap.size w1 w2 by rw [← hw2]; exact balloc1 w1 _)
  have hS2 : InoAt w1.heap.size ⟨kd, pn, lk, sz, dp, rt⟩ (.slice ad rt.length cap) w2 := by rw [← hw2]; exact Blk.new _ _ w1
  have hR2 := row_kept hR1 (show Below w1.heap.size w1 w2 by rw [← hw2]; exact balloc1 w1 _)
  have hsz : w.heap.size < w1.heap.size := by have := b1.size; omega
  clear hw0 hZ0 hb0 b1 hb1 R hR1
  have E := Lib.hid (ienc_no ⟨kd, pn, lk, sz, dp, rt⟩ hf h (.slice ad rt.length cap) w2 (entsAt_in hR2))
  obtain ⟨x0, x1, x2, x3, x4, x5⟩ := InoAt.cells hS2
  clear h hf hS2 hR2
  have HW2 := Lib.hid hw2
  clear hw2
  dsimp only at *
  go_wp2_with fail
  try rw [HW2.out]
  refine E.out.mono ?_; rintro e w4 ⟨rfl, b⟩
  have HZ := Lib.hid (hZ2.kept1 b)
  have HB := Lib.hid (bnext hb2 b)
  clear hZ2 hb2 b x0 x1 x2 x3 x4 x5 E HW2
  go_wp2_with (refine wpList_store_ino (i := noI) rfl _ _ rfl rfl rfl _ rfl HZ.out ?_)
  intro w5 h5 hl5 hs5 _
  obtain ⟨y0, y1, y2, y3, y4, y5⟩ := InoAt.cells h5
  have hbe : Below w.heap.size w w5 := HB.out.trans hl5
  clear hl5 hs5 h5
  dsimp only [noI] at *
  go_wp2
  refine bodyPost_ret (v := .tuple #[inoV noI (.slice none 0 0), .int .i64 80]) ?_ rfl ⟨rfl, hbe⟩
  rw [results_cell_tmp rfl]
  go_simp
  try exact ⟨rfl, rfl, rfl, rfl, rfl⟩
set_option maxRecDepth 100000 in
set_option maxHeartbeats 4000000 in
theorem idec_other (s : ByteArray) (hs : s.size ≤ maxLen) (h : InoOk (readP s)) (hne : ino (readP s) ≠ s) (w : World) :
    Calls Try.prog 15 #[.string s] w fun e w' => e = inoBadD ∧ Below w.heap.size w w' := by
  have hf := readP_fit s
  have R := Lib.hid (fun w => iread_any s hs w)
  generalize readP s = x at *
  obtain ⟨w0, hw0⟩ : ∃ w0, w.alloc (.cells #[.int .i64 0, .bool false, .int .i64 0, .int .i64 0, .int .i64 0, .slice none 0 0] 24) = w0 := ⟨_, rfl⟩
  have hZ0 : Blk w.heap.size noC 24 w0 := by rw [← hw0]; exact Blk.new _ _ w
  have hb0 : Below w.heap.size w w0 := by rw [← hw0]; exact balloc1 w _
  have hs0 : w0.heap.size = w.heap.size + 1 := by rw [← hw0, size_alloc]
  obtain ⟨kd, pn, lk, sz, dp, rt⟩ := x
  dsimp only at *
  go_enter Try.func15, Try.ntmps15
  go_wp2_with fail
  refine (R.out _).mono ?_; rintro e w1 ⟨v, rfl, hR1, b1⟩
  have hb1 := bnext hb0 b1
  obtain ⟨ad, cap, rfl, -⟩ := shape_of hR1
  obtain ⟨w2, hw2⟩ : ∃ w2, w1.alloc (.cells #[.int .i64 kd, .bool pn, .int .i64 lk, .int .i64 sz, .int .i64 dp, .slice ad rt.length cap] 24) = w2 := ⟨_, rfl⟩
  have hb2 : Below w.heap.size w w2 := by rw [← hw2]; exact balloc hb1 _
  have hZ2 := (hZ0.kept1 b1).kept1 (show Below w1.heap.size w1 w2 by rw [← hw2]; exact balloc1 w1 _)
  have hS2 : InoAt w1.heap.size ⟨kd, pn, lk, sz, dp, rt⟩ (.slice ad rt.length cap) w2 := by rw [← hw2]; exact Blk.new _ _ w1
  have hR2 := row_kept hR1 (show Below w1.heap.size w1 w2 by rw [← hw2]; exact balloc1 w1 _)
  have hsz : w.heap.size < w1.heap.size := by have := b1.size; omega
  clear hw0 hZ0 hb0 b1 hb1 R hR1
  have E := ienc_yes ⟨kd, pn, lk, sz, dp, rt⟩ h (.slice ad rt.length cap) w2 hf (entsAt_in hR2)
  have hd := inoText_ne hne
  generalize ino ⟨kd, pn, lk, sz, dp, rt⟩ = T at *
  have E := Lib.hid E
  obtain ⟨x0, x1, x2, x3, x4, x5⟩ := InoAt.cells hS2
  clear h hf hS2 hR2 hne
  have HW2 := Lib.hid hw2
  clear hw2
  dsimp only at *
  go_wp2_with fail
  try rw [HW2.out]
  refine E.out.mono ?_; rintro e w4 ⟨rfl, b⟩
  have HZ := Lib.hid (hZ2.kept1 b)
  have HB := Lib.hid (bnext hb2 b)
  clear hZ2 hb2 b x0 x1 x2 x3 x4 x5 E HW2
  go_wp2_with (refine wpList_store_ino (i := noI) rfl _ _ rfl rfl rfl _ rfl HZ.out ?_)
  intro w5 h5 hl5 hs5 _
  obtain ⟨y0, y1, y2, y3, y4, y5⟩ := InoAt.cells h5
  have hbe : Below w.heap.size w w5 := HB.out.trans hl5
  clear hl5 hs5 h5
  dsimp only [noI] at *
  go_wp2
  refine bodyPost_ret (v := .tuple #[inoV noI (.slice none 0 0), .int .i64 80]) ?_ rfl ⟨rfl, hbe⟩
  rw [results_cell_tmp rfl]
  go_simp
  try exact ⟨rfl, rfl, rfl, rfl, rfl⟩
set_option maxRecDepth 100000 in
set_option maxHeartbeats 4000000 in
theorem idec_same (s : ByteArray) (hs : s.size ≤ maxLen) (h : InoOk (readP s)) (he : ino (readP s) = s) (w : World) :
    Calls Try.prog 15 #[.string s] w fun e w' => ∃ v, e = .returned (.tuple #[inoV (readP s) v, .int .i64 0]) ∧ EntsAt w.heap.size v (readP s).root w' ∧ Below w.heap.size w w' := by
  have hf := readP_fit s
  have R := Lib.hid (fun w => iread_any s hs w)
  generalize readP s = x at *
  obtain ⟨w0, hw0⟩ : ∃ w0, w.alloc (.cells #[.int .i64 0, .bool false, .int .i64 0, .int .i64 0, .int .i64 0, .slice none 0 0] 24) = w0 := ⟨_, rfl⟩
  have hZ0 : Blk w.heap.size noC 24 w0 := by rw [← hw0]; exact Blk.new _ _ w
  have hb0 : Below w.heap.size w w0 := by rw [← hw0]; exact balloc1 w _
  have hs0 : w0.heap.size = w.heap.size + 1 := by rw [← hw0, size_alloc]
  obtain ⟨kd, pn, lk, sz, dp, rt⟩ := x
  dsimp only at *
  go_enter Try.func15, Try.ntmps15
  go_wp2_with fail
  refine (R.out _).mono ?_; rintro e w1 ⟨v, rfl, hR1, b1⟩
  have hb1 := bnext hb0 b1
  obtain ⟨ad, cap, rfl, -⟩ := shape_of hR1
  obtain ⟨w2, hw2⟩ : ∃ w2, w1.alloc (.cells #[.int .i64 kd, .bool pn, .int .i64 lk, .int .i64 sz, .int .i64 dp, .slice ad rt.length cap] 24) = w2 := ⟨_, rfl⟩
  have hb2 : Below w.heap.size w w2 := by rw [← hw2]; exact balloc hb1 _
  have hZ2 := (hZ0.kept1 b1).kept1 (show Below w1.heap.size w1 w2 by rw [← hw2]; exact balloc1 w1 _)
  have hS2 : InoAt w1.heap.size ⟨kd, pn, lk, sz, dp, rt⟩ (.slice ad rt.length cap) w2 := by rw [← hw2]; exact Blk.new _ _ w1
  have hR2 := row_kept hR1 (show Below w1.heap.size w1 w2 by rw [← hw2]; exact balloc1 w1 _)
  have hsz : w.heap.size < w1.heap.size := by have := b1.size; omega
  clear hw0 hZ0 hb0 b1 hb1 R hR1
  have E := ienc_yes ⟨kd, pn, lk, sz, dp, rt⟩ h (.slice ad rt.length cap) w2 hf (entsAt_in hR2)
  rw [he] at E
  have E := Lib.hid E
  obtain ⟨x0, x1, x2, x3, x4, x5⟩ := InoAt.cells hS2
  clear h hf he
  have HW2 := Lib.hid hw2
  clear hw2
  dsimp only at *
  go_wp2_with fail
  try rw [HW2.out]
  refine E.out.mono ?_; rintro e w4 ⟨rfl, b⟩
  have HZ := Lib.hid (hZ2.kept1 b)
  have HB := Lib.hid (bnext hb2 b)
  have HRR := Lib.hid (row_kept hR2 b)
  have hS4 := hS2.kept1 b
  clear hZ2 hb2 b x0 x1 x2 x3 x4 x5 E HW2 hS2 hR2
  obtain ⟨x0, x1, x2, x3, x4, x5⟩ := InoAt.cells hS4
  dsimp only at *
  go_wp2_with (refine wpList_store_ino (i := ⟨kd, pn, lk, sz, dp, rt⟩) rfl _ _ rfl rfl rfl _ rfl HZ.out ?_)
  intro w5 h5 hl5 hs5 he5
  obtain ⟨y0, y1, y2, y3, y4, y5⟩ := InoAt.cells h5
  have hbe : Below w.heap.size w w5 := HB.out.trans hl5
  have hRe : EntsAt w.heap.size (.slice ad rt.length cap) rt w5 := row_down (show w.heap.size ≤ w0.heap.size by omega) (row_same' HRR.out fun j hj => he5 j (by omega))
  clear hl5 hs5 h5 he5 x0 x1 x2 x3 x4 x5
  dsimp only at *
  go_wp2
  refine bodyPost_ret (v := .tuple #[inoV ⟨kd, pn, lk, sz, dp, rt⟩ (.slice ad rt.length cap), .int .i64 0]) ?_ rfl ⟨_, rfl, hRe, hbe⟩
  rw [results_cell_tmp rfl]
  go_simp
theorem idec_yes (s : ByteArray) (hs : s.size ≤ maxLen) (h : IsIno s) (w : World) :
    Calls Try.prog 15 #[.string s] w fun e w' => ∃ v, e = .returned (.tuple #[inoV (readI s) v, .int .i64 0]) ∧ EntsAt w.heap.size v (readI s).root w' ∧ Below w.heap.size w w' := by
  have k := (readP_iff s).2 h
  have := idec_same s hs k.1 k.2 w
  rw [readP_is h] at this; exact this
theorem idec_no (s : ByteArray) (hs : s.size ≤ maxLen) (h : ¬ IsIno s) (w : World) :
    Calls Try.prog 15 #[.string s] w fun e w' => e = inoBadD ∧ Below w.heap.size w w' := by
  by_cases h1 : InoOk (readP s)
  · exact idec_other s hs h1 (fun e => h ((readP_iff s).1 ⟨h1, e⟩)) w
  · exact idec_noenc s hs h1 w
end Go.Proofs.Ytfepjjjoikcljaa
