import Derived.Test.YtanghmogeiiooaaGreatDoorPa14
import Derived.Test.YtanghmogeiiooaaGreatDoorPa12
set_option linter.unusedVariables false
set_option linter.unusedSimpArgs false
set_option linter.constructorNameAsVariable false
/- Decode. -/
namespace Go.Proofs.YtanghmogeiiooaaGreatDoor
set_option linter.unusedVariables false
open Go.RowKit

theorem leN_field_lt (s : ByteArray) (a z : Nat) : leN (fieldAt s a z) < 256 ^ z := by
  have h1 := leN_lt (fieldAt s a z)
  have h2 : (fieldAt s a z).length ≤ z := by unfold fieldAt; rw [List.length_take]; omega
  exact Nat.lt_of_lt_of_le h1 (Nat.pow_le_pow_right (by decide) h2)
theorem fits_read (s : ByteArray) : Fits (readR s) := by
  have k := leN_field_lt s 4 1
  have q := leN_field_lt s 5 8
  have p := leN_field_lt s 13 2
  have m := leN_field_lt s 13 4
  have h4 : (256 : Nat) ^ 8 = 18446744073709551616 := by decide
  have kk : kindOf s < 256 := k
  refine ⟨?_, ?_, ?_, ?_, ?_⟩
  · show _ ≤ (kindOf s : Int) ∧ (kindOf s : Int) ≤ _; omega
  · show leN (fieldAt s 5 8) < _; omega
  · show _ ≤ (if kindOf s = 1 then (leN (fieldAt s 13 2) : Int) else 0) ∧ (if kindOf s = 1 then (leN (fieldAt s 13 2) : Int) else 0) ≤ _
    split <;> omega
  · intro x hx
    have hx : x ∈ (if kindOf s = 2 ∨ kindOf s = 3 then homesOf s (countOf s) else []) := hx
    split at hx
    · unfold homesOf at hx
      obtain ⟨i, hi, rfl⟩ := List.mem_map.1 hx
      have := leN_field_lt s (14 + 2 * i) 2
      unfold homeOf; omega
    · cases hx
  · show (if kindOf s = 4 then leN (fieldAt s 13 4) else 0) < _
    split <;> omega
theorem text_ne {a b : ByteArray} (h : a ≠ b) : (a.toList == b.toList) = false := by
  rw [beq_eq_false_iff_ne]; intro e
  apply h
  rw [ByteArray.toList_eq, ByteArray.toList_eq] at e
  cases a; cases b
  simp at e; rw [e]
abbrev badDec : Ending := .returned (.tuple #[noR, .int .i64 80])
abbrev zC : Array Value := #[.int .i64 0, .int .u64 0, .int .i64 0, .slice none 0 0, .slice none 0 0, .int .u32 0]
set_option maxHeartbeats 4000000 in
theorem dec_noread (s : ByteArray) (hs : s.size ≤ maxLen) (h : ¬ ReadOk s) (w : World) :
    Calls Tryz.prog 89 #[.string s] w fun e w' => e = badDec ∧ Below w.heap.size w w' := by
  have gh : Tryz.prog.stoodInHeld 134 = false := by kernel_rfl
  have R := Lib.hid (fun w => read_no s hs h w)
  obtain ⟨w0, hw0⟩ : ∃ w0, w.alloc (.cells zC 134) = w0 := ⟨_, rfl⟩
  have hZ0 : Blk w.heap.size zC 134 w0 := by rw [← hw0]; exact Blk.new _ _ w
  have hb0 : Below w.heap.size w w0 := by rw [← hw0]; exact balloc1 w _
  clear h
  go_enter Tryz.func89, Tryz.ntmps89
  go_wp2_with fail
  refine (R.out _).mono ?_; rintro e w1 ⟨k, q, p, ah, nh, ch, am, nm, cm, m, rfl, b⟩
  have HZ := Lib.hid ((hZ0.kept1 b).kept1 (balloc1 w1 (.cells #[.int .i64 k, .int .u64 (q : Int), .int .i64 p, .slice ah nh ch, .slice am nm cm, .int .u32 (m : Int)] 134)))
  have HB := Lib.hid (balloc (bnext hb0 b) (.cells #[.int .i64 k, .int .u64 (q : Int), .int .i64 p, .slice ah nh ch, .slice am nm cm, .int .u32 (m : Int)] 134))
  clear hw0 hZ0 hb0 b
  go_wp2_with (refine wpList_store_rec (q := 0) (s := 0) rfl _ _ rfl rfl rfl _ rfl HZ.out ?_)
  intro w5 h5 hl5 hs5 _
  obtain ⟨y0, y1, y2, y3, y4, y5⟩ := rec_cells h5
  have hbe : Below w.heap.size w w5 := HB.out.trans hl5
  clear hl5 hs5
  go_wp2
  refine bodyPost_ret (v := .tuple #[noR, .int .i64 80]) ?_ rfl ⟨rfl, hbe⟩
  rw [results_cell_tmp rfl]
  go_simp
set_option maxHeartbeats 4000000 in
theorem dec_noenc (s : ByteArray) (hs : s.size ≤ maxLen) (h : ReadOk s) (hn : ¬ RecOk (readR s)) (w : World) :
    Calls Tryz.prog 89 #[.string s] w fun e w' => e = badDec ∧ Below w.heap.size w w' := by
  have gh : Tryz.prog.stoodInHeld 134 = false := by kernel_rfl
  have R := Lib.hid (fun w => read_yes s hs h w)
  have f := fits_read s
  generalize readR s = r at *
  obtain ⟨w0, hw0⟩ : ∃ w0, w.alloc (.cells zC 134) = w0 := ⟨_, rfl⟩
  have hZ0 : Blk w.heap.size zC 134 w0 := by rw [← hw0]; exact Blk.new _ _ w
  have hb0 : Below w.heap.size w w0 := by rw [← hw0]; exact balloc1 w _
  have hs0 : w0.heap.size = w.heap.size + 1 := by rw [← hw0, size_alloc]
  obtain ⟨kind, seq, pos, homes, masked, sum⟩ := r
  go_enter Tryz.func89, Tryz.ntmps89
  go_wp2_with fail
  refine (R.out _).mono ?_; rintro e w1 ⟨vh, vm, rfl, hown, b⟩
  obtain ⟨ah, ch, rfl, -⟩ := shape_of hown.1
  obtain ⟨am, cm, rfl, -⟩ := shape_of hown.2
  have hb1 := bnext hb0 b
  obtain ⟨w2, hw2⟩ : ∃ w2, w1.alloc (.cells #[.int .i64 kind, .int .u64 (seq : Int), .int .i64 pos, .slice ah homes.length ch, .slice am masked.length cm, .int .u32 (sum : Int)] 134) = w2 := ⟨_, rfl⟩
  have hb2 : Below w.heap.size w w2 := by rw [← hw2]; exact balloc hb1 _
  have hO2 := hown.kept (show Below w1.heap.size w1 w2 by rw [← hw2]; exact balloc1 w1 _)
  have hZ2 := (hZ0.kept1 b).kept1 (show Below w1.heap.size w1 w2 by rw [← hw2]; exact balloc1 w1 _)
  have hR2 : RecAt w1.heap.size kind seq pos (.slice ah homes.length ch) (.slice am masked.length cm) sum w2 := by rw [← hw2]; exact Blk.new _ _ w1
  have hsz : w.heap.size < w1.heap.size := by have := b.size; omega
  clear hw0 hZ0 hb0 b hb1 hown R
  have E := Lib.hid (enc_no ⟨kind, seq, pos, homes, masked, sum⟩ hn f (.slice ah homes.length ch) (.slice am masked.length cm) w2 hO2.isIn)
  obtain ⟨x0, x1, x2, x3, x4, x5⟩ := rec_cells hR2
  clear h hn f hO2 hR2
  have HW2 := Lib.hid hw2
  clear hw2
  go_wp2_with fail
  try rw [HW2.out]
  refine E.out.mono ?_; rintro e w4 ⟨rfl, b⟩
  have HZ := Lib.hid (hZ2.kept1 b)
  have HB := Lib.hid (bnext hb2 b)
  clear hZ2 hb2 b x0 x1 x2 x3 x4 x5 E HW2
  go_wp2_with (refine wpList_store_rec (q := 0) (s := 0) rfl _ _ rfl rfl rfl _ rfl HZ.out ?_)
  intro w5 h5 hl5 hs5 _
  obtain ⟨y0, y1, y2, y3, y4, y5⟩ := rec_cells h5
  have hbe : Below w.heap.size w w5 := HB.out.trans hl5
  clear hl5 hs5
  go_wp2
  refine bodyPost_ret (v := .tuple #[noR, .int .i64 80]) ?_ rfl ⟨rfl, hbe⟩
  rw [results_cell_tmp rfl]
  go_simp
set_option maxHeartbeats 4000000 in
theorem dec_other (s : ByteArray) (hs : s.size ≤ maxLen) (h : ReadOk s) (hn : RecOk (readR s)) (hne : blk (readR s) ≠ s) (w : World) :
    Calls Tryz.prog 89 #[.string s] w fun e w' => e = badDec ∧ Below w.heap.size w w' := by
  have gh : Tryz.prog.stoodInHeld 134 = false := by kernel_rfl
  have R := Lib.hid (fun w => read_yes s hs h w)
  have f := fits_read s
  generalize readR s = r at *
  obtain ⟨w0, hw0⟩ : ∃ w0, w.alloc (.cells zC 134) = w0 := ⟨_, rfl⟩
  have hZ0 : Blk w.heap.size zC 134 w0 := by rw [← hw0]; exact Blk.new _ _ w
  have hb0 : Below w.heap.size w w0 := by rw [← hw0]; exact balloc1 w _
  have hs0 : w0.heap.size = w.heap.size + 1 := by rw [← hw0, size_alloc]
  obtain ⟨kind, seq, pos, homes, masked, sum⟩ := r
  go_enter Tryz.func89, Tryz.ntmps89
  go_wp2_with fail
  refine (R.out _).mono ?_; rintro e w1 ⟨vh, vm, rfl, hown, b⟩
  obtain ⟨ah, ch, rfl, -⟩ := shape_of hown.1
  obtain ⟨am, cm, rfl, -⟩ := shape_of hown.2
  have hb1 := bnext hb0 b
  obtain ⟨w2, hw2⟩ : ∃ w2, w1.alloc (.cells #[.int .i64 kind, .int .u64 (seq : Int), .int .i64 pos, .slice ah homes.length ch, .slice am masked.length cm, .int .u32 (sum : Int)] 134) = w2 := ⟨_, rfl⟩
  have hb2 : Below w.heap.size w w2 := by rw [← hw2]; exact balloc hb1 _
  have hO2 := hown.kept (show Below w1.heap.size w1 w2 by rw [← hw2]; exact balloc1 w1 _)
  have hZ2 := (hZ0.kept1 b).kept1 (show Below w1.heap.size w1 w2 by rw [← hw2]; exact balloc1 w1 _)
  have hR2 : RecAt w1.heap.size kind seq pos (.slice ah homes.length ch) (.slice am masked.length cm) sum w2 := by rw [← hw2]; exact Blk.new _ _ w1
  have hsz : w.heap.size < w1.heap.size := by have := b.size; omega
  clear hw0 hZ0 hb0 b hb1 hown R
  have E := enc_yes ⟨kind, seq, pos, homes, masked, sum⟩ hn f (.slice ah homes.length ch) (.slice am masked.length cm) w2 hO2.isIn
  have hd := text_ne hne
  generalize blk ⟨kind, seq, pos, homes, masked, sum⟩ = T at *
  have E := Lib.hid E
  obtain ⟨x0, x1, x2, x3, x4, x5⟩ := rec_cells hR2
  clear h hn f hO2 hR2 hne
  have HW2 := Lib.hid hw2
  clear hw2
  go_wp2_with fail
  try rw [HW2.out]
  refine E.out.mono ?_; rintro e w4 ⟨rfl, b⟩
  have HZ := Lib.hid (hZ2.kept1 b)
  have HB := Lib.hid (bnext hb2 b)
  clear hZ2 hb2 b x0 x1 x2 x3 x4 x5 E HW2
  go_wp2_with (refine wpList_store_rec (q := 0) (s := 0) rfl _ _ rfl rfl rfl _ rfl HZ.out ?_)
  intro w5 h5 hl5 hs5 _
  obtain ⟨y0, y1, y2, y3, y4, y5⟩ := rec_cells h5
  have hbe : Below w.heap.size w w5 := HB.out.trans hl5
  clear hl5 hs5
  go_wp2
  refine bodyPost_ret (v := .tuple #[noR, .int .i64 80]) ?_ rfl ⟨rfl, hbe⟩
  rw [results_cell_tmp rfl]
  go_simp
set_option maxHeartbeats 4000000 in
theorem dec_same (s : ByteArray) (hs : s.size ≤ maxLen) (h : ReadOk s) (hn : RecOk (readR s)) (he : blk (readR s) = s) (w : World) :
    Calls Tryz.prog 89 #[.string s] w fun e w' => ∃ vh vm, e = .returned (.tuple #[recV (readR s) vh vm, .int .i64 0]) ∧ RecOwn w.heap.size (readR s) vh vm w' ∧ Below w.heap.size w w' := by
  have gh : Tryz.prog.stoodInHeld 134 = false := by kernel_rfl
  have R := Lib.hid (fun w => read_yes s hs h w)
  have f := fits_read s
  generalize readR s = r at *
  obtain ⟨w0, hw0⟩ : ∃ w0, w.alloc (.cells zC 134) = w0 := ⟨_, rfl⟩
  have hZ0 : Blk w.heap.size zC 134 w0 := by rw [← hw0]; exact Blk.new _ _ w
  have hb0 : Below w.heap.size w w0 := by rw [← hw0]; exact balloc1 w _
  have hs0 : w0.heap.size = w.heap.size + 1 := by rw [← hw0, size_alloc]
  obtain ⟨kind, seq, pos, homes, masked, sum⟩ := r
  go_enter Tryz.func89, Tryz.ntmps89
  go_wp2_with fail
  refine (R.out _).mono ?_; rintro e w1 ⟨vh, vm, rfl, hown, b⟩
  obtain ⟨ah, ch, rfl, -⟩ := shape_of hown.1
  obtain ⟨am, cm, rfl, -⟩ := shape_of hown.2
  have hb1 := bnext hb0 b
  obtain ⟨w2, hw2⟩ : ∃ w2, w1.alloc (.cells #[.int .i64 kind, .int .u64 (seq : Int), .int .i64 pos, .slice ah homes.length ch, .slice am masked.length cm, .int .u32 (sum : Int)] 134) = w2 := ⟨_, rfl⟩
  have hb2 : Below w.heap.size w w2 := by rw [← hw2]; exact balloc hb1 _
  have hO2 := hown.kept (show Below w1.heap.size w1 w2 by rw [← hw2]; exact balloc1 w1 _)
  have hZ2 := (hZ0.kept1 b).kept1 (show Below w1.heap.size w1 w2 by rw [← hw2]; exact balloc1 w1 _)
  have hR2 : RecAt w1.heap.size kind seq pos (.slice ah homes.length ch) (.slice am masked.length cm) sum w2 := by rw [← hw2]; exact Blk.new _ _ w1
  have hsz : w.heap.size < w1.heap.size := by have := b.size; omega
  clear hw0 hZ0 hb0 b hb1 hown R
  have E := enc_yes ⟨kind, seq, pos, homes, masked, sum⟩ hn f (.slice ah homes.length ch) (.slice am masked.length cm) w2 hO2.isIn
  rw [he] at E
  have E := Lib.hid E
  obtain ⟨x0, x1, x2, x3, x4, x5⟩ := rec_cells hR2
  clear h hn f he
  have HW2 := Lib.hid hw2
  clear hw2
  go_wp2_with fail
  try rw [HW2.out]
  refine E.out.mono ?_; rintro e w4 ⟨rfl, b⟩
  have HZ := Lib.hid (hZ2.kept1 b)
  have HB := Lib.hid (bnext hb2 b)
  have HO := Lib.hid (hO2.kept b)
  have hR4 := hR2.kept1 b
  clear hZ2 hb2 b x0 x1 x2 x3 x4 x5 E HW2 hR2 hO2
  obtain ⟨x0, x1, x2, x3, x4, x5⟩ := rec_cells hR4
  go_wp2_with (refine wpList_store_rec (q := seq) (s := sum) rfl _ _ rfl rfl rfl _ rfl HZ.out ?_)
  intro w5 h5 hl5 hs5 he5
  obtain ⟨y0, y1, y2, y3, y4, y5⟩ := rec_cells h5
  have hbe : Below w.heap.size w w5 := HB.out.trans hl5
  have HO5 : RecOwn w0.heap.size ⟨kind, seq, pos, homes, masked, sum⟩ (.slice ah homes.length ch) (.slice am masked.length cm) w5 := ⟨row_same HO.out.1 fun j hj => he5 j (by omega), row_same HO.out.2 fun j hj => he5 j (by omega)⟩
  have HO5 := Lib.hid (HO5.down (show w.heap.size ≤ w0.heap.size by omega))
  clear hl5 hs5 he5 hs hR4
  go_wp2
  refine bodyPost_ret (v := .tuple #[recV ⟨kind, seq, pos, homes, masked, sum⟩ (.slice ah homes.length ch) (.slice am masked.length cm), .int .i64 0]) ?_ rfl ⟨_, _, rfl, HO5.out, hbe⟩
  rw [results_cell_tmp rfl]
  go_simp
theorem dec_yes (s : ByteArray) (hs : s.size ≤ maxLen) (h : IsBlk s) (w : World) :
    Calls Tryz.prog 89 #[.string s] w fun e w' => ∃ vh vm, e = .returned (.tuple #[recV (readR s) vh vm, .int .i64 0]) ∧ RecOwn w.heap.size (readR s) vh vm w' ∧ Below w.heap.size w w' :=
  dec_same s hs h.1 h.2.1 h.2.2 w
theorem dec_no (s : ByteArray) (hs : s.size ≤ maxLen) (h : ¬ IsBlk s) (w : World) :
    Calls Tryz.prog 89 #[.string s] w fun e w' => e = badDec ∧ Below w.heap.size w w' := by
  by_cases h1 : ReadOk s
  · by_cases h2 : RecOk (readR s)
    · exact dec_other s hs h1 h2 (fun h3 => h ⟨h1, h2, h3⟩) w
    · exact dec_noenc s hs h1 h2 w
  · exact dec_noread s hs h1 w
end Go.Proofs.YtanghmogeiiooaaGreatDoor
