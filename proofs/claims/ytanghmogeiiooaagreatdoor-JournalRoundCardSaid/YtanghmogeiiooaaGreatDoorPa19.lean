import Derived.Test.YtanghmogeiiooaaGreatDoorPa18
set_option linter.unusedVariables false
set_option linter.unusedSimpArgs false
set_option linter.constructorNameAsVariable false
/- start: where the header says that the log begins. -/
namespace Go.Proofs.YtanghmogeiiooaaGreatDoor
set_option linter.unusedVariables false
open Go.RowKit

abbrev noP : Value := .agg #[.int .i64 0, .int .i64 0, .int .u64 0]
theorem rText_size {S : St} (h : S.ok) (x : Int) : (rText S x).size ≤ maxLen := by
  unfold rText
  split
  · rename_i hb
    rw [h.now _ (by omega)]; unfold maxLen; omega
  · show (0 : Nat) ≤ _; omega
set_option maxRecDepth 100000 in
set_option maxHeartbeats 8000000 in
theorem start_none (d lo hi : Nat) (b l i la ma ml ta tl da : Int) (hl : 128 ≤ l ∧ l ≤ 512) {S : St} (w : World) (h : DevAt d lo hi S w) (hk : ¬ IsBlk (rText S la)) :
    Calls Tryz.prog 61 #[ringV (some ⟨d, 0, none⟩) b l i la ma ml ta tl da] w fun e w' => e = .returned (.tuple #[noP, .int .i64 80]) ∧ Below w.heap.size w w' := by
  have D := Lib.hid (fun w => dec_no (rText S la) (rText_size h.ok la) hk w)
  clear hk
  have mixed : Tryz.prog.follows .mixedOrders = true := by kernel_rfl
  have gh : Tryz.prog.stoodInHeld 134 = false := by kernel_rfl
  have gp : Tryz.prog.stoodInHeld 91 = false := by kernel_rfl
  obtain ⟨w1, hw1⟩ : ∃ w1, (w.alloc (.cells (ringC (some ⟨d, 0, none⟩) b l i la ma ml ta tl da) 87)).alloc (.cells #[.int .i64 0, .int .i64 0, .int .u64 0] 91) = w1 := ⟨_, rfl⟩
  have hb1 : Below w.heap.size w w1 := by rw [← hw1]; exact balloc (balloc1 w _) _
  have R1 : RingAt w.heap.size (some ⟨d, 0, none⟩) b l i la ma ml ta tl da w1 := by rw [← hw1]; exact (RingAt.new _ _ _ _ _ _ _ _ _ _ _).kept1 (balloc1 _ _)
  have P1 : Blk (w.heap.size + 1) #[.int .i64 0, .int .i64 0, .int .u64 0] 91 w1 := by
    rw [← hw1]
    have := Blk.new #[.int .i64 0, .int .i64 0, .int .u64 0] 91 (w.alloc (.cells (ringC (some ⟨d, 0, none⟩) b l i la ma ml ta tl da) 87))
    rw [size_alloc] at this; exact this
  have CT := Lib.hid (content_any d b l i la ma ml ta tl da la w1 (h.kept1 (by rw [← hw1]; exact (balloc1 w _).trans ((balloc1 _ _).mono (by rw [size_alloc]; omega)))))
  have hT := rText_size h.ok la
  generalize rText S la = T at *
  obtain ⟨c0, c1, c2, c3, c4, c5, c6, c7, c8, c9⟩ := R1.cells
  have HW1 := Lib.hid hw1
  have SL := Lib.hid (jslots_any (some ⟨d, 0, none⟩) b l i la ma ml ta tl da hl)
  clear h hw1
  go_enter Tryz.func61, Tryz.ntmps61
  go_wp2_with fail
  rw [HW1.out]
  refine CT.out.mono ?_; rintro e w2 ⟨rfl, b2⟩
  have R2 := R1.kept1 b2
  have P2 := P1.kept1 b2
  have hb2 := bnext hb1 b2
  clear R1 P1 b2 hb1 HW1 CT c0 c1 c2 c3 c4 c5 c6 c7 c8 c9
  go_wp2_with fail
  refine (D.out _).mono ?_; rintro e w3 ⟨rfl, b3⟩
  have R3 := R2.kept1 b3
  have P3 := P2.kept1 b3
  have hb3 := bnext hb2 b3
  clear R2 P2 b3 hb2
  obtain ⟨w4, hw4⟩ : ∃ w4, w3.alloc (.cells #[.int .i64 0, .int .u64 0, .int .i64 0, .slice none 0 0, .slice none 0 0, .int .u32 0] 134) = w4 := ⟨_, rfl⟩
  have b34 : Below w3.heap.size w3 w4 := by rw [← hw4]; exact balloc1 _ _
  have HP := Lib.hid (P3.kept1 b34)
  have hb4 := bnext hb3 b34
  have HW4 := Lib.hid hw4
  clear R3 P3 b34 hb3 hw4
  go_upto_region 2 with fail
  try rw [HW4.out]
  refine wp_region_quiet_below mixed (by kernel_rfl) ?_
  repeat (go_big_quiet_step (fail))
  refine wpQuiet_nil ?_
  intro w0q hw'
  obtain ⟨⟨wq, bq⟩, hw''⟩ := hw'
  have hw2 : wq = w0q := hw''.symm
  clear hw''
  subst hw2
  have HP4 := Lib.hid (HP.out.kept1 bq)
  have hb4 := bnext hb4 bq
  clear HP bq
  go_wp2_with (refine wpList_store_place (seq := 0) rfl _ _ rfl rfl rfl _ rfl HP4.out ?_)
  intro w5 h5 hl5 hs5 he5
  have y0 := h5.cell 0
  have y1 := h5.cell 1
  have y2 := h5.cell 2
  simp at y0 y1 y2
  have hbe := hb4.trans (show Below w.heap.size wq w5 from hl5.mono (by omega))
  clear hl5 hs5 he5 HP4
  go_wp2
  refine bodyPost_ret (v := .tuple #[noP, .int .i64 80]) ?_ rfl ⟨rfl, hbe⟩
  rw [results_cell_tmp rfl]
  go_simp
set_option maxRecDepth 100000 in
set_option maxHeartbeats 8000000 in
theorem start_kind (d lo hi : Nat) (b l i la ma ml ta tl da : Int) (hl : 128 ≤ l ∧ l ≤ 512) {S : St} (w : World) (h : DevAt d lo hi S w) (hk : IsBlk (rText S la)) (hn : (readR (rText S la)).kind ≠ 1) :
    Calls Tryz.prog 61 #[ringV (some ⟨d, 0, none⟩) b l i la ma ml ta tl da] w fun e w' => e = .returned (.tuple #[noP, .int .i64 80]) ∧ Below w.heap.size w w' := by
  have D := fun w => dec_yes (rText S la) (rText_size h.ok la) hk w
  generalize readR (rText S la) = r at *
  obtain ⟨kind, sq, pos, homes, masked, sm⟩ := r
  dsimp only at *
  have D := Lib.hid D
  have tk : ((kind : Int) != 1) = true := by rw [bne_iff_ne]; exact hn
  clear hk hn
  have mixed : Tryz.prog.follows .mixedOrders = true := by kernel_rfl
  have gh : Tryz.prog.stoodInHeld 134 = false := by kernel_rfl
  have gp : Tryz.prog.stoodInHeld 91 = false := by kernel_rfl
  obtain ⟨w1, hw1⟩ : ∃ w1, (w.alloc (.cells (ringC (some ⟨d, 0, none⟩) b l i la ma ml ta tl da) 87)).alloc (.cells #[.int .i64 0, .int .i64 0, .int .u64 0] 91) = w1 := ⟨_, rfl⟩
  have hb1 : Below w.heap.size w w1 := by rw [← hw1]; exact balloc (balloc1 w _) _
  have R1 : RingAt w.heap.size (some ⟨d, 0, none⟩) b l i la ma ml ta tl da w1 := by rw [← hw1]; exact (RingAt.new _ _ _ _ _ _ _ _ _ _ _).kept1 (balloc1 _ _)
  have P1 : Blk (w.heap.size + 1) #[.int .i64 0, .int .i64 0, .int .u64 0] 91 w1 := by
    rw [← hw1]
    have := Blk.new #[.int .i64 0, .int .i64 0, .int .u64 0] 91 (w.alloc (.cells (ringC (some ⟨d, 0, none⟩) b l i la ma ml ta tl da) 87))
    rw [size_alloc] at this; exact this
  have CT := Lib.hid (content_any d b l i la ma ml ta tl da la w1 (h.kept1 (by rw [← hw1]; exact (balloc1 w _).trans ((balloc1 _ _).mono (by rw [size_alloc]; omega)))))
  have hT := rText_size h.ok la
  generalize rText S la = T at *
  obtain ⟨c0, c1, c2, c3, c4, c5, c6, c7, c8, c9⟩ := R1.cells
  have HW1 := Lib.hid hw1
  have SL := Lib.hid (jslots_any (some ⟨d, 0, none⟩) b l i la ma ml ta tl da hl)
  clear h hw1
  go_enter Tryz.func61, Tryz.ntmps61
  go_wp2_with fail
  rw [HW1.out]
  refine CT.out.mono ?_; rintro e w2 ⟨rfl, b2⟩
  have R2 := R1.kept1 b2
  have P2 := P1.kept1 b2
  have hb2 := bnext hb1 b2
  clear R1 P1 b2 hb1 HW1 CT c0 c1 c2 c3 c4 c5 c6 c7 c8 c9
  go_wp2_with fail
  refine (D.out _).mono ?_; rintro e w3 ⟨vh, vm, rfl, hown, b3⟩
  obtain ⟨ah, ch, rfl, -⟩ := shape_of hown.1
  obtain ⟨am, cm, rfl, -⟩ := shape_of hown.2
  have R3 := R2.kept1 b3
  have P3 := P2.kept1 b3
  have hb3 := bnext hb2 b3
  clear R2 P2 b3 hb2 hown D
  obtain ⟨w4, hw4⟩ : ∃ w4, w3.alloc (.cells #[.int .i64 kind, .int .u64 (sq : Int), .int .i64 pos, .slice ah homes.length ch, .slice am masked.length cm, .int .u32 (sm : Int)] 134) = w4 := ⟨_, rfl⟩
  have b34 : Below w3.heap.size w3 w4 := by rw [← hw4]; exact balloc1 _ _
  have hX4 : RecAt w3.heap.size kind sq pos (.slice ah homes.length ch) (.slice am masked.length cm) sm w4 := by rw [← hw4]; exact Blk.new _ _ w3
  have R4 := R3.kept1 b34
  have P4 := P3.kept1 b34
  have hb4 := bnext hb3 b34
  have kb := fun p : BelowP w4 => rec_cells (hX4.kept1 p.h)
  have k0 := fun p => (kb p).1
  have k1 := fun p => (kb p).2.1
  have k2 := fun p => (kb p).2.2.1
  have k3 := fun p => (kb p).2.2.2.1
  have k4 := fun p => (kb p).2.2.2.2.1
  have k5 := fun p => (kb p).2.2.2.2.2
  obtain ⟨c0, c1, c2, c3, c4, c5, c6, c7, c8, c9⟩ := R4.all
  have HX4 := Lib.hid hX4
  have HR4 := Lib.hid R4
  have HP := Lib.hid P4
  have HW4 := Lib.hid hw4
  clear hX4 R3 P3 b34 hb3 hw4 R4 P4 kb
  go_upto_region 2 with fail
  try rw [HW4.out]
  refine wp_region_quiet_below mixed (by kernel_rfl) ?_
  repeat (go_big_quiet_step (first | (go_at_call 59; refine calls_below (SL.out _))))
  refine wpQuiet_nil ?_
  intro w0q hw'
  obtain ⟨⟨wq, bq⟩, hw''⟩ := hw'
  have hw2 : wq = w0q := hw''.symm
  clear hw''
  subst hw2
  have HP4 := Lib.hid (HP.out.kept1 bq)
  have HR5 := Lib.hid (HR4.out.kept1 bq)
  have HX5 := Lib.hid (HX4.out.kept1 bq)
  have hb4 := bnext hb4 bq
  clear HP bq k0 k1 k2 k3 k4 k5 c0 c1 c2 c3 c4 c5 c6 c7 c8 c9 HR4 HX4 HW4
  clear HR5 HX5
  go_wp2_with (refine wpList_store_place (seq := 0) rfl _ _ rfl rfl rfl _ rfl HP4.out ?_)
  intro w5 h5 hl5 hs5 he5
  have y0 := h5.cell 0
  have y1 := h5.cell 1
  have y2 := h5.cell 2
  simp at y0 y1 y2
  have hbe := hb4.trans (show Below w.heap.size wq w5 from hl5.mono (by omega))
  clear hl5 hs5 he5 HP4
  go_wp2
  refine bodyPost_ret (v := .tuple #[noP, .int .i64 80]) ?_ rfl ⟨rfl, hbe⟩
  rw [results_cell_tmp rfl]
  go_simp
set_option maxRecDepth 100000 in
set_option maxHeartbeats 8000000 in
theorem start_far (d lo hi : Nat) (b l i la ma ml ta tl da : Int) (hl : 128 ≤ l ∧ l ≤ 512) {S : St} (w : World) (h : DevAt d lo hi S w) (hk : IsBlk (rText S la)) (hn : (readR (rText S la)).kind = 1) (hp : l - 1 ≤ (readR (rText S la)).pos) :
    Calls Tryz.prog 61 #[ringV (some ⟨d, 0, none⟩) b l i la ma ml ta tl da] w fun e w' => e = .returned (.tuple #[noP, .int .i64 80]) ∧ Below w.heap.size w w' := by
  have D := fun w => dec_yes (rText S la) (rText_size h.ok la) hk w
  generalize readR (rText S la) = r at *
  obtain ⟨kind, sq, pos, homes, masked, sm⟩ := r
  dsimp only at *
  have D := Lib.hid D
  have tp : decide (l - 1 ≤ pos) = true := decide_eq_true hp
  have tk : ((kind : Int) != 1) = false := by rw [bne_eq_false_iff_eq]; exact hn
  clear hk hp hn
  have mixed : Tryz.prog.follows .mixedOrders = true := by kernel_rfl
  have gh : Tryz.prog.stoodInHeld 134 = false := by kernel_rfl
  have gp : Tryz.prog.stoodInHeld 91 = false := by kernel_rfl
  obtain ⟨w1, hw1⟩ : ∃ w1, (w.alloc (.cells (ringC (some ⟨d, 0, none⟩) b l i la ma ml ta tl da) 87)).alloc (.cells #[.int .i64 0, .int .i64 0, .int .u64 0] 91) = w1 := ⟨_, rfl⟩
  have hb1 : Below w.heap.size w w1 := by rw [← hw1]; exact balloc (balloc1 w _) _
  have R1 : RingAt w.heap.size (some ⟨d, 0, none⟩) b l i la ma ml ta tl da w1 := by rw [← hw1]; exact (RingAt.new _ _ _ _ _ _ _ _ _ _ _).kept1 (balloc1 _ _)
  have P1 : Blk (w.heap.size + 1) #[.int .i64 0, .int .i64 0, .int .u64 0] 91 w1 := by
    rw [← hw1]
    have := Blk.new #[.int .i64 0, .int .i64 0, .int .u64 0] 91 (w.alloc (.cells (ringC (some ⟨d, 0, none⟩) b l i la ma ml ta tl da) 87))
    rw [size_alloc] at this; exact this
  have CT := Lib.hid (content_any d b l i la ma ml ta tl da la w1 (h.kept1 (by rw [← hw1]; exact (balloc1 w _).trans ((balloc1 _ _).mono (by rw [size_alloc]; omega)))))
  have hT := rText_size h.ok la
  generalize rText S la = T at *
  obtain ⟨c0, c1, c2, c3, c4, c5, c6, c7, c8, c9⟩ := R1.cells
  have HW1 := Lib.hid hw1
  have SL := Lib.hid (jslots_any (some ⟨d, 0, none⟩) b l i la ma ml ta tl da hl)
  clear h hw1
  go_enter Tryz.func61, Tryz.ntmps61
  go_wp2_with fail
  rw [HW1.out]
  refine CT.out.mono ?_; rintro e w2 ⟨rfl, b2⟩
  have R2 := R1.kept1 b2
  have P2 := P1.kept1 b2
  have hb2 := bnext hb1 b2
  clear R1 P1 b2 hb1 HW1 CT c0 c1 c2 c3 c4 c5 c6 c7 c8 c9
  go_wp2_with fail
  refine (D.out _).mono ?_; rintro e w3 ⟨vh, vm, rfl, hown, b3⟩
  obtain ⟨ah, ch, rfl, -⟩ := shape_of hown.1
  obtain ⟨am, cm, rfl, -⟩ := shape_of hown.2
  have R3 := R2.kept1 b3
  have P3 := P2.kept1 b3
  have hb3 := bnext hb2 b3
  clear R2 P2 b3 hb2 hown D
  obtain ⟨w4, hw4⟩ : ∃ w4, w3.alloc (.cells #[.int .i64 kind, .int .u64 (sq : Int), .int .i64 pos, .slice ah homes.length ch, .slice am masked.length cm, .int .u32 (sm : Int)] 134) = w4 := ⟨_, rfl⟩
  have b34 : Below w3.heap.size w3 w4 := by rw [← hw4]; exact balloc1 _ _
  have hX4 : RecAt w3.heap.size kind sq pos (.slice ah homes.length ch) (.slice am masked.length cm) sm w4 := by rw [← hw4]; exact Blk.new _ _ w3
  have R4 := R3.kept1 b34
  have P4 := P3.kept1 b34
  have hb4 := bnext hb3 b34
  have kb := fun p : BelowP w4 => rec_cells (hX4.kept1 p.h)
  have k0 := fun p => (kb p).1
  have k1 := fun p => (kb p).2.1
  have k2 := fun p => (kb p).2.2.1
  have k3 := fun p => (kb p).2.2.2.1
  have k4 := fun p => (kb p).2.2.2.2.1
  have k5 := fun p => (kb p).2.2.2.2.2
  obtain ⟨c0, c1, c2, c3, c4, c5, c6, c7, c8, c9⟩ := R4.all
  have HX4 := Lib.hid hX4
  have HR4 := Lib.hid R4
  have HP := Lib.hid P4
  have HW4 := Lib.hid hw4
  clear hX4 R3 P3 b34 hb3 hw4 R4 P4 kb
  go_upto_region 2 with fail
  try rw [HW4.out]
  refine wp_region_quiet_below mixed (by kernel_rfl) ?_
  repeat (go_big_quiet_step (first | (go_at_call 59; refine calls_below (SL.out _))))
  refine wpQuiet_nil ?_
  intro w0q hw'
  obtain ⟨⟨wq, bq⟩, hw''⟩ := hw'
  have hw2 : wq = w0q := hw''.symm
  clear hw''
  subst hw2
  have HP4 := Lib.hid (HP.out.kept1 bq)
  have HR5 := Lib.hid (HR4.out.kept1 bq)
  have HX5 := Lib.hid (HX4.out.kept1 bq)
  have hb4 := bnext hb4 bq
  clear HP bq k0 k1 k2 k3 k4 k5 c0 c1 c2 c3 c4 c5 c6 c7 c8 c9 HR4 HX4 HW4
  clear HR5 HX5
  go_wp2_with (refine wpList_store_place (seq := 0) rfl _ _ rfl rfl rfl _ rfl HP4.out ?_)
  intro w5 h5 hl5 hs5 he5
  have y0 := h5.cell 0
  have y1 := h5.cell 1
  have y2 := h5.cell 2
  simp at y0 y1 y2
  have hbe := hb4.trans (show Below w.heap.size wq w5 from hl5.mono (by omega))
  clear hl5 hs5 he5 HP4
  go_wp2
  refine bodyPost_ret (v := .tuple #[noP, .int .i64 80]) ?_ rfl ⟨rfl, hbe⟩
  rw [results_cell_tmp rfl]
  go_simp
set_option maxRecDepth 100000 in
set_option maxHeartbeats 8000000 in
theorem start_ok (d lo hi : Nat) (b l i la ma ml ta tl da : Int) (hl : 128 ≤ l ∧ l ≤ 512) {S : St} (w : World) (h : DevAt d lo hi S w) (hk : IsBlk (rText S la)) (hn : (readR (rText S la)).kind = 1) (hp : (readR (rText S la)).pos < l - 1) :
    Calls Tryz.prog 61 #[ringV (some ⟨d, 0, none⟩) b l i la ma ml ta tl da] w fun e w' => e = .returned (.tuple #[placeV (readR (rText S la)).pos (l - 1) (readR (rText S la)).seq, .int .i64 0]) ∧ Below w.heap.size w w' := by
  have D := fun w => dec_yes (rText S la) (rText_size h.ok la) hk w
  generalize readR (rText S la) = r at *
  obtain ⟨kind, sq, pos, homes, masked, sm⟩ := r
  dsimp only at *
  have D := Lib.hid D
  have tp : decide (l - 1 ≤ pos) = false := decide_eq_false (by omega)
  have tk : ((kind : Int) != 1) = false := by rw [bne_eq_false_iff_eq]; exact hn
  clear hk hp hn
  have mixed : Tryz.prog.follows .mixedOrders = true := by kernel_rfl
  have gh : Tryz.prog.stoodInHeld 134 = false := by kernel_rfl
  have gp : Tryz.prog.stoodInHeld 91 = false := by kernel_rfl
  obtain ⟨w1, hw1⟩ : ∃ w1, (w.alloc (.cells (ringC (some ⟨d, 0, none⟩) b l i la ma ml ta tl da) 87)).alloc (.cells #[.int .i64 0, .int .i64 0, .int .u64 0] 91) = w1 := ⟨_, rfl⟩
  have hb1 : Below w.heap.size w w1 := by rw [← hw1]; exact balloc (balloc1 w _) _
  have R1 : RingAt w.heap.size (some ⟨d, 0, none⟩) b l i la ma ml ta tl da w1 := by rw [← hw1]; exact (RingAt.new _ _ _ _ _ _ _ _ _ _ _).kept1 (balloc1 _ _)
  have P1 : Blk (w.heap.size + 1) #[.int .i64 0, .int .i64 0, .int .u64 0] 91 w1 := by
    rw [← hw1]
    have := Blk.new #[.int .i64 0, .int .i64 0, .int .u64 0] 91 (w.alloc (.cells (ringC (some ⟨d, 0, none⟩) b l i la ma ml ta tl da) 87))
    rw [size_alloc] at this; exact this
  have CT := Lib.hid (content_any d b l i la ma ml ta tl da la w1 (h.kept1 (by rw [← hw1]; exact (balloc1 w _).trans ((balloc1 _ _).mono (by rw [size_alloc]; omega)))))
  have hT := rText_size h.ok la
  generalize rText S la = T at *
  obtain ⟨c0, c1, c2, c3, c4, c5, c6, c7, c8, c9⟩ := R1.cells
  have HW1 := Lib.hid hw1
  have SL := Lib.hid (jslots_any (some ⟨d, 0, none⟩) b l i la ma ml ta tl da hl)
  clear h hw1
  go_enter Tryz.func61, Tryz.ntmps61
  go_wp2_with fail
  rw [HW1.out]
  refine CT.out.mono ?_; rintro e w2 ⟨rfl, b2⟩
  have R2 := R1.kept1 b2
  have P2 := P1.kept1 b2
  have hb2 := bnext hb1 b2
  clear R1 P1 b2 hb1 HW1 CT c0 c1 c2 c3 c4 c5 c6 c7 c8 c9
  go_wp2_with fail
  refine (D.out _).mono ?_; rintro e w3 ⟨vh, vm, rfl, hown, b3⟩
  obtain ⟨ah, ch, rfl, -⟩ := shape_of hown.1
  obtain ⟨am, cm, rfl, -⟩ := shape_of hown.2
  have R3 := R2.kept1 b3
  have P3 := P2.kept1 b3
  have hb3 := bnext hb2 b3
  clear R2 P2 b3 hb2 hown D
  obtain ⟨w4, hw4⟩ : ∃ w4, w3.alloc (.cells #[.int .i64 kind, .int .u64 (sq : Int), .int .i64 pos, .slice ah homes.length ch, .slice am masked.length cm, .int .u32 (sm : Int)] 134) = w4 := ⟨_, rfl⟩
  have b34 : Below w3.heap.size w3 w4 := by rw [← hw4]; exact balloc1 _ _
  have hX4 : RecAt w3.heap.size kind sq pos (.slice ah homes.length ch) (.slice am masked.length cm) sm w4 := by rw [← hw4]; exact Blk.new _ _ w3
  have R4 := R3.kept1 b34
  have P4 := P3.kept1 b34
  have hb4 := bnext hb3 b34
  have kb := fun p : BelowP w4 => rec_cells (hX4.kept1 p.h)
  have k0 := fun p => (kb p).1
  have k1 := fun p => (kb p).2.1
  have k2 := fun p => (kb p).2.2.1
  have k3 := fun p => (kb p).2.2.2.1
  have k4 := fun p => (kb p).2.2.2.2.1
  have k5 := fun p => (kb p).2.2.2.2.2
  obtain ⟨c0, c1, c2, c3, c4, c5, c6, c7, c8, c9⟩ := R4.all
  have HX4 := Lib.hid hX4
  have HR4 := Lib.hid R4
  have HP := Lib.hid P4
  have HW4 := Lib.hid hw4
  clear hX4 R3 P3 b34 hb3 hw4 R4 P4 kb
  go_upto_region 2 with fail
  try rw [HW4.out]
  refine wp_region_quiet_below mixed (by kernel_rfl) ?_
  repeat (go_big_quiet_step (first | (go_at_call 59; refine calls_below (SL.out _))))
  refine wpQuiet_nil ?_
  intro w0q hw'
  obtain ⟨⟨wq, bq⟩, hw''⟩ := hw'
  have hw2 : wq = w0q := hw''.symm
  clear hw''
  subst hw2
  have HP4 := Lib.hid (HP.out.kept1 bq)
  have HR5 := Lib.hid (HR4.out.kept1 bq)
  have HX5 := Lib.hid (HX4.out.kept1 bq)
  have hb4 := bnext hb4 bq
  clear HP bq k0 k1 k2 k3 k4 k5 c0 c1 c2 c3 c4 c5 c6 c7 c8 c9 HR4 HX4 HW4
  have kb := fun p : BelowP wq => rec_cells (HX5.out.kept1 p.h)
  have k0 := fun p => (kb p).1
  have k1 := fun p => (kb p).2.1
  have k2 := fun p => (kb p).2.2.1
  obtain ⟨c0, c1, c2, c3, c4, c5, c6, c7, c8, c9⟩ := HR5.out.all
  clear kb HR5 HX5
  go_upto_region 4 with fail
  refine wp_region_tail_below 7 mixed (by kernel_rfl) ?_
  simp only [List.take_succ_cons, List.take_zero, List.drop_succ_cons, List.drop_zero]
  repeat (go_big_quiet_step (first | (go_at_call 59; refine calls_below (SL.out _))))
  refine wpQuiet_nil ?_
  intro w0q hw'
  obtain ⟨⟨wq, bq⟩, hw''⟩ := hw'
  have hw2 : wq = w0q := hw''.symm
  clear hw''
  subst hw2
  have HP5 := Lib.hid (HP4.out.kept1 bq)
  have hb5 := bnext hb4 bq
  clear HP4 bq k0 k1 k2 c0 c1 c2 c3 c4 c5 c6 c7 c8 c9 hb4
  go_wp2_with (refine wpList_store_place (seq := sq) rfl _ _ rfl rfl rfl _ rfl HP5.out ?_)
  intro w5 h5 hl5 hs5 he5
  have y0 := h5.cell 0
  have y1 := h5.cell 1
  have y2 := h5.cell 2
  simp at y0 y1 y2
  have hbe := hb5.trans (hl5.mono (by omega))
  clear hl5 hs5 he5 HP5
  go_wp2
  refine bodyPost_ret (v := .tuple #[placeV pos (l - 1) sq, .int .i64 0]) ?_ rfl ⟨rfl, hbe⟩
  rw [results_cell_tmp rfl]
  go_simp
end Go.Proofs.YtanghmogeiiooaaGreatDoor

/- The log read from a place that went round; lists of transactions in memory. -/
namespace Go.Proofs.YtanghmogeiiooaaGreatDoor
set_option linter.unusedVariables false
open Go.RowKit

theorem bytesOf_shift {rd rd' : Nat → ByteArray} {p p' : Nat} (h : ∀ i, rd (p + i) = rd' (p' + i)) (k : Nat) : bytesOf rd p k = bytesOf rd' p' k := by
  unfold bytesOf; simp only [h]
theorem dataOf_shift {rd rd' : Nat → ByteArray} {p p' n : Nat} (h : ∀ i, rd (p + i) = rd' (p' + i)) (r : Rec) (k : Nat) : dataOf rd (p + n + 1) r k = dataOf rd' (p' + n + 1) r k := by
  have e : ∀ i, rd (p + n + 1 + i) = rd' (p' + n + 1 + i) := fun i => by
    rw [show p + n + 1 + i = p + (n + 1 + i) by omega, show p' + n + 1 + i = p' + (n + 1 + i) by omega]; exact h _
  unfold dataOf dataAt; simp only [e]
theorem stand_shift {rd rd' : Nat → ByteArray} {hm : Int → Bool} {p p' seq left : Nat} (h : ∀ i, rd (p + i) = rd' (p' + i)) : ∀ (f n : Nat) (t : Tx), stand rd hm p seq left f n t = stand rd' hm p' seq left f n t
  | 0, _, _ => rfl
  | f + 1, n, t => by
    have e1 := fun n t => stand_shift (hm := hm) (seq := seq) (left := left) h f n t
    unfold stand
    simp only [h, e1, bytesOf_shift h, dataOf_shift h]
theorem slotT_round (S : St) (la l : Int) (hl : 128 ≤ l ∧ l ≤ 512) (x i : Nat) : slotT S la l (x % (l - 1).toNat + i) = slotT S la l (x + i) := by
  unfold slotT
  have e : ((x % (l - 1).toNat + i : Nat) : Int) % (l - 1) = ((x + i : Nat) : Int) % (l - 1) := by
    have hz : ((l - 1).toNat : Int) = l - 1 := by omega
    rw [Int.natCast_add, Int.natCast_emod, hz, Int.emod_add_emod, Int.natCast_add]
  rw [e]
/-- v is a slice of transactions, its memory the call's own -/
def TxnsOwn (B : Nat) (v : Value) (ts : List Tx) (w : World) : Prop :=
  ∃ vs : List (Value × Value), vs.length = ts.length ∧ w.ownsRow B 64 2 v ts.length (vs.flatMap fun p => [p.1, p.2]) ∧
    ∀ k (h1 : k < vs.length) (h2 : k < ts.length), ChgsOwn B vs[k].1 ts[k].changes w ∧ IntsOwn B vs[k].2 ts[k].revokes w
theorem TxnsOwn.nil (B : Nat) (w : World) : TxnsOwn B (.slice none 0 0) [] w := ⟨[], rfl, World.ownsRow_nil _ _ _ _, fun k h1 _ => by simp at h1⟩
theorem TxnsOwn.kept {B : Nat} {v : Value} {ts : List Tx} {w w' : World} (h : TxnsOwn B v ts w) (hb : Below w.heap.size w w') : TxnsOwn B v ts w' := by
  obtain ⟨vs, h1, h2, h3⟩ := h
  exact ⟨vs, h1, row_kept h2 hb, fun k a b => ⟨row_kept (h3 k a b).1 hb, row_kept (h3 k a b).2 hb⟩⟩
theorem TxnsOwn.down {B B' : Nat} {v : Value} {ts : List Tx} {w : World} (hB : B' ≤ B) (h : TxnsOwn B v ts w) : TxnsOwn B' v ts w := by
  obtain ⟨vs, h1, h2, h3⟩ := h
  exact ⟨vs, h1, row_down hB h2, fun k a b => ⟨row_down hB (h3 k a b).1, row_down hB (h3 k a b).2⟩⟩
theorem TxnsOwn.shape {B : Nat} {v : Value} {ts : List Tx} {w : World} (h : TxnsOwn B v ts w) : ∃ ad cap, v = .slice ad ts.length cap := by
  obtain ⟨vs, h1, h2, h3⟩ := h
  obtain ⟨ad, cap, e, -⟩ := shape_of h2
  exact ⟨ad, cap, e⟩
theorem txn_zero : (Tryz.prog.info? 64).map (fun i => (i.zero, i.size, i.bytes)) = some (some (.agg #[.slice none 0 0, .slice none 0 0]), 2, 48) := by kernel_rfl
/-- one more transaction is put behind them -/
theorem wpList_appT {ops : Array Oper} {rest : List Oper} {o : Oper} {a : Act} {Q : Exit → Act → World → Prop} {w : World} (hgd : o.guard = none) (s x : Operand)
    (ho : o.op = .call { callee := .builtin .append, args := #[s, x], argTypes := #[49, 49] })
    (base : Nat) (v : Value) (ts : List Tx) (t : Tx) (ac ar : Option Addr) (cc cr m1 m2 : Nat) (hs : a.eval s = v) (hown : TxnsOwn base v ts w) (W : World) (hW : w = W.alloc (.cells #[.slice ac m1 cc, .slice ar m2 cr] 64)) (q : Nat) (hq : W.heap.size = q) (hx : a.eval x = .slice (some ⟨q, 0, none⟩) 1 1)
    (h1 : ChgsOwn base (.slice ac m1 cc) t.changes w) (h2 : IntsOwn base (.slice ar m2 cr) t.revokes w)
    (hlen : ts.length ≤ 4000) (hbase : base ≤ w.heap.size)
    (h : ∀ v' w', TxnsOwn base v' (ts ++ [t]) w' → Below base w w' → (∀ (g : Nat) (cs : Array Value) (T : TypeId), T ≠ 64 → Blk g cs T w → Blk g cs T w') → wpList Tryz.prog ops Q rest (a.put o.dst v') w') : wpList Tryz.prog ops Q (o :: rest) a w := by
  obtain ⟨i0, hi, hz0, hz1, hz2⟩ := info_parts txn_zero
  obtain ⟨vs, k1, k2, k3⟩ := hown
  subst hW
  subst hq
  refine wpList_append_own (w := W.alloc (.cells #[.slice ac m1 cc, .slice ar m2 cr] 64)) hgd s x 49 ho base 64 i0 (.agg #[.slice none 0 0, .slice none 0 0]) 2 48 Tryz.underlying49 hi hz0 hz1 hz2 rfl (by decide) v _ _ hs k2 ⟨W.heap.size, 0, none⟩ 1 1 [.slice ac m1 cc, .slice ar m2 cr] hx rfl (fun j u hj => by
    rw [add_at, Nat.zero_add, World.cell?_alloc_mark]
    simpa using hj) (fun u hu => by simp at hu; rcases hu with rfl | rfl <;> rfl) (by unfold maxLen; omega) (by omega) hbase ?_
  intro v' w' q1 q2 _
  refine h v' w' ⟨vs ++ [(.slice ac m1 cc, .slice ar m2 cr)], by rw [List.length_append, List.length_append, k1]; rfl, ?_, ?_⟩ (below_of_row k2 q2 hbase) (fun g cs T hT hB => blk_grown hB k2 hT q2)
  · rw [List.length_append, List.flatMap_append]; exact q1
  · intro k a b
    by_cases e : k < vs.length
    · rw [List.getElem_append_left e, List.getElem_append_left (by omega)]
      have := k3 k e (by omega)
      exact ⟨kept_kinds k2 this.1 (by decide) q2, kept_kinds k2 this.2 (by decide) q2⟩
    · have ek : k = vs.length := by rw [List.length_append] at a; simp at a; omega
      subst ek
      have e1 : (vs ++ [(Value.slice ac m1 cc, Value.slice ar m2 cr)])[vs.length]'a = (Value.slice ac m1 cc, Value.slice ar m2 cr) := by rw [List.getElem_append_right (Nat.le_refl _)]; simp
      have e2 : (ts ++ [t])[vs.length]'b = t := by rw [List.getElem_append_right (by omega)]; simp [k1]
      rw [e1, e2]
      exact ⟨kept_kinds k2 h1 (by decide) q2, kept_kinds k2 h2 (by decide) q2⟩
end Go.Proofs.YtanghmogeiiooaaGreatDoor
