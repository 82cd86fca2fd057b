import Derived.Test.YtanghmogeiiooaaGreatDoorPa13
import Derived.Test.YtanghmogeiiooaaGreatDoorPa15
import Derived.Deep.Cut
import Derived.Test.YtanghmogeiiooaaGreatDoorPa06
set_option linter.unusedVariables false
set_option linter.unusedSimpArgs false
set_option linter.constructorNameAsVariable false
/- The reader: record. -/
namespace Go.Proofs.YtanghmogeiiooaaGreatDoor
set_option linter.unusedVariables false
open Go.RowKit

theorem Zone.later {lo hi n : Nat} {w a b : World} (h : Zone lo hi w a) (hn : w.heap.size ≤ n) (hl : Below n a b) : Zone lo hi w b :=
  ⟨hl.os.trans h.os, hl.tape.trans h.tape, hl.output.trans h.output, Nat.le_trans h.size hl.size, fun k hk hx => (hl.block k (by omega)).trans (h.block k hk hx)⟩
set_option maxRecDepth 100000 in
theorem record_end (g d : Nat) (b l i la ma ml ta tl da : Int) (slot : Int) (left : Nat) (seq sum : Nat) (w : World) (h : RdAt g d b l i la ma ml ta tl da slot left seq left sum w) :
    Calls Tryz.prog 91 #[.pointer (some ⟨g, 0, none⟩)] w fun e w' => e = .returned (.tuple #[noR, .bool false]) ∧ Below w.heap.size w w' := by
  obtain ⟨w0, hw0⟩ : ∃ w0, w.alloc (.cells zC 134) = w0 := ⟨_, rfl⟩
  have b0 : Below w.heap.size w w0 := by rw [← hw0]; exact balloc1 w _
  have hZ0 : Blk w.heap.size zC 134 w0 := by rw [← hw0]; exact Blk.new _ _ w
  have NX := Lib.hid (next_end g d b l i la ma ml ta tl da slot left seq sum w0 (h.kept1 b0))
  clear h
  go_enter Tryz.func91, Tryz.ntmps91
  go_wp2_with fail
  refine NX.out.mono ?_; rintro e w1 ⟨rfl, b1⟩
  have HZ4 := Lib.hid (hZ0.kept1 b1)
  have hb1 := bnext b0 b1
  clear hw0 hZ0 b0 b1 NX
  go_wp2_with (refine wpList_store_rec (q := 0) (s := 0) rfl _ _ rfl rfl rfl _ rfl HZ4.out ?_)
  intro w5 h5 hl5 hs5 he5
  obtain ⟨y0, y1, y2, y3, y4, y5⟩ := rec_cells h5
  have hbe := hb1.trans hl5
  clear hl5 hs5 he5
  go_wp2
  refine bodyPost_ret (v := .tuple #[noR, .bool false]) ?_ rfl ⟨rfl, hbe⟩
  rw [results_cell_tmp rfl]
  go_simp
set_option maxRecDepth 100000 in
set_option maxHeartbeats 4000000 in
theorem record_none (g d lo hi : Nat) (b l i la ma ml ta tl da : Int) (hl : 128 ≤ l ∧ l ≤ 512) (hla : 0 ≤ la ∧ la ≤ 4096) (slot read : Nat) (left : Int) (seq sum : Nat) (hr : (read : Int) ≠ left) (hs : slot + read ≤ 2000) (hsum : sum < 4294967296) {S : St} (w : World)
    (h : RdAt g d b l i la ma ml ta tl da slot left seq read sum w) (hd : DevAt d lo hi S w) (hg : hi ≤ g) (hg0 : 0 < g) (ht : Tab w) (hk : ¬ IsBlk (slotT S la l (slot + read))) :
    Calls Tryz.prog 91 #[.pointer (some ⟨g, 0, none⟩)] w fun e w' => e = .returned (.tuple #[noR, .bool false]) ∧ RdAt g d b l i la ma ml ta tl da slot left seq ((read : Int) + 1) (moreV sum (slotT S la l (slot + read)).data.toList) w' ∧ Zone g (g + 1) w w' := by
  have D := Lib.hid (fun w => dec_no (slotT S la l (slot + read)) (slotT_size hd.ok la l (slot + read)) hk w)
  clear hk
  have mixed : Tryz.prog.follows .mixedOrders = true := by kernel_rfl
  have gh : Tryz.prog.stoodInHeld 134 = false := by kernel_rfl
  have hgw := h.lt
  obtain ⟨w0, hw0⟩ : ∃ w0, w.alloc (.cells zC 134) = w0 := ⟨_, rfl⟩
  have b0 : Below w.heap.size w w0 := by rw [← hw0]; exact balloc1 w _
  have hZ0 : Blk w.heap.size zC 134 w0 := by rw [← hw0]; exact Blk.new _ _ w
  have hT := slotT_size hd.ok la l (slot + read)
  have NX := next_more g d lo hi b l i la ma ml ta tl da hl hla slot read left seq sum hr hs hsum w0 (h.kept1 b0) (hd.kept1 b0) hg hg0 (tab_below1 ht b0)
  have Z0 : Zone g (g + 1) w w0 := Zone.of_below b0 _ _
  generalize slotT S la l (slot + read) = T at *
  have NX := Lib.hid NX
  clear h hd ht b0 hr hs hsum
  go_enter Tryz.func91, Tryz.ntmps91
  go_wp2_with fail
  refine NX.out.mono ?_; rintro e w1 ⟨rfl, hR1, z1⟩
  have hZ1 : Blk w.heap.size zC 134 w1 := hZ0.kept z1 (.inr (by omega))
  have Z1 := Z0.trans z1
  clear hw0 NX hZ0 Z0 z1
  go_wp2_with fail
  refine (D.out _).mono ?_; rintro e w2 ⟨rfl, b2⟩
  have hZ2 := hZ1.kept1 b2
  have hR2 := hR1.kept1 b2
  have Z2 := Z1.trans (Zone.of_below b2 g (g + 1))
  clear hZ1 hR1 Z1 b2
  obtain ⟨w3, hw3⟩ : ∃ w3, w2.alloc (.cells #[.int .i64 0, .int .u64 0, .int .i64 0, .slice none 0 0, .slice none 0 0, .int .u32 0] 134) = w3 := ⟨_, rfl⟩
  have b23 : Below w2.heap.size w2 w3 := by rw [← hw3]; exact balloc1 _ _
  have HZ3 := Lib.hid (hZ2.kept1 b23)
  have HR3 := Lib.hid (hR2.kept1 b23)
  have HZZ := Lib.hid (Z2.trans (Zone.of_below b23 g (g + 1)))
  have HW3 := Lib.hid hw3
  clear hZ2 hR2 Z2 b23 hw3
  go_upto_region 5 with fail
  try rw [HW3.out]
  refine wp_region_quiet_below mixed (by kernel_rfl) ?_
  repeat (go_big_quiet_step (fail))
  refine wpQuiet_nil ?_
  intro w0q hw'
  obtain ⟨⟨wq, bq⟩, hw''⟩ := hw'
  have hw2 : wq = w0q := hw''.symm
  clear hw''
  subst hw2
  have HZ4 := Lib.hid (HZ3.out.kept1 bq)
  have HR4 := Lib.hid (HR3.out.kept1 bq)
  have HZZ4 := Lib.hid (HZZ.out.trans (Zone.of_below bq g (g + 1)))
  clear HZ3 HR3 HZZ HW3 bq D
  go_wp2_with (refine wpList_store_rec (q := 0) (s := 0) rfl _ _ rfl rfl rfl _ rfl HZ4.out ?_)
  intro w5 h5 hl5 hs5 he5
  obtain ⟨y0, y1, y2, y3, y4, y5⟩ := rec_cells h5
  have hR5 : RdAt g d b l i la ma ml ta tl da slot left seq ((read : Int) + 1) (moreV sum T.data.toList) w5 := (he5 g (by omega)).trans HR4.out
  have hZ5 : Zone g (g + 1) w w5 := HZZ4.out.later (Nat.le_refl _) hl5
  clear hl5 hs5 he5
  go_wp2
  refine bodyPost_ret (v := .tuple #[noR, .bool false]) ?_ rfl ⟨rfl, hR5, hZ5⟩
  rw [results_cell_tmp rfl]
  go_simp
set_option maxRecDepth 100000 in
set_option maxHeartbeats 8000000 in
theorem record_seq (g d lo hi : Nat) (b l i la ma ml ta tl da : Int) (hl : 128 ≤ l ∧ l ≤ 512) (hla : 0 ≤ la ∧ la ≤ 4096) (slot read : Nat) (left : Int) (seq sum : Nat) (hr : (read : Int) ≠ left) (hs : slot + read ≤ 2000) (hsum : sum < 4294967296) {S : St} (w : World)
    (h : RdAt g d b l i la ma ml ta tl da slot left seq read sum w) (hd : DevAt d lo hi S w) (hg : hi ≤ g) (hg0 : 0 < g) (ht : Tab w) (hk : IsBlk (slotT S la l (slot + read))) (hq : (readR (slotT S la l (slot + read))).seq ≠ seq) :
    Calls Tryz.prog 91 #[.pointer (some ⟨g, 0, none⟩)] w fun e w' => e = .returned (.tuple #[noR, .bool false]) ∧ RdAt g d b l i la ma ml ta tl da slot left seq ((read : Int) + 1) (moreV sum (slotT S la l (slot + read)).data.toList) w' ∧ Zone g (g + 1) w w' := by
  have D := fun w => dec_yes (slotT S la l (slot + read)) (slotT_size hd.ok la l (slot + read)) hk w
  obtain ⟨β, hrise⟩ : ∃ β, decide (riseTo (hmB b la l) (readR (slotT S la l (slot + read))).homes (readR (slotT S la l (slot + read))).homes.length) = β := ⟨_, rfl⟩
  generalize readR (slotT S la l (slot + read)) = r at *
  obtain ⟨kind, sq, pos, homes, masked, sm⟩ := r
  dsimp only at *
  have D := Lib.hid D
  clear hk
  have tq : ((sq : Int) != (seq : Int)) = true := by rw [bne_iff_ne]; omega
  clear hq
  have mixed : Tryz.prog.follows .mixedOrders = true := by kernel_rfl
  have gh : Tryz.prog.stoodInHeld 134 = false := by kernel_rfl
  have hgw := h.lt
  obtain ⟨w0, hw0⟩ : ∃ w0, w.alloc (.cells zC 134) = w0 := ⟨_, rfl⟩
  have b0 : Below w.heap.size w w0 := by rw [← hw0]; exact balloc1 w _
  have hZ0 : Blk w.heap.size zC 134 w0 := by rw [← hw0]; exact Blk.new _ _ w
  have hT := slotT_size hd.ok la l (slot + read)
  have NX := next_more g d lo hi b l i la ma ml ta tl da hl hla slot read left seq sum hr hs hsum w0 (h.kept1 b0) (hd.kept1 b0) hg hg0 (tab_below1 ht b0)
  have Z0 : Zone g (g + 1) w w0 := Zone.of_below b0 _ _
  generalize slotT S la l (slot + read) = T at *
  have NX := Lib.hid NX
  clear h hd ht b0 hr hs hsum
  go_enter Tryz.func91, Tryz.ntmps91
  go_wp2_with fail
  refine NX.out.mono ?_; rintro e w1 ⟨rfl, hR1, z1⟩
  have hZ1 : Blk w.heap.size zC 134 w1 := hZ0.kept z1 (.inr (by omega))
  have Z1 := Z0.trans z1
  clear hw0 NX hZ0 Z0 z1
  go_wp2_with fail
  refine (D.out _).mono ?_; rintro e w2 ⟨vh, vm, rfl, hown, b2⟩
  obtain ⟨ah, ch, rfl, -⟩ := shape_of hown.1
  obtain ⟨am, cm, rfl, -⟩ := shape_of hown.2
  have hZ2 := hZ1.kept1 b2
  have hR2 := hR1.kept1 b2
  have Z2 := Z1.trans (Zone.of_below b2 g (g + 1))
  have hown := hown.down (show w.heap.size + 1 ≤ w1.heap.size from hZ1.lt)
  clear hZ1 hR1 Z1 b2
  obtain ⟨w3, hw3⟩ : ∃ w3, w2.alloc (.cells #[.int .i64 kind, .int .u64 (sq : Int), .int .i64 pos, .slice ah homes.length ch, .slice am masked.length cm, .int .u32 (sm : Int)] 134) = w3 := ⟨_, rfl⟩
  have b23 : Below w2.heap.size w2 w3 := by rw [← hw3]; exact balloc1 _ _
  have hX3 : RecAt w2.heap.size kind sq pos (.slice ah homes.length ch) (.slice am masked.length cm) sm w3 := by rw [← hw3]; exact Blk.new _ _ w2
  have hZ3 := hZ2.kept1 b23
  have hR3 := hR2.kept1 b23
  have Z3 := Z2.trans (Zone.of_below b23 g (g + 1))
  have hO3 := hown.kept b23
  have kb := fun p : BelowP w3 => rec_cells (hX3.kept1 p.h)
  have k0 := fun p => (kb p).1
  have k1 := fun p => (kb p).2.1
  have k2 := fun p => (kb p).2.2.1
  have k3 := fun p => (kb p).2.2.2.1
  have k4 := fun p => (kb p).2.2.2.2.1
  have k5 := fun p => (kb p).2.2.2.2.2
  have rb := fun p : BelowP w3 => RdAt.cells (Blk.kept1 hR3 p.h)
  have r0 := fun p => (rb p).1
  have r1 := fun p => (rb p).2.1
  have r2 := fun p => (rb p).2.2.1
  have r3 := fun p => (rb p).2.2.2.1
  have r4 := fun p => (rb p).2.2.2.2.1
  have r5 := fun p => (rb p).2.2.2.2.2.1
  have r6 := fun p => (rb p).2.2.2.2.2.2.1
  have r7 := fun p => (rb p).2.2.2.2.2.2.2.1
  have r8 := fun p => (rb p).2.2.2.2.2.2.2.2.1
  have r9 := fun p => (rb p).2.2.2.2.2.2.2.2.2.1
  have r12 := fun p => (rb p).2.2.2.2.2.2.2.2.2.2.2.2.1
  have RS := fun p : BelowP w3 => rising_any (some ⟨d, 0, none⟩) b l i la ma ml ta tl da hl hla homes (.slice ah homes.length ch) p.to (hO3.kept p.h).isIn.1
  rw [hrise] at RS
  have RS := Lib.hid RS
  have HZ3 := Lib.hid hZ3
  have HR3 := Lib.hid hR3
  have HZZ := Lib.hid Z3
  have HO3 := Lib.hid hO3
  have HX3 := Lib.hid hX3
  have HW3 := Lib.hid hw3
  clear hX3 hZ3 hR3 Z3 hO3 kb rb b23 hZ2 hR2 Z2 hown hw3 hrise
  go_upto_region 5 with fail
  try rw [HW3.out]
  refine wp_region_quiet_below mixed (by kernel_rfl) ?_
  repeat (go_big_quiet_step (first | (go_at_call 72; refine calls_below (RS.out _))))
  refine wpQuiet_nil ?_
  intro w0q hw'
  obtain ⟨⟨wq, bq⟩, hw''⟩ := hw'
  have hw2 : wq = w0q := hw''.symm
  clear hw''
  subst hw2
  have HZ4 := Lib.hid (HZ3.out.kept1 bq)
  have HR4 := Lib.hid (HR3.out.kept1 bq)
  have HZZ4 := Lib.hid (HZZ.out.trans (Zone.of_below bq g (g + 1)))
  have HO4 := Lib.hid (HO3.out.kept bq)
  have hX4 := HX3.out.kept1 bq
  clear HZ3 HR3 HZZ HO3 HX3 HW3 RS bq k0 k1 k2 k3 k4 k5 r0 r1 r2 r3 r4 r5 r6 r7 r8 r9 r12
  clear hX4 HO4
  go_wp2_with (refine wpList_store_rec (q := 0) (s := 0) rfl _ _ rfl rfl rfl _ rfl HZ4.out ?_)
  intro w5 h5 hl5 hs5 he5
  obtain ⟨y0, y1, y2, y3, y4, y5⟩ := rec_cells h5
  have hR5 : RdAt g d b l i la ma ml ta tl da slot left seq ((read : Int) + 1) (moreV sum T.data.toList) w5 := (he5 g (by omega)).trans HR4.out
  have hZ5 : Zone g (g + 1) w w5 := HZZ4.out.later (Nat.le_refl _) hl5
  clear hl5 hs5 he5
  go_wp2
  refine bodyPost_ret (v := .tuple #[noR, .bool false]) ?_ rfl ⟨rfl, hR5, hZ5⟩
  rw [results_cell_tmp rfl]
  go_simp
set_option maxRecDepth 100000 in
set_option maxHeartbeats 8000000 in
theorem record_up (g d lo hi : Nat) (b l i la ma ml ta tl da : Int) (hl : 128 ≤ l ∧ l ≤ 512) (hla : 0 ≤ la ∧ la ≤ 4096) (slot read : Nat) (left : Int) (seq sum : Nat) (hr : (read : Int) ≠ left) (hs : slot + read ≤ 2000) (hsum : sum < 4294967296) {S : St} (w : World)
    (h : RdAt g d b l i la ma ml ta tl da slot left seq read sum w) (hd : DevAt d lo hi S w) (hg : hi ≤ g) (hg0 : 0 < g) (ht : Tab w) (hk : IsBlk (slotT S la l (slot + read))) (hq : (readR (slotT S la l (slot + read))).seq = seq) (hu : ¬ riseTo (hmB b la l) (readR (slotT S la l (slot + read))).homes (readR (slotT S la l (slot + read))).homes.length) :
    Calls Tryz.prog 91 #[.pointer (some ⟨g, 0, none⟩)] w fun e w' => e = .returned (.tuple #[noR, .bool false]) ∧ RdAt g d b l i la ma ml ta tl da slot left seq ((read : Int) + 1) (moreV sum (slotT S la l (slot + read)).data.toList) w' ∧ Zone g (g + 1) w w' := by
  have D := fun w => dec_yes (slotT S la l (slot + read)) (slotT_size hd.ok la l (slot + read)) hk w
  obtain ⟨β, hrise⟩ : ∃ β, decide (riseTo (hmB b la l) (readR (slotT S la l (slot + read))).homes (readR (slotT S la l (slot + read))).homes.length) = β := ⟨_, rfl⟩
  rw [decide_eq_false hu] at hrise
  subst hrise
  have hrise := decide_eq_false hu
  clear hu
  generalize readR (slotT S la l (slot + read)) = r at *
  obtain ⟨kind, sq, pos, homes, masked, sm⟩ := r
  dsimp only at *
  have D := Lib.hid D
  clear hk
  have tq : ((sq : Int) != (seq : Int)) = false := by rw [bne_eq_false_iff_eq]; omega
  clear hq
  have mixed : Tryz.prog.follows .mixedOrders = true := by kernel_rfl
  have gh : Tryz.prog.stoodInHeld 134 = false := by kernel_rfl
  have hgw := h.lt
  obtain ⟨w0, hw0⟩ : ∃ w0, w.alloc (.cells zC 134) = w0 := ⟨_, rfl⟩
  have b0 : Below w.heap.size w w0 := by rw [← hw0]; exact balloc1 w _
  have hZ0 : Blk w.heap.size zC 134 w0 := by rw [← hw0]; exact Blk.new _ _ w
  have hT := slotT_size hd.ok la l (slot + read)
  have NX := next_more g d lo hi b l i la ma ml ta tl da hl hla slot read left seq sum hr hs hsum w0 (h.kept1 b0) (hd.kept1 b0) hg hg0 (tab_below1 ht b0)
  have Z0 : Zone g (g + 1) w w0 := Zone.of_below b0 _ _
  generalize slotT S la l (slot + read) = T at *
  have NX := Lib.hid NX
  clear h hd ht b0 hr hs hsum
  go_enter Tryz.func91, Tryz.ntmps91
  go_wp2_with fail
  refine NX.out.mono ?_; rintro e w1 ⟨rfl, hR1, z1⟩
  have hZ1 : Blk w.heap.size zC 134 w1 := hZ0.kept z1 (.inr (by omega))
  have Z1 := Z0.trans z1
  clear hw0 NX hZ0 Z0 z1
  go_wp2_with fail
  refine (D.out _).mono ?_; rintro e w2 ⟨vh, vm, rfl, hown, b2⟩
  obtain ⟨ah, ch, rfl, -⟩ := shape_of hown.1
  obtain ⟨am, cm, rfl, -⟩ := shape_of hown.2
  have hZ2 := hZ1.kept1 b2
  have hR2 := hR1.kept1 b2
  have Z2 := Z1.trans (Zone.of_below b2 g (g + 1))
  have hown := hown.down (show w.heap.size + 1 ≤ w1.heap.size from hZ1.lt)
  clear hZ1 hR1 Z1 b2
  obtain ⟨w3, hw3⟩ : ∃ w3, w2.alloc (.cells #[.int .i64 kind, .int .u64 (sq : Int), .int .i64 pos, .slice ah homes.length ch, .slice am masked.length cm, .int .u32 (sm : Int)] 134) = w3 := ⟨_, rfl⟩
  have b23 : Below w2.heap.size w2 w3 := by rw [← hw3]; exact balloc1 _ _
  have hX3 : RecAt w2.heap.size kind sq pos (.slice ah homes.length ch) (.slice am masked.length cm) sm w3 := by rw [← hw3]; exact Blk.new _ _ w2
  have hZ3 := hZ2.kept1 b23
  have hR3 := hR2.kept1 b23
  have Z3 := Z2.trans (Zone.of_below b23 g (g + 1))
  have hO3 := hown.kept b23
  have kb := fun p : BelowP w3 => rec_cells (hX3.kept1 p.h)
  have k0 := fun p => (kb p).1
  have k1 := fun p => (kb p).2.1
  have k2 := fun p => (kb p).2.2.1
  have k3 := fun p => (kb p).2.2.2.1
  have k4 := fun p => (kb p).2.2.2.2.1
  have k5 := fun p => (kb p).2.2.2.2.2
  have rb := fun p : BelowP w3 => RdAt.cells (Blk.kept1 hR3 p.h)
  have r0 := fun p => (rb p).1
  have r1 := fun p => (rb p).2.1
  have r2 := fun p => (rb p).2.2.1
  have r3 := fun p => (rb p).2.2.2.1
  have r4 := fun p => (rb p).2.2.2.2.1
  have r5 := fun p => (rb p).2.2.2.2.2.1
  have r6 := fun p => (rb p).2.2.2.2.2.2.1
  have r7 := fun p => (rb p).2.2.2.2.2.2.2.1
  have r8 := fun p => (rb p).2.2.2.2.2.2.2.2.1
  have r9 := fun p => (rb p).2.2.2.2.2.2.2.2.2.1
  have r12 := fun p => (rb p).2.2.2.2.2.2.2.2.2.2.2.2.1
  have RS := fun p : BelowP w3 => rising_any (some ⟨d, 0, none⟩) b l i la ma ml ta tl da hl hla homes (.slice ah homes.length ch) p.to (hO3.kept p.h).isIn.1
  rw [hrise] at RS
  have RS := Lib.hid RS
  have HZ3 := Lib.hid hZ3
  have HR3 := Lib.hid hR3
  have HZZ := Lib.hid Z3
  have HO3 := Lib.hid hO3
  have HX3 := Lib.hid hX3
  have HW3 := Lib.hid hw3
  clear hX3 hZ3 hR3 Z3 hO3 kb rb b23 hZ2 hR2 Z2 hown hw3 hrise
  go_upto_region 5 with fail
  try rw [HW3.out]
  refine wp_region_quiet_below mixed (by kernel_rfl) ?_
  repeat (go_big_quiet_step (first | (go_at_call 72; refine calls_below (RS.out _))))
  refine wpQuiet_nil ?_
  intro w0q hw'
  obtain ⟨⟨wq, bq⟩, hw''⟩ := hw'
  have hw2 : wq = w0q := hw''.symm
  clear hw''
  subst hw2
  have HZ4 := Lib.hid (HZ3.out.kept1 bq)
  have HR4 := Lib.hid (HR3.out.kept1 bq)
  have HZZ4 := Lib.hid (HZZ.out.trans (Zone.of_below bq g (g + 1)))
  have HO4 := Lib.hid (HO3.out.kept bq)
  have hX4 := HX3.out.kept1 bq
  clear HZ3 HR3 HZZ HO3 HX3 HW3 RS bq k0 k1 k2 k3 k4 k5 r0 r1 r2 r3 r4 r5 r6 r7 r8 r9 r12
  clear hX4 HO4
  go_wp2_with (refine wpList_store_rec (q := 0) (s := 0) rfl _ _ rfl rfl rfl _ rfl HZ4.out ?_)
  intro w5 h5 hl5 hs5 he5
  obtain ⟨y0, y1, y2, y3, y4, y5⟩ := rec_cells h5
  have hR5 : RdAt g d b l i la ma ml ta tl da slot left seq ((read : Int) + 1) (moreV sum T.data.toList) w5 := (he5 g (by omega)).trans HR4.out
  have hZ5 : Zone g (g + 1) w w5 := HZZ4.out.later (Nat.le_refl _) hl5
  clear hl5 hs5 he5
  go_wp2
  refine bodyPost_ret (v := .tuple #[noR, .bool false]) ?_ rfl ⟨rfl, hR5, hZ5⟩
  rw [results_cell_tmp rfl]
  go_simp
set_option maxRecDepth 100000 in
set_option maxHeartbeats 8000000 in
theorem record_ok (g d lo hi : Nat) (b l i la ma ml ta tl da : Int) (hl : 128 ≤ l ∧ l ≤ 512) (hla : 0 ≤ la ∧ la ≤ 4096) (slot read : Nat) (left : Int) (seq sum : Nat) (hr : (read : Int) ≠ left) (hs : slot + read ≤ 2000) (hsum : sum < 4294967296) {S : St} (w : World)
    (h : RdAt g d b l i la ma ml ta tl da slot left seq read sum w) (hd : DevAt d lo hi S w) (hg : hi ≤ g) (hg0 : 0 < g) (ht : Tab w) (hk : IsBlk (slotT S la l (slot + read))) (hq : (readR (slotT S la l (slot + read))).seq = seq) (hu : riseTo (hmB b la l) (readR (slotT S la l (slot + read))).homes (readR (slotT S la l (slot + read))).homes.length) :
    Calls Tryz.prog 91 #[.pointer (some ⟨g, 0, none⟩)] w fun e w' => ∃ vh vm, e = .returned (.tuple #[recV (readR (slotT S la l (slot + read))) vh vm, .bool true]) ∧ RecOwn w.heap.size (readR (slotT S la l (slot + read))) vh vm w' ∧ RdAt g d b l i la ma ml ta tl da slot left seq ((read : Int) + 1) (moreV sum (slotT S la l (slot + read)).data.toList) w' ∧ Zone g (g + 1) w w' := by
  have D := fun w => dec_yes (slotT S la l (slot + read)) (slotT_size hd.ok la l (slot + read)) hk w
  obtain ⟨β, hrise⟩ : ∃ β, decide (riseTo (hmB b la l) (readR (slotT S la l (slot + read))).homes (readR (slotT S la l (slot + read))).homes.length) = β := ⟨_, rfl⟩
  rw [decide_eq_true hu] at hrise
  subst hrise
  have hrise := decide_eq_true hu
  clear hu
  generalize readR (slotT S la l (slot + read)) = r at *
  obtain ⟨kind, sq, pos, homes, masked, sm⟩ := r
  dsimp only at *
  have D := Lib.hid D
  clear hk
  have tq : ((sq : Int) != (seq : Int)) = false := by rw [bne_eq_false_iff_eq]; omega
  clear hq
  have mixed : Tryz.prog.follows .mixedOrders = true := by kernel_rfl
  have gh : Tryz.prog.stoodInHeld 134 = false := by kernel_rfl
  have hgw := h.lt
  obtain ⟨w0, hw0⟩ : ∃ w0, w.alloc (.cells zC 134) = w0 := ⟨_, rfl⟩
  have b0 : Below w.heap.size w w0 := by rw [← hw0]; exact balloc1 w _
  have hZ0 : Blk w.heap.size zC 134 w0 := by rw [← hw0]; exact Blk.new _ _ w
  have hT := slotT_size hd.ok la l (slot + read)
  have NX := next_more g d lo hi b l i la ma ml ta tl da hl hla slot read left seq sum hr hs hsum w0 (h.kept1 b0) (hd.kept1 b0) hg hg0 (tab_below1 ht b0)
  have Z0 : Zone g (g + 1) w w0 := Zone.of_below b0 _ _
  generalize slotT S la l (slot + read) = T at *
  have NX := Lib.hid NX
  clear h hd ht b0 hr hs hsum
  go_enter Tryz.func91, Tryz.ntmps91
  go_wp2_with fail
  refine NX.out.mono ?_; rintro e w1 ⟨rfl, hR1, z1⟩
  have hZ1 : Blk w.heap.size zC 134 w1 := hZ0.kept z1 (.inr (by omega))
  have Z1 := Z0.trans z1
  clear hw0 NX hZ0 Z0 z1
  go_wp2_with fail
  refine (D.out _).mono ?_; rintro e w2 ⟨vh, vm, rfl, hown, b2⟩
  obtain ⟨ah, ch, rfl, -⟩ := shape_of hown.1
  obtain ⟨am, cm, rfl, -⟩ := shape_of hown.2
  have hZ2 := hZ1.kept1 b2
  have hR2 := hR1.kept1 b2
  have Z2 := Z1.trans (Zone.of_below b2 g (g + 1))
  have hown := hown.down (show w.heap.size + 1 ≤ w1.heap.size from hZ1.lt)
  clear hZ1 hR1 Z1 b2
  obtain ⟨w3, hw3⟩ : ∃ w3, w2.alloc (.cells #[.int .i64 kind, .int .u64 (sq : Int), .int .i64 pos, .slice ah homes.length ch, .slice am masked.length cm, .int .u32 (sm : Int)] 134) = w3 := ⟨_, rfl⟩
  have b23 : Below w2.heap.size w2 w3 := by rw [← hw3]; exact balloc1 _ _
  have hX3 : RecAt w2.heap.size kind sq pos (.slice ah homes.length ch) (.slice am masked.length cm) sm w3 := by rw [← hw3]; exact Blk.new _ _ w2
  have hZ3 := hZ2.kept1 b23
  have hR3 := hR2.kept1 b23
  have Z3 := Z2.trans (Zone.of_below b23 g (g + 1))
  have hO3 := hown.kept b23
  have kb := fun p : BelowP w3 => rec_cells (hX3.kept1 p.h)
  have k0 := fun p => (kb p).1
  have k1 := fun p => (kb p).2.1
  have k2 := fun p => (kb p).2.2.1
  have k3 := fun p => (kb p).2.2.2.1
  have k4 := fun p => (kb p).2.2.2.2.1
  have k5 := fun p => (kb p).2.2.2.2.2
  have rb := fun p : BelowP w3 => RdAt.cells (Blk.kept1 hR3 p.h)
  have r0 := fun p => (rb p).1
  have r1 := fun p => (rb p).2.1
  have r2 := fun p => (rb p).2.2.1
  have r3 := fun p => (rb p).2.2.2.1
  have r4 := fun p => (rb p).2.2.2.2.1
  have r5 := fun p => (rb p).2.2.2.2.2.1
  have r6 := fun p => (rb p).2.2.2.2.2.2.1
  have r7 := fun p => (rb p).2.2.2.2.2.2.2.1
  have r8 := fun p => (rb p).2.2.2.2.2.2.2.2.1
  have r9 := fun p => (rb p).2.2.2.2.2.2.2.2.2.1
  have r12 := fun p => (rb p).2.2.2.2.2.2.2.2.2.2.2.2.1
  have RS := fun p : BelowP w3 => rising_any (some ⟨d, 0, none⟩) b l i la ma ml ta tl da hl hla homes (.slice ah homes.length ch) p.to (hO3.kept p.h).isIn.1
  rw [hrise] at RS
  have RS := Lib.hid RS
  have HZ3 := Lib.hid hZ3
  have HR3 := Lib.hid hR3
  have HZZ := Lib.hid Z3
  have HO3 := Lib.hid hO3
  have HX3 := Lib.hid hX3
  have HW3 := Lib.hid hw3
  clear hX3 hZ3 hR3 Z3 hO3 kb rb b23 hZ2 hR2 Z2 hown hw3 hrise
  go_upto_region 5 with fail
  try rw [HW3.out]
  refine wp_region_quiet_below mixed (by kernel_rfl) ?_
  repeat (go_big_quiet_step (first | (go_at_call 72; refine calls_below (RS.out _))))
  refine wpQuiet_nil ?_
  intro w0q hw'
  obtain ⟨⟨wq, bq⟩, hw''⟩ := hw'
  have hw2 : wq = w0q := hw''.symm
  clear hw''
  subst hw2
  have HZ4 := Lib.hid (HZ3.out.kept1 bq)
  have HR4 := Lib.hid (HR3.out.kept1 bq)
  have HZZ4 := Lib.hid (HZZ.out.trans (Zone.of_below bq g (g + 1)))
  have HO4 := Lib.hid (HO3.out.kept bq)
  have hX4 := HX3.out.kept1 bq
  clear HZ3 HR3 HZZ HO3 HX3 HW3 RS bq k0 k1 k2 k3 k4 k5 r0 r1 r2 r3 r4 r5 r6 r7 r8 r9 r12
  obtain ⟨x0, x1, x2, x3, x4, x5⟩ := rec_cells hX4
  clear hX4
  go_wp2_with (refine wpList_store_rec (q := sq) (s := sm) rfl _ _ rfl rfl rfl _ rfl HZ4.out ?_)
  intro w5 h5 hl5 hs5 he5
  obtain ⟨y0, y1, y2, y3, y4, y5⟩ := rec_cells h5
  have hR5 : RdAt g d b l i la ma ml ta tl da slot left seq ((read : Int) + 1) (moreV sum T.data.toList) w5 := (he5 g (by omega)).trans HR4.out
  have hZ5 : Zone g (g + 1) w w5 := HZZ4.out.later (Nat.le_refl _) hl5
  have HO5 : Hid (RecOwn w.heap.size ⟨kind, sq, pos, homes, masked, sm⟩ (.slice ah homes.length ch) (.slice am masked.length cm) w5) := Lib.hid (RecOwn.down (Nat.le_succ _) ⟨row_same HO4.out.1 fun j hj => he5 j (by omega), row_same HO4.out.2 fun j hj => he5 j (by omega)⟩)
  clear hl5 hs5 he5 x0 x1 x2 x3 x4 x5
  go_wp2
  refine bodyPost_ret (v := .tuple #[recV ⟨kind, sq, pos, homes, masked, sm⟩ (.slice ah homes.length ch) (.slice am masked.length cm), .bool true]) ?_ rfl ⟨_, _, rfl, HO5.out, hR5, hZ5⟩
  rw [results_cell_tmp rfl]
  go_simp
end Go.Proofs.YtanghmogeiiooaaGreatDoor

/- Unmask, the program's and the document's; the document's Mask. -/
namespace Go.Proofs.YtanghmogeiiooaaGreatDoor
set_option linter.unusedVariables false
open Go.RowKit

theorem unmask_any (s : ByteArray) (hs : s.size ≤ maxLen) (w : World) :
    Calls Tryz.prog 112 #[.string s] w fun e w' => e = .returned (.string (unmaskV s)) ∧ w = w' := by
  unfold maxLen at hs
  unfold unmaskV
  by_cases h : 4 ≤ s.size
  · rw [if_pos h]
    have hz := cut_size s
    go_enter Tryz.func112, Tryz.ntmps112
    go_wp2
    go_ret
    exact ⟨rfl, rfl⟩
  · rw [if_neg h]
    go_enter Tryz.func112, Tryz.ntmps112
    go_wp2
    go_ret
    exact ⟨rfl, rfl⟩
end Go.Proofs.YtanghmogeiiooaaGreatDoor
