import Derived.Test.YtknkjccimjfbbaaGreatDoorPa48
import Derived.Test.YtknkjccimjfbbaaGreatDoorPa31
import Derived.Test.YtknkjccimjfbbaaGreatDoorPa24
set_option linter.unusedVariables false
set_option linter.unusedSimpArgs false
set_option linter.constructorNameAsVariable false
/- The walk of JournalNone. -/
namespace Go.Proofs.YtknkjccimjfbbaaGreatDoor
set_option linter.unusedVariables false
set_option linter.unusedSimpArgs false
open Go.RowKit

set_option maxRecDepth 100000 in
set_option maxHeartbeats 4000000 in
theorem none_walk (L : List (Int × ByteArray)) (R : List Int) (D : List (Int × ByteArray)) (b l i la ma ml ta tl da : Int) (vc vr vd : Value) (w : World) (hc : ChgsIn vc L w) (hr : IntsIn vr R w) (hd : ChgsIn vd D w) (ht : Tab w) :
    Calls Tryz.prog 4 #[.agg #[vc, vr], vd, geo b l i la ma ml ta tl da] w fun e w' => e = .returned (.bool true) ∧ Below w.heap.size w w' := by
  have gt : Tryz.prog.stoodInHeld 25 = false := by kernel_rfl
  have gg : Tryz.prog.stoodInHeld 30 = false := by kernel_rfl
  have gl : Tryz.prog.stoodInHeld 40 = false := by kernel_rfl
  have gd : Tryz.prog.stoodInHeld 44 = false := by kernel_rfl
  obtain ⟨ac, cc, rfl, hc1, hc2, -⟩ := hc.shape
  obtain ⟨ar, cr, rfl, hr1, hr2, -⟩ := hr.shape
  obtain ⟨ad, cd, rfl, hd1, hd2, -⟩ := hd.shape
  have hm : maxLen = 9223372036854775807 := rfl
  clear hc hr hd
  generalize L.length = nc at *
  generalize R.length = nr at *
  generalize D.length = nd at *
  have HT := Lib.hid ht
  clear ht
  obtain ⟨w0, hw0⟩ : ∃ w0, w.alloc (.cells #[.slice ac nc cc, .slice ar nr cr] 25) = w0 := ⟨_, rfl⟩
  have T0 : Blk w.heap.size #[.slice ac nc cc, .slice ar nr cr] 25 w0 := by rw [← hw0]; exact Blk.new _ _ _
  have s0 : w0.heap.size = w.heap.size + 1 := by rw [← hw0, size_alloc]
  obtain ⟨w1, hw1⟩ : ∃ w1, w0.alloc (.cells (cellsG b l i la ma ml ta tl da) 30) = w1 := ⟨_, rfl⟩
  have T1 : Blk w.heap.size #[.slice ac nc cc, .slice ar nr cr] 25 w1 := by rw [← hw1]; exact T0.kept1 (balloc1 _ _)
  have G1 : GeoAt (w.heap.size + 1) b l i la ma ml ta tl da w1 := by rw [← hw1, ← s0]; exact GeoAt.new _ _ _ _ _ _ _ _ _ _
  have b1 : Below w.heap.size w w1 := by rw [← hw1, ← hw0]; exact balloc (balloc1 _ _) _
  have HW0 := Lib.hid hw0
  have HW1 := Lib.hid hw1
  have HT1 := Lib.hid T1
  have HG1 := Lib.hid G1
  have HB1 := Lib.hid b1
  have t0 := T1.cell 0
  have t1 := T1.cell 1
  simp only [List.getElem?_toArray, List.getElem?_cons_zero, List.getElem?_cons_succ] at t0 t1
  clear hw0 hw1 T0 T1 G1 b1 s0
  by_cases h1 : 1000 < nc
  · go_enter Tryz.func4, Tryz.ntmps4
    go_upto_region 1 with fail
    (try rw [HW0.out]); rw [HW1.out]
    go_wp2
    go_ret
    exact ⟨rfl, HB1.out⟩
  by_cases h2 : 1000 < nr
  · go_enter Tryz.func4, Tryz.ntmps4
    go_upto_region 1 with fail
    (try rw [HW0.out]); rw [HW1.out]
    go_wp2
    go_ret
    exact ⟨rfl, HB1.out⟩
  by_cases h3 : 1000 < nd
  · go_enter Tryz.func4, Tryz.ntmps4
    go_upto_region 1 with fail
    (try rw [HW0.out]); rw [HW1.out]
    go_wp2
    go_ret
    exact ⟨rfl, HB1.out⟩
  go_enter Tryz.func4, Tryz.ntmps4
  go_upto_region 1 with fail
  (try rw [HW0.out]); rw [HW1.out]
  go_wp2
  go_loopw [7] (fun q wr => ∃ k : Nat, q = .int .i64 (k : Int) ∧ k ≤ 2 ∧ Below w1.heap.size w1 wr) (fun q _ => 2 - (intOf q).toNat)
  case atStart => exact ⟨0, rfl, by omega, Below.refl _ _⟩
  case round =>
    obtain ⟨k, rfl, hk, hB⟩ := hrel
    clear t0 t1
    rcases (show k = 0 ∨ k = 1 ∨ k = 2 by omega) with rfl | rfl | rfl
    · have HBR := Lib.hid hB
      have ND : NoDev (.pointer none) wr := .inl rfl
      have NL : NoLog (.pointer none) wr := .inl rfl
      have HBX2 := hB
      clear hB
      have HT2 := Lib.hid (Blk.kept1 HT1.out HBR.out)
      have t0 := HT2.out.cell 0
      have t1 := HT2.out.cell 1
      simp only [List.getElem?_toArray, List.getElem?_cons_zero, List.getElem?_cons_succ] at t0 t1
      have HG2 := Lib.hid (HG1.out.kept1 HBR.out)
      obtain ⟨c0, c1, c2, c3, c4, c5, c6, c7, c8⟩ := HG2.out.cells
      go_wp2_with fail
      refine (jreplay_nil _ b l i la ma ml ta tl da _ ND).mono ?_; rintro e w2 ⟨rfl, b2⟩
      have ND' := ND.kept1 b2
      have NL' := NL.kept1 b2
      have HT3 := Lib.hid (Blk.kept1 HT2.out b2)
      have HG3 := Lib.hid (HG2.out.kept1 b2)
      have HBX3 := HBX2.trans (b2.mono HBX2.size)
      clear c0 c1 c2 c3 c4 c5 c6 c7 c8 t0 t1 ND NL b2 HT2 HG2 HBX2
      have ND := ND'
      have NL := NL'
      clear ND' NL'
      obtain ⟨c0, c1, c2, c3, c4, c5, c6, c7, c8⟩ := HG3.out.cells
      have t0 := HT3.out.cell 0
      have t1 := HT3.out.cell 1
      simp only [List.getElem?_toArray, List.getElem?_cons_zero, List.getElem?_cons_succ] at t0 t1
      go_wp2_with fail
      refine (jopen_nil _ b l i la ma ml ta tl da _ ND).mono ?_; rintro e w3 ⟨rfl, b3⟩
      have ND' := ND.kept1 b3
      have NL' := NL.kept1 b3
      have HT4 := Lib.hid (Blk.kept1 HT3.out b3)
      have HG4 := Lib.hid (HG3.out.kept1 b3)
      have HBX4 := HBX3.trans (b3.mono HBX3.size)
      clear c0 c1 c2 c3 c4 c5 c6 c7 c8 t0 t1 ND NL b3 HT3 HG3 HBX3
      have ND := ND'
      have NL := NL'
      clear ND' NL'
      obtain ⟨c0, c1, c2, c3, c4, c5, c6, c7, c8⟩ := HG4.out.cells
      have t0 := HT4.out.cell 0
      have t1 := HT4.out.cell 1
      simp only [List.getElem?_toArray, List.getElem?_cons_zero, List.getElem?_cons_succ] at t0 t1
      go_wp2_with fail
      refine (noroom_any _ _ NL).mono ?_; rintro e w' ⟨rfl, rfl⟩
      go_wp2_with fail
      refine (nonext_any _ _ NL).mono ?_; rintro e w' ⟨rfl, rfl⟩
      go_wp2_with fail
      refine (nocommit_any _ _ _ _ _ NL).mono ?_; rintro e w4 ⟨rfl, b4⟩
      have ND' := ND.kept1 b4
      have NL' := NL.kept1 b4
      have HT5 := Lib.hid (Blk.kept1 HT4.out b4)
      have HG5 := Lib.hid (HG4.out.kept1 b4)
      have HBX5 := HBX4.trans (b4.mono HBX4.size)
      clear c0 c1 c2 c3 c4 c5 c6 c7 c8 t0 t1 ND NL b4 HT4 HG4 HBX4
      have ND := ND'
      have NL := NL'
      clear ND' NL'
      obtain ⟨c0, c1, c2, c3, c4, c5, c6, c7, c8⟩ := HG5.out.cells
      have t0 := HT5.out.cell 0
      have t1 := HT5.out.cell 1
      simp only [List.getElem?_toArray, List.getElem?_cons_zero, List.getElem?_cons_succ] at t0 t1
      go_wp2_with fail
      refine (nocheck_any _ _ NL).mono ?_; rintro e w' ⟨rfl, rfl⟩
      go_wp2_with fail
      refine (jformat_nil _ b l i la ma ml ta tl da _ ND).mono ?_; rintro e w5 ⟨rfl, b5⟩
      have hb := HBX5.trans (b5.mono HBX5.size)
      have HBB := Lib.hid hb
      clear c0 c1 c2 c3 c4 c5 c6 c7 c8 t0 t1 ND NL HT5 HG5 HBX5 b5 hb
      go_wp2
      exact ⟨⟨1, by first | rfl | go_num, by omega, HBB.out⟩, by simp [intOf]⟩
    · obtain ⟨w1a, hw1a⟩ : ∃ w1a, wr.alloc (.cells #[.pointer none, .int .i64 0, .int .i64 0, .int .i64 0, .int .i64 0, .int .i64 0, .int .i64 0, .int .i64 0, .int .i64 0, .int .i64 0, .pointer none, .int .i64 0, .int .i64 0, .int .u64 0, .int .i64 0] 40) = w1a := ⟨_, rfl⟩
      obtain ⟨w1b, hw1b⟩ : ∃ w1b, w1a.alloc (.cells #[.pointer none, .slice none 0 0, .slice none 0 0, .slice none 0 0, .int .i64 0, .int .i64 0] 44) = w1b := ⟨_, rfl⟩
      have sa : w1a.heap.size = wr.heap.size + 1 := by rw [← hw1a, size_alloc]
      have NL : NoLog (.pointer (some ⟨wr.heap.size, 0, none⟩)) w1b := by
        rw [← hw1b]; refine NoLog.kept1 ?_ (balloc1 _ _); rw [← hw1a]; exact .inr ⟨_, rfl, (Blk.new _ _ _).cell 10⟩
      have ND : NoDev (.pointer (some ⟨wr.heap.size + 1, 0, none⟩)) w1b := by
        rw [← hw1b, ← sa]; exact .inr ⟨_, rfl, (Blk.new _ _ _).cell 0⟩
      have HBX2 : Below w1.heap.size w1 w1b := by rw [← hw1b, ← hw1a]; exact balloc (balloc hB _) _
      have HBR := Lib.hid HBX2
      have HWA := Lib.hid hw1a
      have HWB := Lib.hid hw1b
      clear hB hw1a hw1b sa
      go_upto_region 11 with fail
      (try rw [HWA.out]); rw [HWB.out]
      have HT2 := Lib.hid (Blk.kept1 HT1.out HBR.out)
      have t0 := HT2.out.cell 0
      have t1 := HT2.out.cell 1
      simp only [List.getElem?_toArray, List.getElem?_cons_zero, List.getElem?_cons_succ] at t0 t1
      have HG2 := Lib.hid (HG1.out.kept1 HBR.out)
      obtain ⟨c0, c1, c2, c3, c4, c5, c6, c7, c8⟩ := HG2.out.cells
      go_wp2_with fail
      refine (jreplay_nil _ b l i la ma ml ta tl da _ ND).mono ?_; rintro e w2 ⟨rfl, b2⟩
      have ND' := ND.kept1 b2
      have NL' := NL.kept1 b2
      have HT3 := Lib.hid (Blk.kept1 HT2.out b2)
      have HG3 := Lib.hid (HG2.out.kept1 b2)
      have HBX3 := HBX2.trans (b2.mono HBX2.size)
      clear c0 c1 c2 c3 c4 c5 c6 c7 c8 t0 t1 ND NL b2 HT2 HG2 HBX2
      have ND := ND'
      have NL := NL'
      clear ND' NL'
      obtain ⟨c0, c1, c2, c3, c4, c5, c6, c7, c8⟩ := HG3.out.cells
      have t0 := HT3.out.cell 0
      have t1 := HT3.out.cell 1
      simp only [List.getElem?_toArray, List.getElem?_cons_zero, List.getElem?_cons_succ] at t0 t1
      go_wp2_with fail
      refine (jopen_nil _ b l i la ma ml ta tl da _ ND).mono ?_; rintro e w3 ⟨rfl, b3⟩
      have ND' := ND.kept1 b3
      have NL' := NL.kept1 b3
      have HT4 := Lib.hid (Blk.kept1 HT3.out b3)
      have HG4 := Lib.hid (HG3.out.kept1 b3)
      have HBX4 := HBX3.trans (b3.mono HBX3.size)
      clear c0 c1 c2 c3 c4 c5 c6 c7 c8 t0 t1 ND NL b3 HT3 HG3 HBX3
      have ND := ND'
      have NL := NL'
      clear ND' NL'
      obtain ⟨c0, c1, c2, c3, c4, c5, c6, c7, c8⟩ := HG4.out.cells
      have t0 := HT4.out.cell 0
      have t1 := HT4.out.cell 1
      simp only [List.getElem?_toArray, List.getElem?_cons_zero, List.getElem?_cons_succ] at t0 t1
      go_wp2_with fail
      refine (noroom_any _ _ NL).mono ?_; rintro e w' ⟨rfl, rfl⟩
      go_wp2_with fail
      refine (nonext_any _ _ NL).mono ?_; rintro e w' ⟨rfl, rfl⟩
      go_wp2_with fail
      refine (nocommit_any _ _ _ _ _ NL).mono ?_; rintro e w4 ⟨rfl, b4⟩
      have ND' := ND.kept1 b4
      have NL' := NL.kept1 b4
      have HT5 := Lib.hid (Blk.kept1 HT4.out b4)
      have HG5 := Lib.hid (HG4.out.kept1 b4)
      have HBX5 := HBX4.trans (b4.mono HBX4.size)
      clear c0 c1 c2 c3 c4 c5 c6 c7 c8 t0 t1 ND NL b4 HT4 HG4 HBX4
      have ND := ND'
      have NL := NL'
      clear ND' NL'
      obtain ⟨c0, c1, c2, c3, c4, c5, c6, c7, c8⟩ := HG5.out.cells
      have t0 := HT5.out.cell 0
      have t1 := HT5.out.cell 1
      simp only [List.getElem?_toArray, List.getElem?_cons_zero, List.getElem?_cons_succ] at t0 t1
      go_wp2_with fail
      refine (nocheck_any _ _ NL).mono ?_; rintro e w' ⟨rfl, rfl⟩
      go_wp2_with fail
      refine (jformat_nil _ b l i la ma ml ta tl da _ ND).mono ?_; rintro e w5 ⟨rfl, b5⟩
      have hb := HBX5.trans (b5.mono HBX5.size)
      have HBB := Lib.hid hb
      clear c0 c1 c2 c3 c4 c5 c6 c7 c8 t0 t1 ND NL HT5 HG5 HBX5 b5 hb
      go_wp2
      exact ⟨⟨2, by first | rfl | go_num, by omega, HBB.out⟩, by simp [intOf]⟩
    · have AL := Lib.hid (alive_any wr (tabOf HT.out (HB1.out.trans (hB.mono HB1.out.size))))
      have HBW := Lib.hid (HB1.out.trans (hB.mono HB1.out.size))
      go_wp2_with fail
      refine AL.out.mono ?_; rintro e w4 ⟨rfl, b4⟩
      have hb4 := bnext HBW.out b4
      go_wp2
      go_ret
      exact ⟨rfl, hb4⟩
end Go.Proofs.YtknkjccimjfbbaaGreatDoor
