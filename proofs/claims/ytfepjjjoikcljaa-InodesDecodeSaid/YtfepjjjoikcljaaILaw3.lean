/- The walk of InodesDecode. -/
import Derived.Test.YtfepjjjoikcljaaILaw2
import Derived.Test.YtfepjjjoikcljaaIRDec
namespace Go.Proofs.Ytfepjjjoikcljaa
set_option linter.unusedVariables false
open Go.RowKit

/-- what both tell of a text -/
theorem idec_both (s : ByteArray) (hs : s.size ≤ maxLen) : ∃ (y : Ino) (c : Int), (c = 0 ∨ c = 80) ∧ (∀ w, Calls Try.prog 15 #[.string s] w fun e w' => ∃ v, e = .returned (.tuple #[inoV y v, .int .i64 c]) ∧ EntsAt w.heap.size v y.root w' ∧ Below w.heap.size w w') ∧
    (∀ w, Calls Try.prog 16 #[.string s] w fun e w' => ∃ v, e = .returned (.tuple #[inoV y v, .int .i64 c]) ∧ EntsAt w.heap.size v y.root w' ∧ Below w.heap.size w w') := by
  by_cases h : IsIno s
  · refine ⟨readI s, 0, .inl rfl, fun w => idec_yes s hs h w, fun w => (irdec_any s hs w).mono fun e w' hr => ?_⟩
    rcases hr with ⟨-, k⟩ | ⟨k, -⟩
    · rw [readD_is h] at k; exact k
    · exact absurd h k
  · refine ⟨noI, 80, .inr rfl, fun w => (idec_no s hs h w).mono fun e w' ⟨he, hb⟩ => ⟨_, he, World.ownsRow_nil _ _ _ _, hb⟩, fun w => (irdec_any s hs w).mono fun e w' hr => ?_⟩
    rcases hr with ⟨k, -⟩ | ⟨-, k1, k2⟩
    · exact absurd k h
    · exact ⟨_, k1, World.ownsRow_nil _ _ _ _, k2⟩
set_option maxRecDepth 100000 in
set_option maxHeartbeats 8000000 in
theorem idecode_walk (s : ByteArray) (hs : s.size ≤ maxLen) (w : World) :
    Calls Try.prog 4 #[.string s] w fun e w' => e = .returned (.bool true) ∧ Below w.heap.size w w' := by
  have AL := Lib.hid ialive_any
  obtain ⟨y, c, hc, D, RD⟩ := idec_both s hs
  have S := fun v u w hv hu => isame_any y y v u w hv hu
  rw [decide_eq_true (rfl : y = y)] at S
  obtain ⟨yk, yp, yl, ys, yd, yr⟩ := y
  dsimp only at *
  have D := Lib.hid D
  have RD := Lib.hid RD
  have S := Lib.hid S
  rcases hc with rfl | rfl
  all_goals
    go_enter Try.func4, Try.ntmps4
    go_wp2_with fail
    refine (D.out _).mono ?_; rintro e w1 ⟨v1, rfl, hR1, b1⟩
    obtain ⟨ad1, cap1, rfl, p1, p2, p3⟩ := shape_of hR1
    have p2 : cap1 ≤ 9223372036854775807 := p2
    obtain ⟨w2, hw2⟩ : ∃ w2, w1.alloc (.cells #[.int .i64 yk, .bool yp, .int .i64 yl, .int .i64 ys, .int .i64 yd, .slice ad1 yr.length cap1] 24) = w2 := ⟨_, rfl⟩
    have b12 : Below w1.heap.size w1 w2 := by rw [← hw2]; exact balloc1 _ _
    have hz2 : w2.heap.size = w1.heap.size + 1 := by rw [← hw2, size_alloc]
    have HX2 := Lib.hid (show InoAt w1.heap.size ⟨yk, yp, yl, ys, yd, yr⟩ (.slice ad1 yr.length cap1) w2 by rw [← hw2]; exact Blk.new _ _ w1)
    have HR2 := Lib.hid (row_kept hR1 b12)
    have HB2 := Lib.hid (bnext b1 b12)
    have HW2 := Lib.hid hw2
    clear hw2 b12
    have hs1 := b1.size
    clear b1 hR1
    go_upto_region 2 with fail
    rw [HW2.out]
    go_wp2_with fail
    refine (RD.out _).mono ?_; rintro e w3 ⟨v3, rfl, hR3, b3⟩
    obtain ⟨ad3, cap3, rfl, -⟩ := shape_of hR3
    obtain ⟨w4, hw4⟩ : ∃ w4, w3.alloc (.cells #[.int .i64 yk, .bool yp, .int .i64 yl, .int .i64 ys, .int .i64 yd, .slice ad3 yr.length cap3] 24) = w4 := ⟨_, rfl⟩
    have b34 : Below w3.heap.size w3 w4 := by rw [← hw4]; exact balloc1 _ _
    have HX4 := Lib.hid ((HX2.out.kept1 b3).kept1 b34)
    have HR4 := Lib.hid (row_kept (row_kept HR2.out b3) b34)
    have HY4 := Lib.hid (show InoAt w3.heap.size ⟨yk, yp, yl, ys, yd, yr⟩ (.slice ad3 yr.length cap3) w4 by rw [← hw4]; exact Blk.new _ _ w3)
    have HQ4 := Lib.hid (row_kept hR3 b34)
    have HB4 := Lib.hid (bnext (bnext HB2.out b3) b34)
    have HW4 := Lib.hid hw4
    have hs3 := b3.size
    clear hw4 b3 b34 hR3 HX2 HR2 HB2 HW2 RD
    obtain ⟨x0, x1, x2, x3, x4, x5⟩ := InoAt.cells HX4.out
    obtain ⟨y0, y1, y2, y3, y4, y5⟩ := InoAt.cells HY4.out
    dsimp only at *
    go_upto_region 3 with fail
    rw [HW4.out]
    go_wp2_with fail
    refine (S.out _ _ _ (entsAt_in HR4.out) (entsAt_in HQ4.out)).mono ?_; rintro e w5 ⟨rfl, b5⟩
    have HX5 := HX4.out.kept1 b5
    have HR5 := row_kept HR4.out b5
    have HY5 := HY4.out.kept1 b5
    have HQ5 := row_kept HQ4.out b5
    have HB5 := bnext HB4.out b5
    have hsz : w1.heap.size < w3.heap.size := by omega
    have hsz2 : w1.heap.size < w2.heap.size := by omega
    clear x0 x1 x2 x3 x4 x5 y0 y1 y2 y3 y4 y5 HX4 HR4 HY4 HQ4 HB4 HW4 b5 hz2 hs3
    go_wp2
    go_loopw [7] (fun q wr => ∃ (k : Nat) (xs : List Value), q = .int .i64 k ∧ k ≤ yr.length ∧ wr.ownsRow w.heap.size 26 3 (.slice ad1 yr.length cap1) yr.length xs ∧ InoAt w1.heap.size ⟨yk, yp, yl, ys, yd, yr⟩ (.slice ad1 yr.length cap1) wr ∧
        InoAt w3.heap.size ⟨yk, yp, yl, ys, yd, yr⟩ (.slice ad3 yr.length cap3) wr ∧ EntsAt w2.heap.size (.slice ad3 yr.length cap3) yr wr ∧ Below w.heap.size w wr) (fun q _ => yr.length - (intOf q).toNat)
    case atStart => exact ⟨0, _, rfl, Nat.zero_le _, HR5, HX5, HY5, HQ5, HB5⟩
    case round =>
      clear HR5 HX5 HY5 HQ5 HB5
      obtain ⟨k, xs, rfl, hk, hR, hX, hY, hQ, hb⟩ := hrel
      have x5 := hX.cell 5
      by_cases hlt : k < yr.length
      · obtain ⟨g, rfl, hgB, hg1⟩ := p3 (by omega)
        have hxl := hR.1
        have e1 : wr.cell? ⟨g, k * 3, none⟩ = some (xs[k * 3]'(by omega)) := (hR.cellAt _ (by omega)).trans (List.getElem?_eq_getElem _)
        have e2 : wr.cell? ⟨g, k * 3 + 1, none⟩ = some (xs[k * 3 + 1]'(by omega)) := (hR.cellAt _ (by omega)).trans (List.getElem?_eq_getElem _)
        have e3 : wr.cell? ⟨g, k * 3 + 2, none⟩ = some (xs[k * 3 + 2]'(by omega)) := (hR.cellAt _ (by omega)).trans (List.getElem?_eq_getElem _)
        have f1 := hR.frozenAt (k * 3)
        have f2 := hR.frozenAt (k * 3 + 1)
        have f3 := hR.frozenAt (k * 3 + 2)
        have s1 := (hR.stored (k * 3) (.int .i64 0)).1
        have s2 := (s1.stored (k * 3 + 1) (.int .i64 0)).1
        have s3 := (s2.stored (k * 3 + 2) (.int .i64 (-9))).1
        have tX := ((hX.other (p := ⟨g, k * 3, none⟩) (by show g ≠ _; omega) (.int .i64 0)).other (p := ⟨g, k * 3 + 1, none⟩) (by show g ≠ _; omega) (.int .i64 0)).other (p := ⟨g, k * 3 + 2, none⟩) (by show g ≠ _; omega) (.int .i64 (-9))
        have tY := ((hY.other (p := ⟨g, k * 3, none⟩) (by show g ≠ _; omega) (.int .i64 0)).other (p := ⟨g, k * 3 + 1, none⟩) (by show g ≠ _; omega) (.int .i64 0)).other (p := ⟨g, k * 3 + 2, none⟩) (by show g ≠ _; omega) (.int .i64 (-9))
        have tQ := ownsRow_setCell_below (ownsRow_setCell_below (ownsRow_setCell_below hQ (a := ⟨g, k * 3, none⟩) (by show g < _; omega) (.int .i64 0)) (a := ⟨g, k * 3 + 1, none⟩) (by show g < _; omega) (.int .i64 0)) (a := ⟨g, k * 3 + 2, none⟩) (by show g < _; omega) (.int .i64 (-9))
        have tB := ((hb.setCell (p := ⟨g, k * 3, none⟩) hgB (.int .i64 0)).setCell (p := ⟨g, k * 3 + 1, none⟩) hgB (.int .i64 0)).setCell (p := ⟨g, k * 3 + 2, none⟩) hgB (.int .i64 (-9))
        have HF := Lib.hid (And.intro s3 (And.intro tX (And.intro tY (And.intro tQ tB))))
        generalize xs[k * 3]'(by omega) = z1 at *
        generalize xs[k * 3 + 1]'(by omega) = z2 at *
        generalize xs[k * 3 + 2]'(by omega) = z3 at *
        clear hR hX hY hQ hb s1 s2 s3 tX tY tQ tB p3 hxl
        go_wp2
        exact ⟨⟨k + 1, _, by go_num, by omega, HF.out.1, HF.out.2.1, HF.out.2.2.1, HF.out.2.2.2.1, HF.out.2.2.2.2⟩, by simp [intOf]; omega⟩
      · obtain rfl : k = yr.length := by omega
        have HY := Lib.hid hY
        have HQ := Lib.hid hQ
        have HB := Lib.hid hb
        clear hR hX hY hQ hb p3
        go_wp2_with fail
        refine (D.out _).mono ?_; rintro e w6 ⟨v6, rfl, hR6, b6⟩
        obtain ⟨ad6, cap6, rfl, -⟩ := shape_of hR6
        obtain ⟨w7, hw7⟩ : ∃ w7, w6.alloc (.cells #[.int .i64 yk, .bool yp, .int .i64 yl, .int .i64 ys, .int .i64 yd, .slice ad6 yr.length cap6] 24) = w7 := ⟨_, rfl⟩
        have b67 : Below w6.heap.size w6 w7 := by rw [← hw7]; exact balloc1 _ _
        have HX7 := Lib.hid (show InoAt w6.heap.size ⟨yk, yp, yl, ys, yd, yr⟩ (.slice ad6 yr.length cap6) w7 by rw [← hw7]; exact Blk.new _ _ w6)
        have HR7 := Lib.hid ((entsAt_in hR6).kept b67)
        have HY7 := Lib.hid ((HY.out.kept1 b6).kept1 b67)
        have HQ7 := Lib.hid (((entsAt_in HQ.out).kept b6).kept b67)
        have HB7 := Lib.hid (bnext (bnext HB.out b6) b67)
        have HW7 := Lib.hid hw7
        clear x5 hw7 b6 b67 hR6 HY HQ HB D
        obtain ⟨x0, x1, x2, x3, x4, x5⟩ := InoAt.cells HX7.out
        obtain ⟨y0, y1, y2, y3, y4, y5⟩ := InoAt.cells HY7.out
        dsimp only at *
        go_upto_region 10 with fail
        rw [HW7.out]
        go_wp2_with fail
        refine (S.out _ _ _ HR7.out HQ7.out).mono ?_; rintro e w8 ⟨rfl, b8⟩
        have HB8 := bnext HB7.out b8
        clear x0 x1 x2 x3 x4 x5 y0 y1 y2 y3 y4 y5 HX7 HR7 HY7 HQ7 HB7 HW7 b8
        go_wp2_with fail
        refine (AL.out _).mono ?_; rintro e w9 ⟨rfl, b9⟩
        have HB9 := bnext HB8 b9
        go_wp2
        go_ret
        exact ⟨rfl, HB9⟩
end Go.Proofs.Ytfepjjjoikcljaa
