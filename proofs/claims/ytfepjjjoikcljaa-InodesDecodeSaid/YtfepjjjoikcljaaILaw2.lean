/- The walk of InodesBack. -/
import Derived.Test.YtfepjjjoikcljaaILaw1
namespace Go.Proofs.Ytfepjjjoikcljaa
set_option linter.unusedVariables false
open Go.RowKit

/-- what the program's Decode answers -/
theorem idec_ways (s : ByteArray) (hs : s.size ≤ maxLen) : ∃ (y : Ino) (c : Int), fitE y.root ∧ (∀ w, Calls Try.prog 15 #[.string s] w fun e w' => ∃ v, e = .returned (.tuple #[inoV y v, .int .i64 c]) ∧ EntsAt w.heap.size v y.root w' ∧ Below w.heap.size w w') ∧
    ((IsIno s ∧ y = readI s ∧ c = 0) ∨ (¬ IsIno s ∧ y = noI ∧ c = 80)) := by
  by_cases h : IsIno s
  · exact ⟨readI s, 0, by rw [← readP_is h]; exact readP_fit s, fun w => idec_yes s hs h w, .inl ⟨h, rfl, rfl⟩⟩
  · exact ⟨noI, 80, fun e he => (by cases he), fun w => (idec_no s hs h w).mono fun e w' ⟨he, hb⟩ => ⟨_, he, World.ownsRow_nil _ _ _ _, hb⟩, .inr ⟨h, rfl, rfl⟩⟩
set_option maxRecDepth 100000 in
set_option maxHeartbeats 8000000 in
theorem iback_walk (x : Ino) (hf : fitE x.root) (s : ByteArray) (hs : s.size ≤ maxLen) (v : Value) (w : World) (hv : EntsIn v x.root w) :
    Calls Try.prog 5 #[inoV x v, .string s] w fun e w' => e = .returned (.bool true) ∧ Below w.heap.size w w' := by
  have hb0 := balloc1 w (.cells (inoC x v) 24)
  obtain ⟨ad, cap, rfl, c1, c2, -⟩ := entsIn_cells hv
  by_cases hl : x.root.length ≤ 1000
  · have dl : decide ((1000 : Int) < (x.root.length : Int)) = false := decide_eq_false (by omega)
    have AL := Lib.hid ialive_any
    -- the second half: s
    obtain ⟨y, cy, fy, D, hD⟩ := idec_ways s hs
    obtain ⟨U, cu, EY, hEY⟩ := ienc_ways y fy
    have SN := fun v u w hv hu => isame_any y noI v u w hv hu
    have CY := fun v w hv => icheck_any y fy v w hv
    have HD2 : (cy = 0 ∧ cu = 0 ∧ (U.toList == s.toList) = true ∧ decide (InoOk y) = true) ∨ (cy = 80 ∧ decide (y = noI) = true) := by
      rcases hD with ⟨h1, h2, h3⟩ | ⟨h1, h2, h3⟩
      · rcases hEY with ⟨k1, k2, k3⟩ | ⟨k1, k2, k3⟩
        · exact .inl ⟨h3, k3, by rw [k2, h2, h1.2]; simp, decide_eq_true k1⟩
        · exact absurd (by rw [h2]; exact h1.1) k1
      · exact .inr ⟨h3, decide_eq_true h2⟩
    generalize decide (InoOk y) = oy at *
    generalize decide (y = noI) = ny at *
    -- the first half: x
    obtain ⟨T, c, E, hE⟩ := ienc_ways x hf
    have C := fun v w hv => icheck_any x hf v w hv
    have SX := fun v u w hv hu => isame_any x x v u w hv hu
    rw [decide_eq_true (rfl : x = x)] at SX
    have hv0 := hv.kept hb0
    have hX0 : InoAt w.heap.size x (.slice ad x.root.length cap) (w.alloc (.cells (inoC x (.slice ad x.root.length cap)) 24)) := Blk.new _ _ w
    have DX : InoOk x → ∀ w, Calls Try.prog 15 #[.string (ino x)] w fun e w' => ∃ v, e = .returned (.tuple #[inoV x v, .int .i64 0]) ∧ EntsAt w.heap.size v x.root w' ∧ Below w.heap.size w w' := fun h w => by
      have := idec_yes (ino x) (by rw [ino_size (ok_short h)]; unfold maxLen; omega) (isIno_of h) w
      rw [read_ino h] at this; exact this
    have hzx : InoOk x → (ino x).size = 64 := fun h => ino_size (ok_short h)
    have HALF2 : ∀ (a : Ending → World → Prop) , True := fun _ => trivial
    obtain ⟨kd, pn, lk, sz, dp, rt⟩ := x
    obtain ⟨yk, yp, yl, ys, yd, yr⟩ := y
    dsimp only at *
    have E := Lib.hid E
    have D := Lib.hid D
    have EY := Lib.hid EY
    have SN := Lib.hid SN
    have CY := Lib.hid CY
    have HD2 := Lib.hid HD2
    have SX := Lib.hid SX
    clear hD hEY hv HALF2
    rcases hE with ⟨h1, rfl, rfl⟩ | ⟨h1, rfl, rfl⟩
    · have DX := Lib.hid (DX h1)
      have hzx := hzx h1
      rw [decide_eq_true h1] at C
      have C := Lib.hid C
      generalize ino _ = T at *
      have HX0 := Lib.hid hX0
      have HV0 := Lib.hid hv0
      have HB0 := Lib.hid hb0
      clear h1 hX0 hv0 hb0
      obtain ⟨x0, x1, x2, x3, x4, x5⟩ := InoAt.cells HX0.out
      dsimp only at *
      go_enter Try.func5, Try.ntmps5
      go_wp2_with fail
      refine (E.out _ _ HV0.out).mono ?_; rintro e w1 ⟨rfl, b1⟩
      have HX1 := Lib.hid (HX0.out.kept1 b1)
      have HV1 := Lib.hid (HV0.out.kept b1)
      have HB1 := Lib.hid (bnext HB0.out b1)
      clear x0 x1 x2 x3 x4 x5 HX0 HV0 HB0 b1 E
      obtain ⟨x0, x1, x2, x3, x4, x5⟩ := InoAt.cells HX1.out
      dsimp only at *
      go_wp2_with fail
      refine (C.out _ _ HV1.out).mono ?_; rintro e w2 ⟨rfl, b2⟩
      have HX2 := Lib.hid (HX1.out.kept1 b2)
      have HV2 := Lib.hid (HV1.out.kept b2)
      have HB2 := Lib.hid (bnext HB1.out b2)
      clear x0 x1 x2 x3 x4 x5 HX1 HV1 HB1 b2 C
      obtain ⟨x0, x1, x2, x3, x4, x5⟩ := InoAt.cells HX2.out
      dsimp only at *
      go_wp2_with fail
      refine (DX.out _).mono ?_; rintro e w3 ⟨v3, rfl, hR3, b3⟩
      obtain ⟨ad3, cap3, rfl, -⟩ := shape_of hR3
      obtain ⟨w4, hw4⟩ : ∃ w4, w3.alloc (.cells #[.int .i64 kd, .bool pn, .int .i64 lk, .int .i64 sz, .int .i64 dp, .slice ad3 rt.length cap3] 24) = w4 := ⟨_, rfl⟩
      have b34 : Below w3.heap.size w3 w4 := by rw [← hw4]; exact balloc1 _ _
      have HY4 := Lib.hid (show InoAt w3.heap.size ⟨kd, pn, lk, sz, dp, rt⟩ (.slice ad3 rt.length cap3) w4 by rw [← hw4]; exact Blk.new _ _ w3)
      have HI4 := Lib.hid ((entsAt_in hR3).kept b34)
      have HX4 := Lib.hid ((HX2.out.kept1 b3).kept1 b34)
      have HV4 := Lib.hid ((HV2.out.kept b3).kept b34)
      have HB4 := Lib.hid (bnext (bnext HB2.out b3) b34)
      have HW4 := Lib.hid hw4
      clear x0 x1 x2 x3 x4 x5 b3 b34 hR3 hw4 HX2 HV2 HB2 DX
      obtain ⟨x0, x1, x2, x3, x4, x5⟩ := InoAt.cells HX4.out
      obtain ⟨y0, y1, y2, y3, y4, y5⟩ := InoAt.cells HY4.out
      dsimp only at *
      go_upto_region 8 with fail
      rw [HW4.out]
      go_wp2_with fail
      refine (SX.out _ _ _ HV4.out HI4.out).mono ?_; rintro e w5 ⟨rfl, b5⟩
      have HB5 := Lib.hid (bnext HB4.out b5)
      clear x0 x1 x2 x3 x4 x5 y0 y1 y2 y3 y4 y5 HW4 HX4 HV4 HY4 HI4 HB4 b5
      go_wp2_with fail
      refine (D.out _).mono ?_; rintro e w6 ⟨v6, rfl, hR6, b6⟩
      obtain ⟨ad6, cap6, rfl, -⟩ := shape_of hR6
      obtain ⟨w7, hw7⟩ : ∃ w7, w6.alloc (.cells #[.int .i64 yk, .bool yp, .int .i64 yl, .int .i64 ys, .int .i64 yd, .slice ad6 yr.length cap6] 24) = w7 := ⟨_, rfl⟩
      have b67 : Below w6.heap.size w6 w7 := by rw [← hw7]; exact balloc1 _ _
      have HY7 := Lib.hid (show InoAt w6.heap.size ⟨yk, yp, yl, ys, yd, yr⟩ (.slice ad6 yr.length cap6) w7 by rw [← hw7]; exact Blk.new _ _ w6)
      have HI7 := Lib.hid ((entsAt_in hR6).kept b67)
      have HB7 := Lib.hid (bnext (bnext HB5.out b6) b67)
      have HW7 := Lib.hid hw7
      clear b6 b67 hR6 hw7 HB5 D
      rcases HD2.out with ⟨rfl, rfl, hd, rfl⟩ | ⟨rfl, rfl⟩
      · obtain ⟨y0, y1, y2, y3, y4, y5⟩ := InoAt.cells HY7.out
        dsimp only at *
        go_upto_region 13 with fail
        rw [HW7.out]
        go_wp2_with fail
        refine (EY.out _ _ HI7.out).mono ?_; rintro e w8 ⟨rfl, b8⟩
        have HY8 := Lib.hid (HY7.out.kept1 b8)
        have HI8 := Lib.hid (HI7.out.kept b8)
        have HB8 := Lib.hid (bnext HB7.out b8)
        clear y0 y1 y2 y3 y4 y5 HY7 HI7 HB7 b8 HW7 EY
        obtain ⟨y0, y1, y2, y3, y4, y5⟩ := InoAt.cells HY8.out
        dsimp only at *
        go_wp2_with fail
        refine (CY.out _ _ HI8.out).mono ?_; rintro e w9 ⟨rfl, b9⟩
        have HB9 := bnext HB8.out b9
        clear y0 y1 y2 y3 y4 y5 HY8 HI8 HB8 b9 CY
        go_wp2_with fail
        refine (AL.out _).mono ?_; rintro e w10 ⟨rfl, b10⟩
        have HB10 := bnext HB9 b10
        go_wp2
        go_ret
        exact ⟨rfl, HB10⟩
      · obtain ⟨y0, y1, y2, y3, y4, y5⟩ := InoAt.cells HY7.out
        dsimp only at *
        go_upto_region 12 with fail
        rw [HW7.out]
        go_wp2_with fail
        refine (SN.out _ _ _ HI7.out (ents_nil _)).mono ?_; rintro e w9 ⟨rfl, b9⟩
        have HB9 := bnext HB7.out b9
        clear y0 y1 y2 y3 y4 y5 HY7 HI7 HB7 b9 SN HW7
        go_wp2_with fail
        refine (AL.out _).mono ?_; rintro e w10 ⟨rfl, b10⟩
        have HB10 := bnext HB9 b10
        go_wp2
        go_ret
        exact ⟨rfl, HB10⟩
    · rw [decide_eq_false h1] at C
      have C := Lib.hid C
      have HX0 := Lib.hid hX0
      have HV0 := Lib.hid hv0
      have HB0 := Lib.hid hb0
      clear h1 hX0 hv0 hb0 DX hzx
      obtain ⟨x0, x1, x2, x3, x4, x5⟩ := InoAt.cells HX0.out
      dsimp only at *
      go_enter Try.func5, Try.ntmps5
      go_wp2_with fail
      refine (E.out _ _ HV0.out).mono ?_; rintro e w1 ⟨rfl, b1⟩
      have HX1 := Lib.hid (HX0.out.kept1 b1)
      have HV1 := Lib.hid (HV0.out.kept b1)
      have HB1 := Lib.hid (bnext HB0.out b1)
      clear x0 x1 x2 x3 x4 x5 HX0 HV0 HB0 b1 E
      obtain ⟨x0, x1, x2, x3, x4, x5⟩ := InoAt.cells HX1.out
      dsimp only at *
      go_wp2_with fail
      refine (C.out _ _ HV1.out).mono ?_; rintro e w5 ⟨rfl, b2⟩
      have HB5 := Lib.hid (bnext HB1.out b2)
      clear x0 x1 x2 x3 x4 x5 HX1 HV1 HB1 b2
      go_wp2_with fail
      refine (D.out _).mono ?_; rintro e w6 ⟨v6, rfl, hR6, b6⟩
      obtain ⟨ad6, cap6, rfl, -⟩ := shape_of hR6
      obtain ⟨w7, hw7⟩ : ∃ w7, w6.alloc (.cells #[.int .i64 yk, .bool yp, .int .i64 yl, .int .i64 ys, .int .i64 yd, .slice ad6 yr.length cap6] 24) = w7 := ⟨_, rfl⟩
      have b67 : Below w6.heap.size w6 w7 := by rw [← hw7]; exact balloc1 _ _
      have HY7 := Lib.hid (show InoAt w6.heap.size ⟨yk, yp, yl, ys, yd, yr⟩ (.slice ad6 yr.length cap6) w7 by rw [← hw7]; exact Blk.new _ _ w6)
      have HI7 := Lib.hid ((entsAt_in hR6).kept b67)
      have HB7 := Lib.hid (bnext (bnext HB5.out b6) b67)
      have HW7 := Lib.hid hw7
      clear b6 b67 hR6 hw7 HB5 D
      rcases HD2.out with ⟨rfl, rfl, hd, rfl⟩ | ⟨rfl, rfl⟩
      · obtain ⟨y0, y1, y2, y3, y4, y5⟩ := InoAt.cells HY7.out
        dsimp only at *
        go_upto_region 13 with fail
        rw [HW7.out]
        go_wp2_with fail
        refine (EY.out _ _ HI7.out).mono ?_; rintro e w8 ⟨rfl, b8⟩
        have HY8 := Lib.hid (HY7.out.kept1 b8)
        have HI8 := Lib.hid (HI7.out.kept b8)
        have HB8 := Lib.hid (bnext HB7.out b8)
        clear y0 y1 y2 y3 y4 y5 HY7 HI7 HB7 b8 HW7 EY
        obtain ⟨y0, y1, y2, y3, y4, y5⟩ := InoAt.cells HY8.out
        dsimp only at *
        go_wp2_with fail
        refine (CY.out _ _ HI8.out).mono ?_; rintro e w9 ⟨rfl, b9⟩
        have HB9 := bnext HB8.out b9
        clear y0 y1 y2 y3 y4 y5 HY8 HI8 HB8 b9 CY
        go_wp2_with fail
        refine (AL.out _).mono ?_; rintro e w10 ⟨rfl, b10⟩
        have HB10 := bnext HB9 b10
        go_wp2
        go_ret
        exact ⟨rfl, HB10⟩
      · obtain ⟨y0, y1, y2, y3, y4, y5⟩ := InoAt.cells HY7.out
        dsimp only at *
        go_upto_region 12 with fail
        rw [HW7.out]
        go_wp2_with fail
        refine (SN.out _ _ _ HI7.out (ents_nil _)).mono ?_; rintro e w9 ⟨rfl, b9⟩
        have HB9 := bnext HB7.out b9
        clear y0 y1 y2 y3 y4 y5 HY7 HI7 HB7 b9 SN HW7
        go_wp2_with fail
        refine (AL.out _).mono ?_; rintro e w10 ⟨rfl, b10⟩
        have HB10 := bnext HB9 b10
        go_wp2
        go_ret
        exact ⟨rfl, HB10⟩
  · have dl : decide ((1000 : Int) < (x.root.length : Int)) = true := decide_eq_true (by omega)
    obtain ⟨kd, pn, lk, sz, dp, rt⟩ := x
    dsimp only at *
    clear hl hv hf
    go_enter Try.func5, Try.ntmps5
    go_wp2
    go_ret
    exact ⟨rfl, hb0⟩
end Go.Proofs.Ytfepjjjoikcljaa
