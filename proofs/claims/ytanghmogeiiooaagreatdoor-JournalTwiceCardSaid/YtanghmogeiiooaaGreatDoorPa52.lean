import Derived.Test.YtanghmogeiiooaaGreatDoorPa49
set_option linter.unusedVariables false
set_option linter.unusedSimpArgs false
set_option linter.constructorNameAsVariable false
/- The walk of JournalTwice. -/
namespace Go.Proofs.YtanghmogeiiooaaGreatDoor
set_option linter.unusedVariables false
set_option linter.unusedSimpArgs false
open Go.RowKit

set_option maxRecDepth 100000 in
set_option maxHeartbeats 8000000 in
theorem twice_walk (x y z : Nat) (hx : x < 256) (hy : y < 256) (hz : z < 256) (n : Nat) (X : Nat → StepX) (vl : Value) (nf : Nat) (FA : Nat → Nat) (FK : Nat → List Bool) (vo : Value) (w : World) (h : StepsIn vl n X w) (ho : FailsIn vo nf FA FK w) (ht : Tab w) :
    Calls Tryz.prog 5 #[.agg #[.int .u8 (x : Int), .int .u8 (y : Int), .int .u8 (z : Int)], vl, vo] w fun e w' => e = .returned (.bool true) ∧ Below w.heap.size w w' := by
  have mixed : Tryz.prog.follows .mixedOrders = true := by kernel_rfl
  obtain ⟨sb, hsb⟩ : ∃ sb, w.heap.size = sb := ⟨_, rfl⟩
  obtain ⟨w1, hw1⟩ : ∃ w1, w.alloc (.cells #[.int .u8 (x : Int), .int .u8 (y : Int), .int .u8 (z : Int)] 22) = w1 := ⟨_, rfl⟩
  have b1 : Below w.heap.size w w1 := by rw [← hw1]; exact balloc1 _ _
  have HZ : Hid (Blk sb #[.int .u8 (x : Int), .int .u8 (y : Int), .int .u8 (z : Int)] 22 w1) := Lib.hid (by rw [← hw1, ← hsb]; exact Blk.new _ _ _)
  have HB := Lib.hid b1
  have HX := Lib.hid (h.kept HB.out)
  have MY := Lib.hid fun w h => many_any vl n X w h
  obtain ⟨ad, cap, rfl, n1, n2, h3⟩ := h
  have H3 := Lib.hid h3
  obtain ⟨fa, fc, rfl, f1, f2, h4⟩ := ho
  have H4 := Lib.hid h4
  have HT := Lib.hid ht
  have HSB := Lib.hid hsb
  have HW1 := Lib.hid hw1
  obtain ⟨b, l, i, m, t, da, L⟩ := lay_mk x y z
  have hok := L.ok
  have hf := L.fit
  have HDA := Lib.hid L.ed
  have hl := hf.hl
  have htop := hf.htop
  have hb4 := hf.hb
  have BG := Lib.hid fun w ht => begun_any x y z hx hy hz L w ht
  have HOK := Lib.hid hok
  have HF := Lib.hid hf
  clear h3 h4 ht hsb hw1 b1 L hok hf
  go_enter Tryz.func5, Tryz.ntmps5
  go_upto_region 1 with fail
  rw [HW1.out]
  try rw [HSB.out]
  go_wp2_with fail
  refine (MY.out _ HX.out).mono ?_; rintro e w3 ⟨bm, rfl, hfew, b3⟩
  have HB3 := Lib.hid (bnext HB.out b3)
  have HZ3 := Lib.hid (HZ.out.kept1 b3)
  clear b3 HB HZ MY HX HW1
  cases bm with
  | true =>
    go_wp2
    go_ret
    exact ⟨rfl, HB3.out⟩
  | false =>
    by_cases h8 : 8 < nf
    · have d8 : decide ((8 : Int) < (nf : Int)) = true := decide_eq_true (by omega)
      go_wp2
      go_ret
      exact ⟨rfl, HB3.out⟩
    have d8 : decide ((8 : Int) < (nf : Int)) = false := decide_eq_false (by omega)
    have HFEW := Lib.hid (hfew rfl)
    have q0 := HZ3.out.cell 0
    have q1 := HZ3.out.cell 1
    have q2 := HZ3.out.cell 2
    simp only [List.getElem?_toArray, List.getElem?_cons_zero, List.getElem?_cons_succ] at q0 q1 q2
    clear hfew h8
    go_wp2_with fail
    refine (BG.out _ (tabOf HT.out HB3.out)).mono ?_; rintro e w4 ⟨wd, d, lo, hi, g, rfl, hg, b4⟩
    have HB4 := Lib.hid (bnext HB3.out b4)
    have HM4 : Hid (LwMem w.heap.size wd d lo hi g b l i m t da (beganS b l) 0 1 0 [] (fun _ => 0) (fun _ => 0) w4) := Lib.hid
      ⟨hg.wld, hg.dev, by rw [show (0 + 0) % (l - 1) = 0 from Nat.zero_mod _]; exact hg.log, began_wd HF.out, zero_lt, zero_lt, by have := hg.bot; have := HB3.out.size; omega, hg.o1, hg.o2⟩
    clear b4 BG hg HZ3 q0 q1 q2 HB3 HSB
    go_wp2
    go_loopw [9] (fun qi wr => ∃ (k : Nat) (S : St) (p' q' used : Nat) (ts : List Tx) (home want : Nat → Nat), qi = .int .i64 (k : Int) ∧ k ≤ n ∧ S.acts ≤ 1000 + 80 * k ∧ S.left < 0 ∧ q' + ts.length ≤ 1 + k ∧ Hid (LwMem w.heap.size wd d lo hi g b l i m t da S p' q' used ts home want wr) ∧ Hid (Below w.heap.size w wr)) (fun qi _ => n - (intOf qi).toNat)
    case atStart => exact ⟨0, _, 0, 1, 0, [], _, _, rfl, Nat.zero_le _, by rw [began_acts]; omega, by rw [began_left]; omega, Nat.le_refl _, HM4, HB4⟩
    case round =>
      clear HM4 HB4
      obtain ⟨k, S, p', q', used, ts, home, want, rfl, hk, hac, hleft, hqt, HM, HB⟩ := hrel
      by_cases hlt : k < n
      · have hn30 := HFEW.out.1
        obtain ⟨gx, o, rfl, hgx, VC, VR, hX⟩ := H3.out (by omega)
        obtain ⟨hin, hc⟩ := hX k hlt
        have olh := HM.out.dev.lohi
        have ho1 := HM.out.o1
        have ho2 := HM.out.o2
        have hbot := HM.out.bot
        have hbz : ∀ w', LawZ lo hi g wd wr w' → Below w.heap.size w w' := fun w' z => HB.out.trans (z.below HB.out.size (by omega) (by omega) (by omega))
        have ST := Lib.hid (stepw_any HOK.out HF.out HDA.out (by omega) (by omega) (X k) (VC k) (VR k) wr HM.out (fun w' z => hin.kept (hbz w' z)) (fun w' z => tabOf HT.out (hbz w' z)))
        have HBZ := Lib.hid hbz
        have hgs := Blk.lt HM.out.log
        clear hX H3 hin hbz
        generalize X k = x at *
        generalize VC k = vc at *
        generalize VR k = vr at *
        obtain ⟨xk, xc, xr, xf, xd⟩ := x
        dsimp only [stepV] at *
        have c0 : wr.cell? ⟨gx, o + k * 5, none⟩ = some (.int .u8 (xk : Int)) := (HB.out.cell (p := ⟨gx, o + (k * 5 + 0), none⟩) hgx).trans (hc 0 _ rfl)
        have c1 : wr.cell? ⟨gx, o + k * 5 + 1, none⟩ = some vc := (HB.out.cell (p := ⟨gx, o + (k * 5 + 1), none⟩) hgx).trans (hc 1 _ rfl)
        have c2 : wr.cell? ⟨gx, o + k * 5 + 2, none⟩ = some vr := (HB.out.cell (p := ⟨gx, o + (k * 5 + 2), none⟩) hgx).trans (hc 2 _ rfl)
        have c3 : wr.cell? ⟨gx, o + k * 5 + 3, none⟩ = some (.int .u8 (xf : Int)) := (HB.out.cell (p := ⟨gx, o + (k * 5 + 3), none⟩) hgx).trans (hc 3 _ rfl)
        have c4 : wr.cell? ⟨gx, o + k * 5 + 4, none⟩ = some (.bool xd) := (HB.out.cell (p := ⟨gx, o + (k * 5 + 4), none⟩) hgx).trans (hc 4 _ rfl)
        clear hc
        go_wp2_with fail
        refine ST.out.mono ?_; rintro e w2 ⟨zz, c, r, rfl, hs⟩
        have hb2 := HBZ.out w2 zz
        have hg2 : g < w2.heap.size := Nat.lt_of_lt_of_le hgs zz.size
        have NEW := Blk.new (arr12 fun _ => 0) 36 w2
        have bn := balloc1 w2 (.cells (arr12 fun _ => 0) 36)
        have HBW := Lib.hid hb2
        have HAC := Lib.hid hac
        have HQT := Lib.hid hqt
        have HLF := Lib.hid hleft
        clear c0 c1 c2 c3 c4 ST HBZ HM HB zz hb2 hac hqt hleft
        rcases hs with ⟨rfl, S1, p1', q1', u1, ts1, home1, a1, a2, a3, a4⟩ | ⟨rfl, a0, -⟩
        · have HM2 := Lib.hid a4
          clear a4
          go_wp2_with (first | (refine wpList_store_nextZ rfl _ _ rfl r rfl rfl _ rfl NEW ?_; intro w3 k3 z3; have HM3 := Lib.hid ((HM2.out.kept1 bn).keptZ z3 (by omega)); have HB3 := Lib.hid ((bnext HBW.out bn).trans (z3.below (B := w.heap.size) (by rw [size_alloc]; have := HBW.out.size; omega) (by have := HBW.out.size; omega)))))
          exact ⟨⟨k + 1, S1, p1', q1', u1, ts1, home1, r, by go_num, by omega, by have := HAC.out; omega, a2 HLF.out, by have := HQT.out; omega, HM3, HB3⟩, by simp [intOf]; omega⟩
        · exact absurd HLF.out a0
      · obtain rfl : k = n := by omega
        clear H3
        have hn30 := HFEW.out.1
        have HTL0 := Lib.hid (tells_to (M := 40) (by omega) (HM.out.pure.fails HF.out (left_kept HM.out.dev.ok)))
        have HN0 := Lib.hid HM.out.pure.n
        have HWW := Lib.hid HM.out.bw
        have hbot := HM.out.bot
        have ho1 := HM.out.o1
        have olh := HM.out.dev.lohi
        have KE := Lib.hid (kept_any wr HM.out.dev)
        have HDV := Lib.hid HM.out.dev
        have HWL := Lib.hid HM.out.wld
        have r9 := Blk.cell HWL.out 9
        simp only [List.getElem?_toArray, List.getElem?_cons_zero, List.getElem?_cons_succ] at r9
        clear HM
        go_wp2_with fail
        refine KE.out.mono ?_; rintro e w1 ⟨rfl, b1⟩
        have HWL := Lib.hid (WldAt.kept1 HWL.out b1)
        have HB := Lib.hid (bnext HB.out b1)
        have hlb := Blk.lt HWL.out
        clear b1 r9 KE
        go_wp2_with fail
        refine (open_kept2 _ HDV.out _).mono ?_; rintro e w2 ⟨d2, rfl, hd2, b2⟩
        obtain ⟨lo2, hlo2⟩ : ∃ q9, w1.heap.size = q9 := ⟨_, rfl⟩
        obtain ⟨hi2, hhi2⟩ : ∃ q9, w2.heap.size = q9 := ⟨_, rfl⟩
        have HWL := Lib.hid (WldAt.kept1 HWL.out b2)
        have hlz := HB.out.size
        have HB := Lib.hid (bnext HB.out b2)
        rw [hlo2, hhi2] at hd2
        have HD := Lib.hid hd2
        obtain ⟨S2, hS2⟩ : ∃ S2, freshSt S.n (blkOf 128 (cat S.was S.n)) = S2 := ⟨_, rfl⟩
        have hs2n : S2.n = b := by rw [← hS2]; exact HN0.out
        have hs2c : Clean S2 := by rw [← hS2]; exact fresh_clean _ _
        have hs2l : S2.left < 0 := by rw [← hS2]; show (-1 : Int) < 0; omega
        have hs2a : S2.acts ≤ 10000 := by rw [← hS2]; show (0 : Nat) ≤ _; omega
        have hs2p : ∀ x, S2.pend x = false := by rw [← hS2]; exact fun _ => rfl
        rw [hS2] at HD HTL0
        have hlw : wd < lo2 ∧ w.heap.size ≤ lo2 := by rw [← hlo2]; omega
        clear b2 hd2 hlo2 hhi2 hS2 HDV HN0 hlz hlb
        go_wp2
        go_loopw [12, 14] (fun qd qj wr => ∃ (j d2 lo2 hi2 : Nat) (S2 : St), qd = .pointer (some ⟨d2, 0, none⟩) ∧ qj = .int .i64 (j : Int) ∧ j ≤ nf ∧ (S2.n = b ∧ Clean S2 ∧ S2.left < 0 ∧ S2.acts ≤ 10000 ∧ ∀ x, S2.pend x = false) ∧ (wd < lo2 ∧ w.heap.size ≤ lo2) ∧ Hid (Tells S2 l b da 40 want) ∧ Hid (DevAt d2 lo2 hi2 S2 wr) ∧ Hid (WldAt wd b l i m t d g home want wr) ∧ Hid (Below w.heap.size w wr)) (fun _ qj _ => nf - (intOf qj).toNat)
        case atStart => exact ⟨0, d2, lo2, hi2, S2, rfl, rfl, Nat.zero_le _, ⟨hs2n, hs2c, hs2l, hs2a, hs2p⟩, hlw, HTL0, HD, HWL, HB⟩
        case round =>
          clear HD HWL HB HTL0 hs2n hs2c hs2l hs2a hs2p hlw
          obtain ⟨j, d2, lo2, hi2, S2, rfl, rfl, hj, ⟨hs2n, hs2c, hs2l, hs2a, hs2p⟩, hlw, HTL, HD, HWL, HB⟩ := hrel
          by_cases hlt : j < nf
          · obtain ⟨gf, of, rfl, hgf, KV, hcc⟩ := H4.out (by omega)
            obtain ⟨c0, c1, ha, hkv⟩ := hcc j hlt
            obtain ⟨ka, kc, hKV, k1, k2, -⟩ := hkv.shape
            rw [hKV] at c1 hkv
            have HKV := Lib.hid hkv
            have HC1 := Lib.hid c1
            have HC0 := Lib.hid c0
            clear hkv hcc hKV H4 c0 c1
            generalize FK j = KB at *
            generalize FA j = a0 at *
            have c1 : wr.cell? ⟨gf, of + j * 2 + 1, none⟩ = some (.slice ka KB.length kc) := (HB.out.cell (p := ⟨gf, of + j * 2 + 1, none⟩) hgf).trans HC1.out
            by_cases hK : 1000 < KB.length
            · have dK : decide ((1000 : Int) < (KB.length : Int)) = true := decide_eq_true (by omega)
              go_wp2
              go_ret
              exact ⟨rfl, HB.out⟩
            have dK : decide ((1000 : Int) < (KB.length : Int)) = false := decide_eq_false (by omega)
            obtain ⟨ar, har⟩ : ∃ ar : Nat, a0 % 30 = ar := ⟨_, rfl⟩
            have har60 : ar < 30 := by omega
            have hra : (a0 : Int) % 30 = (ar : Int) := by omega
            have hwa : IntKind.i64.wrap (ar : Int) = (ar : Int) := IntWalk.i64_in _ (by omega)
            have c0 : wr.cell? ⟨gf, of + j * 2, none⟩ = some (.int .u16 (a0 : Int)) := (HB.out.cell (p := ⟨gf, of + j * 2, none⟩) hgf).trans HC0.out
            have AR := Lib.hid (arm_any (ar : Int) ⟨by omega, by omega⟩ wr HD.out)
            clear har
            go_wp2_with fail
            refine AR.out.mono ?_; rintro e w6 ⟨rfl, hd6, z6⟩
            have HWL := Lib.hid (show WldAt wd b l i m t d g home want w6 from Blk.kept HWL.out z6 (.inl hlw.1))
            have HB := Lib.hid (HB.out.trans (z6.below (B := w.heap.size) HB.out.size hlw.2))
            have HD := Lib.hid hd6
            have RF := Lib.hid fun w hd ht => replay_fails HOK.out HF.out (d := d2) (lo := lo2) (hi := hi2) (S := S2.armed (ar : Int)) hs2n hs2c (by show S2.acts ≤ _; omega) (by omega) (HTL.out.armed hl _) w hd ht
            have HAC : Hid ((S2.armed (ar : Int)).acts ≤ 10000) := Lib.hid hs2a
            clear AR hd6 z6 hwa hra c0 c1 hs2n hs2c hs2l hs2a hs2p HTL
            obtain ⟨k0, k1, k2, k3, k4, k5, k6, k7, k8, k9, k10⟩ := wldG_cells HWL.out
            go_wp2_with fail
            refine (RF.out _ HD.out (tabOf HT.out HB.out)).mono ?_; rintro e w7 ⟨xa, xn, xc, c, S3, rfl, hd7, z7, hcode, hn3, ha3, htl3⟩
            have HWL := Lib.hid (show WldAt wd b l i m t d g home want w7 from Blk.kept HWL.out z7 (.inl hlw.1))
            have HB := Lib.hid (HB.out.trans (z7.below (B := w.heap.size) HB.out.size hlw.2))
            have HD := Lib.hid hd7
            have HT3 := Lib.hid htl3
            have HN3 := Lib.hid hn3
            clear hd7 z7 htl3 hn3 ha3 RF HAC k0 k1 k2 k3 k4 k5 k6 k7 k8 k9 k10
            have c1 : w7.cell? ⟨gf, of + j * 2 + 1, none⟩ = some (.slice ka KB.length kc) := (HB.out.cell (p := ⟨gf, of + j * 2 + 1, none⟩) hgf).trans HC1.out
            have HKx := Lib.hid (HKV.out.kept HB.out)
            rcases hcode with rfl | ⟨rfl, rfl⟩
            · go_wp2_with fail
              refine (crash_any KB (.slice ka KB.length kc) _ HD.out HKx.out).mono ?_; rintro e w8 ⟨rfl, b8⟩
              have HWL := Lib.hid (WldAt.kept1 HWL.out b8)
              have HB := Lib.hid (bnext HB.out b8)
              have hlb := Blk.lt HWL.out
              clear b8 c1 HKx
              go_wp2_with fail
              refine (open_crash KB _ HD.out _).mono ?_; rintro e w9 ⟨d3, rfl, hd9, b9⟩
              have hlz := HB.out.size
              have HWL := Lib.hid (WldAt.kept1 HWL.out b9)
              have HB := Lib.hid (bnext HB.out b9)
              have HTN := Lib.hid (HT3.out _ (left_crash HD.out.ok KB))
              have HDN := Lib.hid hd9
              clear b9 hd9 HD HT3
              go_wp2
              exact ⟨⟨j + 1, d3, w8.heap.size, w9.heap.size, freshSt S3.n (blkOf 128 (crashT S3 KB)), rfl, by go_num, by omega, ⟨HN3.out, fresh_clean _ _, (by show (-1 : Int) < 0; omega), (by show (0 : Nat) ≤ _; omega), fun _ => rfl⟩, ⟨by omega, by omega⟩, HTN, HDN, HWL, HB⟩, by simp [intOf]; omega⟩
            · go_wp2_with fail
              refine (crash_any KB (.slice ka KB.length kc) _ HD.out HKx.out).mono ?_; rintro e w8 ⟨rfl, b8⟩
              have HWL := Lib.hid (WldAt.kept1 HWL.out b8)
              have HB := Lib.hid (bnext HB.out b8)
              have hlb := Blk.lt HWL.out
              clear b8 c1 HKx
              go_wp2_with fail
              refine (open_crash KB _ HD.out _).mono ?_; rintro e w9 ⟨d3, rfl, hd9, b9⟩
              have hlz := HB.out.size
              have HWL := Lib.hid (WldAt.kept1 HWL.out b9)
              have HB := Lib.hid (bnext HB.out b9)
              have HTN := Lib.hid (HT3.out _ (left_crash HD.out.ok KB))
              have HDN := Lib.hid hd9
              clear b9 hd9 HD HT3
              go_wp2
              exact ⟨⟨j + 1, d3, w8.heap.size, w9.heap.size, freshSt S3.n (blkOf 128 (crashT S3 KB)), rfl, by go_num, by omega, ⟨HN3.out, fresh_clean _ _, (by show (-1 : Int) < 0; omega), (by show (0 : Nat) ≤ _; omega), fun _ => rfl⟩, ⟨by omega, by omega⟩, HTN, HDN, HWL, HB⟩, by simp [intOf]; omega⟩
          · obtain rfl : j = nf := by omega
            have RP := Lib.hid fun w hd ht => replay_tells HOK.out HF.out (d := d2) (lo := lo2) (hi := hi2) (S := S2) hs2n hs2c hs2l (by omega) hs2p (by omega) HTL.out w hd ht
            clear HTL hs2n hs2c hs2l hs2a hs2p H4
            obtain ⟨k0, k1, k2, k3, k4, k5, k6, k7, k8, k9, k10⟩ := wldG_cells HWL.out
            go_wp2_with fail
            refine (RP.out _ HD.out (tabOf HT.out HB.out)).mono ?_; rintro e w8 ⟨ax, nx, cx, S1, p1, q1, rfl, hd8, z8, hl8, ha8, hq8, hp8, hw8⟩
            have HWL := Lib.hid (show WldAt wd b l i m t d g home want w8 from Blk.kept HWL.out z8 (.inl hlw.1))
            have HB := Lib.hid (HB.out.trans (z8.below (B := w.heap.size) HB.out.size hlw.2))
            have H2 := Lib.hid (show Calls Tryz.prog 14 #[.pointer (some ⟨wd, 0, none⟩), .pointer (some ⟨d2, 0, none⟩), .agg (arr12 want)] w8 (fun e w' => e = .returned (.bool true) ∧ Below w8.heap.size w8 w') from by have := has_any (S := S1) want HWW.out HDA.out (by omega) hb4 hw8.n w8 HWL.out hd8; rw [hasB_yes hw8.homes.text] at this; exact this)
            have AL := Lib.hid fun W ht => alive_any W ht
            clear hd8 z8 hl8 ha8 hq8 hp8 hw8 RP k0 k1 k2 k3 k4 k5 k6 k7 k8 k9 k10
            have v0 : w8.cell? ⟨wd, 23, none⟩ = some (.int .u8 (want 0 : Int)) := Blk.cell HWL.out 23
            have v1 : w8.cell? ⟨wd, 24, none⟩ = some (.int .u8 (want 1 : Int)) := Blk.cell HWL.out 24
            have v2 : w8.cell? ⟨wd, 25, none⟩ = some (.int .u8 (want 2 : Int)) := Blk.cell HWL.out 25
            have v3 : w8.cell? ⟨wd, 26, none⟩ = some (.int .u8 (want 3 : Int)) := Blk.cell HWL.out 26
            have v4 : w8.cell? ⟨wd, 27, none⟩ = some (.int .u8 (want 4 : Int)) := Blk.cell HWL.out 27
            have v5 : w8.cell? ⟨wd, 28, none⟩ = some (.int .u8 (want 5 : Int)) := Blk.cell HWL.out 28
            have v6 : w8.cell? ⟨wd, 29, none⟩ = some (.int .u8 (want 6 : Int)) := Blk.cell HWL.out 29
            have v7 : w8.cell? ⟨wd, 30, none⟩ = some (.int .u8 (want 7 : Int)) := Blk.cell HWL.out 30
            have v8 : w8.cell? ⟨wd, 31, none⟩ = some (.int .u8 (want 8 : Int)) := Blk.cell HWL.out 31
            have v9 : w8.cell? ⟨wd, 32, none⟩ = some (.int .u8 (want 9 : Int)) := Blk.cell HWL.out 32
            have v10 : w8.cell? ⟨wd, 33, none⟩ = some (.int .u8 (want 10 : Int)) := Blk.cell HWL.out 33
            have v11 : w8.cell? ⟨wd, 34, none⟩ = some (.int .u8 (want 11 : Int)) := Blk.cell HWL.out 34
            go_wp2_with fail
            refine H2.out.mono ?_; rintro e w9 ⟨rfl, b9⟩
            have HB := Lib.hid (bnext HB.out b9)
            clear b9 H2 v0 v1 v2 v3 v4 v5 v6 v7 v8 v9 v10 v11
            go_wp2_with fail
            refine (AL.out _ (tabOf HT.out HB.out)).mono ?_; rintro e w10 ⟨rfl, b10⟩
            have HB := Lib.hid (bnext HB.out b10)
            go_wp2
            go_ret
            exact ⟨rfl, HB.out⟩
end Go.Proofs.YtanghmogeiiooaaGreatDoor
