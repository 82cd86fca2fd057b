import Derived.Test.YtanghmogeiiooaaGreatDoorPa49
import Derived.Test.YtanghmogeiiooaaGreatDoorPa50
import Derived.Deep.CutBlock
import Derived.Deep.DeepCutAuto
set_option linter.unusedVariables false
set_option linter.unusedSimpArgs false
set_option linter.constructorNameAsVariable false
/- The walk of JournalTries. -/
namespace Go.Proofs.YtanghmogeiiooaaGreatDoor
set_option linter.unusedVariables false
set_option linter.unusedSimpArgs false
open Go.RowKit

set_option maxRecDepth 100000 in
set_option maxHeartbeats 30000000 in
theorem tries_walk (x y z : Nat) (hx : x < 256) (hy : y < 256) (hz : z < 256) (n : Nat) (X : Nat → StepX) (vl : Value) (nf : Nat) (FA : Nat → Nat) (FK : Nat → List Bool) (vo : Value) (w : World) (h : StepsIn vl n X w) (ho : FailsIn vo nf FA FK w) (ht : Tab w) :
    Calls Tryz.prog 4 #[.agg #[.int .u8 (x : Int), .int .u8 (y : Int), .int .u8 (z : Int)], vl, vo] w fun e w' => e = .returned (.bool true) ∧ Below w.heap.size w w' := by
  have mixed : Tryz.prog.follows .mixedOrders = true := by kernel_rfl
  obtain ⟨sb, hsb⟩ : ∃ sb, w.heap.size = sb := ⟨_, rfl⟩
  obtain ⟨w1, hw1⟩ : ∃ w1, w.alloc (.cells #[.int .u8 (x : Int), .int .u8 (y : Int), .int .u8 (z : Int)] 22) = w1 := ⟨_, rfl⟩
  have b1 : Below w.heap.size w w1 := by rw [← hw1]; exact balloc1 _ _
  have HZ : Hid (Blk sb #[.int .u8 (x : Int), .int .u8 (y : Int), .int .u8 (z : Int)] 22 w1) := Lib.hid (by rw [← hw1, ← hsb]; exact Blk.new _ _ _)
  have HB := Lib.hid b1
  have HX := Lib.hid (h.kept HB.out)
  have MY := Lib.hid fun w h => many_any vl n X w h
  obtain ⟨ad, cap, rfl, n1, n2, h3⟩ := h
  have H3 := Lib.hid h3
  obtain ⟨fa, fc, rfl, f1, f2, h4⟩ := ho
  have H4 := Lib.hid h4
  have HT := Lib.hid ht
  have HSB := Lib.hid hsb
  have HW1 := Lib.hid hw1
  obtain ⟨b, l, i, m, t, da, L⟩ := lay_mk x y z
  have hok := L.ok
  have hf := L.fit
  have HDA := Lib.hid L.ed
  have hl := hf.hl
  have htop := hf.htop
  have hb4 := hf.hb
  have BG := Lib.hid fun w ht => begun_any x y z hx hy hz L w ht
  have HOK := Lib.hid hok
  have HF := Lib.hid hf
  clear h3 h4 ht hsb hw1 b1 L hok hf
  go_enter Tryz.func4, Tryz.ntmps4
  go_upto_region 1 with fail
  rw [HW1.out]
  try rw [HSB.out]
  go_wp2_with fail
  refine (MY.out _ HX.out).mono ?_; rintro e w3 ⟨bm, rfl, hfew, b3⟩
  have HB3 := Lib.hid (bnext HB.out b3)
  have HZ3 := Lib.hid (HZ.out.kept1 b3)
  clear b3 HB HZ MY HX HW1
  cases bm with
  | true =>
    go_wp2
    go_ret
    exact ⟨rfl, HB3.out⟩
  | false =>
    by_cases h8 : 8 < nf
    · have d8 : decide ((8 : Int) < (nf : Int)) = true := decide_eq_true (by omega)
      go_wp2
      go_ret
      exact ⟨rfl, HB3.out⟩
    have d8 : decide ((8 : Int) < (nf : Int)) = false := decide_eq_false (by omega)
    have HFEW := Lib.hid (hfew rfl)
    have q0 := HZ3.out.cell 0
    have q1 := HZ3.out.cell 1
    have q2 := HZ3.out.cell 2
    simp only [List.getElem?_toArray, List.getElem?_cons_zero, List.getElem?_cons_succ] at q0 q1 q2
    clear hfew h8
    go_wp2_with fail
    refine (BG.out _ (tabOf HT.out HB3.out)).mono ?_; rintro e w4 ⟨wd, d, lo, hi, g, rfl, hg, b4⟩
    have HB4 := Lib.hid (bnext HB3.out b4)
    have HM4 : Hid (LwMem w.heap.size wd d lo hi g b l i m t da (beganS b l) 0 1 0 [] (fun _ => 0) (fun _ => 0) w4) := Lib.hid
      ⟨hg.wld, hg.dev, by rw [show (0 + 0) % (l - 1) = 0 from Nat.zero_mod _]; exact hg.log, began_wd HF.out, zero_lt, zero_lt, by have := hg.bot; have := HB3.out.size; omega, hg.o1, hg.o2⟩
    clear b4 BG hg HZ3 q0 q1 q2 HB3 HSB
    go_wp2
    go_loopw [9, 10] (fun qa qi wr => ∃ (j at' d lo hi g : Nat) (S : St) (p' q' used : Nat) (ts : List Tx) (home want : Nat → Nat), qa = .int .i64 (at' : Int) ∧ qi = .int .i64 (j : Int) ∧ j ≤ nf ∧ at' ≤ n ∧ S.acts ≤ 6000 + 80 * at' ∧ q' + ts.length ≤ 1 + at' ∧ Hid (LwMem w.heap.size wd d lo hi g b l i m t da S p' q' used ts home want wr) ∧ Hid (Below w.heap.size w wr)) (fun _ qi _ => nf - (intOf qi).toNat)
    case atStart => exact ⟨0, 0, d, lo, hi, g, _, 0, 1, 0, [], _, _, rfl, rfl, Nat.zero_le _, Nat.zero_le _, by rw [began_acts]; omega, Nat.le_refl _, HM4, HB4⟩
    case round =>
      clear HM4 HB4
      obtain ⟨j, at', d, lo, hi, g, S, p', q', used, ts, home, want, rfl, rfl, hj, hat, hac, hqt, HM, HB⟩ := hrel
      by_cases hlt : j < nf
      · obtain ⟨gf, of, rfl, hgf, KV, hcc⟩ := H4.out (by omega)
        obtain ⟨c0, c1, ha, hkv⟩ := hcc j hlt
        obtain ⟨ka, kc, hKV, k1, k2, -⟩ := hkv.shape
        rw [hKV] at c1 hkv
        have HKV := Lib.hid hkv
        have HC1 := Lib.hid c1
        have HC0 := Lib.hid c0
        clear hkv hcc hKV H4 c0 c1
        generalize FK j = KB at *
        generalize FA j = a0 at *
        have c1 : wr.cell? ⟨gf, of + j * 2 + 1, none⟩ = some (.slice ka KB.length kc) := (HB.out.cell (p := ⟨gf, of + j * 2 + 1, none⟩) hgf).trans HC1.out
        by_cases hK : 1000 < KB.length
        · have dK : decide ((1000 : Int) < (KB.length : Int)) = true := decide_eq_true (by omega)
          go_wp2
          go_ret
          exact ⟨rfl, HB.out⟩
        have dK : decide ((1000 : Int) < (KB.length : Int)) = false := decide_eq_false (by omega)
        obtain ⟨ar, har⟩ : ∃ ar : Nat, a0 % 60 = ar := ⟨_, rfl⟩
        have har60 : ar < 60 := by omega
        have hra : (a0 : Int) % 60 = (ar : Int) := by omega
        have hwa : IntKind.i64.wrap (ar : Int) = (ar : Int) := IntWalk.i64_in _ (by omega)
        have r9 : ∀ p : BelowP wr, p.to.cell? ⟨wd, 9, none⟩ = some (.pointer (some ⟨d, 0, none⟩)) := fun p => (HM.out.wld.kept1 p.h).cell 9
        have r0 : ∀ p : BelowP wr, p.to.cell? ⟨gf, of + j * 2, none⟩ = some (.int .u16 (a0 : Int)) := fun p => ((bnext HB.out p.h).cell (p := ⟨gf, of + j * 2, none⟩) hgf).trans HC0.out
        clear har
        go_wp2
        refine wp_region_tail_below 11 mixed (by kernel_rfl) ?_
        simp only [List.take_succ_cons, List.take_zero, List.drop_succ_cons, List.drop_zero]
        repeat (go_big_quiet_step (fail))
        refine wpQuiet_nil ?_
        intro w0q hw'
        obtain ⟨⟨wq, bq⟩, hw''⟩ := hw'
        have hw2 : wq = w0q := hw''.symm
        clear hw''
        subst hw2
        have HM5 := Lib.hid (HM.out.kept1 bq)
        have HB5 := Lib.hid (bnext HB.out bq)
        have AR := Lib.hid (arm_any (ar : Int) ⟨by omega, by omega⟩ wq HM5.out.dev)
        have hbot := HM5.out.bot
        have ho1 := HM5.out.o1
        have ho2 := HM5.out.o2
        clear bq r9 r0 c1 HM HB
        go_wp2_with fail
        refine AR.out.mono ?_; rintro e w6 ⟨rfl, hd6, z6⟩
        have HM6 : Hid (LwMem w.heap.size wd d lo hi g b l i m t da (S.armed (ar : Int)) p' q' used ts home want w6) := Lib.hid ⟨Blk.kept HM5.out.wld z6 (.inl ho1), hd6, Blk.kept HM5.out.log z6 (.inr ho2), HM5.out.pure.armed hl _, HM5.out.bh, HM5.out.bw, hbot, ho1, ho2⟩
        have HB6 := Lib.hid (HB5.out.trans (z6.below (B := w.heap.size) HB5.out.size (by omega)))
        have hgs := Blk.lt HM6.out.log
        obtain ⟨pb, hpb⟩ : ∃ pb, w6.heap.size = pb := ⟨_, rfl⟩
        have HPB := Lib.hid hpb
        have HWR := Lib.hid HM6.out.wld.wantRange
        clear AR HM5 HB5 hd6 z6 hwa hra
        obtain ⟨w8, hw8⟩ : ∃ w8, w6.alloc (.cells (arr12 want) 36) = w8 := ⟨_, rfl⟩
        have z0 : Below w6.heap.size w6 w8 := by rw [← hw8]; exact balloc1 _ _
        have k8 : Blk pb (arr12 want) 36 w8 := by rw [← hw8, ← hpb]; exact Blk.new _ _ _
        have HM8 := Lib.hid (HM6.out.kept1 z0)
        have HB8 := Lib.hid (bnext HB6.out z0)
        have HP8 := Lib.hid k8
        have hgp : g < pb := by rw [← hpb]; exact hgs
        have HW8' := Lib.hid hw8
        clear z0 k8 hw8
        go_upto_block 2 with (refine wpList_load_mid rfl _ _ rfl wd 23 rfl (arr12 want).toList _ HWR.out Tryz.underlying36 rfl arr12_info ?_)
        rw [HW8'.out]
        try rw [HPB.out]
        clear HM6 HB6 HWR HPB hpb HW8'
        go_cut [9, 12] (fun qa _ wx => ∃ (at2 : Nat) (S2 : St) (home2 want2 perhaps : Nat → Nat) (wz : World), qa = .int .i64 (at2 : Int) ∧ at2 ≤ n ∧ at' ≤ at2 ∧ wz = wx ∧ Hid (TrMem w wd d lo hi g b l i m t da pb (1 + at2) (6000 + 80 * at2) home2 want2 perhaps S2 wz))
        case first =>
          go_wp2_with fail
          go_loopw [9, 12] (fun qa qk wr => ∃ (at2 k : Nat) (S2 : St) (p2 q2 u2 : Nat) (ts2 : List Tx) (home2 want2 : Nat → Nat), qa = .int .i64 (at2 : Int) ∧ qk = .int .i64 (k : Int) ∧ k ≤ 6 ∧ at2 ≤ n ∧ at' ≤ at2 ∧ S2.acts ≤ 6000 + 80 * at2 ∧ q2 + ts2.length ≤ 1 + at2 ∧ Hid (LwMem w.heap.size wd d lo hi g b l i m t da S2 p2 q2 u2 ts2 home2 want2 wr) ∧ Hid (Blk pb (arr12 want2) 36 wr) ∧ Hid (Below w.heap.size w wr)) (fun _ qk _ => 6 - (intOf qk).toNat)
          case atStart => exact ⟨at', 0, S.armed (ar : Int), p', q', used, ts, home, want, rfl, rfl, by omega, hat, Nat.le_refl _, (show (S.armed (ar : Int)).acts ≤ _ from hac), hqt, HM8, HP8, HB8⟩
          case round =>
            clear HM8 HP8 HB8
            obtain ⟨at2, k, S2, p2, q2, u2, ts2, home2, want2, rfl, rfl, hk6, hat2, hle2, hac2, hqt2, HM, HP, HB⟩ := hrel
            by_cases hk : k < 6
            · have tk : decide ((k : Int) < 6) = true := decide_eq_true (by omega)
              by_cases hlt2 : at2 < n
              · have tn : decide ((at2 : Int) < (n : Int)) = true := decide_eq_true (by omega)
                have hn30 := HFEW.out.1
                obtain ⟨gx, o, rfl, hgx, VC, VR, hX⟩ := H3.out (by omega)
                obtain ⟨hin, hc⟩ := hX at2 hlt2
                have olh := HM.out.dev.lohi
                have ho1 := HM.out.o1
                have ho2 := HM.out.o2
                have hbz : ∀ w', LawZ lo hi g wd wr w' → Below w.heap.size w w' := fun w' z => HB.out.trans (z.below HB.out.size (by omega) (by omega) (by omega))
                have ST := Lib.hid (stepw_any HOK.out HF.out HDA.out (by omega) (by omega) (X at2) (VC at2) (VR at2) wr HM.out (fun w' z => hin.kept (hbz w' z)) (fun w' z => tabOf HT.out (hbz w' z)))
                have HBZ := Lib.hid hbz
                have HWT := Lib.hid HM.out.bw
                have HN0 := Lib.hid HM.out.pure.n
                clear hX H3 hin hbz
                generalize X at2 = x at *
                generalize VC at2 = vc at *
                generalize VR at2 = vr at *
                obtain ⟨xk, xc, xr, xf, xd⟩ := x
                dsimp only [stepV] at *
                have c0 : wr.cell? ⟨gx, o + at2 * 5, none⟩ = some (.int .u8 (xk : Int)) := (HB.out.cell (p := ⟨gx, o + (at2 * 5 + 0), none⟩) hgx).trans (hc 0 _ rfl)
                have c1 : wr.cell? ⟨gx, o + at2 * 5 + 1, none⟩ = some vc := (HB.out.cell (p := ⟨gx, o + (at2 * 5 + 1), none⟩) hgx).trans (hc 1 _ rfl)
                have c2 : wr.cell? ⟨gx, o + at2 * 5 + 2, none⟩ = some vr := (HB.out.cell (p := ⟨gx, o + (at2 * 5 + 2), none⟩) hgx).trans (hc 2 _ rfl)
                have c3 : wr.cell? ⟨gx, o + at2 * 5 + 3, none⟩ = some (.int .u8 (xf : Int)) := (HB.out.cell (p := ⟨gx, o + (at2 * 5 + 3), none⟩) hgx).trans (hc 3 _ rfl)
                have c4 : wr.cell? ⟨gx, o + at2 * 5 + 4, none⟩ = some (.bool xd) := (HB.out.cell (p := ⟨gx, o + (at2 * 5 + 4), none⟩) hgx).trans (hc 4 _ rfl)
                clear hc
                go_wp2_with fail
                refine ST.out.mono ?_; rintro e w2 ⟨zz, c, r, rfl, hs⟩
                have hb2 := HBZ.out w2 zz
                have HP2 := Lib.hid (zz.blk HP.out (.inr (by omega)) (by omega) (by omega))
                have hpl := Blk.lt HP2.out
                have NEW := Blk.new (arr12 fun _ => 0) 36 w2
                have bn := balloc1 w2 (.cells (arr12 fun _ => 0) 36)
                have HBW := Lib.hid hb2
                have HAC := Lib.hid hac2
                have HQT := Lib.hid hqt2
                clear c0 c1 c2 c3 c4 ST HBZ HM HP HB zz hb2 hac2 hqt2
                rcases hs with ⟨rfl, S1, p1', q1', u1, ts1, home1, a1, a2, a3, a4⟩ | ⟨rfl, a0, hr256, S1, home1, a1, a2, a3, a4⟩
                · have HM2 := Lib.hid a4
                  clear a4
                  go_wp2_with (first | (refine wpList_store_nextZ rfl _ _ rfl r rfl rfl _ rfl NEW ?_; intro w3 k3 z3; have HR3 := Lib.hid (arr12_blk k3); have HP3 := Lib.hid ((HP2.out.kept1 bn).kept z3 (.inl (by omega))); have HM3 := Lib.hid ((HM2.out.kept1 bn).keptZ z3 (by omega)); have HB3 := Lib.hid ((bnext HBW.out bn).trans (z3.below (B := w.heap.size) (by rw [size_alloc]; omega) (by omega))); have hs3 := z3.size; rw [size_alloc] at hs3) | (refine wpList_load_mid rfl _ _ rfl w2.heap.size 0 rfl (arr12 r).toList _ HR3.out Tryz.underlying36 rfl arr12_info ?_) | (refine wpList_store_nextZ rfl _ _ rfl r rfl rfl _ rfl HP3.out ?_; intro w4 k4 z4; have HP4 := Lib.hid k4; have HM4 := Lib.hid (HM3.out.keptZ z4 (by omega)); have HB4 := Lib.hid (HB3.out.trans (z4.below (B := w.heap.size) (by omega) (by omega))); have HW4 := Lib.hid HM4.out.wld.wantRange) | (refine wpList_load_mid rfl _ _ rfl wd 23 rfl (arr12 r).toList _ HW4.out Tryz.underlying36 rfl arr12_info ?_) | (refine wpList_store_nextZ rfl _ _ rfl r rfl rfl _ rfl HP4.out ?_; intro w5 k5 z5; have HP5 := Lib.hid k5; have HM5 := Lib.hid (HM4.out.keptZ z5 (by omega)); have HB5 := Lib.hid (HB4.out.trans (z5.below (B := w.heap.size) (by have := z4.size; omega) (by omega)))))
                  exact ⟨⟨at2 + 1, k + 1, S1, p1', q1', u1, ts1, home1, r, by go_num, by go_num, by omega, by omega, by omega, by have := HAC.out; omega, by have := HQT.out; omega, HM5, HP5, HB5⟩, by simp [intOf]; omega⟩
                · go_wp2_with (first | (refine wpList_store_nextZ rfl _ _ rfl r rfl rfl _ rfl NEW ?_; intro w3 k3 z3; have HR3 := Lib.hid (arr12_blk k3); have HP3 := Lib.hid ((HP2.out.kept1 bn).kept z3 (.inl (by omega))); have HB3 := Lib.hid ((bnext HBW.out bn).trans (z3.below (B := w.heap.size) (by rw [size_alloc]; omega) (by omega))); have HD3 := Lib.hid ((a2.kept1 bn).kept z3 (.inl (by omega))); have HW3 := Lib.hid (Blk.kept (Blk.kept1 a3 bn) z3 (.inl (by omega))); have hs3 := z3.size; rw [size_alloc] at hs3) | (refine wpList_load_mid rfl _ _ rfl w2.heap.size 0 rfl (arr12 r).toList _ HR3.out Tryz.underlying36 rfl arr12_info ?_) | (refine wpList_store_nextZ rfl _ _ rfl r rfl rfl _ rfl HP3.out ?_; intro w4 k4 z4))
                  go_meet
                  have hww : ∀ k, want2 k < 256 := HWT.out
                  exact ⟨at2 + 1, S1, home1, want2, r, _, by go_num, by omega, by omega, rfl, Lib.hid ⟨HD3.out.kept z4 (.inl (by omega)), Blk.kept HW3.out z4 (.inl (by omega)), k4, HB3.out.trans (z4.below (B := w.heap.size) (by omega) (by omega)), (by have := HN0.out; omega), by have := HAC.out; omega, hww, hr256, fun S'' hL => by have := HQT.out; exact (a4 S'' hL).imp (tells_to (by omega)) (tells_to (by omega))⟩⟩
              · have tn : decide ((at2 : Int) < (n : Int)) = false := decide_eq_false (by omega)
                go_wp2
                go_meet
                exact ⟨at2, S2, home2, want2, want2, _, rfl, hat2, hle2, rfl, Lib.hid ⟨HM.out.dev, HM.out.wld, HP.out, HB.out, HM.out.pure.n, hac2, HM.out.bw, HM.out.bw, fun S'' hL => .inl (tells_to (by omega) (HM.out.pure.fails HF.out hL))⟩⟩
            · have tk : decide ((k : Int) < 6) = false := decide_eq_false (by omega)
              go_wp2
              go_meet
              exact ⟨at2, S2, home2, want2, want2, _, rfl, hat2, hle2, rfl, Lib.hid ⟨HM.out.dev, HM.out.wld, HP.out, HB.out, HM.out.pure.n, hac2, HM.out.bw, HM.out.bw, fun S'' hL => .inl (tells_to (by omega) (HM.out.pure.fails HF.out hL))⟩⟩
        case rest =>
          clear HM8 HP8 HB8 H3
          obtain ⟨at2, S2, home2, want2, perhaps, wx, rfl, hat2, hle2, hwx, HP⟩ := hcut
          subst hwx
          have hn30 := HFEW.out.1
          have HKx := Lib.hid (HKV.out.kept HP.out.below)
          go_wp2
          have HKD : Hid (∀ W, Below wx.heap.size wx W → W.cell? ⟨wd, 9, none⟩ = some (.pointer (some ⟨d, 0, none⟩)) ∧ W.cell? ⟨gf, of + j * 2 + 1, none⟩ = some (.slice ka KB.length kc)) := Lib.hid fun W b9 => ⟨(HP.out.wld.kept1 b9).cell 9, ((bnext HP.out.below b9).cell (p := ⟨gf, of + j * 2 + 1, none⟩) hgf).trans HC1.out⟩
          have HP0 := HP
          have hqg : Below wx.heap.size wx wx.drew := (Below.refl _ _).drew
          have HP := Lib.hid (HP.out.kept1 hqg)
          have HKx := Lib.hid (HKx.out.kept hqg)
          refine wp_region_held_drew (S := fun w9 => w9.cell? ⟨wd, 9, none⟩ = some (.pointer (some ⟨d, 0, none⟩)) ∧ w9.cell? ⟨gf, of + j * 2 + 1, none⟩ = some (.slice ka KB.length kc)) mixed (HKD.out _ hqg) (fun hHeld => ?_)
          generalize wx.drew = wg at *
          refine wpAnyH_take (i := 0) (oi := _) (v := ?vtv1) rfl (by kernel_rfl) (by kernel_rfl) (by kernel_rfl) (fun _ _ _ h => h) (Or.inl ⟨by kernel_rfl, ?hytv1⟩) hHeld ?resttv1
          case hytv1 => (intro w9 hSw; clear hSw; go_simp; try with_reducible rfl)
          try simp only [Act.put, List.getElem_toArray, List.getElem_cons_zero, List.getElem_cons_succ, List.setIfInBounds_toArray, List.set_cons_zero, List.set_cons_succ]
          refine wpAnyH_take (i := 1) (oi := _) (v := ?vtv2) rfl (by kernel_rfl) (by kernel_rfl) (by kernel_rfl) (fun _ _ _ h => h) (Or.inl ⟨by kernel_rfl, ?hytv2⟩) hHeld ?resttv2
          case hytv2 => (intro w9 hSw; clear hSw; go_simp; try with_reducible rfl)
          try simp only [Act.put, List.getElem_toArray, List.getElem_cons_zero, List.getElem_cons_succ, List.setIfInBounds_toArray, List.set_cons_zero, List.set_cons_succ]
          refine wpAnyH_take (i := 2) (oi := _) (v := ?vtv3) rfl (by kernel_rfl) (by kernel_rfl) (by kernel_rfl) (fun _ _ _ h => h) (Or.inl ⟨by kernel_rfl, ?hytv3⟩) hHeld ?resttv3
          case hytv3 => (intro w9 hSw; clear hSw; go_simp; try with_reducible rfl)
          try simp only [Act.put, List.getElem_toArray, List.getElem_cons_zero, List.getElem_cons_succ, List.setIfInBounds_toArray, List.set_cons_zero, List.set_cons_succ]
          refine wpAnyH_take (i := 3) (oi := _) (v := ?vtv4) rfl (by kernel_rfl) (by kernel_rfl) (by kernel_rfl) (fun _ _ _ h => h) (Or.inl ⟨by kernel_rfl, ?hytv4⟩) hHeld ?resttv4
          case hytv4 => (intro w9 hSw; obtain ⟨e9, f9⟩ := hSw; go_simp; try with_reducible rfl)
          try simp only [Act.put, List.getElem_toArray, List.getElem_cons_zero, List.getElem_cons_succ, List.setIfInBounds_toArray, List.set_cons_zero, List.set_cons_succ]
          refine wpAnyH_take (i := 4) (oi := _) (v := ?vtv5) rfl (by kernel_rfl) (by kernel_rfl) (by kernel_rfl) (fun _ _ _ h => h) (Or.inl ⟨by kernel_rfl, ?hytv5⟩) hHeld ?resttv5
          case hytv5 => (intro w9 hSw; clear hSw; go_simp; try with_reducible rfl)
          try simp only [Act.put, List.getElem_toArray, List.getElem_cons_zero, List.getElem_cons_succ, List.setIfInBounds_toArray, List.set_cons_zero, List.set_cons_succ]
          refine wpAnyH_take (i := 5) (oi := _) (v := ?vtv6) rfl (by kernel_rfl) (by kernel_rfl) (by kernel_rfl) (fun _ _ _ h => h) (Or.inl ⟨by kernel_rfl, ?hytv6⟩) hHeld ?resttv6
          case hytv6 => (intro w9 hSw; clear hSw; go_simp; try with_reducible rfl)
          try simp only [Act.put, List.getElem_toArray, List.getElem_cons_zero, List.getElem_cons_succ, List.setIfInBounds_toArray, List.set_cons_zero, List.set_cons_succ]
          refine wpAnyH_take (i := 6) (oi := _) (v := ?vtv7) rfl (by kernel_rfl) (by kernel_rfl) (by kernel_rfl) (fun _ _ _ h => h) (Or.inl ⟨by kernel_rfl, ?hytv7⟩) hHeld ?resttv7
          case hytv7 => (intro w9 hSw; clear hSw; go_simp; try with_reducible rfl)
          try simp only [Act.put, List.getElem_toArray, List.getElem_cons_zero, List.getElem_cons_succ, List.setIfInBounds_toArray, List.set_cons_zero, List.set_cons_succ]
          refine wpAnyH_take (i := 7) (oi := _) (v := ?vtv8) rfl (by kernel_rfl) (by kernel_rfl) (by kernel_rfl) (fun _ _ _ h => h) (Or.inl ⟨by kernel_rfl, ?hytv8⟩) hHeld ?resttv8
          case hytv8 => (intro w9 hSw; clear hSw; go_simp; try with_reducible rfl)
          try simp only [Act.put, List.getElem_toArray, List.getElem_cons_zero, List.getElem_cons_succ, List.setIfInBounds_toArray, List.set_cons_zero, List.set_cons_succ]
          refine wpAnyH_take (i := 8) (oi := _) (v := ?vtv9) rfl (by kernel_rfl) (by kernel_rfl) (by kernel_rfl) (fun _ _ _ h => h) (Or.inl ⟨by kernel_rfl, ?hytv9⟩) hHeld ?resttv9
          case hytv9 => (intro w9 hSw; obtain ⟨e9, f9⟩ := hSw; go_simp; try with_reducible rfl)
          try simp only [Act.put, List.getElem_toArray, List.getElem_cons_zero, List.getElem_cons_succ, List.setIfInBounds_toArray, List.set_cons_zero, List.set_cons_succ]
          refine wpAnyH_ready (rs := [9]) (by kernel_rfl) (by simp) ?_
          refine AllReadyH.cons (o := _) rfl (fun K hK => ?_) ?_
          · go_simp
            refine (crash_any KB (.slice ka KB.length kc) _ HP.out.dev HKx.out).mono ?_; rintro e w10 ⟨rfl, b10⟩
            dsimp only
            have q10 := bnext hqg b10
            have HP := Lib.hid (HP.out.kept1 b10)
            have HKx := Lib.hid (HKx.out.kept b10)
            refine hK.out _ _ (HKD.out _ q10) (fun hHeld3 => ?_)
            clear hK K hHeld
            have hHeld := hHeld3
            clear hHeld3
            try simp only [Act.put, List.getElem_toArray, List.getElem_cons_zero, List.getElem_cons_succ, List.setIfInBounds_toArray, List.set_cons_zero, List.set_cons_succ]
            refine wpAnyH_ready (rs := [10]) (by kernel_rfl) (by simp) ?_
            refine AllReadyH.cons (o := _) rfl (fun K hK => ?_) ?_
            · go_simp
              have hlow := q10.size
              obtain ⟨lo2, hlo2⟩ : ∃ q9, w10.heap.size = q9 := ⟨_, rfl⟩
              refine (open_crash KB _ HP0.out.dev _).mono ?_; rintro e w7 ⟨d2, rfl, hd7, b7⟩
              dsimp only
              have q7 := bnext q10 b7
              have HPq := HP
              have HP := Lib.hid (HP.out.kept1 b7)
              have HB7 := Lib.hid b7
              rw [hlo2] at hd7
              have HD7 := Lib.hid hd7
              have HLQ := Lib.hid hlo2
              clear hd7 b7 hlow hlo2
              refine hK.out _ _ (HKD.out _ q7) (fun hHeld3 => ?_)
              clear hK K hHeld
              have hHeld := hHeld3
              clear hHeld3
              try simp only [Act.put, List.getElem_toArray, List.getElem_cons_zero, List.getElem_cons_succ, List.setIfInBounds_toArray, List.set_cons_zero, List.set_cons_succ]
              refine wpAnyH_take (i := 11) (oi := _) (v := ?vtv12) rfl (by kernel_rfl) (by kernel_rfl) (by kernel_rfl) (fun _ _ _ h => h) (Or.inl ⟨by kernel_rfl, ?hytv12⟩) hHeld ?resttv12
              case hytv12 => (intro w9 hSw; clear hSw; go_simp; try with_reducible rfl)
              try simp only [Act.put, List.getElem_toArray, List.getElem_cons_zero, List.getElem_cons_succ, List.setIfInBounds_toArray, List.set_cons_zero, List.set_cons_succ]
              refine wpAnyH_take (i := 12) (oi := _) (v := ?vtv13) rfl (by kernel_rfl) (by kernel_rfl) (by kernel_rfl) (fun _ _ _ h => h) (Or.inl ⟨by kernel_rfl, ?hytv13⟩) hHeld ?resttv13
              case hytv13 => (intro w9 hSw; clear hSw; go_simp; try with_reducible rfl)
              try simp only [Act.put, List.getElem_toArray, List.getElem_cons_zero, List.getElem_cons_succ, List.setIfInBounds_toArray, List.set_cons_zero, List.set_cons_succ]
              refine wpAnyH_take (i := 13) (oi := _) (v := ?vtv14) rfl (by kernel_rfl) (by kernel_rfl) (by kernel_rfl) (fun _ _ _ h => h) (Or.inl ⟨by kernel_rfl, ?hytv14⟩) hHeld ?resttv14
              case hytv14 => (intro w9 hSw; clear hSw; go_simp; try with_reducible rfl)
              try simp only [Act.put, List.getElem_toArray, List.getElem_cons_zero, List.getElem_cons_succ, List.setIfInBounds_toArray, List.set_cons_zero, List.set_cons_succ]
              refine wpAnyH_take (i := 14) (oi := _) (v := ?vtv15) rfl (by kernel_rfl) (by kernel_rfl) (by kernel_rfl) (fun _ _ _ h => h) (Or.inl ⟨by kernel_rfl, ?hytv15⟩) hHeld ?resttv15
              case hytv15 => (intro w9 hSw; clear hSw; go_simp; try with_reducible rfl)
              try simp only [Act.put, List.getElem_toArray, List.getElem_cons_zero, List.getElem_cons_succ, List.setIfInBounds_toArray, List.set_cons_zero, List.set_cons_succ]
              refine wpAnyH_take (i := 15) (oi := _) (v := ?vtv16) rfl (by kernel_rfl) (by kernel_rfl) (by kernel_rfl) (fun _ _ _ h => h) (Or.inl ⟨by kernel_rfl, ?hytv16⟩) hHeld ?resttv16
              case hytv16 => (intro w9 hSw; clear hSw; go_simp; try with_reducible rfl)
              try simp only [Act.put, List.getElem_toArray, List.getElem_cons_zero, List.getElem_cons_succ, List.setIfInBounds_toArray, List.set_cons_zero, List.set_cons_succ]
              refine ⟨by kernel_rfl, ?_⟩
              clear hHeld
              have HL := Lib.hid (left_crash HP0.out.dev.ok KB)
              obtain ⟨f, hff, hor, HTL⟩ : ∃ f : Nat → Nat, (∀ k, f k < 256) ∧ (f = want2 ∨ f = perhaps) ∧ Hid (Tells (freshSt S2.n (blkOf 128 (crashT S2 KB))) l b da (1 + at2) f) := by
                rcases HP0.out.tells _ HL.out with h | h
                · exact ⟨want2, HP0.out.wants, .inl rfl, Lib.hid h⟩
                · exact ⟨perhaps, HP0.out.pers, .inr rfl, Lib.hid h⟩
              have RP := Lib.hid fun w hd ht => replay_tells HOK.out HF.out (d := d2) (lo := lo2) (hi := w7.heap.size) (S := freshSt S2.n (blkOf 128 (crashT S2 KB))) HP0.out.n (fresh_clean _ _) (by show (-1 : Int) < 0; omega) (by show (0 : Nat) ≤ _; omega) (fun _ => rfl) (by omega) HTL.out w hd ht
              have HPq0 := HPq
              have HZ7 := HB7
              have HP7 := HP
              have HBOT : Hid (w.heap.size ≤ wd) := Lib.hid hbot
              obtain ⟨k0, k1, k2, k3, k4, k5, k6, k7, k8, k9, k10⟩ := wldG_cells HP7.out.wld
              clear HL HTL HPq HP HKx HP0
              go_wp2_with fail
              refine (RP.out _ HD7.out (tabOf HT.out HP7.out.below)).mono ?_; rintro e w8 ⟨ax, nx, cx, S1, p1, q1, rfl, hd8, z8, hl8, ha8, hq8, hp8, hw8⟩
              have hlo2 := HLQ.out
              obtain ⟨hi2, hhi2⟩ : ∃ x, w7.heap.size = x := ⟨_, rfl⟩
              have HLO : Hid (w.heap.size ≤ lo2 ∧ wd < lo2 ∧ pb < lo2) := Lib.hid (by have h1 := HPq0.out.below.size; have h2 := Blk.lt HPq0.out.wld; have h3 := Blk.lt HPq0.out.per; omega)
              rw [hhi2] at hd8 z8
              have bz8 : Below lo2 w7 w8 := z8.below (by have := HZ7.out.size; omega) (Nat.le_refl _)
              have HB78 := HZ7.out.trans (by rw [hlo2]; exact bz8)
              have HP := Lib.hid (HPq0.out.kept1 HB78)
              have HD := Lib.hid hd8
              have HW8 := Lib.hid hw8
              have HQ8 := Lib.hid hq8
              have HA8 : Hid (S1.acts ≤ 5000) := Lib.hid (by have : (freshSt S2.n (blkOf 128 (crashT S2 KB))).acts = 0 := rfl; omega)
              clear hd8 z8 bz8 HB78 HZ7 HD7 HP7 RP HPq0 k0 k1 k2 k3 k4 k5 k6 k7 k8 k9 k10 hq8 ha8 hlo2 HLQ hl8 hp8
              obtain ⟨k0, k1, k2, k3, k4, k5, k6, k7, k8, k9, k10⟩ := wldG_cells HP.out.wld
              have hib : hi2 ≤ w8.heap.size := HD.out.top
              go_wp2_with fail
              refine (open_inv d2 lo2 hi2 b l i m t HOK.out HW8.out.n HW8.out.log _ HD.out (tabOf HT.out HP.out.below)).mono ?_; rintro e wt ⟨g2, rfl, hg2, hlg, bt⟩
              have HP := Lib.hid (HP.out.kept1 bt)
              have HD := Lib.hid (HD.out.kept1 bt)
              have HG : Hid (LogAt g2 d2 b l i 1 (1 + l) m (1 + l + m) t (1 + l + m + t) (((p1 + 0) % (l - 1) : Nat) : Int) ((l - 1 - 0 : Nat) : Int) (q1 + 0) 0 wt) := Lib.hid hlg
              have HGB : Hid (hi2 ≤ g2 ∧ lo2 ≤ g2 ∧ lo2 ≤ hi2) := Lib.hid (by have := HD.out.lohi; omega)
              clear bt k0 k1 k2 k3 k4 k5 k6 k7 k8 k9 k10 hlg hg2 hib
              obtain ⟨lf, hlf⟩ : ∃ lf : Int, ((l - 1 - 0 : Nat) : Int) = lf := ⟨_, rfl⟩
              have tq : (lf == (l : Int) - 1) = true := by rw [beq_iff_eq]; omega
              have hwl : IntKind.i64.wrap ((l : Int) - 1) = (l : Int) - 1 := IntWalk.i64_in _ (by omega)
              have RM := Lib.hid fun p : BelowP wt => (by have := logroom_below (Blk.kept1 HG.out p.h); rw [hlf] at this; exact this : Calls Tryz.prog 17 #[.pointer (some ⟨g2, 0, none⟩)] p.to fun e w' => e = .returned (.int .i64 lf) ∧ Below p.to.heap.size p.to w')
              have kl := fun p : BelowP wt => (wldG_cells (HP.out.wld.kept1 p.h)).2.1
              clear hlf
              go_wp2
              refine wp_region_quiet_below mixed (by kernel_rfl) ?_
              repeat (go_big_quiet_step (first | (go_at_call 17; refine calls_below (RM.out _))))
              refine wpQuiet_nil ?_
              intro w0q hw'
              obtain ⟨⟨wq, bq⟩, hw''⟩ := hw'
              have hw2 : wq = w0q := hw''.symm
              clear hw''
              subst hw2
              have HP := Lib.hid (HP.out.kept1 bq)
              have HD := Lib.hid (HD.out.kept1 bq)
              have HG := Lib.hid (Blk.kept1 HG.out bq)
              clear RM kl bq
              have H1 := has_any (S := S1) want2 HP.out.wants HDA.out (by omega) hb4 HW8.out.n wq HP.out.wld HD.out
              cases hb1 : hasB S1 da want2 with
              | true =>
                rw [hb1] at H1
                have H1 := Lib.hid H1
                have HHB := Lib.hid hb1
                clear hb1
                have v0 : wq.cell? ⟨wd, 23, none⟩ = some (.int .u8 (want2 0 : Int)) := Blk.cell HP.out.wld 23
                have v1 : wq.cell? ⟨wd, 24, none⟩ = some (.int .u8 (want2 1 : Int)) := Blk.cell HP.out.wld 24
                have v2 : wq.cell? ⟨wd, 25, none⟩ = some (.int .u8 (want2 2 : Int)) := Blk.cell HP.out.wld 25
                have v3 : wq.cell? ⟨wd, 26, none⟩ = some (.int .u8 (want2 3 : Int)) := Blk.cell HP.out.wld 26
                have v4 : wq.cell? ⟨wd, 27, none⟩ = some (.int .u8 (want2 4 : Int)) := Blk.cell HP.out.wld 27
                have v5 : wq.cell? ⟨wd, 28, none⟩ = some (.int .u8 (want2 5 : Int)) := Blk.cell HP.out.wld 28
                have v6 : wq.cell? ⟨wd, 29, none⟩ = some (.int .u8 (want2 6 : Int)) := Blk.cell HP.out.wld 29
                have v7 : wq.cell? ⟨wd, 30, none⟩ = some (.int .u8 (want2 7 : Int)) := Blk.cell HP.out.wld 30
                have v8 : wq.cell? ⟨wd, 31, none⟩ = some (.int .u8 (want2 8 : Int)) := Blk.cell HP.out.wld 31
                have v9 : wq.cell? ⟨wd, 32, none⟩ = some (.int .u8 (want2 9 : Int)) := Blk.cell HP.out.wld 32
                have v10 : wq.cell? ⟨wd, 33, none⟩ = some (.int .u8 (want2 10 : Int)) := Blk.cell HP.out.wld 33
                have v11 : wq.cell? ⟨wd, 34, none⟩ = some (.int .u8 (want2 11 : Int)) := Blk.cell HP.out.wld 34
                go_wp2_with fail
                refine H1.out.mono ?_; rintro e w9 ⟨rfl, b9⟩
                have HWL := Lib.hid (HP.out.wld.kept1 b9)
                have HD := Lib.hid (HD.out.kept1 b9)
                have HG := Lib.hid (Blk.kept1 HG.out b9)
                have HB := Lib.hid (bnext HP.out.below b9)
                have HFW := Lib.hid HP.out.wants
                have HPU := Lib.hid (HW8.out.of_has HHB.out)
                clear b9 H1 HP v0 v1 v2 v3 v4 v5 v6 v7 v8 v9 v10 v11
                have H2 := Lib.hid (show Calls Tryz.prog 14 #[.pointer (some ⟨wd, 0, none⟩), .pointer (some ⟨d2, 0, none⟩), .agg (arr12 want2)] w9 (fun e w' => e = .returned (.bool true) ∧ Below w9.heap.size w9 w') from by have := has_any (S := S1) want2 HFW.out HDA.out (by omega) hb4 HW8.out.n w9 HWL.out HD.out; rw [HHB.out] at this; exact this)
                have v0 : w9.cell? ⟨wd, 23, none⟩ = some (.int .u8 (want2 0 : Int)) := Blk.cell HWL.out 23
                have v1 : w9.cell? ⟨wd, 24, none⟩ = some (.int .u8 (want2 1 : Int)) := Blk.cell HWL.out 24
                have v2 : w9.cell? ⟨wd, 25, none⟩ = some (.int .u8 (want2 2 : Int)) := Blk.cell HWL.out 25
                have v3 : w9.cell? ⟨wd, 26, none⟩ = some (.int .u8 (want2 3 : Int)) := Blk.cell HWL.out 26
                have v4 : w9.cell? ⟨wd, 27, none⟩ = some (.int .u8 (want2 4 : Int)) := Blk.cell HWL.out 27
                have v5 : w9.cell? ⟨wd, 28, none⟩ = some (.int .u8 (want2 5 : Int)) := Blk.cell HWL.out 28
                have v6 : w9.cell? ⟨wd, 29, none⟩ = some (.int .u8 (want2 6 : Int)) := Blk.cell HWL.out 29
                have v7 : w9.cell? ⟨wd, 30, none⟩ = some (.int .u8 (want2 7 : Int)) := Blk.cell HWL.out 30
                have v8 : w9.cell? ⟨wd, 31, none⟩ = some (.int .u8 (want2 8 : Int)) := Blk.cell HWL.out 31
                have v9 : w9.cell? ⟨wd, 32, none⟩ = some (.int .u8 (want2 9 : Int)) := Blk.cell HWL.out 32
                have v10 : w9.cell? ⟨wd, 33, none⟩ = some (.int .u8 (want2 10 : Int)) := Blk.cell HWL.out 33
                have v11 : w9.cell? ⟨wd, 34, none⟩ = some (.int .u8 (want2 11 : Int)) := Blk.cell HWL.out 34
                go_wp2_with fail
                refine H2.out.mono ?_; rintro e we ⟨rfl, be⟩
                have HWL := Lib.hid (WldAt.kept1 HWL.out be)
                have HD := Lib.hid (HD.out.kept1 be)
                have HG := Lib.hid (Blk.kept1 HG.out be)
                have HB := Lib.hid (bnext HB.out be)
                clear be H2 v0 v1 v2 v3 v4 v5 v6 v7 v8 v9 v10 v11
                have HWR := Lib.hid HWL.out.wantRange
                have hz9 := renew_zone wd we (.pointer (some ⟨d2, 0, none⟩)) (.pointer (some ⟨g2, 0, none⟩)) (arr12 want2).toList
                have HWN := Lib.hid (WldAt.renew (d2 := d2) (g2 := g2) HWL.out)
                have HTH := Lib.hid (show World.there ((we.setCell ⟨wd, 9, none⟩ (.pointer (some ⟨d2, 0, none⟩))).setCell ⟨wd, 10, none⟩ (.pointer (some ⟨g2, 0, none⟩))) wd 11 12 from WldAt.homeThere (show WldAt wd b l i m t d2 g2 home2 want2 _ from Blk.set (Blk.set HWL.out 9 (.pointer (some ⟨d2, 0, none⟩))) 10 (.pointer (some ⟨g2, 0, none⟩))))
                have hlo2 := HLO.out
                have hgb := HGB.out
                have HMN : Hid (LwMem w.heap.size wd d2 lo2 hi2 g2 b l i m t da S1 p1 q1 0 [] want2 want2 _) := Lib.hid ⟨HWN.out, HD.out.kept hz9 (.inr (by omega)), Blk.kept HG.out hz9 (.inr (by omega)), HPU.out, HFW.out, HFW.out, HBOT.out, by omega, by omega⟩
                have HBN := Lib.hid (HB.out.trans (hz9.below (B := w.heap.size) HB.out.size HBOT.out))
                obtain ⟨k0, k1, k2, k3, k4, k5, k6, k7, k8, k9, k10⟩ := wldG_cells HWL.out
                have f9 := Blk.frozen HWL.out 9
                have f10 := Blk.frozen HWL.out 10
                clear hz9 HWN HWL HD HG HB HPU k0 k1 k2 k3 k4 k5 k6 k7 k8
                go_upto_region 9 with (first | (refine wpList_load_mid rfl _ _ rfl wd 23 rfl (arr12 want2).toList _ HWR.out Tryz.underlying36 rfl arr12_info ?_) | (refine wpList_store_mid rfl _ _ _ rfl wd 11 (arr12 want2) rfl rfl HTH.out arr12_info (by simp [Value.oneCell']) ?_))
                go_wp2
                exact ⟨⟨j + 1, at2, d2, lo2, hi2, g2, S1, p1, q1, 0, [], want2, want2, rfl, by go_num, by omega, hat2, by have := HA8.out; omega, by have := HQ8.out; simp; omega, HMN, HBN⟩, by simp [intOf]; omega⟩
              | false =>
                obtain rfl : f = perhaps := by
                  rcases hor with rfl | h
                  · rw [hasB_yes HW8.out.homes.text] at hb1; cases hb1
                  · exact h
                rw [hb1] at H1
                have H1 := Lib.hid H1
                have HHB : Hid (hasB S1 da f = true) := Lib.hid (hasB_yes HW8.out.homes.text)
                clear hb1
                have v0 : wq.cell? ⟨wd, 23, none⟩ = some (.int .u8 (want2 0 : Int)) := Blk.cell HP.out.wld 23
                have v1 : wq.cell? ⟨wd, 24, none⟩ = some (.int .u8 (want2 1 : Int)) := Blk.cell HP.out.wld 24
                have v2 : wq.cell? ⟨wd, 25, none⟩ = some (.int .u8 (want2 2 : Int)) := Blk.cell HP.out.wld 25
                have v3 : wq.cell? ⟨wd, 26, none⟩ = some (.int .u8 (want2 3 : Int)) := Blk.cell HP.out.wld 26
                have v4 : wq.cell? ⟨wd, 27, none⟩ = some (.int .u8 (want2 4 : Int)) := Blk.cell HP.out.wld 27
                have v5 : wq.cell? ⟨wd, 28, none⟩ = some (.int .u8 (want2 5 : Int)) := Blk.cell HP.out.wld 28
                have v6 : wq.cell? ⟨wd, 29, none⟩ = some (.int .u8 (want2 6 : Int)) := Blk.cell HP.out.wld 29
                have v7 : wq.cell? ⟨wd, 30, none⟩ = some (.int .u8 (want2 7 : Int)) := Blk.cell HP.out.wld 30
                have v8 : wq.cell? ⟨wd, 31, none⟩ = some (.int .u8 (want2 8 : Int)) := Blk.cell HP.out.wld 31
                have v9 : wq.cell? ⟨wd, 32, none⟩ = some (.int .u8 (want2 9 : Int)) := Blk.cell HP.out.wld 32
                have v10 : wq.cell? ⟨wd, 33, none⟩ = some (.int .u8 (want2 10 : Int)) := Blk.cell HP.out.wld 33
                have v11 : wq.cell? ⟨wd, 34, none⟩ = some (.int .u8 (want2 11 : Int)) := Blk.cell HP.out.wld 34
                go_wp2_with fail
                refine H1.out.mono ?_; rintro e w9 ⟨rfl, b9⟩
                have HP := Lib.hid (HP.out.kept1 b9)
                have HD := Lib.hid (HD.out.kept1 b9)
                have HG := Lib.hid (Blk.kept1 HG.out b9)
                clear b9 H1 v0 v1 v2 v3 v4 v5 v6 v7 v8 v9 v10 v11
                have HPR := Lib.hid (arr12_blk HP.out.per)
                have HTW := Lib.hid HP.out.wld.wantThere
                have zs := zone_sets wd w9 23 (arr12 f).toList
                obtain ⟨wc, hwc⟩ : ∃ wc, w9.setCells wd 23 (arr12 f).toList = wc := ⟨_, rfl⟩
                have HWL := Lib.hid (HP.out.wld.setWant f)
                rw [hwc] at zs HWL
                have hlo2 := HLO.out
                have hgb := HGB.out
                have HD := Lib.hid (HD.out.kept zs (.inr (by omega)))
                have HG := Lib.hid (Blk.kept HG.out zs (.inr (by omega)))
                have HB := Lib.hid (HP.out.below.trans (zs.below (B := w.heap.size) HP.out.below.size HBOT.out))
                have HFW := Lib.hid HP.out.pers
                have HPU := Lib.hid HW8.out
                have HWC := Lib.hid hwc
                clear zs hwc HP hlo2 hgb
                go_upto_region 33 with (first | (refine wpList_load_mid rfl _ _ rfl pb 0 rfl (arr12 f).toList _ HPR.out Tryz.underlying36 rfl arr12_info ?_) | (refine wpList_store_mid rfl _ _ _ rfl wd 23 (arr12 f) rfl rfl HTW.out arr12_info (by simp [Value.oneCell']) ?_))
                rw [HWC.out]
                clear HWC HPR HTW
                have H2 := Lib.hid (show Calls Tryz.prog 14 #[.pointer (some ⟨wd, 0, none⟩), .pointer (some ⟨d2, 0, none⟩), .agg (arr12 f)] wc (fun e w' => e = .returned (.bool true) ∧ Below wc.heap.size wc w') from by have := has_any (S := S1) f HFW.out HDA.out (by omega) hb4 HW8.out.n wc HWL.out HD.out; rw [HHB.out] at this; exact this)
                have v0 : wc.cell? ⟨wd, 23, none⟩ = some (.int .u8 (f 0 : Int)) := Blk.cell HWL.out 23
                have v1 : wc.cell? ⟨wd, 24, none⟩ = some (.int .u8 (f 1 : Int)) := Blk.cell HWL.out 24
                have v2 : wc.cell? ⟨wd, 25, none⟩ = some (.int .u8 (f 2 : Int)) := Blk.cell HWL.out 25
                have v3 : wc.cell? ⟨wd, 26, none⟩ = some (.int .u8 (f 3 : Int)) := Blk.cell HWL.out 26
                have v4 : wc.cell? ⟨wd, 27, none⟩ = some (.int .u8 (f 4 : Int)) := Blk.cell HWL.out 27
                have v5 : wc.cell? ⟨wd, 28, none⟩ = some (.int .u8 (f 5 : Int)) := Blk.cell HWL.out 28
                have v6 : wc.cell? ⟨wd, 29, none⟩ = some (.int .u8 (f 6 : Int)) := Blk.cell HWL.out 29
                have v7 : wc.cell? ⟨wd, 30, none⟩ = some (.int .u8 (f 7 : Int)) := Blk.cell HWL.out 30
                have v8 : wc.cell? ⟨wd, 31, none⟩ = some (.int .u8 (f 8 : Int)) := Blk.cell HWL.out 31
                have v9 : wc.cell? ⟨wd, 32, none⟩ = some (.int .u8 (f 9 : Int)) := Blk.cell HWL.out 32
                have v10 : wc.cell? ⟨wd, 33, none⟩ = some (.int .u8 (f 10 : Int)) := Blk.cell HWL.out 33
                have v11 : wc.cell? ⟨wd, 34, none⟩ = some (.int .u8 (f 11 : Int)) := Blk.cell HWL.out 34
                go_wp2_with fail
                refine H2.out.mono ?_; rintro e we ⟨rfl, be⟩
                have HWL := Lib.hid (WldAt.kept1 HWL.out be)
                have HD := Lib.hid (HD.out.kept1 be)
                have HG := Lib.hid (Blk.kept1 HG.out be)
                have HB := Lib.hid (bnext HB.out be)
                clear be H2 v0 v1 v2 v3 v4 v5 v6 v7 v8 v9 v10 v11
                have HWR := Lib.hid HWL.out.wantRange
                have hz9 := renew_zone wd we (.pointer (some ⟨d2, 0, none⟩)) (.pointer (some ⟨g2, 0, none⟩)) (arr12 f).toList
                have HWN := Lib.hid (WldAt.renew (d2 := d2) (g2 := g2) HWL.out)
                have HTH := Lib.hid (show World.there ((we.setCell ⟨wd, 9, none⟩ (.pointer (some ⟨d2, 0, none⟩))).setCell ⟨wd, 10, none⟩ (.pointer (some ⟨g2, 0, none⟩))) wd 11 12 from WldAt.homeThere (show WldAt wd b l i m t d2 g2 home2 f _ from Blk.set (Blk.set HWL.out 9 (.pointer (some ⟨d2, 0, none⟩))) 10 (.pointer (some ⟨g2, 0, none⟩))))
                have hlo2 := HLO.out
                have hgb := HGB.out
                have HMN : Hid (LwMem w.heap.size wd d2 lo2 hi2 g2 b l i m t da S1 p1 q1 0 [] f f _) := Lib.hid ⟨HWN.out, HD.out.kept hz9 (.inr (by omega)), Blk.kept HG.out hz9 (.inr (by omega)), HPU.out, HFW.out, HFW.out, HBOT.out, by omega, by omega⟩
                have HBN := Lib.hid (HB.out.trans (hz9.below (B := w.heap.size) HB.out.size HBOT.out))
                obtain ⟨k0, k1, k2, k3, k4, k5, k6, k7, k8, k9, k10⟩ := wldG_cells HWL.out
                have f9 := Blk.frozen HWL.out 9
                have f10 := Blk.frozen HWL.out 10
                clear hz9 HWN HWL HD HG HB HPU k0 k1 k2 k3 k4 k5 k6 k7 k8
                go_upto_region 9 with (first | (refine wpList_load_mid rfl _ _ rfl wd 23 rfl (arr12 f).toList _ HWR.out Tryz.underlying36 rfl arr12_info ?_) | (refine wpList_store_mid rfl _ _ _ rfl wd 11 (arr12 f) rfl rfl HTH.out arr12_info (by simp [Value.oneCell']) ?_))
                go_wp2
                exact ⟨⟨j + 1, at2, d2, lo2, hi2, g2, S1, p1, q1, 0, [], f, f, rfl, by go_num, by omega, hat2, by have := HA8.out; omega, by have := HQ8.out; simp; omega, HMN, HBN⟩, by simp [intOf]; omega⟩
            exact AllReadyH.nil
          exact AllReadyH.nil
      · obtain rfl : j = nf := by omega
        have AL := Lib.hid (alive_any wr (tabOf HT.out HB.out))
        go_wp2_with fail
        refine AL.out.mono ?_; rintro e w9 ⟨rfl, b9⟩
        have HB9 := Lib.hid (bnext HB.out b9)
        go_wp2
        go_ret
        exact ⟨rfl, HB9.out⟩
end Go.Proofs.YtanghmogeiiooaaGreatDoor
