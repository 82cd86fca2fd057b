import Derived.Test.YtanghmogeiiooaaGreatDoorPa49
import Derived.Test.YtanghmogeiiooaaGreatDoorPa50
import Derived.Deep.CutBlock
import Derived.Deep.DeepCutAuto
set_option linter.unusedVariables false
set_option linter.unusedSimpArgs false
set_option linter.constructorNameAsVariable false
/- The walk of JournalPower. -/
namespace Go.Proofs.YtanghmogeiiooaaGreatDoor
set_option linter.unusedVariables false
set_option linter.unusedSimpArgs false
open Go.RowKit

set_option maxRecDepth 100000 in
set_option maxHeartbeats 8000000 in
theorem power_walk (x y z : Nat) (hx : x < 256) (hy : y < 256) (hz : z < 256) (n : Nat) (X : Nat → StepX) (vl : Value) (at' : Nat) (hat : at' < 65536) (KB : List Bool) (kv : Value) (w : World) (h : StepsIn vl n X w) (hkv : RowIn 1 kv KB.length (KB.map Value.bool) w) (ht : Tab w) :
    Calls Tryz.prog 3 #[.agg #[.int .u8 (x : Int), .int .u8 (y : Int), .int .u8 (z : Int)], vl, .agg #[.int .u16 (at' : Int), kv]] w fun e w' => e = .returned (.bool true) ∧ Below w.heap.size w w' := by
  have mixed : Tryz.prog.follows .mixedOrders = true := by kernel_rfl
  obtain ⟨sb, hsb⟩ : ∃ sb, w.heap.size = sb := ⟨_, rfl⟩
  obtain ⟨w1, hw1⟩ : ∃ w1, w.alloc (.cells #[.int .u8 (x : Int), .int .u8 (y : Int), .int .u8 (z : Int)] 22) = w1 := ⟨_, rfl⟩
  obtain ⟨w2, hw2⟩ : ∃ w2, w1.alloc (.cells #[.int .u16 (at' : Int), kv] 27) = w2 := ⟨_, rfl⟩
  have b1 : Below w.heap.size w w1 := by rw [← hw1]; exact balloc1 _ _
  have b2 : Below w1.heap.size w1 w2 := by rw [← hw2]; exact balloc1 _ _
  have z1 : w1.heap.size = sb + 1 := by rw [← hw1, size_alloc, hsb]
  have HZ : Hid (Blk sb #[.int .u8 (x : Int), .int .u8 (y : Int), .int .u8 (z : Int)] 22 w2) := Lib.hid ((by rw [← hw1, ← hsb]; exact Blk.new _ _ _ : Blk sb _ _ w1).kept1 b2)
  have HO : Hid (Blk (sb + 1) #[.int .u16 (at' : Int), kv] 27 w2) := Lib.hid (by rw [← hw2, ← z1]; exact Blk.new _ _ _)
  have HB := Lib.hid (bnext b1 b2)
  have z2 : w2.heap.size = sb + 2 := by rw [← hw2, size_alloc, z1]
  have HX := Lib.hid (h.kept HB.out)
  have MY := Lib.hid fun w h => many_any vl n X w h
  obtain ⟨ad, cap, rfl, n1, n2, h3⟩ := h
  have H3 := Lib.hid h3
  obtain ⟨ka, kc, rfl, k1, k2, k3, k4⟩ := hkv.shape
  have HK := Lib.hid hkv
  have HT := Lib.hid ht
  have HSB := Lib.hid hsb
  have HW1 := Lib.hid hw1
  have HW2 := Lib.hid hw2
  have HZ1 := Lib.hid z1
  have HZ2 := Lib.hid z2
  obtain ⟨b, l, i, m, t, da, L⟩ := lay_mk x y z
  have hok := L.ok
  have hf := L.fit
  have HDA := Lib.hid L.ed
  have hl := hf.hl
  have htop := hf.htop
  have hb4 := hf.hb
  have BG := Lib.hid fun w ht => begun_any x y z hx hy hz L w ht
  have HOK := Lib.hid hok
  have HF := Lib.hid hf
  clear h3 hkv ht hsb hw1 hw2 z1 z2 b1 b2 L hok hf k3 k4
  go_enter Tryz.func3, Tryz.ntmps3
  go_upto_region 1 with fail
  rw [HW1.out]
  try rw [HZ1.out]
  rw [HW2.out]
  try rw [HSB.out]
  go_wp2_with fail
  refine (MY.out _ HX.out).mono ?_; rintro e w3 ⟨bm, rfl, hfew, b3⟩
  have HB3 := Lib.hid (bnext HB.out b3)
  have HZ3 := Lib.hid (HZ.out.kept1 b3)
  have HO3 := Lib.hid (HO.out.kept1 b3)
  have hz3 := b3.size
  clear b3 HB HZ HO MY HX
  have o0 := HO3.out.cell 0
  have o1 := HO3.out.cell 1
  simp only [List.getElem?_toArray, List.getElem?_cons_zero, List.getElem?_cons_succ] at o0 o1
  cases bm with
  | true =>
    go_wp2
    go_ret
    exact ⟨rfl, HB3.out⟩
  | false =>
    by_cases hK : 1000 < KB.length
    · have dK : decide ((1000 : Int) < (KB.length : Int)) = true := decide_eq_true (by omega)
      go_wp2
      go_ret
      exact ⟨rfl, HB3.out⟩
    have dK : decide ((1000 : Int) < (KB.length : Int)) = false := decide_eq_false (by omega)
    have HFEW := Lib.hid (hfew rfl)
    have q0 := HZ3.out.cell 0
    have q1 := HZ3.out.cell 1
    have q2 := HZ3.out.cell 2
    simp only [List.getElem?_toArray, List.getElem?_cons_zero, List.getElem?_cons_succ] at q0 q1 q2
    clear hfew hK
    go_wp2_with fail
    refine (BG.out _ (tabOf HT.out HB3.out)).mono ?_; rintro e w4 ⟨wd, d, lo, hi, g, rfl, hg, b4⟩
    have HB4 := Lib.hid (bnext HB3.out b4)
    have HO4 := Lib.hid (HO3.out.kept1 b4)
    have hbot := hg.bot
    have HG := Lib.hid hg
    clear b4 BG hg HO3 HZ3 q0 q1 q2 o0 o1 HB3
    have r9 : ∀ p : BelowP w4, p.to.cell? ⟨wd, 9, none⟩ = some (.pointer (some ⟨d, 0, none⟩)) := fun p => (HG.out.wld.kept1 p.h).cell 9
    have r0 : ∀ p : BelowP w4, p.to.cell? ⟨sb + 1, 0, none⟩ = some (.int .u16 (at' : Int)) := fun p => (HO4.out.kept1 p.h).cell 0
    have hwa : IntKind.i64.wrap (at' : Int) = (at' : Int) := IntWalk.i64_in _ (by omega)
    go_wp2
    refine wp_region_tail_below 7 mixed (by kernel_rfl) ?_
    simp only [List.take_succ_cons, List.take_zero, List.drop_succ_cons, List.drop_zero]
    repeat (go_big_quiet_step (fail))
    refine wpQuiet_nil ?_
    intro w0q hw'
    obtain ⟨⟨wq, bq⟩, hw''⟩ := hw'
    have hw2 : wq = w0q := hw''.symm
    clear hw''
    subst hw2
    have HO5 := Lib.hid (HO4.out.kept1 bq)
    have HB5 := Lib.hid (bnext HB4.out bq)
    have AR := Lib.hid (arm_any (at' : Int) ⟨by omega, by omega⟩ wq (HG.out.dev.kept1 bq))
    have HW5 := Lib.hid (HG.out.wld.kept1 bq)
    have HL5 := Lib.hid (Blk.kept1 HG.out.log bq)
    have p1 := HG.out.o1
    have p2 := HG.out.o2
    clear bq r9 r0 HO4 HB4 HG
    go_wp2_with fail
    refine AR.out.mono ?_; rintro e w6 ⟨rfl, hd6, z6⟩
    have hlo : sb + 2 ≤ wd := by have := HZ2.out; omega
    have hsw : w.heap.size = sb := HSB.out
    have HW6 := Lib.hid (Blk.kept HW5.out z6 (.inl p1))
    have HL6 := Lib.hid (Blk.kept HL5.out z6 (.inr p2))
    have HO6 := Lib.hid (HO5.out.kept z6 (.inl (by omega)))
    have HB6 := Lib.hid (HB5.out.trans (z6.below (B := w.heap.size) (by have := HB5.out.size; omega) (by omega)))
    have HM6 : Hid (LwMem w.heap.size wd d lo hi g b l i m t da ((beganS b l).armed (at' : Int)) 0 1 0 [] (fun _ => 0) (fun _ => 0) w6) := Lib.hid
      ⟨HW6.out, hd6, by rw [show (0 + 0) % (l - 1) = 0 from Nat.zero_mod _]; exact HL6.out, (began_wd HF.out).armed hl _, zero_lt, zero_lt, by omega, p1, p2⟩
    have hgs := Blk.lt HL6.out
    obtain ⟨pb, hpb⟩ : ∃ pb, w6.heap.size = pb := ⟨_, rfl⟩
    have HPB := Lib.hid hpb
    have HWR := Lib.hid HM6.out.wld.wantRange
    clear AR HW5 HL5 HO5 HB5 hd6 z6 HW6 HL6 hwa
    obtain ⟨w8, hw8⟩ : ∃ w8, w6.alloc (.cells #[.int .u8 0, .int .u8 0, .int .u8 0, .int .u8 0, .int .u8 0, .int .u8 0, .int .u8 0, .int .u8 0, .int .u8 0, .int .u8 0, .int .u8 0, .int .u8 0] 36) = w8 := ⟨_, rfl⟩
    have z0 : Below w6.heap.size w6 w8 := by rw [← hw8]; exact balloc1 _ _
    have k8 : Blk pb (arr12 fun _ => 0) 36 w8 := by rw [← hw8, ← hpb]; exact Blk.new _ _ _
    have HM8 := Lib.hid (HM6.out.kept1 z0)
    have HO8 := Lib.hid (HO6.out.kept1 z0)
    have HB8 := Lib.hid (bnext HB6.out z0)
    have HP8 := Lib.hid k8
    have hgp : g < pb := by rw [← hpb]; exact hgs
    have HW8' := Lib.hid hw8
    clear z0 k8 hw8
    go_upto_block 0 with (refine wpList_load_mid rfl _ _ rfl wd 23 rfl (arr12 fun _ => 0).toList _ HWR.out Tryz.underlying36 rfl arr12_info ?_)
    rw [HW8'.out]
    try rw [HPB.out]
    clear HM6 HO6 HB6 HWR HPB hpb HW8'
    go_cut [10] (fun _ wx => ∃ (S : St) (home want perhaps : Nat → Nat) (wz : World), wz = wx ∧ Hid (PwMem w wd d lo hi g b l i m t da sb pb at' (.slice ka KB.length kc) 40 5000 home want perhaps S wz))
    case first =>
      go_wp2_with fail
      go_loopw [10] (fun p wr => ∃ (k : Nat) (S : St) (p' q' used : Nat) (ts : List Tx) (home want : Nat → Nat), p = .int .i64 (k : Int) ∧ k ≤ n ∧ S.acts ≤ 1000 + 80 * k ∧ q' + ts.length ≤ 1 + k ∧ Hid (LwMem w.heap.size wd d lo hi g b l i m t da S p' q' used ts home want wr) ∧ Hid (Blk pb (arr12 want) 36 wr) ∧ Hid (Blk (sb + 1) #[.int .u16 (at' : Int), .slice ka KB.length kc] 27 wr) ∧ Hid (Below w.heap.size w wr)) (fun p _ => n - (intOf p).toNat)
      case atStart => exact ⟨0, _, 0, 1, 0, [], _, _, rfl, Nat.zero_le _, by show (beganS b l).acts ≤ _; rw [began_acts]; omega, Nat.le_refl _, HM8, HP8, HO8, HB8⟩
      case round =>
        clear HM8 HP8 HO8 HB8
        obtain ⟨k, S, p', q', used, ts, home, want, rfl, hk, hac, hqt, HM, HP, HO, HB⟩ := hrel
        by_cases hlt : k < n
        · have hn30 := HFEW.out.1
          obtain ⟨gx, o, rfl, hgx, VC, VR, hX⟩ := H3.out (by omega)
          obtain ⟨hin, hc⟩ := hX k hlt
          have olh := HM.out.dev.lohi
          have hbz : ∀ w', LawZ lo hi g wd wr w' → Below w.heap.size w w' := fun w' z => HB.out.trans (z.below HB.out.size (by omega) (by omega) (by omega))
          have ST := Lib.hid (stepw_any HOK.out HF.out HDA.out (by omega) (by omega) (X k) (VC k) (VR k) wr HM.out (fun w' z => hin.kept (hbz w' z)) (fun w' z => tabOf HT.out (hbz w' z)))
          have HBZ := Lib.hid hbz
          have HWT := Lib.hid HM.out.bw
          have HN0 := Lib.hid HM.out.pure.n
          clear hX H3 hin hbz
          generalize X k = x at *
          generalize VC k = vc at *
          generalize VR k = vr at *
          obtain ⟨xk, xc, xr, xf, xd⟩ := x
          dsimp only [stepV] at *
          have c0 : wr.cell? ⟨gx, o + k * 5, none⟩ = some (.int .u8 (xk : Int)) := (HB.out.cell (p := ⟨gx, o + (k * 5 + 0), none⟩) hgx).trans (hc 0 _ rfl)
          have c1 : wr.cell? ⟨gx, o + k * 5 + 1, none⟩ = some vc := (HB.out.cell (p := ⟨gx, o + (k * 5 + 1), none⟩) hgx).trans (hc 1 _ rfl)
          have c2 : wr.cell? ⟨gx, o + k * 5 + 2, none⟩ = some vr := (HB.out.cell (p := ⟨gx, o + (k * 5 + 2), none⟩) hgx).trans (hc 2 _ rfl)
          have c3 : wr.cell? ⟨gx, o + k * 5 + 3, none⟩ = some (.int .u8 (xf : Int)) := (HB.out.cell (p := ⟨gx, o + (k * 5 + 3), none⟩) hgx).trans (hc 3 _ rfl)
          have c4 : wr.cell? ⟨gx, o + k * 5 + 4, none⟩ = some (.bool xd) := (HB.out.cell (p := ⟨gx, o + (k * 5 + 4), none⟩) hgx).trans (hc 4 _ rfl)
          clear hc
          go_wp2_with fail
          refine ST.out.mono ?_; rintro e w2 ⟨zz, c, r, rfl, hs⟩
          have hb2 := HBZ.out w2 zz
          have HO2 := Lib.hid (zz.blk HO.out (.inl (by omega)) (by omega) (by omega))
          have HP2 := Lib.hid (zz.blk HP.out (.inr (by have := HM.out.dev.lohi; omega)) (by omega) (by omega))
          have hpl := Blk.lt HP2.out
          have NEW := Blk.new (arr12 fun _ => 0) 36 w2
          have bn := balloc1 w2 (.cells (arr12 fun _ => 0) 36)
          have HBW := Lib.hid hb2
          have HAC := Lib.hid hac
          have HQT := Lib.hid hqt
          clear c0 c1 c2 c3 c4 ST HBZ HM HP HO HB zz hb2
          rcases hs with ⟨rfl, S1, p1', q1', u1, ts1, home1, a1, a2, a3, a4⟩ | ⟨rfl, a0, hr256, S1, home1, a1, a2, a3, a4⟩
          · have HM2 := Lib.hid a4
            clear a4
            go_wp2_with (first | (refine wpList_store_nextZ rfl _ _ rfl r rfl rfl _ rfl NEW ?_; intro w3 k3 z3; have HR3 := Lib.hid (arr12_blk k3); have HP3 := Lib.hid ((HP2.out.kept1 bn).kept z3 (.inl (by omega))); have HO3 := Lib.hid ((HO2.out.kept1 bn).kept z3 (.inl (by omega))); have HM3 := Lib.hid ((HM2.out.kept1 bn).keptZ z3 (by omega)); have HB3 := Lib.hid ((bnext HBW.out bn).trans (z3.below (B := w.heap.size) (by rw [size_alloc]; omega) (by omega))); have hs3 := z3.size; rw [size_alloc] at hs3) | (refine wpList_load_mid rfl _ _ rfl w2.heap.size 0 rfl (arr12 r).toList _ HR3.out Tryz.underlying36 rfl arr12_info ?_) | (refine wpList_store_nextZ rfl _ _ rfl r rfl rfl _ rfl HP3.out ?_; intro w4 k4 z4; have HP4 := Lib.hid k4; have HO4 := Lib.hid (HO3.out.kept z4 (.inl (by omega))); have HM4 := Lib.hid (HM3.out.keptZ z4 (by omega)); have HB4 := Lib.hid (HB3.out.trans (z4.below (B := w.heap.size) (by omega) (by omega))); have HW4 := Lib.hid HM4.out.wld.wantRange) | (refine wpList_load_mid rfl _ _ rfl wd 23 rfl (arr12 r).toList _ HW4.out Tryz.underlying36 rfl arr12_info ?_) | (refine wpList_store_nextZ rfl _ _ rfl r rfl rfl _ rfl HP4.out ?_; intro w5 k5 z5; have HP5 := Lib.hid k5; have HO5 := Lib.hid (HO4.out.kept z5 (.inl (by omega))); have HM5 := Lib.hid (HM4.out.keptZ z5 (by omega)); have HB5 := Lib.hid (HB4.out.trans (z5.below (B := w.heap.size) (by have := z4.size; omega) (by omega)))))
            exact ⟨⟨k + 1, S1, p1', q1', u1, ts1, home1, r, by go_num, by omega, by have := HAC.out; omega, by have := HQT.out; omega, HM5, HP5, HO5, HB5⟩, by simp [intOf]; omega⟩
          · go_wp2_with (first | (refine wpList_store_nextZ rfl _ _ rfl r rfl rfl _ rfl NEW ?_; intro w3 k3 z3; have HR3 := Lib.hid (arr12_blk k3); have HP3 := Lib.hid ((HP2.out.kept1 bn).kept z3 (.inl (by omega))); have HO3 := Lib.hid ((HO2.out.kept1 bn).kept z3 (.inl (by omega))); have HB3 := Lib.hid ((bnext HBW.out bn).trans (z3.below (B := w.heap.size) (by rw [size_alloc]; omega) (by omega))); have HD3 := Lib.hid ((a2.kept1 bn).kept z3 (.inl (by omega))); have HW3 := Lib.hid (Blk.kept (Blk.kept1 a3 bn) z3 (.inl (by omega))); have hs3 := z3.size; rw [size_alloc] at hs3) | (refine wpList_load_mid rfl _ _ rfl w2.heap.size 0 rfl (arr12 r).toList _ HR3.out Tryz.underlying36 rfl arr12_info ?_) | (refine wpList_store_nextZ rfl _ _ rfl r rfl rfl _ rfl HP3.out ?_; intro w4 k4 z4))
            go_meet
            have hww : ∀ k, want k < 256 := HWT.out
            exact ⟨S1, home1, want, r, _, rfl, Lib.hid ⟨HD3.out.kept z4 (.inl (by omega)), Blk.kept HW3.out z4 (.inl (by omega)), k4, HO3.out.kept z4 (.inl (by omega)), HB3.out.trans (z4.below (B := w.heap.size) (by omega) (by omega)), (by have := HN0.out; omega), by have := HAC.out; omega, hww, hr256, fun S'' hL => by have := HQT.out; exact (a4 S'' hL).imp (tells_to (by omega)) (tells_to (by omega))⟩⟩
        · obtain rfl : k = n := by omega
          go_wp2
          go_meet
          exact ⟨S, home, want, want, _, rfl, Lib.hid ⟨HM.out.dev, HM.out.wld, HP.out, HO.out, HB.out, HM.out.pure.n, by have := HFEW.out.1; omega, HM.out.bw, HM.out.bw, fun S'' hL => .inl (tells_to (by have := HFEW.out.1; omega) (HM.out.pure.fails HF.out hL))⟩⟩
    case rest =>
      clear HM8 HO8 HP8 HB8 H3
      obtain ⟨S, home, want, perhaps, wx, hwx, HP⟩ := hcut
      subst hwx
      have HKx := Lib.hid (HK.out.kept HP.out.below)
      go_wp2
      have HKD : Hid (∀ W, Below wx.heap.size wx W → W.cell? ⟨wd, 9, none⟩ = some (.pointer (some ⟨d, 0, none⟩)) ∧ W.cell? ⟨sb + 1, 1, none⟩ = some (.slice ka KB.length kc)) := Lib.hid fun W b9 => ⟨(HP.out.wld.kept1 b9).cell 9, (HP.out.opt.kept1 b9).cell 1⟩
      have HP0 := HP
      have hqg : Below wx.heap.size wx wx.drew := (Below.refl _ _).drew
      have HP := Lib.hid (HP.out.kept1 hqg)
      have HKx := Lib.hid (HKx.out.kept hqg)
      refine wp_region_held_drew (S := fun w9 => w9.cell? ⟨wd, 9, none⟩ = some (.pointer (some ⟨d, 0, none⟩)) ∧ w9.cell? ⟨sb + 1, 1, none⟩ = some (.slice ka KB.length kc)) mixed (HKD.out _ hqg) (fun hHeld => ?_)
      generalize wx.drew = wg at *
      refine wpAnyH_take (i := 0) (oi := _) (v := ?vpv1001) rfl (by kernel_rfl) (by kernel_rfl) (by kernel_rfl) (fun _ _ _ h => h) (Or.inl ⟨by kernel_rfl, ?hypv1001⟩) hHeld ?restpv1001
      case hypv1001 => (intro w9 hSw; clear hSw; go_simp; try with_reducible rfl)
      try simp only [Act.put, List.getElem_toArray, List.getElem_cons_zero, List.getElem_cons_succ, List.setIfInBounds_toArray, List.set_cons_zero, List.set_cons_succ]
      refine wpAnyH_take (i := 1) (oi := _) (v := ?vpv1002) rfl (by kernel_rfl) (by kernel_rfl) (by kernel_rfl) (fun _ _ _ h => h) (Or.inl ⟨by kernel_rfl, ?hypv1002⟩) hHeld ?restpv1002
      case hypv1002 => (intro w9 hSw; clear hSw; go_simp; try with_reducible rfl)
      try simp only [Act.put, List.getElem_toArray, List.getElem_cons_zero, List.getElem_cons_succ, List.setIfInBounds_toArray, List.set_cons_zero, List.set_cons_succ]
      refine wpAnyH_take (i := 2) (oi := _) (v := ?vpv1003) rfl (by kernel_rfl) (by kernel_rfl) (by kernel_rfl) (fun _ _ _ h => h) (Or.inl ⟨by kernel_rfl, ?hypv1003⟩) hHeld ?restpv1003
      case hypv1003 => (intro w9 hSw; clear hSw; go_simp; try with_reducible rfl)
      try simp only [Act.put, List.getElem_toArray, List.getElem_cons_zero, List.getElem_cons_succ, List.setIfInBounds_toArray, List.set_cons_zero, List.set_cons_succ]
      refine wpAnyH_take (i := 3) (oi := _) (v := ?vpv1004) rfl (by kernel_rfl) (by kernel_rfl) (by kernel_rfl) (fun _ _ _ h => h) (Or.inl ⟨by kernel_rfl, ?hypv1004⟩) hHeld ?restpv1004
      case hypv1004 => (intro w9 hSw; obtain ⟨e9, f9⟩ := hSw; go_simp; try with_reducible rfl)
      try simp only [Act.put, List.getElem_toArray, List.getElem_cons_zero, List.getElem_cons_succ, List.setIfInBounds_toArray, List.set_cons_zero, List.set_cons_succ]
      refine wpAnyH_take (i := 4) (oi := _) (v := ?vpv1005) rfl (by kernel_rfl) (by kernel_rfl) (by kernel_rfl) (fun _ _ _ h => h) (Or.inl ⟨by kernel_rfl, ?hypv1005⟩) hHeld ?restpv1005
      case hypv1005 => (intro w9 hSw; clear hSw; go_simp; try with_reducible rfl)
      try simp only [Act.put, List.getElem_toArray, List.getElem_cons_zero, List.getElem_cons_succ, List.setIfInBounds_toArray, List.set_cons_zero, List.set_cons_succ]
      refine wpAnyH_take (i := 5) (oi := _) (v := ?vpv1006) rfl (by kernel_rfl) (by kernel_rfl) (by kernel_rfl) (fun _ _ _ h => h) (Or.inl ⟨by kernel_rfl, ?hypv1006⟩) hHeld ?restpv1006
      case hypv1006 => (intro w9 hSw; obtain ⟨e9, f9⟩ := hSw; go_simp; try with_reducible rfl)
      try simp only [Act.put, List.getElem_toArray, List.getElem_cons_zero, List.getElem_cons_succ, List.setIfInBounds_toArray, List.set_cons_zero, List.set_cons_succ]
      refine wpAnyH_ready (rs := [6]) (by kernel_rfl) (by simp) ?_
      refine AllReadyH.cons (o := _) rfl (fun K hK => ?_) ?_
      · go_simp
        refine (crash_any KB (.slice ka KB.length kc) _ HP.out.dev HKx.out).mono ?_; rintro e w1007 ⟨rfl, b1007⟩
        dsimp only
        have q1007 := bnext hqg b1007
        have HP := Lib.hid (HP.out.kept1 b1007)
        have HKx := Lib.hid (HKx.out.kept b1007)
        refine hK.out _ _ (HKD.out _ q1007) (fun hHeld3 => ?_)
        clear hK K hHeld
        have hHeld := hHeld3
        clear hHeld3
        try simp only [Act.put, List.getElem_toArray, List.getElem_cons_zero, List.getElem_cons_succ, List.setIfInBounds_toArray, List.set_cons_zero, List.set_cons_succ]
        refine wpAnyH_ready (rs := [7]) (by kernel_rfl) (by simp) ?_
        refine AllReadyH.cons (o := _) rfl (fun K hK => ?_) ?_
        · go_simp
          have hlow := q1007.size
          obtain ⟨lo2, hlo2⟩ : ∃ q9, w1007.heap.size = q9 := ⟨_, rfl⟩
          refine (open_crash KB _ HP0.out.dev _).mono ?_; rintro e w7 ⟨d2, rfl, hd7, b7⟩
          dsimp only
          have q7 := bnext q1007 b7
          have HPq := HP
          have HP := Lib.hid (HP.out.kept1 b7)
          have HB7 := Lib.hid b7
          rw [hlo2] at hd7
          have HD7 := Lib.hid hd7
          have HLQ := Lib.hid hlo2
          clear hd7 b7 hlow hlo2
          refine hK.out _ _ (HKD.out _ q7) (fun hHeld3 => ?_)
          clear hK K hHeld
          have hHeld := hHeld3
          clear hHeld3
          try simp only [Act.put, List.getElem_toArray, List.getElem_cons_zero, List.getElem_cons_succ, List.setIfInBounds_toArray, List.set_cons_zero, List.set_cons_succ]
          refine wpAnyH_take (i := 8) (oi := _) (v := ?vpv1009) rfl (by kernel_rfl) (by kernel_rfl) (by kernel_rfl) (fun _ _ _ h => h) (Or.inl ⟨by kernel_rfl, ?hypv1009⟩) hHeld ?restpv1009
          case hypv1009 => (intro w9 hSw; clear hSw; go_simp; try with_reducible rfl)
          try simp only [Act.put, List.getElem_toArray, List.getElem_cons_zero, List.getElem_cons_succ, List.setIfInBounds_toArray, List.set_cons_zero, List.set_cons_succ]
          refine wpAnyH_take (i := 9) (oi := _) (v := ?vpv1010) rfl (by kernel_rfl) (by kernel_rfl) (by kernel_rfl) (fun _ _ _ h => h) (Or.inl ⟨by kernel_rfl, ?hypv1010⟩) hHeld ?restpv1010
          case hypv1010 => (intro w9 hSw; clear hSw; go_simp; try with_reducible rfl)
          try simp only [Act.put, List.getElem_toArray, List.getElem_cons_zero, List.getElem_cons_succ, List.setIfInBounds_toArray, List.set_cons_zero, List.set_cons_succ]
          refine wpAnyH_take (i := 10) (oi := _) (v := ?vpv1011) rfl (by kernel_rfl) (by kernel_rfl) (by kernel_rfl) (fun _ _ _ h => h) (Or.inl ⟨by kernel_rfl, ?hypv1011⟩) hHeld ?restpv1011
          case hypv1011 => (intro w9 hSw; clear hSw; go_simp; try with_reducible rfl)
          try simp only [Act.put, List.getElem_toArray, List.getElem_cons_zero, List.getElem_cons_succ, List.setIfInBounds_toArray, List.set_cons_zero, List.set_cons_succ]
          refine wpAnyH_take (i := 11) (oi := _) (v := ?vpv1012) rfl (by kernel_rfl) (by kernel_rfl) (by kernel_rfl) (fun _ _ _ h => h) (Or.inl ⟨by kernel_rfl, ?hypv1012⟩) hHeld ?restpv1012
          case hypv1012 => (intro w9 hSw; clear hSw; go_simp; try with_reducible rfl)
          try simp only [Act.put, List.getElem_toArray, List.getElem_cons_zero, List.getElem_cons_succ, List.setIfInBounds_toArray, List.set_cons_zero, List.set_cons_succ]
          refine wpAnyH_take (i := 12) (oi := _) (v := ?vpv1013) rfl (by kernel_rfl) (by kernel_rfl) (by kernel_rfl) (fun _ _ _ h => h) (Or.inl ⟨by kernel_rfl, ?hypv1013⟩) hHeld ?restpv1013
          case hypv1013 => (intro w9 hSw; clear hSw; go_simp; try with_reducible rfl)
          try simp only [Act.put, List.getElem_toArray, List.getElem_cons_zero, List.getElem_cons_succ, List.setIfInBounds_toArray, List.set_cons_zero, List.set_cons_succ]
          refine ⟨by kernel_rfl, ?_⟩
          clear hHeld
          have HL := Lib.hid (left_crash HP0.out.dev.ok KB)
          obtain ⟨f, hff, hor, HTL⟩ : ∃ f : Nat → Nat, (∀ k, f k < 256) ∧ (f = want ∨ f = perhaps) ∧ Hid (Tells (freshSt S.n (blkOf 128 (crashT S KB))) l b da 40 f) := by
            rcases HP0.out.tells _ HL.out with h | h
            · exact ⟨want, HP0.out.wants, .inl rfl, Lib.hid h⟩
            · exact ⟨perhaps, HP0.out.pers, .inr rfl, Lib.hid h⟩
          have RP := Lib.hid fun w hd ht => replay_tells HOK.out HF.out (d := d2) (lo := lo2) (hi := w7.heap.size) (S := freshSt S.n (blkOf 128 (crashT S KB))) HP0.out.n (fresh_clean _ _) (by show (-1 : Int) < 0; omega) (by show (0 : Nat) ≤ _; omega) (fun _ => rfl) (by omega) HTL.out w hd ht
          have HZ7 := HB7
          have HP7 := HP
          have HPq0 := HPq
          obtain ⟨k0, k1, k2, k3, k4, k5, k6, k7, k8, k9, k10⟩ := wldG_cells HP7.out.wld
          clear HL HTL HPq HP HKx HP0
          go_wp2_with fail
          refine (RP.out _ HD7.out (tabOf HT.out HP7.out.below)).mono ?_; rintro e w8 ⟨ax, nx, cx, S1, p', q', rfl, hd8, z8, hl8, ha8, hq8, hp8, hw8⟩
          have hlo2 := HLQ.out
          obtain ⟨hi2, hhi2⟩ : ∃ x, w7.heap.size = x := ⟨_, rfl⟩
          have HLO : Hid (w.heap.size ≤ lo2 ∧ wd < lo2) := Lib.hid (by have h1 := HPq0.out.below.size; have h2 := Blk.lt HPq0.out.wld; omega)
          rw [hhi2] at hd8 z8
          have bz8 : Below lo2 w7 w8 := z8.below (by have := HZ7.out.size; omega) (Nat.le_refl _)
          have HB78 := HZ7.out.trans (by rw [hlo2]; exact bz8)
          have HP := Lib.hid (HPq0.out.kept1 HB78)
          have HD := Lib.hid hd8
          have HW8 := Lib.hid hw8
          have HPD := Lib.hid hp8
          have hac8 : S1.acts ≤ 5000 := by have : (freshSt S.n (blkOf 128 (crashT S KB))).acts = 0 := rfl; omega
          have HW23 := Lib.hid HP.out.wld.wantRange
          have HPR := Lib.hid (arr12_blk HP.out.per)
          have H1 := has_any (S := S1) want HP.out.wants HDA.out (by omega) hb4 hw8.n w8 HP.out.wld hd8
          clear hd8 z8 bz8 HB78 HZ7 HD7 HP7 RP HPq0 k0 k1 k2 k3 k4 k5 k6 k7 k8 k9 k10
          cases hb1 : hasB S1 da want with
          | true =>
            rw [hb1] at H1
            have H1 := Lib.hid H1
            clear hb1
            have v0 : w8.cell? ⟨wd, 23, none⟩ = some (.int .u8 (want 0 : Int)) := Blk.cell HP.out.wld 23
            have v1 : w8.cell? ⟨wd, 24, none⟩ = some (.int .u8 (want 1 : Int)) := Blk.cell HP.out.wld 24
            have v2 : w8.cell? ⟨wd, 25, none⟩ = some (.int .u8 (want 2 : Int)) := Blk.cell HP.out.wld 25
            have v3 : w8.cell? ⟨wd, 26, none⟩ = some (.int .u8 (want 3 : Int)) := Blk.cell HP.out.wld 26
            have v4 : w8.cell? ⟨wd, 27, none⟩ = some (.int .u8 (want 4 : Int)) := Blk.cell HP.out.wld 27
            have v5 : w8.cell? ⟨wd, 28, none⟩ = some (.int .u8 (want 5 : Int)) := Blk.cell HP.out.wld 28
            have v6 : w8.cell? ⟨wd, 29, none⟩ = some (.int .u8 (want 6 : Int)) := Blk.cell HP.out.wld 29
            have v7 : w8.cell? ⟨wd, 30, none⟩ = some (.int .u8 (want 7 : Int)) := Blk.cell HP.out.wld 30
            have v8 : w8.cell? ⟨wd, 31, none⟩ = some (.int .u8 (want 8 : Int)) := Blk.cell HP.out.wld 31
            have v9 : w8.cell? ⟨wd, 32, none⟩ = some (.int .u8 (want 9 : Int)) := Blk.cell HP.out.wld 32
            have v10 : w8.cell? ⟨wd, 33, none⟩ = some (.int .u8 (want 10 : Int)) := Blk.cell HP.out.wld 33
            have v11 : w8.cell? ⟨wd, 34, none⟩ = some (.int .u8 (want 11 : Int)) := Blk.cell HP.out.wld 34
            go_wp2_with fail
            refine H1.out.mono ?_; rintro e w9 ⟨rfl, b9⟩
            have HP := Lib.hid (HP.out.kept1 b9)
            have HD := Lib.hid (HD.out.kept1 b9)
            clear b9 H1 HW23 HPR v0 v1 v2 v3 v4 v5 v6 v7 v8 v9 v10 v11
            have AC := Lib.hid fun w hd => acts_below (d := d2) (S := S1) (lo := lo2) (hi := hi2) w hd
            go_wp2_with fail
            refine (AC.out _ HD.out).mono ?_; rintro e wa ⟨rfl, ba⟩
            have HP := Lib.hid (HP.out.kept1 ba)
            have HD := Lib.hid (HD.out.kept1 ba)
            clear ba
            obtain ⟨k0, k1, k2, k3, k4, k5, k6, k7, k8, k9, k10⟩ := wldG_cells HP.out.wld
            go_wp2_with fail
            refine (jreplay_empty d2 lo2 hi2 b l i m t HOK.out HW8.out.n _ HD.out (tabOf HT.out HP.out.below) ([], 0) (HW8.out.log.is hl) rfl).mono ?_; rintro e wb ⟨rfl, bb⟩
            have HP := Lib.hid (HP.out.kept1 bb)
            have HD := Lib.hid (HD.out.kept1 bb)
            clear bb k0 k1 k2 k3 k4 k5 k6 k7 k8 k9 k10
            obtain ⟨k0, k1, k2, k3, k4, k5, k6, k7, k8, k9, k10⟩ := wldG_cells HP.out.wld
            have hib : hi2 ≤ wb.heap.size := HD.out.top
            go_wp2_with fail
            refine (open_inv d2 lo2 hi2 b l i m t HOK.out HW8.out.n HW8.out.log _ HD.out (tabOf HT.out HP.out.below)).mono ?_; rintro e wt ⟨g2, rfl, hg2, hlg, bt⟩
            have HP := Lib.hid (HP.out.kept1 bt)
            have HD := Lib.hid (HD.out.kept1 bt)
            have HG : Hid (LogAt g2 d2 b l i 1 (1 + l) m (1 + l + m) t (1 + l + m + t) (((p' + 0) % (l - 1) : Nat) : Int) ((l - 1 - 0 : Nat) : Int) (q' + 0) 0 wt) := Lib.hid hlg
            have HGB : Hid (hi2 ≤ g2 ∧ lo2 ≤ g2) := Lib.hid (by have := HD.out.lohi; omega)
            clear bt k0 k1 k2 k3 k4 k5 k6 k7 k8 k9 k10 hlg hg2 hib
            obtain ⟨lf, hlf⟩ : ∃ lf : Int, ((l - 1 - 0 : Nat) : Int) = lf := ⟨_, rfl⟩
            obtain ⟨dz, hdz⟩ : ∃ dz : Int, 1 + (l : Int) + (m : Int) + (t : Int) = dz := ⟨_, rfl⟩
            have hdz0 : dz = ((da + 0 : Nat) : Int) := by have := HDA.out; omega
            have HDZ8 := Lib.hid hdz
            have tq : (lf == (l : Int) - 1) = true := by rw [beq_iff_eq]; omega
            have hwl : IntKind.i64.wrap ((l : Int) - 1) = (l : Int) - 1 := IntWalk.i64_in _ (by omega)
            have na : ((S1.acts : Int) == (S1.acts : Int)) = true := by simp
            have RM := Lib.hid fun W (h : LogAt g2 d2 b l i 1 (1 + l) m (1 + l + m) t (1 + l + m + t) (((p' + 0) % (l - 1) : Nat) : Int) ((l - 1 - 0 : Nat) : Int) (q' + 0) 0 W) => (by have := logroom_below h; rw [hlf] at this; exact this : Calls Tryz.prog 17 #[.pointer (some ⟨g2, 0, none⟩)] W fun e w' => e = .returned (.int .i64 lf) ∧ Below W.heap.size W w')
            have PE := Lib.hid fun W hd => pending_any (d := d2) (lo := lo2) (hi := hi2) (S := S1) W hd
            have PN := Lib.hid (pends_none HPD.out)
            have FI := Lib.hid fun W => (fill_any 9 (by omega) W : Calls Tryz.prog 20 #[.int .u8 9] W fun e w' => e = .returned (.string (rep 9)) ∧ Below W.heap.size W w')
            have HCH : Hid (∀ g9 W, Blk g9 #[.int .i64 dz, .string (rep 9)] 61 W → ChgsIn (.slice (some ⟨g9, 0, none⟩) 1 1) (mkL da [rep 9]) W) := Lib.hid fun g9 W h => by
              rw [hdz0] at h; exact chg_at h
            have CM := Lib.hid fun va W hd hlg hc ht => commit_one HOK.out HF.out (d := d2) (lo := lo2) (hi := hi2) (g := g2) (p := p') (q := q') hl8 (by omega) (by omega) HW8.out va W hd HGB.out.1 hlg hc ht
            have AL := Lib.hid fun W ht => alive_any W ht
            have HKC : Hid (∀ W, Below wt.heap.size wt W → W.cell? ⟨wd, 1, none⟩ = some (.int .i64 (l : Int)) ∧ W.cell? ⟨wd, 8, none⟩ = some (.int .i64 dz)) := Lib.hid fun W b9 => ⟨(HP.out.wld.kept1 b9).cell 1, wld8 (HP.out.wld.kept1 b9) HDZ8.out⟩
            clear hlf hdz hdz0
            go_wp2
            have hqe : Below wt.heap.size wt wt.drew := (Below.refl _ _).drew
            have HP := Lib.hid (HP.out.kept1 hqe)
            have HD := Lib.hid (HD.out.kept1 hqe)
            have HG := Lib.hid (Blk.kept1 HG.out hqe)
            refine wp_region_held_drew (S := fun w9 => w9.cell? ⟨wd, 1, none⟩ = some (.int .i64 (l : Int)) ∧ w9.cell? ⟨wd, 8, none⟩ = some (.int .i64 dz)) mixed (HKC.out _ hqe) (fun hHeld => ?_)
            generalize wt.drew = we at *
            refine wpAnyH_take (i := 0) (oi := _) (v := ?vpw1) rfl (by kernel_rfl) (by kernel_rfl) (by kernel_rfl) (fun _ _ _ h => h) (Or.inl ⟨by kernel_rfl, ?hypw1⟩) hHeld ?restpw1
            case hypw1 => (intro w9 hSw; clear hSw; go_simp; try with_reducible rfl)
            try simp only [Act.put, List.getElem_toArray, List.getElem_cons_zero, List.getElem_cons_succ, List.setIfInBounds_toArray, List.set_cons_zero, List.set_cons_succ]
            refine wpAnyH_take (i := 1) (oi := _) (v := ?vpw2) rfl (by kernel_rfl) (by kernel_rfl) (by kernel_rfl) (fun _ _ _ h => h) (Or.inl ⟨by kernel_rfl, ?hypw2⟩) hHeld ?restpw2
            case hypw2 => (intro w9 hSw; clear hSw; go_simp; try with_reducible rfl)
            try simp only [Act.put, List.getElem_toArray, List.getElem_cons_zero, List.getElem_cons_succ, List.setIfInBounds_toArray, List.set_cons_zero, List.set_cons_succ]
            refine wpAnyH_take (i := 2) (oi := _) (v := ?vpw3) rfl (by kernel_rfl) (by kernel_rfl) (by kernel_rfl) (fun _ _ _ h => h) (Or.inl ⟨by kernel_rfl, ?hypw3⟩) hHeld ?restpw3
            case hypw3 => (intro w9 hSw; clear hSw; go_simp; try with_reducible rfl)
            try simp only [Act.put, List.getElem_toArray, List.getElem_cons_zero, List.getElem_cons_succ, List.setIfInBounds_toArray, List.set_cons_zero, List.set_cons_succ]
            refine wpAnyH_take (i := 3) (oi := _) (v := ?vpw4) rfl (by kernel_rfl) (by kernel_rfl) (by kernel_rfl) (fun _ _ _ h => h) (Or.inl ⟨by kernel_rfl, ?hypw4⟩) hHeld ?restpw4
            case hypw4 => (intro w9 hSw; clear hSw; go_simp; try with_reducible rfl)
            try simp only [Act.put, List.getElem_toArray, List.getElem_cons_zero, List.getElem_cons_succ, List.setIfInBounds_toArray, List.set_cons_zero, List.set_cons_succ]
            refine wpAnyH_take (i := 4) (oi := _) (v := ?vpw5) rfl (by kernel_rfl) (by kernel_rfl) (by kernel_rfl) (fun _ _ _ h => h) (Or.inl ⟨by kernel_rfl, ?hypw5⟩) hHeld ?restpw5
            case hypw5 => (intro w9 hSw; clear hSw; go_simp; try with_reducible rfl)
            try simp only [Act.put, List.getElem_toArray, List.getElem_cons_zero, List.getElem_cons_succ, List.setIfInBounds_toArray, List.set_cons_zero, List.set_cons_succ]
            refine wpAnyH_take (i := 5) (oi := _) (v := ?vpw6) rfl (by kernel_rfl) (by kernel_rfl) (by kernel_rfl) (fun _ _ _ h => h) (Or.inl ⟨by kernel_rfl, ?hypw6⟩) hHeld ?restpw6
            case hypw6 => (intro w9 hSw; clear hSw; go_simp; try with_reducible rfl)
            try simp only [Act.put, List.getElem_toArray, List.getElem_cons_zero, List.getElem_cons_succ, List.setIfInBounds_toArray, List.set_cons_zero, List.set_cons_succ]
            refine wpAnyH_take (i := 6) (oi := _) (v := ?vpw7) rfl (by kernel_rfl) (by kernel_rfl) (by kernel_rfl) (fun _ _ _ h => h) (Or.inl ⟨by kernel_rfl, ?hypw7⟩) hHeld ?restpw7
            case hypw7 => (intro w9 hSw; clear hSw; go_simp; try with_reducible rfl)
            try simp only [Act.put, List.getElem_toArray, List.getElem_cons_zero, List.getElem_cons_succ, List.setIfInBounds_toArray, List.set_cons_zero, List.set_cons_succ]
            refine wpAnyH_take (i := 7) (oi := _) (v := ?vpw8) rfl (by kernel_rfl) (by kernel_rfl) (by kernel_rfl) (fun _ _ _ h => h) (Or.inl ⟨by kernel_rfl, ?hypw8⟩) hHeld ?restpw8
            case hypw8 => (intro w9 hSw; clear hSw; go_simp; try with_reducible rfl)
            try simp only [Act.put, List.getElem_toArray, List.getElem_cons_zero, List.getElem_cons_succ, List.setIfInBounds_toArray, List.set_cons_zero, List.set_cons_succ]
            refine wpAnyH_take (i := 8) (oi := _) (v := ?vpw9) rfl (by kernel_rfl) (by kernel_rfl) (by kernel_rfl) (fun _ _ _ h => h) (Or.inl ⟨by kernel_rfl, ?hypw9⟩) hHeld ?restpw9
            case hypw9 => (intro w9 hSw; clear hSw; go_simp; try with_reducible rfl)
            try simp only [Act.put, List.getElem_toArray, List.getElem_cons_zero, List.getElem_cons_succ, List.setIfInBounds_toArray, List.set_cons_zero, List.set_cons_succ]
            refine wpAnyH_take (i := 10) (oi := _) (v := ?vpw10) rfl (by kernel_rfl) (by kernel_rfl) (by kernel_rfl) (fun _ _ _ h => h) (Or.inl ⟨by kernel_rfl, ?hypw10⟩) hHeld ?restpw10
            case hypw10 => (intro w9 hSw; clear hSw; go_simp; try with_reducible rfl)
            try simp only [Act.put, List.getElem_toArray, List.getElem_cons_zero, List.getElem_cons_succ, List.setIfInBounds_toArray, List.set_cons_zero, List.set_cons_succ]
            refine wpAnyH_ready (rs := [9]) (by kernel_rfl) (by simp) ?_
            refine AllReadyH.cons (o := _) rfl (fun K hK => ?_) ?_
            · go_simp
              refine (AC.out _ HD.out).mono ?_; rintro e w11 ⟨rfl, b11⟩
              dsimp only
              have q11 := bnext hqe b11
              have HP := Lib.hid (HP.out.kept1 b11)
              have HD := Lib.hid (HD.out.kept1 b11)
              have HG := Lib.hid (Blk.kept1 HG.out b11)
              refine hK.out _ _ (HKC.out _ q11) (fun hHeld3 => ?_)
              clear hK K hHeld
              have hHeld := hHeld3
              clear hHeld3
              try simp only [Act.put, List.getElem_toArray, List.getElem_cons_zero, List.getElem_cons_succ, List.setIfInBounds_toArray, List.set_cons_zero, List.set_cons_succ]
              refine wpAnyH_take (i := 11) (oi := _) (v := ?vpw12) rfl (by kernel_rfl) (by kernel_rfl) (by kernel_rfl) (fun _ _ _ h => h) (Or.inl ⟨by kernel_rfl, ?hypw12⟩) hHeld ?restpw12
              case hypw12 => (intro w9 hSw; clear hSw; go_simp; try with_reducible rfl)
              try simp only [Act.put, List.getElem_toArray, List.getElem_cons_zero, List.getElem_cons_succ, List.setIfInBounds_toArray, List.set_cons_zero, List.set_cons_succ]
              refine wpAnyH_take (i := 12) (oi := _) (v := ?vpw13) rfl (by kernel_rfl) (by kernel_rfl) (by kernel_rfl) (fun _ _ _ h => h) (Or.inl ⟨by kernel_rfl, ?hypw13⟩) hHeld ?restpw13
              case hypw13 => (intro w9 hSw; clear hSw; go_simp; try with_reducible rfl)
              try simp only [Act.put, List.getElem_toArray, List.getElem_cons_zero, List.getElem_cons_succ, List.setIfInBounds_toArray, List.set_cons_zero, List.set_cons_succ]
              refine wpAnyH_take (i := 13) (oi := _) (v := ?vpw14) rfl (by kernel_rfl) (by kernel_rfl) (by kernel_rfl) (fun _ _ _ h => h) (Or.inl ⟨by kernel_rfl, ?hypw14⟩) hHeld ?restpw14
              case hypw14 => (intro w9 hSw; clear hSw; go_simp; try with_reducible rfl)
              try simp only [Act.put, List.getElem_toArray, List.getElem_cons_zero, List.getElem_cons_succ, List.setIfInBounds_toArray, List.set_cons_zero, List.set_cons_succ]
              refine wpAnyH_take (i := 14) (oi := _) (v := ?vpw15) rfl (by kernel_rfl) (by kernel_rfl) (by kernel_rfl) (fun _ _ _ h => h) (Or.inl ⟨by kernel_rfl, ?hypw15⟩) hHeld ?restpw15
              case hypw15 => (intro w9 hSw; clear hSw; go_simp; try with_reducible rfl)
              try simp only [Act.put, List.getElem_toArray, List.getElem_cons_zero, List.getElem_cons_succ, List.setIfInBounds_toArray, List.set_cons_zero, List.set_cons_succ]
              refine wpAnyH_take (i := 15) (oi := _) (v := ?vpw16) rfl (by kernel_rfl) (by kernel_rfl) (by kernel_rfl) (fun _ _ _ h => h) (Or.inl ⟨by kernel_rfl, ?hypw16⟩) hHeld ?restpw16
              case hypw16 => (intro w9 hSw; clear hSw; go_simp; try with_reducible rfl)
              try simp only [Act.put, List.getElem_toArray, List.getElem_cons_zero, List.getElem_cons_succ, List.setIfInBounds_toArray, List.set_cons_zero, List.set_cons_succ]
              refine wpAnyH_take (i := 16) (oi := _) (v := ?vpw17) rfl (by kernel_rfl) (by kernel_rfl) (by kernel_rfl) (fun _ _ _ h => h) (Or.inl ⟨by kernel_rfl, ?hypw17⟩) hHeld ?restpw17
              case hypw17 => (intro w9 hSw; clear hSw; go_simp; try with_reducible rfl)
              try simp only [Act.put, List.getElem_toArray, List.getElem_cons_zero, List.getElem_cons_succ, List.setIfInBounds_toArray, List.set_cons_zero, List.set_cons_succ]
              refine wpAnyH_take (i := 17) (oi := _) (v := ?vpw18) rfl (by kernel_rfl) (by kernel_rfl) (by kernel_rfl) (fun _ _ _ h => h) (Or.inl ⟨by kernel_rfl, ?hypw18⟩) hHeld ?restpw18
              case hypw18 => (intro w9 hSw; clear hSw; go_simp; try with_reducible rfl)
              try simp only [Act.put, List.getElem_toArray, List.getElem_cons_zero, List.getElem_cons_succ, List.setIfInBounds_toArray, List.set_cons_zero, List.set_cons_succ]
              refine wpAnyH_take (i := 18) (oi := _) (v := ?vpw19) rfl (by kernel_rfl) (by kernel_rfl) (by kernel_rfl) (fun _ _ _ h => h) (Or.inl ⟨by kernel_rfl, ?hypw19⟩) hHeld ?restpw19
              case hypw19 => (intro w9 hSw; clear hSw; go_simp; try with_reducible rfl)
              try simp only [Act.put, List.getElem_toArray, List.getElem_cons_zero, List.getElem_cons_succ, List.setIfInBounds_toArray, List.set_cons_zero, List.set_cons_succ]
              refine wpAnyH_take (i := 20) (oi := _) (v := ?vpw20) rfl (by kernel_rfl) (by kernel_rfl) (by kernel_rfl) (fun _ _ _ h => h) (Or.inl ⟨by kernel_rfl, ?hypw20⟩) hHeld ?restpw20
              case hypw20 => (intro w9 hSw; clear hSw; go_simp; try with_reducible rfl)
              try simp only [Act.put, List.getElem_toArray, List.getElem_cons_zero, List.getElem_cons_succ, List.setIfInBounds_toArray, List.set_cons_zero, List.set_cons_succ]
              refine wpAnyH_take (i := 21) (oi := _) (v := ?vpw21) rfl (by kernel_rfl) (by kernel_rfl) (by kernel_rfl) (fun _ _ _ h => h) (Or.inl ⟨by kernel_rfl, ?hypw21⟩) hHeld ?restpw21
              case hypw21 => (intro w9 hSw; clear hSw; go_simp; try with_reducible rfl)
              try simp only [Act.put, List.getElem_toArray, List.getElem_cons_zero, List.getElem_cons_succ, List.setIfInBounds_toArray, List.set_cons_zero, List.set_cons_succ]
              refine wpAnyH_take (i := 22) (oi := _) (v := ?vpw22) rfl (by kernel_rfl) (by kernel_rfl) (by kernel_rfl) (fun _ _ _ h => h) (Or.inl ⟨by kernel_rfl, ?hypw22⟩) hHeld ?restpw22
              case hypw22 => (intro w9 hSw; clear hSw; go_simp; try with_reducible rfl)
              try simp only [Act.put, List.getElem_toArray, List.getElem_cons_zero, List.getElem_cons_succ, List.setIfInBounds_toArray, List.set_cons_zero, List.set_cons_succ]
              refine wpAnyH_take (i := 23) (oi := _) (v := ?vpw23) rfl (by kernel_rfl) (by kernel_rfl) (by kernel_rfl) (fun _ _ _ h => h) (Or.inl ⟨by kernel_rfl, ?hypw23⟩) hHeld ?restpw23
              case hypw23 => (intro w9 hSw; clear hSw; go_simp; try with_reducible rfl)
              try simp only [Act.put, List.getElem_toArray, List.getElem_cons_zero, List.getElem_cons_succ, List.setIfInBounds_toArray, List.set_cons_zero, List.set_cons_succ]
              refine wpAnyH_take (i := 24) (oi := _) (v := ?vpw24) rfl (by kernel_rfl) (by kernel_rfl) (by kernel_rfl) (fun _ _ _ h => h) (Or.inl ⟨by kernel_rfl, ?hypw24⟩) hHeld ?restpw24
              case hypw24 => (intro w9 hSw; obtain ⟨e9, f9⟩ := hSw; go_simp; try with_reducible rfl)
              try simp only [Act.put, List.getElem_toArray, List.getElem_cons_zero, List.getElem_cons_succ, List.setIfInBounds_toArray, List.set_cons_zero, List.set_cons_succ]
              refine wpAnyH_take (i := 25) (oi := _) (v := ?vpw25) rfl (by kernel_rfl) (by kernel_rfl) (by kernel_rfl) (fun _ _ _ h => h) (Or.inl ⟨by kernel_rfl, ?hypw25⟩) hHeld ?restpw25
              case hypw25 => (intro w9 hSw; clear hSw; go_simp; try with_reducible rfl)
              try simp only [Act.put, List.getElem_toArray, List.getElem_cons_zero, List.getElem_cons_succ, List.setIfInBounds_toArray, List.set_cons_zero, List.set_cons_succ]
              refine wpAnyH_ready (rs := [19]) (by kernel_rfl) (by simp) ?_
              refine AllReadyH.cons (o := _) rfl (fun K hK => ?_) ?_
              · go_simp
                refine (RM.out _ HG.out).mono ?_; rintro e w26 ⟨rfl, b26⟩
                dsimp only
                have q26 := bnext q11 b26
                have HP := Lib.hid (HP.out.kept1 b26)
                have HD := Lib.hid (HD.out.kept1 b26)
                have HG := Lib.hid (Blk.kept1 HG.out b26)
                refine hK.out _ _ (HKC.out _ q26) (fun hHeld3 => ?_)
                clear hK K hHeld
                have hHeld := hHeld3
                clear hHeld3
                try simp only [Act.put, List.getElem_toArray, List.getElem_cons_zero, List.getElem_cons_succ, List.setIfInBounds_toArray, List.set_cons_zero, List.set_cons_succ]
                refine wpAnyH_take (i := 26) (oi := _) (v := ?vpw27) rfl (by kernel_rfl) (by kernel_rfl) (by kernel_rfl) (fun _ _ _ h => h) (Or.inl ⟨by kernel_rfl, ?hypw27⟩) hHeld ?restpw27
                case hypw27 => (intro w9 hSw; clear hSw; go_simp; try with_reducible rfl)
                try simp only [Act.put, List.getElem_toArray, List.getElem_cons_zero, List.getElem_cons_succ, List.setIfInBounds_toArray, List.set_cons_zero, List.set_cons_succ]
                refine wpAnyH_take (i := 27) (oi := _) (v := ?vpw28) rfl (by kernel_rfl) (by kernel_rfl) (by kernel_rfl) (fun _ _ _ h => h) (Or.inl ⟨by kernel_rfl, ?hypw28⟩) hHeld ?restpw28
                case hypw28 => (intro w9 hSw; clear hSw; go_simp; try with_reducible rfl)
                try simp only [Act.put, List.getElem_toArray, List.getElem_cons_zero, List.getElem_cons_succ, List.setIfInBounds_toArray, List.set_cons_zero, List.set_cons_succ]
                refine wpAnyH_take (i := 28) (oi := _) (v := ?vpw29) rfl (by kernel_rfl) (by kernel_rfl) (by kernel_rfl) (fun _ _ _ h => h) (Or.inl ⟨by kernel_rfl, ?hypw29⟩) hHeld ?restpw29
                case hypw29 => (intro w9 hSw; clear hSw; go_simp; try with_reducible rfl)
                try simp only [Act.put, List.getElem_toArray, List.getElem_cons_zero, List.getElem_cons_succ, List.setIfInBounds_toArray, List.set_cons_zero, List.set_cons_succ]
                refine wpAnyH_take (i := 29) (oi := _) (v := ?vpw30) rfl (by kernel_rfl) (by kernel_rfl) (by kernel_rfl) (fun _ _ _ h => h) (Or.inl ⟨by kernel_rfl, ?hypw30⟩) hHeld ?restpw30
                case hypw30 => (intro w9 hSw; clear hSw; go_simp; try with_reducible rfl)
                try simp only [Act.put, List.getElem_toArray, List.getElem_cons_zero, List.getElem_cons_succ, List.setIfInBounds_toArray, List.set_cons_zero, List.set_cons_succ]
                refine wpAnyH_ready (rs := [30]) (by kernel_rfl) (by simp) ?_
                refine AllReadyH.cons (o := _) rfl (fun K hK => ?_) ?_
                · go_simp
                  refine (PE.out _ HD.out).mono ?_; rintro e w31 ⟨v31, rfl, r31, b31⟩
                  dsimp only
                  have q31 := bnext q26 b31
                  have HP := Lib.hid (HP.out.kept1 b31)
                  have HD := Lib.hid (HD.out.kept1 b31)
                  have HG := Lib.hid (Blk.kept1 HG.out b31)
                  obtain ⟨ad31, cp31, hs31, -⟩ := shape_of r31
                  rw [PN.out] at hs31
                  have hs31 : v31 = .slice ad31 0 cp31 := hs31
                  subst hs31
                  clear r31
                  refine hK.out _ _ (HKC.out _ q31) (fun hHeld3 => ?_)
                  clear hK K hHeld
                  have hHeld := hHeld3
                  clear hHeld3
                  try simp only [Act.put, List.getElem_toArray, List.getElem_cons_zero, List.getElem_cons_succ, List.setIfInBounds_toArray, List.set_cons_zero, List.set_cons_succ]
                  refine wpAnyH_take (i := 31) (oi := _) (v := ?vpw32) rfl (by kernel_rfl) (by kernel_rfl) (by kernel_rfl) (fun _ _ _ h => h) (Or.inl ⟨by kernel_rfl, ?hypw32⟩) hHeld ?restpw32
                  case hypw32 => (intro w9 hSw; clear hSw; go_simp; try with_reducible rfl)
                  try simp only [Act.put, List.getElem_toArray, List.getElem_cons_zero, List.getElem_cons_succ, List.setIfInBounds_toArray, List.set_cons_zero, List.set_cons_succ]
                  refine wpAnyH_take (i := 32) (oi := _) (v := ?vpw33) rfl (by kernel_rfl) (by kernel_rfl) (by kernel_rfl) (fun _ _ _ h => h) (Or.inl ⟨by kernel_rfl, ?hypw33⟩) hHeld ?restpw33
                  case hypw33 => (intro w9 hSw; clear hSw; go_simp; try with_reducible rfl)
                  try simp only [Act.put, List.getElem_toArray, List.getElem_cons_zero, List.getElem_cons_succ, List.setIfInBounds_toArray, List.set_cons_zero, List.set_cons_succ]
                  refine wpAnyH_take (i := 33) (oi := _) (v := ?vpw34) rfl (by kernel_rfl) (by kernel_rfl) (by kernel_rfl) (fun _ _ _ h => h) (Or.inl ⟨by kernel_rfl, ?hypw34⟩) hHeld ?restpw34
                  case hypw34 => (intro w9 hSw; clear hSw; go_simp; try with_reducible rfl)
                  try simp only [Act.put, List.getElem_toArray, List.getElem_cons_zero, List.getElem_cons_succ, List.setIfInBounds_toArray, List.set_cons_zero, List.set_cons_succ]
                  refine wpAnyH_take (i := 34) (oi := _) (v := ?vpw35) rfl (by kernel_rfl) (by kernel_rfl) (by kernel_rfl) (fun _ _ _ h => h) (Or.inl ⟨by kernel_rfl, ?hypw35⟩) hHeld ?restpw35
                  case hypw35 => (intro w9 hSw; clear hSw; go_simp; try with_reducible rfl)
                  try simp only [Act.put, List.getElem_toArray, List.getElem_cons_zero, List.getElem_cons_succ, List.setIfInBounds_toArray, List.set_cons_zero, List.set_cons_succ]
                  refine wpAnyH_take (i := 35) (oi := _) (v := ?vpw36) rfl (by kernel_rfl) (by kernel_rfl) (by kernel_rfl) (fun _ _ _ h => h) (Or.inl ⟨by kernel_rfl, ?hypw36⟩) hHeld ?restpw36
                  case hypw36 => (intro w9 hSw; clear hSw; go_simp; try with_reducible rfl)
                  try simp only [Act.put, List.getElem_toArray, List.getElem_cons_zero, List.getElem_cons_succ, List.setIfInBounds_toArray, List.set_cons_zero, List.set_cons_succ]
                  refine wpAnyH_take (i := 36) (oi := _) (v := ?vpw37) rfl (by kernel_rfl) (by kernel_rfl) (by kernel_rfl) (fun _ _ _ h => h) (Or.inl ⟨by kernel_rfl, ?hypw37⟩) hHeld ?restpw37
                  case hypw37 => (intro w9 hSw; clear hSw; go_simp; try with_reducible rfl)
                  try simp only [Act.put, List.getElem_toArray, List.getElem_cons_zero, List.getElem_cons_succ, List.setIfInBounds_toArray, List.set_cons_zero, List.set_cons_succ]
                  refine wpAnyH_take (i := 37) (oi := _) (v := ?vpw38) rfl (by kernel_rfl) (by kernel_rfl) (by kernel_rfl) (fun _ _ _ h => h) (Or.inl ⟨by kernel_rfl, ?hypw38⟩) hHeld ?restpw38
                  case hypw38 => (intro w9 hSw; clear hSw; go_simp; try with_reducible rfl)
                  try simp only [Act.put, List.getElem_toArray, List.getElem_cons_zero, List.getElem_cons_succ, List.setIfInBounds_toArray, List.set_cons_zero, List.set_cons_succ]
                  refine wpAnyH_take (i := 38) (oi := _) (v := ?vpw39) rfl (by kernel_rfl) (by kernel_rfl) (by kernel_rfl) (fun _ _ _ h => h) (Or.inl ⟨by kernel_rfl, ?hypw39⟩) hHeld ?restpw39
                  case hypw39 => (intro w9 hSw; clear hSw; go_simp; try with_reducible rfl)
                  try simp only [Act.put, List.getElem_toArray, List.getElem_cons_zero, List.getElem_cons_succ, List.setIfInBounds_toArray, List.set_cons_zero, List.set_cons_succ]
                  refine wpAnyH_take (i := 39) (oi := _) (v := ?vpw40) rfl (by kernel_rfl) (by kernel_rfl) (by kernel_rfl) (fun _ _ _ h => h) (Or.inl ⟨by kernel_rfl, ?hypw40⟩) hHeld ?restpw40
                  case hypw40 => (intro w9 hSw; clear hSw; go_simp; try with_reducible rfl)
                  try simp only [Act.put, List.getElem_toArray, List.getElem_cons_zero, List.getElem_cons_succ, List.setIfInBounds_toArray, List.set_cons_zero, List.set_cons_succ]
                  refine wpAnyH_take (i := 40) (oi := _) (v := ?vpw41) rfl (by kernel_rfl) (by kernel_rfl) (by kernel_rfl) (fun _ _ _ h => h) (Or.inl ⟨by kernel_rfl, ?hypw41⟩) hHeld ?restpw41
                  case hypw41 => (intro w9 hSw; obtain ⟨e9, f9⟩ := hSw; go_simp; try with_reducible rfl)
                  try simp only [Act.put, List.getElem_toArray, List.getElem_cons_zero, List.getElem_cons_succ, List.setIfInBounds_toArray, List.set_cons_zero, List.set_cons_succ]
                  refine wpAnyH_ready (rs := [41]) (by kernel_rfl) (by simp) ?_
                  refine AllReadyH.cons (o := _) rfl (fun K hK => ?_) ?_
                  · go_simp
                    refine (FI.out _).mono ?_; rintro e w42 ⟨rfl, b42⟩
                    dsimp only
                    have q42 := bnext q31 b42
                    have HP := Lib.hid (HP.out.kept1 b42)
                    have HD := Lib.hid (HD.out.kept1 b42)
                    have HG := Lib.hid (Blk.kept1 HG.out b42)
                    refine hK.out _ _ (HKC.out _ q42) (fun hHeld3 => ?_)
                    clear hK K hHeld
                    have hHeld := hHeld3
                    clear hHeld3
                    try simp only [Act.put, List.getElem_toArray, List.getElem_cons_zero, List.getElem_cons_succ, List.setIfInBounds_toArray, List.set_cons_zero, List.set_cons_succ]
                    refine wpAnyH_take (i := 42) (oi := _) (v := ?vpw43) rfl (by kernel_rfl) (by kernel_rfl) (by kernel_rfl) (fun _ _ _ h => h) (Or.inl ⟨by kernel_rfl, ?hypw43⟩) hHeld ?restpw43
                    case hypw43 => (intro w9 hSw; clear hSw; go_simp; try with_reducible rfl)
                    try simp only [Act.put, List.getElem_toArray, List.getElem_cons_zero, List.getElem_cons_succ, List.setIfInBounds_toArray, List.set_cons_zero, List.set_cons_succ]
                    refine wpAnyH_ready (rs := [43]) (by kernel_rfl) (by simp) ?_
                    refine AllReadyH.cons (o := _) rfl (fun K hK => ?_) ?_
                    · obtain ⟨w44, hw44⟩ : ∃ w9, w42.alloc (.cells #[.int .i64 dz, .string (rep 9)] 61) = w9 := ⟨_, rfl⟩
                      have b44 : Below w42.heap.size w42 w44 := by rw [← hw44]; exact balloc1 _ _
                      have q44 := bnext q42 b44
                      have hz44 : w44.heap.size = w42.heap.size + 1 := by rw [← hw44]; exact size_alloc _ _
                      have hB44 : Blk w42.heap.size #[.int .i64 dz, .string (rep 9)] 61 w44 := by rw [← hw44]; exact Blk.new _ _ _
                      have HP := Lib.hid (HP.out.kept1 b44)
                      have HD := Lib.hid (HD.out.kept1 b44)
                      have HG := Lib.hid (Blk.kept1 HG.out b44)
                      have HN := Lib.hid hB44
                      have HZ44 := Lib.hid hz44
                      have HW44 := Lib.hid hw44
                      clear hB44 hz44 hw44
                      go_simp
                      try rw [HW44.out]
                      refine hK.out _ _ (HKC.out _ q44) (fun hHeld3 => ?_)
                      clear hK K hHeld
                      have hHeld := hHeld3
                      clear hHeld3
                      try simp only [Act.put, List.getElem_toArray, List.getElem_cons_zero, List.getElem_cons_succ, List.setIfInBounds_toArray, List.set_cons_zero, List.set_cons_succ]
                      refine wpAnyH_take (i := 44) (oi := _) (v := ?vpw45) rfl (by kernel_rfl) (by kernel_rfl) (by kernel_rfl) (fun _ _ _ h => h) (Or.inl ⟨by kernel_rfl, ?hypw45⟩) hHeld ?restpw45
                      case hypw45 => (intro w9 hSw; clear hSw; go_simp; try with_reducible rfl)
                      try simp only [Act.put, List.getElem_toArray, List.getElem_cons_zero, List.getElem_cons_succ, List.setIfInBounds_toArray, List.set_cons_zero, List.set_cons_succ]
                      refine wpAnyH_ready (rs := [45]) (by kernel_rfl) (by simp) ?_
                      refine AllReadyH.cons (o := _) rfl (fun K hK => ?_) ?_
                      · go_simp
                        refine (CM.out _ _ HD.out HG.out (HCH.out _ _ HN.out) (tabOf HT.out HP.out.below)).mono ?_; rintro e w46 ⟨rfl, z46⟩
                        dsimp only
                        have HBf := Lib.hid (HP.out.below.trans (z46.below HP.out.below.size (by have := HLO.out; omega) (by have := HLO.out; have := HGB.out; omega)))
                        have HWf := Lib.hid (show WldAt wd b l i m t d g home want w46 from z46.blk HP.out.wld (.inl (by have := HLO.out; omega)) (by have := HLO.out; have := HGB.out; omega))
                        clear z46
                        refine hK.out _ _ (⟨HWf.out.cell 1, wld8 HWf.out HDZ8.out⟩) (fun hHeld3 => ?_)
                        clear hK K hHeld
                        have hHeld := hHeld3
                        clear hHeld3
                        try simp only [Act.put, List.getElem_toArray, List.getElem_cons_zero, List.getElem_cons_succ, List.setIfInBounds_toArray, List.set_cons_zero, List.set_cons_succ]
                        refine wpAnyH_take (i := 46) (oi := _) (v := ?vpw47) rfl (by kernel_rfl) (by kernel_rfl) (by kernel_rfl) (fun _ _ _ h => h) (Or.inl ⟨by kernel_rfl, ?hypw47⟩) hHeld ?restpw47
                        case hypw47 => (intro w9 hSw; clear hSw; go_simp; try with_reducible rfl)
                        try simp only [Act.put, List.getElem_toArray, List.getElem_cons_zero, List.getElem_cons_succ, List.setIfInBounds_toArray, List.set_cons_zero, List.set_cons_succ]
                        refine wpAnyH_take (i := 47) (oi := _) (v := ?vpw48) rfl (by kernel_rfl) (by kernel_rfl) (by kernel_rfl) (fun _ _ _ h => h) (Or.inl ⟨by kernel_rfl, ?hypw48⟩) hHeld ?restpw48
                        case hypw48 => (intro w9 hSw; clear hSw; go_simp; try with_reducible rfl)
                        try simp only [Act.put, List.getElem_toArray, List.getElem_cons_zero, List.getElem_cons_succ, List.setIfInBounds_toArray, List.set_cons_zero, List.set_cons_succ]
                        refine wpAnyH_take (i := 48) (oi := _) (v := ?vpw49) rfl (by kernel_rfl) (by kernel_rfl) (by kernel_rfl) (fun _ _ _ h => h) (Or.inl ⟨by kernel_rfl, ?hypw49⟩) hHeld ?restpw49
                        case hypw49 => (intro w9 hSw; clear hSw; go_simp; try with_reducible rfl)
                        try simp only [Act.put, List.getElem_toArray, List.getElem_cons_zero, List.getElem_cons_succ, List.setIfInBounds_toArray, List.set_cons_zero, List.set_cons_succ]
                        refine wpAnyH_ready (rs := [49]) (by kernel_rfl) (by simp) ?_
                        refine AllReadyH.cons (o := _) rfl (fun K hK => ?_) ?_
                        · go_simp
                          refine (AL.out _ (tabOf HT.out HBf.out)).mono ?_; rintro e w50 ⟨rfl, b50⟩
                          dsimp only
                          have HBe := Lib.hid (bnext HBf.out b50)
                          have HWe := Lib.hid (HWf.out.kept1 b50)
                          clear b50
                          refine hK.out _ _ (⟨HWe.out.cell 1, wld8 HWe.out HDZ8.out⟩) (fun hHeld3 => ?_)
                          clear hK K hHeld
                          have hHeld := hHeld3
                          clear hHeld3
                          try simp only [Act.put, List.getElem_toArray, List.getElem_cons_zero, List.getElem_cons_succ, List.setIfInBounds_toArray, List.set_cons_zero, List.set_cons_succ]
                          refine wpAnyH_take (i := 50) (oi := _) (v := ?vpw51) rfl (by kernel_rfl) (by kernel_rfl) (by kernel_rfl) (fun _ _ _ h => h) (Or.inl ⟨by kernel_rfl, ?hypw51⟩) hHeld ?restpw51
                          case hypw51 => (intro w9 hSw; clear hSw; go_simp; try with_reducible rfl)
                          try simp only [Act.put, List.getElem_toArray, List.getElem_cons_zero, List.getElem_cons_succ, List.setIfInBounds_toArray, List.set_cons_zero, List.set_cons_succ]
                          refine wpAnyH_take (i := 51) (oi := _) (v := ?vpw52) rfl (by kernel_rfl) (by kernel_rfl) (by kernel_rfl) (fun _ _ _ h => h) (Or.inl ⟨by kernel_rfl, ?hypw52⟩) hHeld ?restpw52
                          case hypw52 => (intro w9 hSw; clear hSw; go_simp; try with_reducible rfl)
                          try simp only [Act.put, List.getElem_toArray, List.getElem_cons_zero, List.getElem_cons_succ, List.setIfInBounds_toArray, List.set_cons_zero, List.set_cons_succ]
                          refine ⟨by kernel_rfl, ?_⟩
                          clear hHeld
                          go_wp2
                          go_ret
                          exact ⟨rfl, HBe.out⟩
                        exact AllReadyH.nil
                      exact AllReadyH.nil
                    exact AllReadyH.nil
                  exact AllReadyH.nil
                exact AllReadyH.nil
              exact AllReadyH.nil
            exact AllReadyH.nil
          | false =>
            obtain rfl : f = perhaps := by
              rcases hor with rfl | h
              · rw [hasB_yes hw8.homes.text] at hb1; cases hb1
              · exact h
            rw [hb1] at H1
            have H1 := Lib.hid H1
            have H2 := Lib.hid fun w h1 h2 => (by have := has_any (S := S1) (d' := d2) (lo := lo2) (hi := hi2) (wd := wd) (b := b) (l := l) (i := i) (m := m) (t := t) (d := d) (g := g) (home := home) (want := want) f hff HDA.out (by omega) hb4 hw8.n w h1 h2; rw [hasB_yes hw8.homes.text] at this; exact this : Calls Tryz.prog 14 #[.pointer (some ⟨wd, 0, none⟩), .pointer (some ⟨d2, 0, none⟩), .agg (arr12 f)] w fun e w' => e = .returned (.bool true) ∧ Below w.heap.size w w')
            clear hb1
            have v0 : w8.cell? ⟨wd, 23, none⟩ = some (.int .u8 (want 0 : Int)) := Blk.cell HP.out.wld 23
            have v1 : w8.cell? ⟨wd, 24, none⟩ = some (.int .u8 (want 1 : Int)) := Blk.cell HP.out.wld 24
            have v2 : w8.cell? ⟨wd, 25, none⟩ = some (.int .u8 (want 2 : Int)) := Blk.cell HP.out.wld 25
            have v3 : w8.cell? ⟨wd, 26, none⟩ = some (.int .u8 (want 3 : Int)) := Blk.cell HP.out.wld 26
            have v4 : w8.cell? ⟨wd, 27, none⟩ = some (.int .u8 (want 4 : Int)) := Blk.cell HP.out.wld 27
            have v5 : w8.cell? ⟨wd, 28, none⟩ = some (.int .u8 (want 5 : Int)) := Blk.cell HP.out.wld 28
            have v6 : w8.cell? ⟨wd, 29, none⟩ = some (.int .u8 (want 6 : Int)) := Blk.cell HP.out.wld 29
            have v7 : w8.cell? ⟨wd, 30, none⟩ = some (.int .u8 (want 7 : Int)) := Blk.cell HP.out.wld 30
            have v8 : w8.cell? ⟨wd, 31, none⟩ = some (.int .u8 (want 8 : Int)) := Blk.cell HP.out.wld 31
            have v9 : w8.cell? ⟨wd, 32, none⟩ = some (.int .u8 (want 9 : Int)) := Blk.cell HP.out.wld 32
            have v10 : w8.cell? ⟨wd, 33, none⟩ = some (.int .u8 (want 10 : Int)) := Blk.cell HP.out.wld 33
            have v11 : w8.cell? ⟨wd, 34, none⟩ = some (.int .u8 (want 11 : Int)) := Blk.cell HP.out.wld 34
            go_wp2_with fail
            refine H1.out.mono ?_; rintro e w9 ⟨rfl, b9⟩
            have HP := Lib.hid (HP.out.kept1 b9)
            have HD := Lib.hid (HD.out.kept1 b9)
            have HPR := Lib.hid (arr12_blk HP.out.per)
            clear b9 H1 HW23 v0 v1 v2 v3 v4 v5 v6 v7 v8 v9 v10 v11
            have v0 : w9.cell? ⟨pb, 0, none⟩ = some (.int .u8 (f 0 : Int)) := Blk.cell HP.out.per 0
            have v1 : w9.cell? ⟨pb, 1, none⟩ = some (.int .u8 (f 1 : Int)) := Blk.cell HP.out.per 1
            have v2 : w9.cell? ⟨pb, 2, none⟩ = some (.int .u8 (f 2 : Int)) := Blk.cell HP.out.per 2
            have v3 : w9.cell? ⟨pb, 3, none⟩ = some (.int .u8 (f 3 : Int)) := Blk.cell HP.out.per 3
            have v4 : w9.cell? ⟨pb, 4, none⟩ = some (.int .u8 (f 4 : Int)) := Blk.cell HP.out.per 4
            have v5 : w9.cell? ⟨pb, 5, none⟩ = some (.int .u8 (f 5 : Int)) := Blk.cell HP.out.per 5
            have v6 : w9.cell? ⟨pb, 6, none⟩ = some (.int .u8 (f 6 : Int)) := Blk.cell HP.out.per 6
            have v7 : w9.cell? ⟨pb, 7, none⟩ = some (.int .u8 (f 7 : Int)) := Blk.cell HP.out.per 7
            have v8 : w9.cell? ⟨pb, 8, none⟩ = some (.int .u8 (f 8 : Int)) := Blk.cell HP.out.per 8
            have v9 : w9.cell? ⟨pb, 9, none⟩ = some (.int .u8 (f 9 : Int)) := Blk.cell HP.out.per 9
            have v10 : w9.cell? ⟨pb, 10, none⟩ = some (.int .u8 (f 10 : Int)) := Blk.cell HP.out.per 10
            have v11 : w9.cell? ⟨pb, 11, none⟩ = some (.int .u8 (f 11 : Int)) := Blk.cell HP.out.per 11
            go_wp2_with fail
            refine (H2.out _ HP.out.wld HD.out).mono ?_; rintro e w10 ⟨rfl, b10⟩
            have HP := Lib.hid (HP.out.kept1 b10)
            have HD := Lib.hid (HD.out.kept1 b10)
            clear b10 H2 HPR v0 v1 v2 v3 v4 v5 v6 v7 v8 v9 v10 v11
            have AC := Lib.hid fun w hd => acts_below (d := d2) (S := S1) (lo := lo2) (hi := hi2) w hd
            go_wp2_with fail
            refine (AC.out _ HD.out).mono ?_; rintro e wa ⟨rfl, ba⟩
            have HP := Lib.hid (HP.out.kept1 ba)
            have HD := Lib.hid (HD.out.kept1 ba)
            clear ba
            obtain ⟨k0, k1, k2, k3, k4, k5, k6, k7, k8, k9, k10⟩ := wldG_cells HP.out.wld
            go_wp2_with fail
            refine (jreplay_empty d2 lo2 hi2 b l i m t HOK.out HW8.out.n _ HD.out (tabOf HT.out HP.out.below) ([], 0) (HW8.out.log.is hl) rfl).mono ?_; rintro e wb ⟨rfl, bb⟩
            have HP := Lib.hid (HP.out.kept1 bb)
            have HD := Lib.hid (HD.out.kept1 bb)
            clear bb k0 k1 k2 k3 k4 k5 k6 k7 k8 k9 k10
            obtain ⟨k0, k1, k2, k3, k4, k5, k6, k7, k8, k9, k10⟩ := wldG_cells HP.out.wld
            have hib : hi2 ≤ wb.heap.size := HD.out.top
            go_wp2_with fail
            refine (open_inv d2 lo2 hi2 b l i m t HOK.out HW8.out.n HW8.out.log _ HD.out (tabOf HT.out HP.out.below)).mono ?_; rintro e wt ⟨g2, rfl, hg2, hlg, bt⟩
            have HP := Lib.hid (HP.out.kept1 bt)
            have HD := Lib.hid (HD.out.kept1 bt)
            have HG : Hid (LogAt g2 d2 b l i 1 (1 + l) m (1 + l + m) t (1 + l + m + t) (((p' + 0) % (l - 1) : Nat) : Int) ((l - 1 - 0 : Nat) : Int) (q' + 0) 0 wt) := Lib.hid hlg
            have HGB : Hid (hi2 ≤ g2 ∧ lo2 ≤ g2) := Lib.hid (by have := HD.out.lohi; omega)
            clear bt k0 k1 k2 k3 k4 k5 k6 k7 k8 k9 k10 hlg hg2 hib
            obtain ⟨lf, hlf⟩ : ∃ lf : Int, ((l - 1 - 0 : Nat) : Int) = lf := ⟨_, rfl⟩
            obtain ⟨dz, hdz⟩ : ∃ dz : Int, 1 + (l : Int) + (m : Int) + (t : Int) = dz := ⟨_, rfl⟩
            have hdz0 : dz = ((da + 0 : Nat) : Int) := by have := HDA.out; omega
            have HDZ8 := Lib.hid hdz
            have tq : (lf == (l : Int) - 1) = true := by rw [beq_iff_eq]; omega
            have hwl : IntKind.i64.wrap ((l : Int) - 1) = (l : Int) - 1 := IntWalk.i64_in _ (by omega)
            have na : ((S1.acts : Int) == (S1.acts : Int)) = true := by simp
            have RM := Lib.hid fun W (h : LogAt g2 d2 b l i 1 (1 + l) m (1 + l + m) t (1 + l + m + t) (((p' + 0) % (l - 1) : Nat) : Int) ((l - 1 - 0 : Nat) : Int) (q' + 0) 0 W) => (by have := logroom_below h; rw [hlf] at this; exact this : Calls Tryz.prog 17 #[.pointer (some ⟨g2, 0, none⟩)] W fun e w' => e = .returned (.int .i64 lf) ∧ Below W.heap.size W w')
            have PE := Lib.hid fun W hd => pending_any (d := d2) (lo := lo2) (hi := hi2) (S := S1) W hd
            have PN := Lib.hid (pends_none HPD.out)
            have FI := Lib.hid fun W => (fill_any 9 (by omega) W : Calls Tryz.prog 20 #[.int .u8 9] W fun e w' => e = .returned (.string (rep 9)) ∧ Below W.heap.size W w')
            have HCH : Hid (∀ g9 W, Blk g9 #[.int .i64 dz, .string (rep 9)] 61 W → ChgsIn (.slice (some ⟨g9, 0, none⟩) 1 1) (mkL da [rep 9]) W) := Lib.hid fun g9 W h => by
              rw [hdz0] at h; exact chg_at h
            have CM := Lib.hid fun va W hd hlg hc ht => commit_one HOK.out HF.out (d := d2) (lo := lo2) (hi := hi2) (g := g2) (p := p') (q := q') hl8 (by omega) (by omega) HW8.out va W hd HGB.out.1 hlg hc ht
            have AL := Lib.hid fun W ht => alive_any W ht
            have HKC : Hid (∀ W, Below wt.heap.size wt W → W.cell? ⟨wd, 1, none⟩ = some (.int .i64 (l : Int)) ∧ W.cell? ⟨wd, 8, none⟩ = some (.int .i64 dz)) := Lib.hid fun W b9 => ⟨(HP.out.wld.kept1 b9).cell 1, wld8 (HP.out.wld.kept1 b9) HDZ8.out⟩
            clear hlf hdz hdz0
            go_wp2
            have hqe : Below wt.heap.size wt wt.drew := (Below.refl _ _).drew
            have HP := Lib.hid (HP.out.kept1 hqe)
            have HD := Lib.hid (HD.out.kept1 hqe)
            have HG := Lib.hid (Blk.kept1 HG.out hqe)
            refine wp_region_held_drew (S := fun w9 => w9.cell? ⟨wd, 1, none⟩ = some (.int .i64 (l : Int)) ∧ w9.cell? ⟨wd, 8, none⟩ = some (.int .i64 dz)) mixed (HKC.out _ hqe) (fun hHeld => ?_)
            generalize wt.drew = we at *
            refine wpAnyH_take (i := 0) (oi := _) (v := ?vpx1) rfl (by kernel_rfl) (by kernel_rfl) (by kernel_rfl) (fun _ _ _ h => h) (Or.inl ⟨by kernel_rfl, ?hypx1⟩) hHeld ?restpx1
            case hypx1 => (intro w9 hSw; clear hSw; go_simp; try with_reducible rfl)
            try simp only [Act.put, List.getElem_toArray, List.getElem_cons_zero, List.getElem_cons_succ, List.setIfInBounds_toArray, List.set_cons_zero, List.set_cons_succ]
            refine wpAnyH_take (i := 1) (oi := _) (v := ?vpx2) rfl (by kernel_rfl) (by kernel_rfl) (by kernel_rfl) (fun _ _ _ h => h) (Or.inl ⟨by kernel_rfl, ?hypx2⟩) hHeld ?restpx2
            case hypx2 => (intro w9 hSw; clear hSw; go_simp; try with_reducible rfl)
            try simp only [Act.put, List.getElem_toArray, List.getElem_cons_zero, List.getElem_cons_succ, List.setIfInBounds_toArray, List.set_cons_zero, List.set_cons_succ]
            refine wpAnyH_take (i := 2) (oi := _) (v := ?vpx3) rfl (by kernel_rfl) (by kernel_rfl) (by kernel_rfl) (fun _ _ _ h => h) (Or.inl ⟨by kernel_rfl, ?hypx3⟩) hHeld ?restpx3
            case hypx3 => (intro w9 hSw; clear hSw; go_simp; try with_reducible rfl)
            try simp only [Act.put, List.getElem_toArray, List.getElem_cons_zero, List.getElem_cons_succ, List.setIfInBounds_toArray, List.set_cons_zero, List.set_cons_succ]
            refine wpAnyH_take (i := 3) (oi := _) (v := ?vpx4) rfl (by kernel_rfl) (by kernel_rfl) (by kernel_rfl) (fun _ _ _ h => h) (Or.inl ⟨by kernel_rfl, ?hypx4⟩) hHeld ?restpx4
            case hypx4 => (intro w9 hSw; clear hSw; go_simp; try with_reducible rfl)
            try simp only [Act.put, List.getElem_toArray, List.getElem_cons_zero, List.getElem_cons_succ, List.setIfInBounds_toArray, List.set_cons_zero, List.set_cons_succ]
            refine wpAnyH_take (i := 4) (oi := _) (v := ?vpx5) rfl (by kernel_rfl) (by kernel_rfl) (by kernel_rfl) (fun _ _ _ h => h) (Or.inl ⟨by kernel_rfl, ?hypx5⟩) hHeld ?restpx5
            case hypx5 => (intro w9 hSw; clear hSw; go_simp; try with_reducible rfl)
            try simp only [Act.put, List.getElem_toArray, List.getElem_cons_zero, List.getElem_cons_succ, List.setIfInBounds_toArray, List.set_cons_zero, List.set_cons_succ]
            refine wpAnyH_take (i := 5) (oi := _) (v := ?vpx6) rfl (by kernel_rfl) (by kernel_rfl) (by kernel_rfl) (fun _ _ _ h => h) (Or.inl ⟨by kernel_rfl, ?hypx6⟩) hHeld ?restpx6
            case hypx6 => (intro w9 hSw; clear hSw; go_simp; try with_reducible rfl)
            try simp only [Act.put, List.getElem_toArray, List.getElem_cons_zero, List.getElem_cons_succ, List.setIfInBounds_toArray, List.set_cons_zero, List.set_cons_succ]
            refine wpAnyH_take (i := 6) (oi := _) (v := ?vpx7) rfl (by kernel_rfl) (by kernel_rfl) (by kernel_rfl) (fun _ _ _ h => h) (Or.inl ⟨by kernel_rfl, ?hypx7⟩) hHeld ?restpx7
            case hypx7 => (intro w9 hSw; clear hSw; go_simp; try with_reducible rfl)
            try simp only [Act.put, List.getElem_toArray, List.getElem_cons_zero, List.getElem_cons_succ, List.setIfInBounds_toArray, List.set_cons_zero, List.set_cons_succ]
            refine wpAnyH_take (i := 7) (oi := _) (v := ?vpx8) rfl (by kernel_rfl) (by kernel_rfl) (by kernel_rfl) (fun _ _ _ h => h) (Or.inl ⟨by kernel_rfl, ?hypx8⟩) hHeld ?restpx8
            case hypx8 => (intro w9 hSw; clear hSw; go_simp; try with_reducible rfl)
            try simp only [Act.put, List.getElem_toArray, List.getElem_cons_zero, List.getElem_cons_succ, List.setIfInBounds_toArray, List.set_cons_zero, List.set_cons_succ]
            refine wpAnyH_take (i := 8) (oi := _) (v := ?vpx9) rfl (by kernel_rfl) (by kernel_rfl) (by kernel_rfl) (fun _ _ _ h => h) (Or.inl ⟨by kernel_rfl, ?hypx9⟩) hHeld ?restpx9
            case hypx9 => (intro w9 hSw; clear hSw; go_simp; try with_reducible rfl)
            try simp only [Act.put, List.getElem_toArray, List.getElem_cons_zero, List.getElem_cons_succ, List.setIfInBounds_toArray, List.set_cons_zero, List.set_cons_succ]
            refine wpAnyH_take (i := 10) (oi := _) (v := ?vpx10) rfl (by kernel_rfl) (by kernel_rfl) (by kernel_rfl) (fun _ _ _ h => h) (Or.inl ⟨by kernel_rfl, ?hypx10⟩) hHeld ?restpx10
            case hypx10 => (intro w9 hSw; clear hSw; go_simp; try with_reducible rfl)
            try simp only [Act.put, List.getElem_toArray, List.getElem_cons_zero, List.getElem_cons_succ, List.setIfInBounds_toArray, List.set_cons_zero, List.set_cons_succ]
            refine wpAnyH_ready (rs := [9]) (by kernel_rfl) (by simp) ?_
            refine AllReadyH.cons (o := _) rfl (fun K hK => ?_) ?_
            · go_simp
              refine (AC.out _ HD.out).mono ?_; rintro e w11 ⟨rfl, b11⟩
              dsimp only
              have q11 := bnext hqe b11
              have HP := Lib.hid (HP.out.kept1 b11)
              have HD := Lib.hid (HD.out.kept1 b11)
              have HG := Lib.hid (Blk.kept1 HG.out b11)
              refine hK.out _ _ (HKC.out _ q11) (fun hHeld3 => ?_)
              clear hK K hHeld
              have hHeld := hHeld3
              clear hHeld3
              try simp only [Act.put, List.getElem_toArray, List.getElem_cons_zero, List.getElem_cons_succ, List.setIfInBounds_toArray, List.set_cons_zero, List.set_cons_succ]
              refine wpAnyH_take (i := 11) (oi := _) (v := ?vpx12) rfl (by kernel_rfl) (by kernel_rfl) (by kernel_rfl) (fun _ _ _ h => h) (Or.inl ⟨by kernel_rfl, ?hypx12⟩) hHeld ?restpx12
              case hypx12 => (intro w9 hSw; clear hSw; go_simp; try with_reducible rfl)
              try simp only [Act.put, List.getElem_toArray, List.getElem_cons_zero, List.getElem_cons_succ, List.setIfInBounds_toArray, List.set_cons_zero, List.set_cons_succ]
              refine wpAnyH_take (i := 12) (oi := _) (v := ?vpx13) rfl (by kernel_rfl) (by kernel_rfl) (by kernel_rfl) (fun _ _ _ h => h) (Or.inl ⟨by kernel_rfl, ?hypx13⟩) hHeld ?restpx13
              case hypx13 => (intro w9 hSw; clear hSw; go_simp; try with_reducible rfl)
              try simp only [Act.put, List.getElem_toArray, List.getElem_cons_zero, List.getElem_cons_succ, List.setIfInBounds_toArray, List.set_cons_zero, List.set_cons_succ]
              refine wpAnyH_take (i := 13) (oi := _) (v := ?vpx14) rfl (by kernel_rfl) (by kernel_rfl) (by kernel_rfl) (fun _ _ _ h => h) (Or.inl ⟨by kernel_rfl, ?hypx14⟩) hHeld ?restpx14
              case hypx14 => (intro w9 hSw; clear hSw; go_simp; try with_reducible rfl)
              try simp only [Act.put, List.getElem_toArray, List.getElem_cons_zero, List.getElem_cons_succ, List.setIfInBounds_toArray, List.set_cons_zero, List.set_cons_succ]
              refine wpAnyH_take (i := 14) (oi := _) (v := ?vpx15) rfl (by kernel_rfl) (by kernel_rfl) (by kernel_rfl) (fun _ _ _ h => h) (Or.inl ⟨by kernel_rfl, ?hypx15⟩) hHeld ?restpx15
              case hypx15 => (intro w9 hSw; clear hSw; go_simp; try with_reducible rfl)
              try simp only [Act.put, List.getElem_toArray, List.getElem_cons_zero, List.getElem_cons_succ, List.setIfInBounds_toArray, List.set_cons_zero, List.set_cons_succ]
              refine wpAnyH_take (i := 15) (oi := _) (v := ?vpx16) rfl (by kernel_rfl) (by kernel_rfl) (by kernel_rfl) (fun _ _ _ h => h) (Or.inl ⟨by kernel_rfl, ?hypx16⟩) hHeld ?restpx16
              case hypx16 => (intro w9 hSw; clear hSw; go_simp; try with_reducible rfl)
              try simp only [Act.put, List.getElem_toArray, List.getElem_cons_zero, List.getElem_cons_succ, List.setIfInBounds_toArray, List.set_cons_zero, List.set_cons_succ]
              refine wpAnyH_take (i := 16) (oi := _) (v := ?vpx17) rfl (by kernel_rfl) (by kernel_rfl) (by kernel_rfl) (fun _ _ _ h => h) (Or.inl ⟨by kernel_rfl, ?hypx17⟩) hHeld ?restpx17
              case hypx17 => (intro w9 hSw; clear hSw; go_simp; try with_reducible rfl)
              try simp only [Act.put, List.getElem_toArray, List.getElem_cons_zero, List.getElem_cons_succ, List.setIfInBounds_toArray, List.set_cons_zero, List.set_cons_succ]
              refine wpAnyH_take (i := 17) (oi := _) (v := ?vpx18) rfl (by kernel_rfl) (by kernel_rfl) (by kernel_rfl) (fun _ _ _ h => h) (Or.inl ⟨by kernel_rfl, ?hypx18⟩) hHeld ?restpx18
              case hypx18 => (intro w9 hSw; clear hSw; go_simp; try with_reducible rfl)
              try simp only [Act.put, List.getElem_toArray, List.getElem_cons_zero, List.getElem_cons_succ, List.setIfInBounds_toArray, List.set_cons_zero, List.set_cons_succ]
              refine wpAnyH_take (i := 18) (oi := _) (v := ?vpx19) rfl (by kernel_rfl) (by kernel_rfl) (by kernel_rfl) (fun _ _ _ h => h) (Or.inl ⟨by kernel_rfl, ?hypx19⟩) hHeld ?restpx19
              case hypx19 => (intro w9 hSw; clear hSw; go_simp; try with_reducible rfl)
              try simp only [Act.put, List.getElem_toArray, List.getElem_cons_zero, List.getElem_cons_succ, List.setIfInBounds_toArray, List.set_cons_zero, List.set_cons_succ]
              refine wpAnyH_take (i := 20) (oi := _) (v := ?vpx20) rfl (by kernel_rfl) (by kernel_rfl) (by kernel_rfl) (fun _ _ _ h => h) (Or.inl ⟨by kernel_rfl, ?hypx20⟩) hHeld ?restpx20
              case hypx20 => (intro w9 hSw; clear hSw; go_simp; try with_reducible rfl)
              try simp only [Act.put, List.getElem_toArray, List.getElem_cons_zero, List.getElem_cons_succ, List.setIfInBounds_toArray, List.set_cons_zero, List.set_cons_succ]
              refine wpAnyH_take (i := 21) (oi := _) (v := ?vpx21) rfl (by kernel_rfl) (by kernel_rfl) (by kernel_rfl) (fun _ _ _ h => h) (Or.inl ⟨by kernel_rfl, ?hypx21⟩) hHeld ?restpx21
              case hypx21 => (intro w9 hSw; clear hSw; go_simp; try with_reducible rfl)
              try simp only [Act.put, List.getElem_toArray, List.getElem_cons_zero, List.getElem_cons_succ, List.setIfInBounds_toArray, List.set_cons_zero, List.set_cons_succ]
              refine wpAnyH_take (i := 22) (oi := _) (v := ?vpx22) rfl (by kernel_rfl) (by kernel_rfl) (by kernel_rfl) (fun _ _ _ h => h) (Or.inl ⟨by kernel_rfl, ?hypx22⟩) hHeld ?restpx22
              case hypx22 => (intro w9 hSw; clear hSw; go_simp; try with_reducible rfl)
              try simp only [Act.put, List.getElem_toArray, List.getElem_cons_zero, List.getElem_cons_succ, List.setIfInBounds_toArray, List.set_cons_zero, List.set_cons_succ]
              refine wpAnyH_take (i := 23) (oi := _) (v := ?vpx23) rfl (by kernel_rfl) (by kernel_rfl) (by kernel_rfl) (fun _ _ _ h => h) (Or.inl ⟨by kernel_rfl, ?hypx23⟩) hHeld ?restpx23
              case hypx23 => (intro w9 hSw; clear hSw; go_simp; try with_reducible rfl)
              try simp only [Act.put, List.getElem_toArray, List.getElem_cons_zero, List.getElem_cons_succ, List.setIfInBounds_toArray, List.set_cons_zero, List.set_cons_succ]
              refine wpAnyH_take (i := 24) (oi := _) (v := ?vpx24) rfl (by kernel_rfl) (by kernel_rfl) (by kernel_rfl) (fun _ _ _ h => h) (Or.inl ⟨by kernel_rfl, ?hypx24⟩) hHeld ?restpx24
              case hypx24 => (intro w9 hSw; obtain ⟨e9, f9⟩ := hSw; go_simp; try with_reducible rfl)
              try simp only [Act.put, List.getElem_toArray, List.getElem_cons_zero, List.getElem_cons_succ, List.setIfInBounds_toArray, List.set_cons_zero, List.set_cons_succ]
              refine wpAnyH_take (i := 25) (oi := _) (v := ?vpx25) rfl (by kernel_rfl) (by kernel_rfl) (by kernel_rfl) (fun _ _ _ h => h) (Or.inl ⟨by kernel_rfl, ?hypx25⟩) hHeld ?restpx25
              case hypx25 => (intro w9 hSw; clear hSw; go_simp; try with_reducible rfl)
              try simp only [Act.put, List.getElem_toArray, List.getElem_cons_zero, List.getElem_cons_succ, List.setIfInBounds_toArray, List.set_cons_zero, List.set_cons_succ]
              refine wpAnyH_ready (rs := [19]) (by kernel_rfl) (by simp) ?_
              refine AllReadyH.cons (o := _) rfl (fun K hK => ?_) ?_
              · go_simp
                refine (RM.out _ HG.out).mono ?_; rintro e w26 ⟨rfl, b26⟩
                dsimp only
                have q26 := bnext q11 b26
                have HP := Lib.hid (HP.out.kept1 b26)
                have HD := Lib.hid (HD.out.kept1 b26)
                have HG := Lib.hid (Blk.kept1 HG.out b26)
                refine hK.out _ _ (HKC.out _ q26) (fun hHeld3 => ?_)
                clear hK K hHeld
                have hHeld := hHeld3
                clear hHeld3
                try simp only [Act.put, List.getElem_toArray, List.getElem_cons_zero, List.getElem_cons_succ, List.setIfInBounds_toArray, List.set_cons_zero, List.set_cons_succ]
                refine wpAnyH_take (i := 26) (oi := _) (v := ?vpx27) rfl (by kernel_rfl) (by kernel_rfl) (by kernel_rfl) (fun _ _ _ h => h) (Or.inl ⟨by kernel_rfl, ?hypx27⟩) hHeld ?restpx27
                case hypx27 => (intro w9 hSw; clear hSw; go_simp; try with_reducible rfl)
                try simp only [Act.put, List.getElem_toArray, List.getElem_cons_zero, List.getElem_cons_succ, List.setIfInBounds_toArray, List.set_cons_zero, List.set_cons_succ]
                refine wpAnyH_take (i := 27) (oi := _) (v := ?vpx28) rfl (by kernel_rfl) (by kernel_rfl) (by kernel_rfl) (fun _ _ _ h => h) (Or.inl ⟨by kernel_rfl, ?hypx28⟩) hHeld ?restpx28
                case hypx28 => (intro w9 hSw; clear hSw; go_simp; try with_reducible rfl)
                try simp only [Act.put, List.getElem_toArray, List.getElem_cons_zero, List.getElem_cons_succ, List.setIfInBounds_toArray, List.set_cons_zero, List.set_cons_succ]
                refine wpAnyH_take (i := 28) (oi := _) (v := ?vpx29) rfl (by kernel_rfl) (by kernel_rfl) (by kernel_rfl) (fun _ _ _ h => h) (Or.inl ⟨by kernel_rfl, ?hypx29⟩) hHeld ?restpx29
                case hypx29 => (intro w9 hSw; clear hSw; go_simp; try with_reducible rfl)
                try simp only [Act.put, List.getElem_toArray, List.getElem_cons_zero, List.getElem_cons_succ, List.setIfInBounds_toArray, List.set_cons_zero, List.set_cons_succ]
                refine wpAnyH_take (i := 29) (oi := _) (v := ?vpx30) rfl (by kernel_rfl) (by kernel_rfl) (by kernel_rfl) (fun _ _ _ h => h) (Or.inl ⟨by kernel_rfl, ?hypx30⟩) hHeld ?restpx30
                case hypx30 => (intro w9 hSw; clear hSw; go_simp; try with_reducible rfl)
                try simp only [Act.put, List.getElem_toArray, List.getElem_cons_zero, List.getElem_cons_succ, List.setIfInBounds_toArray, List.set_cons_zero, List.set_cons_succ]
                refine wpAnyH_ready (rs := [30]) (by kernel_rfl) (by simp) ?_
                refine AllReadyH.cons (o := _) rfl (fun K hK => ?_) ?_
                · go_simp
                  refine (PE.out _ HD.out).mono ?_; rintro e w31 ⟨v31, rfl, r31, b31⟩
                  dsimp only
                  have q31 := bnext q26 b31
                  have HP := Lib.hid (HP.out.kept1 b31)
                  have HD := Lib.hid (HD.out.kept1 b31)
                  have HG := Lib.hid (Blk.kept1 HG.out b31)
                  obtain ⟨ad31, cp31, hs31, -⟩ := shape_of r31
                  rw [PN.out] at hs31
                  have hs31 : v31 = .slice ad31 0 cp31 := hs31
                  subst hs31
                  clear r31
                  refine hK.out _ _ (HKC.out _ q31) (fun hHeld3 => ?_)
                  clear hK K hHeld
                  have hHeld := hHeld3
                  clear hHeld3
                  try simp only [Act.put, List.getElem_toArray, List.getElem_cons_zero, List.getElem_cons_succ, List.setIfInBounds_toArray, List.set_cons_zero, List.set_cons_succ]
                  refine wpAnyH_take (i := 31) (oi := _) (v := ?vpx32) rfl (by kernel_rfl) (by kernel_rfl) (by kernel_rfl) (fun _ _ _ h => h) (Or.inl ⟨by kernel_rfl, ?hypx32⟩) hHeld ?restpx32
                  case hypx32 => (intro w9 hSw; clear hSw; go_simp; try with_reducible rfl)
                  try simp only [Act.put, List.getElem_toArray, List.getElem_cons_zero, List.getElem_cons_succ, List.setIfInBounds_toArray, List.set_cons_zero, List.set_cons_succ]
                  refine wpAnyH_take (i := 32) (oi := _) (v := ?vpx33) rfl (by kernel_rfl) (by kernel_rfl) (by kernel_rfl) (fun _ _ _ h => h) (Or.inl ⟨by kernel_rfl, ?hypx33⟩) hHeld ?restpx33
                  case hypx33 => (intro w9 hSw; clear hSw; go_simp; try with_reducible rfl)
                  try simp only [Act.put, List.getElem_toArray, List.getElem_cons_zero, List.getElem_cons_succ, List.setIfInBounds_toArray, List.set_cons_zero, List.set_cons_succ]
                  refine wpAnyH_take (i := 33) (oi := _) (v := ?vpx34) rfl (by kernel_rfl) (by kernel_rfl) (by kernel_rfl) (fun _ _ _ h => h) (Or.inl ⟨by kernel_rfl, ?hypx34⟩) hHeld ?restpx34
                  case hypx34 => (intro w9 hSw; clear hSw; go_simp; try with_reducible rfl)
                  try simp only [Act.put, List.getElem_toArray, List.getElem_cons_zero, List.getElem_cons_succ, List.setIfInBounds_toArray, List.set_cons_zero, List.set_cons_succ]
                  refine wpAnyH_take (i := 34) (oi := _) (v := ?vpx35) rfl (by kernel_rfl) (by kernel_rfl) (by kernel_rfl) (fun _ _ _ h => h) (Or.inl ⟨by kernel_rfl, ?hypx35⟩) hHeld ?restpx35
                  case hypx35 => (intro w9 hSw; clear hSw; go_simp; try with_reducible rfl)
                  try simp only [Act.put, List.getElem_toArray, List.getElem_cons_zero, List.getElem_cons_succ, List.setIfInBounds_toArray, List.set_cons_zero, List.set_cons_succ]
                  refine wpAnyH_take (i := 35) (oi := _) (v := ?vpx36) rfl (by kernel_rfl) (by kernel_rfl) (by kernel_rfl) (fun _ _ _ h => h) (Or.inl ⟨by kernel_rfl, ?hypx36⟩) hHeld ?restpx36
                  case hypx36 => (intro w9 hSw; clear hSw; go_simp; try with_reducible rfl)
                  try simp only [Act.put, List.getElem_toArray, List.getElem_cons_zero, List.getElem_cons_succ, List.setIfInBounds_toArray, List.set_cons_zero, List.set_cons_succ]
                  refine wpAnyH_take (i := 36) (oi := _) (v := ?vpx37) rfl (by kernel_rfl) (by kernel_rfl) (by kernel_rfl) (fun _ _ _ h => h) (Or.inl ⟨by kernel_rfl, ?hypx37⟩) hHeld ?restpx37
                  case hypx37 => (intro w9 hSw; clear hSw; go_simp; try with_reducible rfl)
                  try simp only [Act.put, List.getElem_toArray, List.getElem_cons_zero, List.getElem_cons_succ, List.setIfInBounds_toArray, List.set_cons_zero, List.set_cons_succ]
                  refine wpAnyH_take (i := 37) (oi := _) (v := ?vpx38) rfl (by kernel_rfl) (by kernel_rfl) (by kernel_rfl) (fun _ _ _ h => h) (Or.inl ⟨by kernel_rfl, ?hypx38⟩) hHeld ?restpx38
                  case hypx38 => (intro w9 hSw; clear hSw; go_simp; try with_reducible rfl)
                  try simp only [Act.put, List.getElem_toArray, List.getElem_cons_zero, List.getElem_cons_succ, List.setIfInBounds_toArray, List.set_cons_zero, List.set_cons_succ]
                  refine wpAnyH_take (i := 38) (oi := _) (v := ?vpx39) rfl (by kernel_rfl) (by kernel_rfl) (by kernel_rfl) (fun _ _ _ h => h) (Or.inl ⟨by kernel_rfl, ?hypx39⟩) hHeld ?restpx39
                  case hypx39 => (intro w9 hSw; clear hSw; go_simp; try with_reducible rfl)
                  try simp only [Act.put, List.getElem_toArray, List.getElem_cons_zero, List.getElem_cons_succ, List.setIfInBounds_toArray, List.set_cons_zero, List.set_cons_succ]
                  refine wpAnyH_take (i := 39) (oi := _) (v := ?vpx40) rfl (by kernel_rfl) (by kernel_rfl) (by kernel_rfl) (fun _ _ _ h => h) (Or.inl ⟨by kernel_rfl, ?hypx40⟩) hHeld ?restpx40
                  case hypx40 => (intro w9 hSw; clear hSw; go_simp; try with_reducible rfl)
                  try simp only [Act.put, List.getElem_toArray, List.getElem_cons_zero, List.getElem_cons_succ, List.setIfInBounds_toArray, List.set_cons_zero, List.set_cons_succ]
                  refine wpAnyH_take (i := 40) (oi := _) (v := ?vpx41) rfl (by kernel_rfl) (by kernel_rfl) (by kernel_rfl) (fun _ _ _ h => h) (Or.inl ⟨by kernel_rfl, ?hypx41⟩) hHeld ?restpx41
                  case hypx41 => (intro w9 hSw; obtain ⟨e9, f9⟩ := hSw; go_simp; try with_reducible rfl)
                  try simp only [Act.put, List.getElem_toArray, List.getElem_cons_zero, List.getElem_cons_succ, List.setIfInBounds_toArray, List.set_cons_zero, List.set_cons_succ]
                  refine wpAnyH_ready (rs := [41]) (by kernel_rfl) (by simp) ?_
                  refine AllReadyH.cons (o := _) rfl (fun K hK => ?_) ?_
                  · go_simp
                    refine (FI.out _).mono ?_; rintro e w42 ⟨rfl, b42⟩
                    dsimp only
                    have q42 := bnext q31 b42
                    have HP := Lib.hid (HP.out.kept1 b42)
                    have HD := Lib.hid (HD.out.kept1 b42)
                    have HG := Lib.hid (Blk.kept1 HG.out b42)
                    refine hK.out _ _ (HKC.out _ q42) (fun hHeld3 => ?_)
                    clear hK K hHeld
                    have hHeld := hHeld3
                    clear hHeld3
                    try simp only [Act.put, List.getElem_toArray, List.getElem_cons_zero, List.getElem_cons_succ, List.setIfInBounds_toArray, List.set_cons_zero, List.set_cons_succ]
                    refine wpAnyH_take (i := 42) (oi := _) (v := ?vpx43) rfl (by kernel_rfl) (by kernel_rfl) (by kernel_rfl) (fun _ _ _ h => h) (Or.inl ⟨by kernel_rfl, ?hypx43⟩) hHeld ?restpx43
                    case hypx43 => (intro w9 hSw; clear hSw; go_simp; try with_reducible rfl)
                    try simp only [Act.put, List.getElem_toArray, List.getElem_cons_zero, List.getElem_cons_succ, List.setIfInBounds_toArray, List.set_cons_zero, List.set_cons_succ]
                    refine wpAnyH_ready (rs := [43]) (by kernel_rfl) (by simp) ?_
                    refine AllReadyH.cons (o := _) rfl (fun K hK => ?_) ?_
                    · obtain ⟨w44, hw44⟩ : ∃ w9, w42.alloc (.cells #[.int .i64 dz, .string (rep 9)] 61) = w9 := ⟨_, rfl⟩
                      have b44 : Below w42.heap.size w42 w44 := by rw [← hw44]; exact balloc1 _ _
                      have q44 := bnext q42 b44
                      have hz44 : w44.heap.size = w42.heap.size + 1 := by rw [← hw44]; exact size_alloc _ _
                      have hB44 : Blk w42.heap.size #[.int .i64 dz, .string (rep 9)] 61 w44 := by rw [← hw44]; exact Blk.new _ _ _
                      have HP := Lib.hid (HP.out.kept1 b44)
                      have HD := Lib.hid (HD.out.kept1 b44)
                      have HG := Lib.hid (Blk.kept1 HG.out b44)
                      have HN := Lib.hid hB44
                      have HZ44 := Lib.hid hz44
                      have HW44 := Lib.hid hw44
                      clear hB44 hz44 hw44
                      go_simp
                      try rw [HW44.out]
                      refine hK.out _ _ (HKC.out _ q44) (fun hHeld3 => ?_)
                      clear hK K hHeld
                      have hHeld := hHeld3
                      clear hHeld3
                      try simp only [Act.put, List.getElem_toArray, List.getElem_cons_zero, List.getElem_cons_succ, List.setIfInBounds_toArray, List.set_cons_zero, List.set_cons_succ]
                      refine wpAnyH_take (i := 44) (oi := _) (v := ?vpx45) rfl (by kernel_rfl) (by kernel_rfl) (by kernel_rfl) (fun _ _ _ h => h) (Or.inl ⟨by kernel_rfl, ?hypx45⟩) hHeld ?restpx45
                      case hypx45 => (intro w9 hSw; clear hSw; go_simp; try with_reducible rfl)
                      try simp only [Act.put, List.getElem_toArray, List.getElem_cons_zero, List.getElem_cons_succ, List.setIfInBounds_toArray, List.set_cons_zero, List.set_cons_succ]
                      refine wpAnyH_ready (rs := [45]) (by kernel_rfl) (by simp) ?_
                      refine AllReadyH.cons (o := _) rfl (fun K hK => ?_) ?_
                      · go_simp
                        refine (CM.out _ _ HD.out HG.out (HCH.out _ _ HN.out) (tabOf HT.out HP.out.below)).mono ?_; rintro e w46 ⟨rfl, z46⟩
                        dsimp only
                        have HBf := Lib.hid (HP.out.below.trans (z46.below HP.out.below.size (by have := HLO.out; omega) (by have := HLO.out; have := HGB.out; omega)))
                        have HWf := Lib.hid (show WldAt wd b l i m t d g home want w46 from z46.blk HP.out.wld (.inl (by have := HLO.out; omega)) (by have := HLO.out; have := HGB.out; omega))
                        clear z46
                        refine hK.out _ _ (⟨HWf.out.cell 1, wld8 HWf.out HDZ8.out⟩) (fun hHeld3 => ?_)
                        clear hK K hHeld
                        have hHeld := hHeld3
                        clear hHeld3
                        try simp only [Act.put, List.getElem_toArray, List.getElem_cons_zero, List.getElem_cons_succ, List.setIfInBounds_toArray, List.set_cons_zero, List.set_cons_succ]
                        refine wpAnyH_take (i := 46) (oi := _) (v := ?vpx47) rfl (by kernel_rfl) (by kernel_rfl) (by kernel_rfl) (fun _ _ _ h => h) (Or.inl ⟨by kernel_rfl, ?hypx47⟩) hHeld ?restpx47
                        case hypx47 => (intro w9 hSw; clear hSw; go_simp; try with_reducible rfl)
                        try simp only [Act.put, List.getElem_toArray, List.getElem_cons_zero, List.getElem_cons_succ, List.setIfInBounds_toArray, List.set_cons_zero, List.set_cons_succ]
                        refine wpAnyH_take (i := 47) (oi := _) (v := ?vpx48) rfl (by kernel_rfl) (by kernel_rfl) (by kernel_rfl) (fun _ _ _ h => h) (Or.inl ⟨by kernel_rfl, ?hypx48⟩) hHeld ?restpx48
                        case hypx48 => (intro w9 hSw; clear hSw; go_simp; try with_reducible rfl)
                        try simp only [Act.put, List.getElem_toArray, List.getElem_cons_zero, List.getElem_cons_succ, List.setIfInBounds_toArray, List.set_cons_zero, List.set_cons_succ]
                        refine wpAnyH_take (i := 48) (oi := _) (v := ?vpx49) rfl (by kernel_rfl) (by kernel_rfl) (by kernel_rfl) (fun _ _ _ h => h) (Or.inl ⟨by kernel_rfl, ?hypx49⟩) hHeld ?restpx49
                        case hypx49 => (intro w9 hSw; clear hSw; go_simp; try with_reducible rfl)
                        try simp only [Act.put, List.getElem_toArray, List.getElem_cons_zero, List.getElem_cons_succ, List.setIfInBounds_toArray, List.set_cons_zero, List.set_cons_succ]
                        refine wpAnyH_ready (rs := [49]) (by kernel_rfl) (by simp) ?_
                        refine AllReadyH.cons (o := _) rfl (fun K hK => ?_) ?_
                        · go_simp
                          refine (AL.out _ (tabOf HT.out HBf.out)).mono ?_; rintro e w50 ⟨rfl, b50⟩
                          dsimp only
                          have HBe := Lib.hid (bnext HBf.out b50)
                          have HWe := Lib.hid (HWf.out.kept1 b50)
                          clear b50
                          refine hK.out _ _ (⟨HWe.out.cell 1, wld8 HWe.out HDZ8.out⟩) (fun hHeld3 => ?_)
                          clear hK K hHeld
                          have hHeld := hHeld3
                          clear hHeld3
                          try simp only [Act.put, List.getElem_toArray, List.getElem_cons_zero, List.getElem_cons_succ, List.setIfInBounds_toArray, List.set_cons_zero, List.set_cons_succ]
                          refine wpAnyH_take (i := 50) (oi := _) (v := ?vpx51) rfl (by kernel_rfl) (by kernel_rfl) (by kernel_rfl) (fun _ _ _ h => h) (Or.inl ⟨by kernel_rfl, ?hypx51⟩) hHeld ?restpx51
                          case hypx51 => (intro w9 hSw; clear hSw; go_simp; try with_reducible rfl)
                          try simp only [Act.put, List.getElem_toArray, List.getElem_cons_zero, List.getElem_cons_succ, List.setIfInBounds_toArray, List.set_cons_zero, List.set_cons_succ]
                          refine wpAnyH_take (i := 51) (oi := _) (v := ?vpx52) rfl (by kernel_rfl) (by kernel_rfl) (by kernel_rfl) (fun _ _ _ h => h) (Or.inl ⟨by kernel_rfl, ?hypx52⟩) hHeld ?restpx52
                          case hypx52 => (intro w9 hSw; clear hSw; go_simp; try with_reducible rfl)
                          try simp only [Act.put, List.getElem_toArray, List.getElem_cons_zero, List.getElem_cons_succ, List.setIfInBounds_toArray, List.set_cons_zero, List.set_cons_succ]
                          refine ⟨by kernel_rfl, ?_⟩
                          clear hHeld
                          go_wp2
                          go_ret
                          exact ⟨rfl, HBe.out⟩
                        exact AllReadyH.nil
                      exact AllReadyH.nil
                    exact AllReadyH.nil
                  exact AllReadyH.nil
                exact AllReadyH.nil
              exact AllReadyH.nil
            exact AllReadyH.nil
        exact AllReadyH.nil
      exact AllReadyH.nil
end Go.Proofs.YtanghmogeiiooaaGreatDoor
