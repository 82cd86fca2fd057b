import Derived.Test.YtanghmogeiiooaaGreatDoorPd56
import Derived.Test.YtanghmogeiiooaaGreatDoorPa55
set_option linter.unusedVariables false
set_option linter.unusedSimpArgs false
set_option linter.constructorNameAsVariable false
/- The walk of JournalRound. -/
namespace Go.Proofs.YtanghmogeiiooaaGreatDoor
set_option linter.unusedVariables false
set_option linter.unusedSimpArgs false
open Go.RowKit

set_option maxRecDepth 100000 in
set_option maxHeartbeats 40000000 in
theorem round_walk (x y z : Nat) (hx : x < 256) (hy : y < 256) (hz : z < 256) (n : Nat) (X : Nat → StepX) (vl : Value) (w : World) (h : StepsIn vl n X w) (ht : Tab w) :
    Calls Tryz.prog 6 #[.agg #[.int .u8 (x : Int), .int .u8 (y : Int), .int .u8 (z : Int)], vl] w fun e w' => e = .returned (.bool true) ∧ Below w.heap.size w w' := by
  have mixed : Tryz.prog.follows .mixedOrders = true := by kernel_rfl
  obtain ⟨sb, hsb⟩ : ∃ sb, w.heap.size = sb := ⟨_, rfl⟩
  obtain ⟨w1, hw1⟩ : ∃ w1, w.alloc (.cells #[.int .u8 (x : Int), .int .u8 (y : Int), .int .u8 (z : Int)] 22) = w1 := ⟨_, rfl⟩
  have b1 : Below w.heap.size w w1 := by rw [← hw1]; exact balloc1 _ _
  have HZ : Hid (Blk sb #[.int .u8 (x : Int), .int .u8 (y : Int), .int .u8 (z : Int)] 22 w1) := Lib.hid (by rw [← hw1, ← hsb]; exact Blk.new _ _ _)
  have HB := Lib.hid b1
  have HX := Lib.hid (h.kept HB.out)
  have MY := Lib.hid fun w h => many_any vl n X w h
  obtain ⟨ad, cap, rfl, n1, n2, h3⟩ := h
  have H3 := Lib.hid h3
  have HT := Lib.hid ht
  have HSB := Lib.hid hsb
  have HW1 := Lib.hid hw1
  obtain ⟨b, l, i, m, t, da, L⟩ := lay_mk x y z
  have hok := L.ok
  have hf := L.fit
  have HDA := Lib.hid L.ed
  have hl := hf.hl
  have htop := hf.htop
  have hb4 := hf.hb
  have BG := Lib.hid fun w ht => begun_any x y z hx hy hz L w ht
  have HOK := Lib.hid hok
  have HF := Lib.hid hf
  clear h3 ht hsb hw1 b1 L hok hf
  go_enter Tryz.func6, Tryz.ntmps6
  go_upto_region 1 with fail
  rw [HW1.out]
  try rw [HSB.out]
  go_wp2_with fail
  refine (MY.out _ HX.out).mono ?_; rintro e w3 ⟨bm, rfl, hfew, b3⟩
  have HB3 := Lib.hid (bnext HB.out b3)
  have HZ3 := Lib.hid (HZ.out.kept1 b3)
  clear b3 HB HZ MY HX HW1
  cases bm with
  | true =>
    go_wp2
    go_ret
    exact ⟨rfl, HB3.out⟩
  | false =>
    have HFEW := Lib.hid (hfew rfl)
    have q0 := HZ3.out.cell 0
    have q1 := HZ3.out.cell 1
    have q2 := HZ3.out.cell 2
    simp only [List.getElem?_toArray, List.getElem?_cons_zero, List.getElem?_cons_succ] at q0 q1 q2
    clear hfew
    go_wp2_with fail
    refine (BG.out _ (tabOf HT.out HB3.out)).mono ?_; rintro e w4 ⟨wd, d, lo, hi, g, rfl, hg, b4⟩
    have HB4 := Lib.hid (bnext HB3.out b4)
    have HM4 : Hid (LwMem w.heap.size wd d lo hi g b l i m t da (beganS b l) 0 1 0 [] (fun _ => 0) (fun _ => 0) w4) := Lib.hid
      ⟨hg.wld, hg.dev, by rw [show (0 + 0) % (l - 1) = 0 from Nat.zero_mod _]; exact hg.log, began_wd HF.out, zero_lt, zero_lt, by have := hg.bot; have := HB3.out.size; omega, hg.o1, hg.o2⟩
    have hA : hi ≤ w4.heap.size ∧ g < w4.heap.size ∧ wd < w4.heap.size ∧ w.heap.size ≤ w4.heap.size := ⟨hg.dev.top, Blk.lt hg.log, Blk.lt hg.wld, HB4.out.size⟩
    obtain ⟨A0, hA0⟩ : ∃ A0, w4.heap.size = A0 := ⟨_, rfl⟩
    rw [hA0] at hA
    have ho1 := hg.o1
    have ho2 := hg.o2
    have olh := hg.dev.lohi
    have hbot : w.heap.size ≤ wd := by have := hg.bot; have := HB3.out.size; omega
    have hAs0 : A0 ≤ w4.heap.size := by omega
    clear hA0
    clear b4 BG hg HZ3 q0 q1 q2 HB3 HSB
    go_wp2
    go_loopw [7, 8, 9] (fun qa qu qi wr => ∃ (k : Nat) (S : St) (p' q' used : Nat) (ts : List Tx) (home want : Nat → Nat), qi = .int .i64 (k : Int) ∧ qu = .int .i64 (used : Int) ∧ k ≤ n ∧ S.acts ≤ 1000 + 80 * k ∧ S.left < 0 ∧ q' + ts.length ≤ 1 + k ∧ ts.length ≤ k ∧ A0 ≤ wr.heap.size ∧ Hid (TxnsOwn A0 qa ts wr) ∧ Hid (Mild ts) ∧ Hid (LwMem w.heap.size wd d lo hi g b l i m t da S p' q' used ts home want wr) ∧ Hid (Below w.heap.size w wr)) (fun _ _ qi _ => n - (intOf qi).toNat)
    case atStart => exact ⟨0, _, 0, 1, 0, [], _, _, rfl, rfl, Nat.zero_le _, by rw [began_acts]; omega, by rw [began_left]; omega, Nat.le_refl _, Nat.le_refl _, hAs0, Lib.hid (TxnsOwn.nil _ _), Lib.hid mild_nil, HM4, HB4⟩
    case round =>
      clear HM4 HB4 hAs0
      obtain ⟨k, S, p', q', used, ts, home, want, rfl, rfl, hk, hac, hleft, hqt, htk, hAs, HAL, HMI, HM, HB⟩ := hrel
      by_cases hlt : k < n
      · have hn30 := HFEW.out.1
        obtain ⟨gx, o, rfl, hgx, VC, VR, hX⟩ := H3.out (by omega)
        obtain ⟨hin, hc⟩ := hX k hlt
        have HIN := Lib.hid hin
        have HXC := Lib.hid hc
        have HX1 := Lib.hid (hin.kept HB.out)
        obtain ⟨qav0, qac0, rfl⟩ := HAL.out.shape
        clear H3 hX hin hc
        generalize X k = x at *
        generalize VC k = vc at *
        generalize VR k = vr at *
        obtain ⟨xk, xc, xr, xf, xd⟩ := x
        try dsimp only [stepV] at *
        have c0 : wr.cell? ⟨gx, o + k * 5, none⟩ = some (.int .u8 (xk : Int)) := (HB.out.cell (p := ⟨gx, o + (k * 5 + 0), none⟩) hgx).trans (HXC.out 0 _ rfl)
        have c1 : wr.cell? ⟨gx, o + k * 5 + 1, none⟩ = some vc := (HB.out.cell (p := ⟨gx, o + (k * 5 + 1), none⟩) hgx).trans (HXC.out 1 _ rfl)
        have c2 : wr.cell? ⟨gx, o + k * 5 + 2, none⟩ = some vr := (HB.out.cell (p := ⟨gx, o + (k * 5 + 2), none⟩) hgx).trans (HXC.out 2 _ rfl)
        have c3 : wr.cell? ⟨gx, o + k * 5 + 3, none⟩ = some (.int .u8 (xf : Int)) := (HB.out.cell (p := ⟨gx, o + (k * 5 + 3), none⟩) hgx).trans (HXC.out 3 _ rfl)
        have c4 : wr.cell? ⟨gx, o + k * 5 + 4, none⟩ = some (.bool xd) := (HB.out.cell (p := ⟨gx, o + (k * 5 + 4), none⟩) hgx).trans (HXC.out 4 _ rfl)
        obtain ⟨nx, hnx⟩ : ∃ nx, q' + ts.length = nx := ⟨_, rfl⟩
        have NX := Lib.hid (by have := lognext_any _ _ _ _ _ _ _ _ _ _ _ _ _ _ _ wr HM.out.log; rw [hnx] at this; exact this : Calls Tryz.prog 23 #[.pointer (some ⟨g, 0, none⟩)] wr fun e w' => e = .returned (.int .u64 (nx : Int)) ∧ wr = w')
        have q10 := HM.out.wld.log
        have TX := Lib.hid (txn_any HF.out HDA.out ⟨xk, xc, xr, xf, xd⟩ vc vr wr HM.out HX1.out)
        try dsimp only at TX
        obtain ⟨n1, hn1⟩ : ∃ n1, nextOf (chgB xc) (chgB xr) (fun k => (xf + k) % 256) home want = n1 := ⟨_, rfl⟩
        have HN1 := Lib.hid hn1
        have HN1B : Hid (∀ k, n1 k < 256) := Lib.hid fun k => by rw [← hn1]; exact next_lt (fun k => Nat.mod_lt _ (by omega)) HM.out.bh HM.out.bw k
        have HBH := Lib.hid HM.out.bh
        have CM := Lib.hid fun va vb vd w' hm ht hc hr hd => commit_lw (B := w.heap.size) (wd := wd) (d := d) (lo := lo) (hi := hi) (g := g) (i := i) (m := m) (t := t) (p := p') (q := q') (used := used) (ts := ts) (home := home) (want := want) (nx := fun k => (xf + k) % 256) (chg := chgB xc) (rev := chgB xr) (data := xd) (f := xf) (S := S) HOK.out HF.out (by omega) (by omega) va vb vd w' hm ht hc hr hd
        have SE := Lib.hid fun W hm => settle_any (B := w.heap.size) (wd := wd) (d := d) (lo := lo) (hi := hi) (g := g) (p := p') (q := q') (used := used) (ts := ts) (home := home) (want := want) (S := S) HOK.out HF.out HDA.out (by omega) W hm
        unfold Committed at CM
        rw [hn1] at TX CM
        obtain ⟨lf, hlf⟩ : ∃ lf : Int, ((l - 1 - 0 : Nat) : Int) = lf := ⟨_, rfl⟩
        have HLF := Lib.hid hlf
        have tq : (lf == (l : Int) - 1) = true := by rw [beq_iff_eq]; omega
        have hwl : IntKind.i64.wrap ((l : Int) - 1) = (l : Int) - 1 := IntWalk.i64_in _ (by omega)
        clear hn1 hlf
        go_wp2_with fail
        refine NX.out.mono ?_; rintro e w' ⟨rfl, rfl⟩
        clear NX q10
        go_wp2_with fail
        refine TX.out.mono ?_; rintro e w3 ⟨va, vb, vd, rfl, hva, hvb, hvd, b3⟩
        obtain ⟨t1, c3, ev, -⟩ := shape_of hva
        obtain ⟨t2, c4, eb, -⟩ := shape_of hvb
        obtain ⟨t3, c5, ed, -⟩ := shape_of hvd
        obtain ⟨sz, hsz0⟩ : ∃ sz, sizeT (stepL da (chgB xc) fun k => (xf + k) % 256).length (stepR da (chgB xc) (chgB xr)).length = sz := ⟨_, rfl⟩
        have hna12 := stepL_len da (chgB xc) (fun k => (xf + k) % 256)
        have hnb12 := stepR_len da (chgB xc) (chgB xr)
        have hsz15 := step_size da (chgB xc) (chgB xr) (fun k => (xf + k) % 256)
        rw [hsz0] at CM hsz15
        have HSZ0 := hsz0
        generalize hna : (stepL da (chgB xc) fun k => (xf + k) % 256).length = na at ev HSZ0 hna12
        generalize hnb : (stepR da (chgB xc) (chgB xr)).length = nb at eb HSZ0 hnb12
        generalize hnd : (stepD da xd xf).length = nd at ed
        subst ev eb ed
        have SZ := Lib.hid fun W => (by have := size_any t1 t2 na nb c3 c4 (by omega) (by omega) W; rw [HSZ0] at this; exact this : Calls Tryz.prog 25 #[.agg #[.slice t1 na c3, .slice t2 nb c4]] W fun e w' => e = .returned (.int .i64 (sz : Int)) ∧ Below W.heap.size W w')
        have HVA := Lib.hid (row_down hAs hva)
        have HVB := Lib.hid (row_down hAs hvb)
        have HVD := Lib.hid (row_down hAs hvd)
        obtain ⟨tb, htb0⟩ : ∃ tb, w3.heap.size = tb := ⟨_, rfl⟩
        have HOB0 : Hid (∀ gq, (Value.slice qav0 ts.length qac0).ownBlock = some gq → A0 ≤ gq ∧ gq < tb) := Lib.hid fun gq hq => by have := HAL.out.lt gq hq; have := b3.size; omega
        have HM := Lib.hid (HM.out.kept1 b3)
        have HAL := Lib.hid (HAL.out.kept b3)
        have HB := Lib.hid (bnext HB.out b3)
        have htb : A0 ≤ tb := by have := b3.size; omega
        clear hva hvb hvd b3 hna hnb hnd c0 c1 c2 TX HSZ0 hsz0
        obtain ⟨w6, hw6⟩ : ∃ w6, (w3.alloc (.cells #[.slice t1 na c3, .slice t2 nb c4] 64)).alloc (.cells #[.int .u8 (n1 0 : Int), .int .u8 (n1 1 : Int), .int .u8 (n1 2 : Int), .int .u8 (n1 3 : Int), .int .u8 (n1 4 : Int), .int .u8 (n1 5 : Int), .int .u8 (n1 6 : Int), .int .u8 (n1 7 : Int), .int .u8 (n1 8 : Int), .int .u8 (n1 9 : Int), .int .u8 (n1 10 : Int), .int .u8 (n1 11 : Int)] 36) = w6 := ⟨_, rfl⟩
        have b36 : Below w3.heap.size w3 w6 := by rw [← hw6]; exact balloc (balloc1 w3 _) _
        have HTB : Hid (Blk tb #[.slice t1 na c3, .slice t2 nb c4] 64 w6) := Lib.hid (by rw [← hw6, ← htb0]; exact Blk.kept1 (Blk.new _ _ w3) (balloc1 _ _))
        have HW6 := Lib.hid hw6
        clear hw6
        go_wp2
        rw [HW6.out]
        have HM := Lib.hid (HM.out.kept1 b36)
        have HAL := Lib.hid (HAL.out.kept b36)
        have HB := Lib.hid (bnext HB.out b36)
        have HVA := Lib.hid (row_kept HVA.out b36)
        have HVB := Lib.hid (row_kept HVB.out b36)
        have HVD := Lib.hid (row_kept HVD.out b36)
        have hAs : A0 ≤ w6.heap.size := by have := b36.size; omega
        clear b36 HW6
        try simp only [Act.put]
        obtain ⟨nx1, hnx1q⟩ : ∃ nx1, nx + 1 = nx1 := ⟨_, rfl⟩
        have hwn : IntKind.u64.wrap ((nx : Int) + 1) = (nx1 : Int) := by rw [IntKind.wrap_u64]; omega
        have RM0 := Lib.hid fun W (h : LogAt g d b l i 1 (1 + l) m (1 + l + m) t (1 + l + m + t) (((p' + used) % (l - 1) : Nat) : Int) ((l - 1 - used : Nat) : Int) (q' + ts.length) 0 W) => logroom_below h
        obtain ⟨rm, hrm⟩ : ∃ rm : Int, ((l - 1 - used : Nat) : Int) = rm := ⟨_, rfl⟩
        have hfu := HM.out.pure.log.fit
        have RM := Lib.hid fun W (h : LogAt g d b l i 1 (1 + l) m (1 + l + m) t (1 + l + m + t) (((p' + used) % (l - 1) : Nat) : Int) ((l - 1 - used : Nat) : Int) (q' + ts.length) 0 W) => (by have := logroom_below h; rw [hrm] at this; exact this : Calls Tryz.prog 17 #[.pointer (some ⟨g, 0, none⟩)] W fun e w' => e = .returned (.int .i64 rm) ∧ Below W.heap.size W w')
        by_cases hx3 : xk % 4 = 3
        · have hk2 : (xk : Int).tmod 4 = 3 := by rw [Int.tmod_eq_emod_of_nonneg (by omega)]; omega
          clear RM RM0 hrm
          have HKA : Hid (∀ W, Below w6.heap.size w6 W → W.cell? ⟨gx, o + k * 5, none⟩ = some (.int .u8 (xk : Int)) ∧ W.cell? ⟨wd, 10, none⟩ = some (.pointer (some ⟨g, 0, none⟩)) ∧ W.cell? ⟨tb, 0, none⟩ = some (.slice t1 na c3) ∧ W.cell? ⟨tb, 1, none⟩ = some (.slice t2 nb c4)) := Lib.hid fun W b9 => ⟨((bnext HB.out b9).cell (p := ⟨gx, o + (k * 5 + 0), none⟩) hgx).trans (HXC.out 0 _ rfl), (HM.out.wld.kept1 b9).log, (Blk.kept1 HTB.out b9).cell 0, (Blk.kept1 HTB.out b9).cell 1⟩
          have qG : Below w6.heap.size w6 w6.drew := (Below.refl _ _).drew
          have HM := Lib.hid (HM.out.kept1 qG)
          have HAL := Lib.hid (HAL.out.kept qG)
          have HVA := Lib.hid (row_kept HVA.out qG)
          have HVB := Lib.hid (row_kept HVB.out qG)
          have HVD := Lib.hid (row_kept HVD.out qG)
          have HTB := Lib.hid (Blk.kept1 HTB.out qG)
          have HB := Lib.hid (bnext HB.out qG)
          refine wp_region_held_drew (S := fun w9 => w9.cell? ⟨gx, o + k * 5, none⟩ = some (.int .u8 (xk : Int)) ∧ w9.cell? ⟨wd, 10, none⟩ = some (.pointer (some ⟨g, 0, none⟩)) ∧ w9.cell? ⟨tb, 0, none⟩ = some (.slice t1 na c3) ∧ w9.cell? ⟨tb, 1, none⟩ = some (.slice t2 nb c4)) mixed (HKA.out _ qG) (fun hHeld => ?_)
          generalize w6.drew = wG at *
          refine wpAnyH_take (i := 0) (v := ?vrath1) rfl (by kernel_rfl) (by kernel_rfl) (by kernel_rfl) (fun _ _ _ h => h) (Or.inl ⟨by kernel_rfl, ?yrath1⟩) hHeld ?trath1
          case yrath1 => (intro w9 hSw; clear hSw; go_simp; try with_reducible rfl)
          try simp only [Act.put, List.getElem_toArray, List.getElem_cons_zero, List.getElem_cons_succ, List.setIfInBounds_toArray, List.set_cons_zero, List.set_cons_succ]
          refine wpAnyH_take (i := 1) (v := ?vrath2) rfl (by kernel_rfl) (by kernel_rfl) (by kernel_rfl) (fun _ _ _ h => h) (Or.inl ⟨by kernel_rfl, ?yrath2⟩) hHeld ?trath2
          case yrath2 => (intro w9 hSw; clear hSw; go_simp; try with_reducible rfl)
          try simp only [Act.put, List.getElem_toArray, List.getElem_cons_zero, List.getElem_cons_succ, List.setIfInBounds_toArray, List.set_cons_zero, List.set_cons_succ]
          refine wpAnyH_take (i := 2) (v := ?vrath3) rfl (by kernel_rfl) (by kernel_rfl) (by kernel_rfl) (fun _ _ _ h => h) (Or.inl ⟨by kernel_rfl, ?yrath3⟩) hHeld ?trath3
          case yrath3 => (intro w9 hSw; clear hSw; go_simp; try with_reducible rfl)
          try simp only [Act.put, List.getElem_toArray, List.getElem_cons_zero, List.getElem_cons_succ, List.setIfInBounds_toArray, List.set_cons_zero, List.set_cons_succ]
          refine wpAnyH_take (i := 3) (v := ?vrath4) rfl (by kernel_rfl) (by kernel_rfl) (by kernel_rfl) (fun _ _ _ h => h) (Or.inl ⟨by kernel_rfl, ?yrath4⟩) hHeld ?trath4
          case yrath4 => (intro w9 hSw; clear hSw; go_simp; try with_reducible rfl)
          try simp only [Act.put, List.getElem_toArray, List.getElem_cons_zero, List.getElem_cons_succ, List.setIfInBounds_toArray, List.set_cons_zero, List.set_cons_succ]
          refine wpAnyH_take (i := 4) (v := ?vrath5) rfl (by kernel_rfl) (by kernel_rfl) (by kernel_rfl) (fun _ _ _ h => h) (Or.inl ⟨by kernel_rfl, ?yrath5⟩) hHeld ?trath5
          case yrath5 => (intro w9 hSw; obtain ⟨e9, f9, g9, h9⟩ := hSw; go_simp; try with_reducible rfl)
          try simp only [Act.put, List.getElem_toArray, List.getElem_cons_zero, List.getElem_cons_succ, List.setIfInBounds_toArray, List.set_cons_zero, List.set_cons_succ]
          refine wpAnyH_take (i := 5) (v := ?vrath6) rfl (by kernel_rfl) (by kernel_rfl) (by kernel_rfl) (fun _ _ _ h => h) (Or.inl ⟨by kernel_rfl, ?yrath6⟩) hHeld ?trath6
          case yrath6 => (intro w9 hSw; clear hSw; go_simp; try with_reducible rfl)
          try simp only [Act.put, List.getElem_toArray, List.getElem_cons_zero, List.getElem_cons_succ, List.setIfInBounds_toArray, List.set_cons_zero, List.set_cons_succ]
          refine wpAnyH_take (i := 6) (v := ?vrath7) rfl (by kernel_rfl) (by kernel_rfl) (by kernel_rfl) (fun _ _ _ h => h) (Or.inl ⟨by kernel_rfl, ?yrath7⟩) hHeld ?trath7
          case yrath7 => (intro w9 hSw; clear hSw; go_simp; try with_reducible rfl)
          try simp only [Act.put, List.getElem_toArray, List.getElem_cons_zero, List.getElem_cons_succ, List.setIfInBounds_toArray, List.set_cons_zero, List.set_cons_succ]
          refine wpAnyH_take (i := 7) (v := ?vrath8) rfl (by kernel_rfl) (by kernel_rfl) (by kernel_rfl) (fun _ _ _ h => h) (Or.inl ⟨by kernel_rfl, ?yrath8⟩) hHeld ?trath8
          case yrath8 => (intro w9 hSw; clear hSw; go_simp; try with_reducible rfl)
          try simp only [Act.put, List.getElem_toArray, List.getElem_cons_zero, List.getElem_cons_succ, List.setIfInBounds_toArray, List.set_cons_zero, List.set_cons_succ]
          refine wpAnyH_take (i := 8) (v := undef) rfl (by kernel_rfl) (by kernel_rfl) (by kernel_rfl) (fun _ _ _ h => h) (Or.inr ⟨by kernel_rfl, rfl⟩) hHeld ?trath9
          try simp only [Act.put, List.getElem_toArray, List.getElem_cons_zero, List.getElem_cons_succ, List.setIfInBounds_toArray, List.set_cons_zero, List.set_cons_succ]
          refine wpAnyH_take (i := 9) (v := undef) rfl (by kernel_rfl) (by kernel_rfl) (by kernel_rfl) (fun _ _ _ h => h) (Or.inr ⟨by kernel_rfl, rfl⟩) hHeld ?trath10
          try simp only [Act.put, List.getElem_toArray, List.getElem_cons_zero, List.getElem_cons_succ, List.setIfInBounds_toArray, List.set_cons_zero, List.set_cons_succ]
          refine wpAnyH_take (i := 10) (v := undef) rfl (by kernel_rfl) (by kernel_rfl) (by kernel_rfl) (fun _ _ _ h => h) (Or.inr ⟨by kernel_rfl, rfl⟩) hHeld ?trath11
          try simp only [Act.put, List.getElem_toArray, List.getElem_cons_zero, List.getElem_cons_succ, List.setIfInBounds_toArray, List.set_cons_zero, List.set_cons_succ]
          refine wpAnyH_take (i := 11) (v := undef) rfl (by kernel_rfl) (by kernel_rfl) (by kernel_rfl) (fun _ _ _ h => h) (Or.inr ⟨by kernel_rfl, rfl⟩) hHeld ?trath12
          try simp only [Act.put, List.getElem_toArray, List.getElem_cons_zero, List.getElem_cons_succ, List.setIfInBounds_toArray, List.set_cons_zero, List.set_cons_succ]
          refine wpAnyH_take (i := 12) (v := undef) rfl (by kernel_rfl) (by kernel_rfl) (by kernel_rfl) (fun _ _ _ h => h) (Or.inr ⟨by kernel_rfl, rfl⟩) hHeld ?trath13
          try simp only [Act.put, List.getElem_toArray, List.getElem_cons_zero, List.getElem_cons_succ, List.setIfInBounds_toArray, List.set_cons_zero, List.set_cons_succ]
          refine wpAnyH_take (i := 13) (v := undef) rfl (by kernel_rfl) (by kernel_rfl) (by kernel_rfl) (fun _ _ _ h => h) (Or.inr ⟨by kernel_rfl, rfl⟩) hHeld ?trath14
          try simp only [Act.put, List.getElem_toArray, List.getElem_cons_zero, List.getElem_cons_succ, List.setIfInBounds_toArray, List.set_cons_zero, List.set_cons_succ]
          refine wpAnyH_take (i := 14) (v := undef) rfl (by kernel_rfl) (by kernel_rfl) (by kernel_rfl) (fun _ _ _ h => h) (Or.inr ⟨by kernel_rfl, rfl⟩) hHeld ?trath15
          try simp only [Act.put, List.getElem_toArray, List.getElem_cons_zero, List.getElem_cons_succ, List.setIfInBounds_toArray, List.set_cons_zero, List.set_cons_succ]
          refine wpAnyH_take (i := 15) (v := undef) rfl (by kernel_rfl) (by kernel_rfl) (by kernel_rfl) (fun _ _ _ h => h) (Or.inr ⟨by kernel_rfl, rfl⟩) hHeld ?trath16
          try simp only [Act.put, List.getElem_toArray, List.getElem_cons_zero, List.getElem_cons_succ, List.setIfInBounds_toArray, List.set_cons_zero, List.set_cons_succ]
          refine wpAnyH_take (i := 16) (v := ?vrath17) rfl (by kernel_rfl) (by kernel_rfl) (by kernel_rfl) (fun _ _ _ h => h) (Or.inl ⟨by kernel_rfl, ?yrath17⟩) hHeld ?trath17
          case yrath17 => (intro w9 hSw; clear hSw; go_simp; try with_reducible rfl)
          try simp only [Act.put, List.getElem_toArray, List.getElem_cons_zero, List.getElem_cons_succ, List.setIfInBounds_toArray, List.set_cons_zero, List.set_cons_succ]
          refine ⟨by kernel_rfl, ?_⟩
          clear hHeld
          have HAS : Hid (A0 ≤ wG.heap.size) := Lib.hid (Nat.le_trans hAs (qG).size)
          go_wp2
          have HKS : Hid (∀ W, Below wG.heap.size wG W → W.cell? ⟨wd, 10, none⟩ = some (.pointer (some ⟨g, 0, none⟩)) ∧ W.cell? ⟨wd, 1, none⟩ = some (.int .i64 (l : Int))) := Lib.hid fun W b9 => ⟨(HM.out.wld.kept1 b9).log, (wldG_cells (HM.out.wld.kept1 b9)).2.1⟩
          have hAs : A0 ≤ wG.heap.size := HAS.out
          have qSth : Below wG.heap.size wG wG.drew := (Below.refl _ _).drew
          have HM := Lib.hid (HM.out.kept1 qSth)
          have HB := Lib.hid (bnext HB.out qSth)
          have hAs : A0 ≤ wG.drew.heap.size := Nat.le_trans hAs (qSth).size
          refine wp_region_held_drew (S := fun w9 => w9.cell? ⟨wd, 10, none⟩ = some (.pointer (some ⟨g, 0, none⟩)) ∧ w9.cell? ⟨wd, 1, none⟩ = some (.int .i64 (l : Int))) mixed (HKS.out _ qSth) (fun hHeld => ?_)
          generalize wG.drew = wSth at *
          refine wpAnyH_take (i := 0) (v := ?vrsth18) rfl (by kernel_rfl) (by kernel_rfl) (by kernel_rfl) (fun _ _ _ h => h) (Or.inl ⟨by kernel_rfl, ?yrsth18⟩) hHeld ?trsth18
          case yrsth18 => (intro w9 hSw; clear hSw; go_simp; try with_reducible rfl)
          try simp only [Act.put, List.getElem_toArray, List.getElem_cons_zero, List.getElem_cons_succ, List.setIfInBounds_toArray, List.set_cons_zero, List.set_cons_succ]
          refine wpAnyH_ready (rs := [1]) (by kernel_rfl) (by simp) ?_
          refine AllReadyH.cons (o := _) rfl (fun K hK => ?_) ?_
          · go_simp
            refine (SE.out _ HM.out).mono ?_; rintro e w19 ⟨z19, hs19⟩
            unfold Settled at hs19
            obtain ⟨rfl, S1, p1, q1, ts1, a1, a2, a3, hm19⟩ := hs19.resolve_right fun hh => hh.2.1 hleft
            dsimp only
            have HB := Lib.hid (HB.out.trans (z19.below (B := w.heap.size) HB.out.size (by omega) (by omega) (by omega)))
            have hAs : A0 ≤ w19.heap.size := Nat.le_trans hAs z19.size
            have HM := Lib.hid hm19
            have hnx1 : q1 + ts1.length = nx := by omega
            have NXS := Lib.hid fun W (h : LogAt g d b l i 1 (1 + l) m (1 + l + m) t (1 + l + m + t) (((p1 + 0) % (l - 1) : Nat) : Int) ((l - 1 - 0 : Nat) : Int) (q1 + ts1.length) 0 W) => (by have := lognext_below h; rw [hnx1] at this; exact this : Calls Tryz.prog 23 #[.pointer (some ⟨g, 0, none⟩)] W fun e w' => e = .returned (.int .u64 (nx : Int)) ∧ Below W.heap.size W w')
            have RMS := Lib.hid fun W (h : LogAt g d b l i 1 (1 + l) m (1 + l + m) t (1 + l + m + t) (((p1 + 0) % (l - 1) : Nat) : Int) ((l - 1 - 0 : Nat) : Int) (q1 + ts1.length) 0 W) => (by have := logroom_below h; rw [HLF.out] at this; exact this : Calls Tryz.prog 17 #[.pointer (some ⟨g, 0, none⟩)] W fun e w' => e = .returned (.int .i64 lf) ∧ Below W.heap.size W w')
            have HKT : Hid (∀ W, Below w19.heap.size w19 W → W.cell? ⟨wd, 10, none⟩ = some (.pointer (some ⟨g, 0, none⟩)) ∧ W.cell? ⟨wd, 1, none⟩ = some (.int .i64 (l : Int))) := Lib.hid fun W b9 => ⟨(HM.out.wld.kept1 b9).log, (wldG_cells (HM.out.wld.kept1 b9)).2.1⟩
            have q19 : Below w19.heap.size w19 w19 := Below.refl _ _
            clear z19 hs19 hm19
            refine hK.out _ _ (HKT.out _ q19) (fun hHeld3 => ?_)
            clear hK K hHeld
            have hHeld := hHeld3
            clear hHeld3
            try simp only [Act.put, List.getElem_toArray, List.getElem_cons_zero, List.getElem_cons_succ, List.setIfInBounds_toArray, List.set_cons_zero, List.set_cons_succ]
            refine wpAnyH_take (i := 2) (v := ?vrsth20) rfl (by kernel_rfl) (by kernel_rfl) (by kernel_rfl) (fun _ _ _ h => h) (Or.inl ⟨by kernel_rfl, ?yrsth20⟩) hHeld ?trsth20
            case yrsth20 => (intro w9 hSw; clear hSw; go_simp; try with_reducible rfl)
            try simp only [Act.put, List.getElem_toArray, List.getElem_cons_zero, List.getElem_cons_succ, List.setIfInBounds_toArray, List.set_cons_zero, List.set_cons_succ]
            refine wpAnyH_take (i := 3) (v := ?vrsth21) rfl (by kernel_rfl) (by kernel_rfl) (by kernel_rfl) (fun _ _ _ h => h) (Or.inl ⟨by kernel_rfl, ?yrsth21⟩) hHeld ?trsth21
            case yrsth21 => (intro w9 hSw; clear hSw; go_simp; try with_reducible rfl)
            try simp only [Act.put, List.getElem_toArray, List.getElem_cons_zero, List.getElem_cons_succ, List.setIfInBounds_toArray, List.set_cons_zero, List.set_cons_succ]
            refine wpAnyH_take (i := 4) (v := ?vrsth22) rfl (by kernel_rfl) (by kernel_rfl) (by kernel_rfl) (fun _ _ _ h => h) (Or.inl ⟨by kernel_rfl, ?yrsth22⟩) hHeld ?trsth22
            case yrsth22 => (intro w9 hSw; clear hSw; go_simp; try with_reducible rfl)
            try simp only [Act.put, List.getElem_toArray, List.getElem_cons_zero, List.getElem_cons_succ, List.setIfInBounds_toArray, List.set_cons_zero, List.set_cons_succ]
            refine wpAnyH_take (i := 5) (v := ?vrsth23) rfl (by kernel_rfl) (by kernel_rfl) (by kernel_rfl) (fun _ _ _ h => h) (Or.inl ⟨by kernel_rfl, ?yrsth23⟩) hHeld ?trsth23
            case yrsth23 => (intro w9 hSw; clear hSw; go_simp; try with_reducible rfl)
            try simp only [Act.put, List.getElem_toArray, List.getElem_cons_zero, List.getElem_cons_succ, List.setIfInBounds_toArray, List.set_cons_zero, List.set_cons_succ]
            refine wpAnyH_take (i := 6) (v := ?vrsth24) rfl (by kernel_rfl) (by kernel_rfl) (by kernel_rfl) (fun _ _ _ h => h) (Or.inl ⟨by kernel_rfl, ?yrsth24⟩) hHeld ?trsth24
            case yrsth24 => (intro w9 hSw; clear hSw; go_simp; try with_reducible rfl)
            try simp only [Act.put, List.getElem_toArray, List.getElem_cons_zero, List.getElem_cons_succ, List.setIfInBounds_toArray, List.set_cons_zero, List.set_cons_succ]
            refine wpAnyH_take (i := 7) (v := ?vrsth25) rfl (by kernel_rfl) (by kernel_rfl) (by kernel_rfl) (fun _ _ _ h => h) (Or.inl ⟨by kernel_rfl, ?yrsth25⟩) hHeld ?trsth25
            case yrsth25 => (intro w9 hSw; obtain ⟨e9, f9⟩ := hSw; go_simp; try with_reducible rfl)
            try simp only [Act.put, List.getElem_toArray, List.getElem_cons_zero, List.getElem_cons_succ, List.setIfInBounds_toArray, List.set_cons_zero, List.set_cons_succ]
            refine wpAnyH_take (i := 9) (v := ?vrsth26) rfl (by kernel_rfl) (by kernel_rfl) (by kernel_rfl) (fun _ _ _ h => h) (Or.inl ⟨by kernel_rfl, ?yrsth26⟩) hHeld ?trsth26
            case yrsth26 => (intro w9 hSw; clear hSw; go_simp; try with_reducible rfl)
            try simp only [Act.put, List.getElem_toArray, List.getElem_cons_zero, List.getElem_cons_succ, List.setIfInBounds_toArray, List.set_cons_zero, List.set_cons_succ]
            refine wpAnyH_ready (rs := [8]) (by kernel_rfl) (by simp) ?_
            refine AllReadyH.cons (o := _) rfl (fun K hK => ?_) ?_
            · go_simp
              refine (NXS.out _ HM.out.log).mono ?_; rintro e w27 ⟨rfl, b27⟩
              dsimp only
              have q27 := bnext q19 b27
              have HM := Lib.hid (HM.out.kept1 b27)
              have HB := Lib.hid (bnext HB.out b27)
              refine hK.out _ _ (HKT.out _ q27) (fun hHeld3 => ?_)
              clear hK K hHeld
              have hHeld := hHeld3
              clear hHeld3
              try simp only [Act.put, List.getElem_toArray, List.getElem_cons_zero, List.getElem_cons_succ, List.setIfInBounds_toArray, List.set_cons_zero, List.set_cons_succ]
              refine wpAnyH_take (i := 10) (v := ?vrsth28) rfl (by kernel_rfl) (by kernel_rfl) (by kernel_rfl) (fun _ _ _ h => h) (Or.inl ⟨by kernel_rfl, ?yrsth28⟩) hHeld ?trsth28
              case yrsth28 => (intro w9 hSw; clear hSw; go_simp; try with_reducible rfl)
              try simp only [Act.put, List.getElem_toArray, List.getElem_cons_zero, List.getElem_cons_succ, List.setIfInBounds_toArray, List.set_cons_zero, List.set_cons_succ]
              refine wpAnyH_take (i := 11) (v := ?vrsth29) rfl (by kernel_rfl) (by kernel_rfl) (by kernel_rfl) (fun _ _ _ h => h) (Or.inl ⟨by kernel_rfl, ?yrsth29⟩) hHeld ?trsth29
              case yrsth29 => (intro w9 hSw; clear hSw; go_simp; try with_reducible rfl)
              try simp only [Act.put, List.getElem_toArray, List.getElem_cons_zero, List.getElem_cons_succ, List.setIfInBounds_toArray, List.set_cons_zero, List.set_cons_succ]
              refine wpAnyH_take (i := 12) (v := ?vrsth30) rfl (by kernel_rfl) (by kernel_rfl) (by kernel_rfl) (fun _ _ _ h => h) (Or.inl ⟨by kernel_rfl, ?yrsth30⟩) hHeld ?trsth30
              case yrsth30 => (intro w9 hSw; clear hSw; go_simp; try with_reducible rfl)
              try simp only [Act.put, List.getElem_toArray, List.getElem_cons_zero, List.getElem_cons_succ, List.setIfInBounds_toArray, List.set_cons_zero, List.set_cons_succ]
              refine wpAnyH_take (i := 13) (v := ?vrsth31) rfl (by kernel_rfl) (by kernel_rfl) (by kernel_rfl) (fun _ _ _ h => h) (Or.inl ⟨by kernel_rfl, ?yrsth31⟩) hHeld ?trsth31
              case yrsth31 => (intro w9 hSw; clear hSw; go_simp; try with_reducible rfl)
              try simp only [Act.put, List.getElem_toArray, List.getElem_cons_zero, List.getElem_cons_succ, List.setIfInBounds_toArray, List.set_cons_zero, List.set_cons_succ]
              refine wpAnyH_take (i := 14) (v := ?vrsth32) rfl (by kernel_rfl) (by kernel_rfl) (by kernel_rfl) (fun _ _ _ h => h) (Or.inl ⟨by kernel_rfl, ?yrsth32⟩) hHeld ?trsth32
              case yrsth32 => (intro w9 hSw; clear hSw; go_simp; try with_reducible rfl)
              try simp only [Act.put, List.getElem_toArray, List.getElem_cons_zero, List.getElem_cons_succ, List.setIfInBounds_toArray, List.set_cons_zero, List.set_cons_succ]
              refine wpAnyH_take (i := 15) (v := ?vrsth33) rfl (by kernel_rfl) (by kernel_rfl) (by kernel_rfl) (fun _ _ _ h => h) (Or.inl ⟨by kernel_rfl, ?yrsth33⟩) hHeld ?trsth33
              case yrsth33 => (intro w9 hSw; clear hSw; go_simp; try with_reducible rfl)
              try simp only [Act.put, List.getElem_toArray, List.getElem_cons_zero, List.getElem_cons_succ, List.setIfInBounds_toArray, List.set_cons_zero, List.set_cons_succ]
              refine wpAnyH_take (i := 16) (v := ?vrsth34) rfl (by kernel_rfl) (by kernel_rfl) (by kernel_rfl) (fun _ _ _ h => h) (Or.inl ⟨by kernel_rfl, ?yrsth34⟩) hHeld ?trsth34
              case yrsth34 => (intro w9 hSw; obtain ⟨e9, f9⟩ := hSw; go_simp; try with_reducible rfl)
              try simp only [Act.put, List.getElem_toArray, List.getElem_cons_zero, List.getElem_cons_succ, List.setIfInBounds_toArray, List.set_cons_zero, List.set_cons_succ]
              refine wpAnyH_take (i := 18) (v := ?vrsth35) rfl (by kernel_rfl) (by kernel_rfl) (by kernel_rfl) (fun _ _ _ h => h) (Or.inl ⟨by kernel_rfl, ?yrsth35⟩) hHeld ?trsth35
              case yrsth35 => (intro w9 hSw; clear hSw; go_simp; try with_reducible rfl)
              try simp only [Act.put, List.getElem_toArray, List.getElem_cons_zero, List.getElem_cons_succ, List.setIfInBounds_toArray, List.set_cons_zero, List.set_cons_succ]
              refine wpAnyH_take (i := 19) (v := ?vrsth36) rfl (by kernel_rfl) (by kernel_rfl) (by kernel_rfl) (fun _ _ _ h => h) (Or.inl ⟨by kernel_rfl, ?yrsth36⟩) hHeld ?trsth36
              case yrsth36 => (intro w9 hSw; clear hSw; go_simp; try with_reducible rfl)
              try simp only [Act.put, List.getElem_toArray, List.getElem_cons_zero, List.getElem_cons_succ, List.setIfInBounds_toArray, List.set_cons_zero, List.set_cons_succ]
              refine wpAnyH_take (i := 20) (v := ?vrsth37) rfl (by kernel_rfl) (by kernel_rfl) (by kernel_rfl) (fun _ _ _ h => h) (Or.inl ⟨by kernel_rfl, ?yrsth37⟩) hHeld ?trsth37
              case yrsth37 => (intro w9 hSw; clear hSw; go_simp; try with_reducible rfl)
              try simp only [Act.put, List.getElem_toArray, List.getElem_cons_zero, List.getElem_cons_succ, List.setIfInBounds_toArray, List.set_cons_zero, List.set_cons_succ]
              refine wpAnyH_take (i := 21) (v := ?vrsth38) rfl (by kernel_rfl) (by kernel_rfl) (by kernel_rfl) (fun _ _ _ h => h) (Or.inl ⟨by kernel_rfl, ?yrsth38⟩) hHeld ?trsth38
              case yrsth38 => (intro w9 hSw; clear hSw; go_simp; try with_reducible rfl)
              try simp only [Act.put, List.getElem_toArray, List.getElem_cons_zero, List.getElem_cons_succ, List.setIfInBounds_toArray, List.set_cons_zero, List.set_cons_succ]
              refine wpAnyH_take (i := 22) (v := ?vrsth39) rfl (by kernel_rfl) (by kernel_rfl) (by kernel_rfl) (fun _ _ _ h => h) (Or.inl ⟨by kernel_rfl, ?yrsth39⟩) hHeld ?trsth39
              case yrsth39 => (intro w9 hSw; obtain ⟨e9, f9⟩ := hSw; go_simp; try with_reducible rfl)
              try simp only [Act.put, List.getElem_toArray, List.getElem_cons_zero, List.getElem_cons_succ, List.setIfInBounds_toArray, List.set_cons_zero, List.set_cons_succ]
              refine wpAnyH_take (i := 23) (v := ?vrsth40) rfl (by kernel_rfl) (by kernel_rfl) (by kernel_rfl) (fun _ _ _ h => h) (Or.inl ⟨by kernel_rfl, ?yrsth40⟩) hHeld ?trsth40
              case yrsth40 => (intro w9 hSw; clear hSw; go_simp; try with_reducible rfl)
              try simp only [Act.put, List.getElem_toArray, List.getElem_cons_zero, List.getElem_cons_succ, List.setIfInBounds_toArray, List.set_cons_zero, List.set_cons_succ]
              refine wpAnyH_ready (rs := [17]) (by kernel_rfl) (by simp) ?_
              refine AllReadyH.cons (o := _) rfl (fun K hK => ?_) ?_
              · go_simp
                refine (RMS.out _ HM.out.log).mono ?_; rintro e w41 ⟨rfl, b41⟩
                dsimp only
                have q41 := bnext q27 b41
                have HM := Lib.hid (HM.out.kept1 b41)
                have HB := Lib.hid (bnext HB.out b41)
                refine hK.out _ _ (HKT.out _ q41) (fun hHeld3 => ?_)
                clear hK K hHeld
                have hHeld := hHeld3
                clear hHeld3
                try simp only [Act.put, List.getElem_toArray, List.getElem_cons_zero, List.getElem_cons_succ, List.setIfInBounds_toArray, List.set_cons_zero, List.set_cons_succ]
                refine wpAnyH_take (i := 24) (v := ?vrsth42) rfl (by kernel_rfl) (by kernel_rfl) (by kernel_rfl) (fun _ _ _ h => h) (Or.inl ⟨by kernel_rfl, ?yrsth42⟩) hHeld ?trsth42
                case yrsth42 => (intro w9 hSw; clear hSw; go_simp; try with_reducible rfl)
                try simp only [Act.put, List.getElem_toArray, List.getElem_cons_zero, List.getElem_cons_succ, List.setIfInBounds_toArray, List.set_cons_zero, List.set_cons_succ]
                refine wpAnyH_take (i := 25) (v := ?vrsth43) rfl (by kernel_rfl) (by kernel_rfl) (by kernel_rfl) (fun _ _ _ h => h) (Or.inl ⟨by kernel_rfl, ?yrsth43⟩) hHeld ?trsth43
                case yrsth43 => (intro w9 hSw; clear hSw; go_simp; try with_reducible rfl)
                try simp only [Act.put, List.getElem_toArray, List.getElem_cons_zero, List.getElem_cons_succ, List.setIfInBounds_toArray, List.set_cons_zero, List.set_cons_succ]
                refine ⟨by kernel_rfl, ?_⟩
                clear hHeld
                have HE1 : Hid (ts1 = []) := Lib.hid (stands_none HM.out.pure.log.stands)
                have hsz := q41.size
                go_wp2
                exact ⟨⟨k + 1, S1, p1, q1, 0, ts1, want, want, by go_num, rfl, by omega, by omega, a2 hleft, by omega, by rw [HE1.out]; exact Nat.zero_le _, by omega, Lib.hid (by rw [HE1.out]; exact TxnsOwn.nil _ _), Lib.hid (by rw [HE1.out]; exact mild_nil), HM, HB⟩, by simp [intOf]; omega⟩
              exact AllReadyH.nil
            exact AllReadyH.nil
          exact AllReadyH.nil
        · obtain ⟨kk, hkk⟩ : ∃ kk : Nat, xk % 4 = kk := ⟨_, rfl⟩
          have hk2 : (xk : Int).tmod 4 = (kk : Int) := by rw [Int.tmod_eq_emod_of_nonneg (by omega)]; omega
          have hk3 : ((kk : Int) == 3) = false := by rw [beq_eq_false_iff_ne]; omega
          have hk4 : ¬ ((kk : Int) = 3) := by omega
          by_cases hft : used + sz ≤ l - 1
          · have tg : decide (rm < (sz : Int)) = false := decide_eq_false (by omega)
            have HFT := Lib.hid hft
            clear RM0 hrm hkk
            have HKA : Hid (∀ W, Below w6.heap.size w6 W → W.cell? ⟨gx, o + k * 5, none⟩ = some (.int .u8 (xk : Int)) ∧ W.cell? ⟨wd, 10, none⟩ = some (.pointer (some ⟨g, 0, none⟩)) ∧ W.cell? ⟨tb, 0, none⟩ = some (.slice t1 na c3) ∧ W.cell? ⟨tb, 1, none⟩ = some (.slice t2 nb c4)) := Lib.hid fun W b9 => ⟨((bnext HB.out b9).cell (p := ⟨gx, o + (k * 5 + 0), none⟩) hgx).trans (HXC.out 0 _ rfl), (HM.out.wld.kept1 b9).log, (Blk.kept1 HTB.out b9).cell 0, (Blk.kept1 HTB.out b9).cell 1⟩
            have qG : Below w6.heap.size w6 w6.drew := (Below.refl _ _).drew
            have HM := Lib.hid (HM.out.kept1 qG)
            have HAL := Lib.hid (HAL.out.kept qG)
            have HVA := Lib.hid (row_kept HVA.out qG)
            have HVB := Lib.hid (row_kept HVB.out qG)
            have HVD := Lib.hid (row_kept HVD.out qG)
            have HTB := Lib.hid (Blk.kept1 HTB.out qG)
            have HB := Lib.hid (bnext HB.out qG)
            refine wp_region_held_drew (S := fun w9 => w9.cell? ⟨gx, o + k * 5, none⟩ = some (.int .u8 (xk : Int)) ∧ w9.cell? ⟨wd, 10, none⟩ = some (.pointer (some ⟨g, 0, none⟩)) ∧ w9.cell? ⟨tb, 0, none⟩ = some (.slice t1 na c3) ∧ w9.cell? ⟨tb, 1, none⟩ = some (.slice t2 nb c4)) mixed (HKA.out _ qG) (fun hHeld => ?_)
            generalize w6.drew = wI at *
            refine wpAnyH_take (i := 0) (v := ?vrafi44) rfl (by kernel_rfl) (by kernel_rfl) (by kernel_rfl) (fun _ _ _ h => h) (Or.inl ⟨by kernel_rfl, ?yrafi44⟩) hHeld ?trafi44
            case yrafi44 => (intro w9 hSw; clear hSw; go_simp; try with_reducible rfl)
            try simp only [Act.put, List.getElem_toArray, List.getElem_cons_zero, List.getElem_cons_succ, List.setIfInBounds_toArray, List.set_cons_zero, List.set_cons_succ]
            refine wpAnyH_take (i := 1) (v := ?vrafi45) rfl (by kernel_rfl) (by kernel_rfl) (by kernel_rfl) (fun _ _ _ h => h) (Or.inl ⟨by kernel_rfl, ?yrafi45⟩) hHeld ?trafi45
            case yrafi45 => (intro w9 hSw; clear hSw; go_simp; try with_reducible rfl)
            try simp only [Act.put, List.getElem_toArray, List.getElem_cons_zero, List.getElem_cons_succ, List.setIfInBounds_toArray, List.set_cons_zero, List.set_cons_succ]
            refine wpAnyH_take (i := 2) (v := ?vrafi46) rfl (by kernel_rfl) (by kernel_rfl) (by kernel_rfl) (fun _ _ _ h => h) (Or.inl ⟨by kernel_rfl, ?yrafi46⟩) hHeld ?trafi46
            case yrafi46 => (intro w9 hSw; clear hSw; go_simp; try with_reducible rfl)
            try simp only [Act.put, List.getElem_toArray, List.getElem_cons_zero, List.getElem_cons_succ, List.setIfInBounds_toArray, List.set_cons_zero, List.set_cons_succ]
            refine wpAnyH_take (i := 3) (v := ?vrafi47) rfl (by kernel_rfl) (by kernel_rfl) (by kernel_rfl) (fun _ _ _ h => h) (Or.inl ⟨by kernel_rfl, ?yrafi47⟩) hHeld ?trafi47
            case yrafi47 => (intro w9 hSw; clear hSw; go_simp; try with_reducible rfl)
            try simp only [Act.put, List.getElem_toArray, List.getElem_cons_zero, List.getElem_cons_succ, List.setIfInBounds_toArray, List.set_cons_zero, List.set_cons_succ]
            refine wpAnyH_take (i := 4) (v := ?vrafi48) rfl (by kernel_rfl) (by kernel_rfl) (by kernel_rfl) (fun _ _ _ h => h) (Or.inl ⟨by kernel_rfl, ?yrafi48⟩) hHeld ?trafi48
            case yrafi48 => (intro w9 hSw; obtain ⟨e9, f9, g9, h9⟩ := hSw; go_simp; try with_reducible rfl)
            try simp only [Act.put, List.getElem_toArray, List.getElem_cons_zero, List.getElem_cons_succ, List.setIfInBounds_toArray, List.set_cons_zero, List.set_cons_succ]
            refine wpAnyH_take (i := 5) (v := ?vrafi49) rfl (by kernel_rfl) (by kernel_rfl) (by kernel_rfl) (fun _ _ _ h => h) (Or.inl ⟨by kernel_rfl, ?yrafi49⟩) hHeld ?trafi49
            case yrafi49 => (intro w9 hSw; clear hSw; go_simp; try with_reducible rfl)
            try simp only [Act.put, List.getElem_toArray, List.getElem_cons_zero, List.getElem_cons_succ, List.setIfInBounds_toArray, List.set_cons_zero, List.set_cons_succ]
            refine wpAnyH_take (i := 6) (v := ?vrafi50) rfl (by kernel_rfl) (by kernel_rfl) (by kernel_rfl) (fun _ _ _ h => h) (Or.inl ⟨by kernel_rfl, ?yrafi50⟩) hHeld ?trafi50
            case yrafi50 => (intro w9 hSw; clear hSw; go_simp; try with_reducible rfl)
            try simp only [Act.put, List.getElem_toArray, List.getElem_cons_zero, List.getElem_cons_succ, List.setIfInBounds_toArray, List.set_cons_zero, List.set_cons_succ]
            refine wpAnyH_take (i := 7) (v := ?vrafi51) rfl (by kernel_rfl) (by kernel_rfl) (by kernel_rfl) (fun _ _ _ h => h) (Or.inl ⟨by kernel_rfl, ?yrafi51⟩) hHeld ?trafi51
            case yrafi51 => (intro w9 hSw; clear hSw; go_simp; try with_reducible rfl)
            try simp only [Act.put, List.getElem_toArray, List.getElem_cons_zero, List.getElem_cons_succ, List.setIfInBounds_toArray, List.set_cons_zero, List.set_cons_succ]
            refine wpAnyH_take (i := 8) (v := ?vrafi52) rfl (by kernel_rfl) (by kernel_rfl) (by kernel_rfl) (fun _ _ _ h => h) (Or.inl ⟨by kernel_rfl, ?yrafi52⟩) hHeld ?trafi52
            case yrafi52 => (intro w9 hSw; obtain ⟨e9, f9, g9, h9⟩ := hSw; go_simp; try with_reducible rfl)
            try simp only [Act.put, List.getElem_toArray, List.getElem_cons_zero, List.getElem_cons_succ, List.setIfInBounds_toArray, List.set_cons_zero, List.set_cons_succ]
            refine wpAnyH_take (i := 10) (v := ?vrafi53) rfl (by kernel_rfl) (by kernel_rfl) (by kernel_rfl) (fun _ _ _ h => h) (Or.inl ⟨by kernel_rfl, ?yrafi53⟩) hHeld ?trafi53
            case yrafi53 => (intro w9 hSw; clear hSw; go_simp; try with_reducible rfl)
            try simp only [Act.put, List.getElem_toArray, List.getElem_cons_zero, List.getElem_cons_succ, List.setIfInBounds_toArray, List.set_cons_zero, List.set_cons_succ]
            refine wpAnyH_take (i := 11) (v := ?vrafi54) rfl (by kernel_rfl) (by kernel_rfl) (by kernel_rfl) (fun _ _ _ h => h) (Or.inl ⟨by kernel_rfl, ?yrafi54⟩) hHeld ?trafi54
            case yrafi54 => (intro w9 hSw; clear hSw; go_simp; try with_reducible rfl)
            try simp only [Act.put, List.getElem_toArray, List.getElem_cons_zero, List.getElem_cons_succ, List.setIfInBounds_toArray, List.set_cons_zero, List.set_cons_succ]
            refine wpAnyH_take (i := 12) (v := ?vrafi55) rfl (by kernel_rfl) (by kernel_rfl) (by kernel_rfl) (fun _ _ _ h => h) (Or.inl ⟨by kernel_rfl, ?yrafi55⟩) hHeld ?trafi55
            case yrafi55 => (intro w9 hSw; clear hSw; go_simp; try with_reducible rfl)
            try simp only [Act.put, List.getElem_toArray, List.getElem_cons_zero, List.getElem_cons_succ, List.setIfInBounds_toArray, List.set_cons_zero, List.set_cons_succ]
            refine wpAnyH_take (i := 13) (v := ?vrafi56) rfl (by kernel_rfl) (by kernel_rfl) (by kernel_rfl) (fun _ _ _ h => h) (Or.inl ⟨by kernel_rfl, ?yrafi56⟩) hHeld ?trafi56
            case yrafi56 => (intro w9 hSw; obtain ⟨e9, f9, g9, h9⟩ := hSw; go_simp; try with_reducible rfl)
            try simp only [Act.put, List.getElem_toArray, List.getElem_cons_zero, List.getElem_cons_succ, List.setIfInBounds_toArray, List.set_cons_zero, List.set_cons_succ]
            refine wpAnyH_ready (rs := [9]) (by kernel_rfl) (by simp) ?_
            refine AllReadyH.cons (o := _) rfl (fun K hK => ?_) ?_
            · go_simp
              refine (SZ.out _).mono ?_; rintro e w57 ⟨rfl, b57⟩
              dsimp only
              have q57 := bnext qG b57
              have HM := Lib.hid (HM.out.kept1 b57)
              have HAL := Lib.hid (HAL.out.kept b57)
              have HVA := Lib.hid (row_kept HVA.out b57)
              have HVB := Lib.hid (row_kept HVB.out b57)
              have HVD := Lib.hid (row_kept HVD.out b57)
              have HTB := Lib.hid (Blk.kept1 HTB.out b57)
              have HB := Lib.hid (bnext HB.out b57)
              refine hK.out _ _ (HKA.out _ q57) (fun hHeld3 => ?_)
              clear hK K hHeld
              have hHeld := hHeld3
              clear hHeld3
              try simp only [Act.put, List.getElem_toArray, List.getElem_cons_zero, List.getElem_cons_succ, List.setIfInBounds_toArray, List.set_cons_zero, List.set_cons_succ]
              refine wpAnyH_ready (rs := [14]) (by kernel_rfl) (by simp) ?_
              refine AllReadyH.cons (o := _) rfl (fun K hK => ?_) ?_
              · go_simp
                refine (RM.out _ HM.out.log).mono ?_; rintro e w58 ⟨rfl, b58⟩
                dsimp only
                have q58 := bnext q57 b58
                have HM := Lib.hid (HM.out.kept1 b58)
                have HAL := Lib.hid (HAL.out.kept b58)
                have HVA := Lib.hid (row_kept HVA.out b58)
                have HVB := Lib.hid (row_kept HVB.out b58)
                have HVD := Lib.hid (row_kept HVD.out b58)
                have HTB := Lib.hid (Blk.kept1 HTB.out b58)
                have HB := Lib.hid (bnext HB.out b58)
                refine hK.out _ _ (HKA.out _ q58) (fun hHeld3 => ?_)
                clear hK K hHeld
                have hHeld := hHeld3
                clear hHeld3
                try simp only [Act.put, List.getElem_toArray, List.getElem_cons_zero, List.getElem_cons_succ, List.setIfInBounds_toArray, List.set_cons_zero, List.set_cons_succ]
                refine wpAnyH_take (i := 15) (v := ?vrafi59) rfl (by kernel_rfl) (by kernel_rfl) (by kernel_rfl) (fun _ _ _ h => h) (Or.inl ⟨by kernel_rfl, ?yrafi59⟩) hHeld ?trafi59
                case yrafi59 => (intro w9 hSw; clear hSw; go_simp; try with_reducible rfl)
                try simp only [Act.put, List.getElem_toArray, List.getElem_cons_zero, List.getElem_cons_succ, List.setIfInBounds_toArray, List.set_cons_zero, List.set_cons_succ]
                refine wpAnyH_take (i := 16) (v := ?vrafi60) rfl (by kernel_rfl) (by kernel_rfl) (by kernel_rfl) (fun _ _ _ h => h) (Or.inl ⟨by kernel_rfl, ?yrafi60⟩) hHeld ?trafi60
                case yrafi60 => (intro w9 hSw; clear hSw; go_simp; try with_reducible rfl)
                try simp only [Act.put, List.getElem_toArray, List.getElem_cons_zero, List.getElem_cons_succ, List.setIfInBounds_toArray, List.set_cons_zero, List.set_cons_succ]
                refine ⟨by kernel_rfl, ?_⟩
                clear hHeld
                have HAS : Hid (A0 ≤ w58.heap.size) := Lib.hid (Nat.le_trans hAs (q58).size)
                go_wp2
                have HKF : Hid (∀ W, Below w58.heap.size w58 W → W.cell? ⟨wd, 10, none⟩ = some (.pointer (some ⟨g, 0, none⟩)) ∧ W.cell? ⟨tb, 0, none⟩ = some (.slice t1 na c3) ∧ W.cell? ⟨tb, 1, none⟩ = some (.slice t2 nb c4)) := Lib.hid fun W b9 => ⟨(HM.out.wld.kept1 b9).log, (Blk.kept1 HTB.out b9).cell 0, (Blk.kept1 HTB.out b9).cell 1⟩
                have hAs : A0 ≤ w58.heap.size := HAS.out
                have qF : Below w58.heap.size w58 w58.drew := (Below.refl _ _).drew
                have HM := Lib.hid (HM.out.kept1 qF)
                have HAL := Lib.hid (HAL.out.kept qF)
                have HVA := Lib.hid (row_kept HVA.out qF)
                have HVB := Lib.hid (row_kept HVB.out qF)
                have HVD := Lib.hid (row_kept HVD.out qF)
                have HTB := Lib.hid (Blk.kept1 HTB.out qF)
                have HB := Lib.hid (bnext HB.out qF)
                have hAs : A0 ≤ w58.drew.heap.size := Nat.le_trans hAs qF.size
                refine wp_region_held_drew (S := fun w9 => w9.cell? ⟨wd, 10, none⟩ = some (.pointer (some ⟨g, 0, none⟩)) ∧ w9.cell? ⟨tb, 0, none⟩ = some (.slice t1 na c3) ∧ w9.cell? ⟨tb, 1, none⟩ = some (.slice t2 nb c4)) mixed (HKF.out _ qF) (fun hHeld => ?_)
                generalize w58.drew = wF at *
                refine wpAnyH_take (i := 0) (v := ?vrf61) rfl (by kernel_rfl) (by kernel_rfl) (by kernel_rfl) (fun _ _ _ h => h) (Or.inl ⟨by kernel_rfl, ?yrf61⟩) hHeld ?trf61
                case yrf61 => (intro w9 hSw; clear hSw; go_simp; try with_reducible rfl)
                try simp only [Act.put, List.getElem_toArray, List.getElem_cons_zero, List.getElem_cons_succ, List.setIfInBounds_toArray, List.set_cons_zero, List.set_cons_succ]
                refine wpAnyH_take (i := 1) (v := ?vrf62) rfl (by kernel_rfl) (by kernel_rfl) (by kernel_rfl) (fun _ _ _ h => h) (Or.inl ⟨by kernel_rfl, ?yrf62⟩) hHeld ?trf62
                case yrf62 => (intro w9 hSw; clear hSw; go_simp; try with_reducible rfl)
                try simp only [Act.put, List.getElem_toArray, List.getElem_cons_zero, List.getElem_cons_succ, List.setIfInBounds_toArray, List.set_cons_zero, List.set_cons_succ]
                refine wpAnyH_take (i := 2) (v := ?vrf63) rfl (by kernel_rfl) (by kernel_rfl) (by kernel_rfl) (fun _ _ _ h => h) (Or.inl ⟨by kernel_rfl, ?yrf63⟩) hHeld ?trf63
                case yrf63 => (intro w9 hSw; clear hSw; go_simp; try with_reducible rfl)
                try simp only [Act.put, List.getElem_toArray, List.getElem_cons_zero, List.getElem_cons_succ, List.setIfInBounds_toArray, List.set_cons_zero, List.set_cons_succ]
                refine wpAnyH_take (i := 3) (v := ?vrf64) rfl (by kernel_rfl) (by kernel_rfl) (by kernel_rfl) (fun _ _ _ h => h) (Or.inl ⟨by kernel_rfl, ?yrf64⟩) hHeld ?trf64
                case yrf64 => (intro w9 hSw; obtain ⟨e9, f9, g9⟩ := hSw; go_simp; try with_reducible rfl)
                try simp only [Act.put, List.getElem_toArray, List.getElem_cons_zero, List.getElem_cons_succ, List.setIfInBounds_toArray, List.set_cons_zero, List.set_cons_succ]
                refine wpAnyH_take (i := 4) (v := ?vrf65) rfl (by kernel_rfl) (by kernel_rfl) (by kernel_rfl) (fun _ _ _ h => h) (Or.inl ⟨by kernel_rfl, ?yrf65⟩) hHeld ?trf65
                case yrf65 => (intro w9 hSw; obtain ⟨e9, f9, g9⟩ := hSw; go_simp; try with_reducible rfl)
                try simp only [Act.put, List.getElem_toArray, List.getElem_cons_zero, List.getElem_cons_succ, List.setIfInBounds_toArray, List.set_cons_zero, List.set_cons_succ]
                refine wpAnyH_take (i := 5) (v := ?vrf66) rfl (by kernel_rfl) (by kernel_rfl) (by kernel_rfl) (fun _ _ _ h => h) (Or.inl ⟨by kernel_rfl, ?yrf66⟩) hHeld ?trf66
                case yrf66 => (intro w9 hSw; clear hSw; go_simp; try with_reducible rfl)
                try simp only [Act.put, List.getElem_toArray, List.getElem_cons_zero, List.getElem_cons_succ, List.setIfInBounds_toArray, List.set_cons_zero, List.set_cons_succ]
                refine wpAnyH_ready (rs := [6]) (by kernel_rfl) (by simp) ?_
                refine AllReadyH.cons (o := _) rfl (fun K hK => ?_) ?_
                · go_simp
                  refine (CM.out _ _ _ _ HM.out (tabOf HT.out HB.out) (ownRow_in HVA.out) (ownRow_in HVB.out) (ownRow_in HVD.out)).mono ?_; rintro e w67 ⟨z67, hs67⟩
                  obtain ⟨rfl, hfx, S1, a1, a2, hn67⟩ := hs67.resolve_right (by rintro (⟨-, hno, -⟩ | ⟨-, hno, -⟩) <;> first | exact hno hleft | exact absurd HFT.out (by omega))
                  dsimp only
                  have zz := (LawZ.of_logz (wd := wd) z67).zone0 (B := A0) hA.1 hA.2.1 hA.2.2.1
                  have HB := Lib.hid (HB.out.trans (z67.below HB.out.size (by omega) (by omega)))
                  have HAL := Lib.hid (HAL.out.zone (Nat.le_refl A0) zz)
                  have HVA := Lib.hid (row_zoneB HVA.out (Nat.le_refl A0) zz)
                  have HVB := Lib.hid (row_zoneB HVB.out (Nat.le_refl A0) zz)
                  have HTB := Lib.hid (Blk.kept HTB.out zz (.inr htb))
                  have HWL := Lib.hid hn67.wld
                  have HDV := Lib.hid hn67.dev
                  have HLG := Lib.hid hn67.log
                  have HPU := Lib.hid hn67.pure
                  have hAs : A0 ≤ w67.heap.size := Nat.le_trans hAs z67.size
                  have hlen1 : q' + (ts ++ [(⟨stepL da (chgB xc) fun k => (xf + k) % 256, stepR da (chgB xc) (chgB xr)⟩ : Tx)]).length = nx1 := by rw [List.length_append, List.length_singleton]; omega
                  have NXT := Lib.hid fun W (h : LogAt g d b l i 1 (1 + l) m (1 + l + m) t (1 + l + m + t) (((p' + (used + sz)) % (l - 1) : Nat) : Int) ((l - 1 - (used + sz) : Nat) : Int) (q' + (ts ++ [(⟨stepL da (chgB xc) fun k => (xf + k) % 256, stepR da (chgB xc) (chgB xr)⟩ : Tx)]).length) 0 W) => (by have := lognext_below h; rw [hlen1] at this; exact this : Calls Tryz.prog 23 #[.pointer (some ⟨g, 0, none⟩)] W fun e w' => e = .returned (.int .u64 (nx1 : Int)) ∧ Below W.heap.size W w')
                  have HKT : Hid (∀ W, Below w67.heap.size w67 W → W.cell? ⟨wd, 10, none⟩ = some (.pointer (some ⟨g, 0, none⟩)) ∧ W.cell? ⟨tb, 0, none⟩ = some (.slice t1 na c3) ∧ W.cell? ⟨tb, 1, none⟩ = some (.slice t2 nb c4)) := Lib.hid fun W b9 => ⟨(WldAt.kept1 HWL.out b9).log, (Blk.kept1 HTB.out b9).cell 0, (Blk.kept1 HTB.out b9).cell 1⟩
                  have q67 : Below w67.heap.size w67 w67 := Below.refl _ _
                  clear z67 zz hs67 hn67 HM HVD
                  refine hK.out _ _ (HKT.out _ q67) (fun hHeld3 => ?_)
                  clear hK K hHeld
                  have hHeld := hHeld3
                  clear hHeld3
                  try simp only [Act.put, List.getElem_toArray, List.getElem_cons_zero, List.getElem_cons_succ, List.setIfInBounds_toArray, List.set_cons_zero, List.set_cons_succ]
                  refine wpAnyH_take (i := 7) (v := ?vrf68) rfl (by kernel_rfl) (by kernel_rfl) (by kernel_rfl) (fun _ _ _ h => h) (Or.inl ⟨by kernel_rfl, ?yrf68⟩) hHeld ?trf68
                  case yrf68 => (intro w9 hSw; clear hSw; go_simp; try with_reducible rfl)
                  try simp only [Act.put, List.getElem_toArray, List.getElem_cons_zero, List.getElem_cons_succ, List.setIfInBounds_toArray, List.set_cons_zero, List.set_cons_succ]
                  refine wpAnyH_take (i := 8) (v := ?vrf69) rfl (by kernel_rfl) (by kernel_rfl) (by kernel_rfl) (fun _ _ _ h => h) (Or.inl ⟨by kernel_rfl, ?yrf69⟩) hHeld ?trf69
                  case yrf69 => (intro w9 hSw; clear hSw; go_simp; try with_reducible rfl)
                  try simp only [Act.put, List.getElem_toArray, List.getElem_cons_zero, List.getElem_cons_succ, List.setIfInBounds_toArray, List.set_cons_zero, List.set_cons_succ]
                  refine wpAnyH_take (i := 9) (v := ?vrf70) rfl (by kernel_rfl) (by kernel_rfl) (by kernel_rfl) (fun _ _ _ h => h) (Or.inl ⟨by kernel_rfl, ?yrf70⟩) hHeld ?trf70
                  case yrf70 => (intro w9 hSw; clear hSw; go_simp; try with_reducible rfl)
                  try simp only [Act.put, List.getElem_toArray, List.getElem_cons_zero, List.getElem_cons_succ, List.setIfInBounds_toArray, List.set_cons_zero, List.set_cons_succ]
                  refine wpAnyH_take (i := 10) (v := ?vrf71) rfl (by kernel_rfl) (by kernel_rfl) (by kernel_rfl) (fun _ _ _ h => h) (Or.inl ⟨by kernel_rfl, ?yrf71⟩) hHeld ?trf71
                  case yrf71 => (intro w9 hSw; clear hSw; go_simp; try with_reducible rfl)
                  try simp only [Act.put, List.getElem_toArray, List.getElem_cons_zero, List.getElem_cons_succ, List.setIfInBounds_toArray, List.set_cons_zero, List.set_cons_succ]
                  refine wpAnyH_take (i := 11) (v := ?vrf72) rfl (by kernel_rfl) (by kernel_rfl) (by kernel_rfl) (fun _ _ _ h => h) (Or.inl ⟨by kernel_rfl, ?yrf72⟩) hHeld ?trf72
                  case yrf72 => (intro w9 hSw; clear hSw; go_simp; try with_reducible rfl)
                  try simp only [Act.put, List.getElem_toArray, List.getElem_cons_zero, List.getElem_cons_succ, List.setIfInBounds_toArray, List.set_cons_zero, List.set_cons_succ]
                  refine wpAnyH_take (i := 12) (v := ?vrf73) rfl (by kernel_rfl) (by kernel_rfl) (by kernel_rfl) (fun _ _ _ h => h) (Or.inl ⟨by kernel_rfl, ?yrf73⟩) hHeld ?trf73
                  case yrf73 => (intro w9 hSw; obtain ⟨e9, f9, g9⟩ := hSw; go_simp; try with_reducible rfl)
                  try simp only [Act.put, List.getElem_toArray, List.getElem_cons_zero, List.getElem_cons_succ, List.setIfInBounds_toArray, List.set_cons_zero, List.set_cons_succ]
                  refine wpAnyH_take (i := 14) (v := ?vrf74) rfl (by kernel_rfl) (by kernel_rfl) (by kernel_rfl) (fun _ _ _ h => h) (Or.inl ⟨by kernel_rfl, ?yrf74⟩) hHeld ?trf74
                  case yrf74 => (intro w9 hSw; clear hSw; go_simp; try with_reducible rfl)
                  try simp only [Act.put, List.getElem_toArray, List.getElem_cons_zero, List.getElem_cons_succ, List.setIfInBounds_toArray, List.set_cons_zero, List.set_cons_succ]
                  refine wpAnyH_take (i := 15) (v := ?vrf75) rfl (by kernel_rfl) (by kernel_rfl) (by kernel_rfl) (fun _ _ _ h => h) (Or.inl ⟨by kernel_rfl, ?yrf75⟩) hHeld ?trf75
                  case yrf75 => (intro w9 hSw; clear hSw; go_simp; try with_reducible rfl)
                  try simp only [Act.put, List.getElem_toArray, List.getElem_cons_zero, List.getElem_cons_succ, List.setIfInBounds_toArray, List.set_cons_zero, List.set_cons_succ]
                  refine wpAnyH_ready (rs := [13]) (by kernel_rfl) (by simp) ?_
                  refine AllReadyH.cons (o := _) rfl (fun K hK => ?_) ?_
                  · go_simp
                    refine (NXT.out _ HLG.out).mono ?_; rintro e w76 ⟨rfl, b76⟩
                    dsimp only
                    have q76 := bnext q67 b76
                    have HAL := Lib.hid (HAL.out.kept b76)
                    have HVA := Lib.hid (row_kept HVA.out b76)
                    have HVB := Lib.hid (row_kept HVB.out b76)
                    have HTB := Lib.hid (Blk.kept1 HTB.out b76)
                    have HWL := Lib.hid (WldAt.kept1 HWL.out b76)
                    have HDV := Lib.hid (HDV.out.kept1 b76)
                    have HLG := Lib.hid (Blk.kept1 HLG.out b76)
                    have HB := Lib.hid (bnext HB.out b76)
                    refine hK.out _ _ (HKT.out _ q76) (fun hHeld3 => ?_)
                    clear hK K hHeld
                    have hHeld := hHeld3
                    clear hHeld3
                    try simp only [Act.put, List.getElem_toArray, List.getElem_cons_zero, List.getElem_cons_succ, List.setIfInBounds_toArray, List.set_cons_zero, List.set_cons_succ]
                    refine wpAnyH_take (i := 16) (v := ?vrf77) rfl (by kernel_rfl) (by kernel_rfl) (by kernel_rfl) (fun _ _ _ h => h) (Or.inl ⟨by kernel_rfl, ?yrf77⟩) hHeld ?trf77
                    case yrf77 => (intro w9 hSw; clear hSw; go_simp; try with_reducible rfl)
                    try simp only [Act.put, List.getElem_toArray, List.getElem_cons_zero, List.getElem_cons_succ, List.setIfInBounds_toArray, List.set_cons_zero, List.set_cons_succ]
                    refine wpAnyH_take (i := 17) (v := ?vrf78) rfl (by kernel_rfl) (by kernel_rfl) (by kernel_rfl) (fun _ _ _ h => h) (Or.inl ⟨by kernel_rfl, ?yrf78⟩) hHeld ?trf78
                    case yrf78 => (intro w9 hSw; clear hSw; go_simp; try with_reducible rfl)
                    try simp only [Act.put, List.getElem_toArray, List.getElem_cons_zero, List.getElem_cons_succ, List.setIfInBounds_toArray, List.set_cons_zero, List.set_cons_succ]
                    refine ⟨by kernel_rfl, ?_⟩
                    clear hHeld
                    have hAs : A0 ≤ w76.heap.size := Nat.le_trans hAs q76.size
                    have kq0 : w76.cell? ⟨gx, o + k * 5, none⟩ = some (.int .u8 (xk : Int)) := (HB.out.cell (p := ⟨gx, o + (k * 5 + 0), none⟩) hgx).trans (HXC.out 0 _ rfl)
                    have kq1 : w76.cell? ⟨gx, o + k * 5 + 1, none⟩ = some vc := (HB.out.cell (p := ⟨gx, o + (k * 5 + 1), none⟩) hgx).trans (HXC.out 1 _ rfl)
                    have kq2 : w76.cell? ⟨gx, o + k * 5 + 2, none⟩ = some vr := (HB.out.cell (p := ⟨gx, o + (k * 5 + 2), none⟩) hgx).trans (HXC.out 2 _ rfl)
                    have kq3 : w76.cell? ⟨gx, o + k * 5 + 3, none⟩ = some (.int .u8 (xf : Int)) := (HB.out.cell (p := ⟨gx, o + (k * 5 + 3), none⟩) hgx).trans (HXC.out 3 _ rfl)
                    have kq4 : w76.cell? ⟨gx, o + k * 5 + 4, none⟩ = some (.bool xd) := (HB.out.cell (p := ⟨gx, o + (k * 5 + 4), none⟩) hgx).trans (HXC.out 4 _ rfl)
                    have TX2 := Lib.hid (txn_wld HF.out HDA.out ⟨xk, xc, xr, xf, xd⟩ vc vr _ HWL.out (HIN.out.kept HB.out))
                    try dsimp only at TX2
                    rw [HN1.out] at TX2
                    go_wp2_with fail
                    refine TX2.out.mono ?_; rintro e w9 ⟨va2, vb2, vd2, rfl, -, -, -, b9⟩
                    have HAL := Lib.hid (HAL.out.kept b9)
                    have HVA := Lib.hid (row_kept HVA.out b9)
                    have HVB := Lib.hid (row_kept HVB.out b9)
                    have HTB := Lib.hid (Blk.kept1 HTB.out b9)
                    have HWL := Lib.hid (WldAt.kept1 HWL.out b9)
                    have HDV := Lib.hid (HDV.out.kept1 b9)
                    have HLG := Lib.hid (Blk.kept1 HLG.out b9)
                    have HB := Lib.hid (bnext HB.out b9)
                    have hAs : A0 ≤ w9.heap.size := Nat.le_trans hAs b9.size
                    clear b9 TX2 kq0 kq1 kq2 kq3 kq4
                    have HTW := Lib.hid HWL.out.wantThere
                    have zs := zone_sets wd w9 23 (arr12 n1).toList
                    obtain ⟨w10, hw10⟩ : ∃ wc, w9.setCells wd 23 (arr12 n1).toList = wc := ⟨_, rfl⟩
                    have HWL := Lib.hid (HWL.out.setWant n1)
                    rw [hw10] at zs HWL
                    have zs0 : Zone 0 A0 w9 w10 := zs.mono (Nat.zero_le _) (by omega)
                    have HAL := Lib.hid (HAL.out.zone (Nat.le_refl A0) zs0)
                    have HVA := Lib.hid (row_zoneB HVA.out (Nat.le_refl A0) zs0)
                    have HVB := Lib.hid (row_zoneB HVB.out (Nat.le_refl A0) zs0)
                    have HTB := Lib.hid (Blk.kept HTB.out zs0 (.inr htb))
                    have HDV := Lib.hid (HDV.out.kept zs (.inr (by omega)))
                    have HLG := Lib.hid (Blk.kept HLG.out zs (.inr (by omega)))
                    have HB := Lib.hid (HB.out.trans (zs.below (B := w.heap.size) HB.out.size hbot))
                    have hAs : A0 ≤ w10.heap.size := Nat.le_trans hAs zs.size
                    have HW10 := Lib.hid hw10
                    clear zs zs0 hw10
                    go_upto_region 20 with (first | (refine wpList_store_mid rfl _ _ _ rfl wd 23 (arr12 n1) rfl rfl HTW.out arr12_info (by simp [Value.oneCell']) ?_))
                    rw [HW10.out]
                    clear HW10 HTW
                    have HAQ := Lib.hid (HAL.out.kept (balloc1 w10 (.cells #[.slice t1 na c3, .slice t2 nb c4] 64)))
                    have HVQ := Lib.hid (And.intro (row_kept HVA.out (balloc1 w10 (.cells #[.slice t1 na c3, .slice t2 nb c4] 64))) (row_kept HVB.out (balloc1 w10 (.cells #[.slice t1 na c3, .slice t2 nb c4] 64))))
                    have r0 := HTB.out.cell 0
                    have r1 := HTB.out.cell 1
                    simp only [List.getElem?_toArray, List.getElem?_cons_zero, List.getElem?_cons_succ] at r0 r1
                    have HOB : Hid (∀ gq, (Value.slice qav0 ts.length qac0).ownBlock = some gq → gq ≠ tb) := Lib.hid fun gq hq => by have := HOB0.out gq hq; omega
                    go_upto_region 21 with (at_builtin; refine wpList_appT2 rfl _ _ rfl A0 _ ts (⟨stepL da (chgB xc) fun k => (xf + k) % 256, stepR da (chgB xc) (chgB xr)⟩ : Tx) t1 t2 c3 c4 na nb rfl HAQ.out w10 rfl w10.heap.size rfl rfl HVQ.out.1 HVQ.out.2 (by omega) (by rw [size_alloc]; omega) ?_; intro v11 w11 h11 g11)
                    have b11 := balloc1 w10 (.cells #[.slice t1 na c3, .slice t2 nb c4] 64)
                    have HTB := Lib.hid (show Blk tb _ _ w11 from (g11.block _ (Blk.lt (Blk.kept1 HTB.out b11)) (fun e => HOB.out tb e.symm rfl)).trans (Blk.kept1 HTB.out b11))
                    have bl11 : Below A0 w10 w11 := ((b11.mono hAs).trans (⟨g11.os, g11.tape, g11.output, g11.size, fun j hj => g11.block j (by rw [size_alloc]; omega) (fun e => by have := HOB0.out j e.symm; omega)⟩ : Below A0 _ w11))
                    have HAL := Lib.hid h11
                    have HWL := Lib.hid (show WldAt wd b l i m t d g home n1 w11 from (bl11.block _ (by omega)).trans HWL.out)
                    have HLG := Lib.hid (show LogAt g d b l i 1 (1 + l) m (1 + l + m) t (1 + l + m + t) (((p' + (used + sz)) % (l - 1) : Nat) : Int) ((l - 1 - (used + sz) : Nat) : Int) (q' + (ts ++ [(⟨stepL da (chgB xc) fun k => (xf + k) % 256, stepR da (chgB xc) (chgB xr)⟩ : Tx)]).length) 0 w11 from (bl11.block _ (by omega)).trans HLG.out)
                    have HDV := Lib.hid (HDV.out.kept (show Zone A0 w10.heap.size w10 w11 from ⟨bl11.os, bl11.tape, bl11.output, bl11.size, fun j hj hn => bl11.block j (by omega)⟩) (.inl hA.1))
                    have HB := Lib.hid (HB.out.trans (bl11.mono hA.2.2.2))
                    have hAs : A0 ≤ w11.heap.size := Nat.le_trans hAs bl11.size
                    clear HAQ HVQ HVA HVB b11 bl11 h11 g11 r0 r1
                    have r0 := HTB.out.cell 0
                    have r1 := HTB.out.cell 1
                    simp only [List.getElem?_toArray, List.getElem?_cons_zero, List.getElem?_cons_succ] at r0 r1
                    go_wp2_with fail
                    refine (SZ.out _).mono ?_; rintro e w12 ⟨rfl, b12⟩
                    have HAL := Lib.hid (HAL.out.kept b12)
                    have HWL := Lib.hid (WldAt.kept1 HWL.out b12)
                    have HDV := Lib.hid (HDV.out.kept1 b12)
                    have HLG := Lib.hid (Blk.kept1 HLG.out b12)
                    have HB := Lib.hid (bnext HB.out b12)
                    have hAs : A0 ≤ w12.heap.size := Nat.le_trans hAs b12.size
                    clear b12 r0 r1 HTB
                    obtain ⟨us, hus⟩ : ∃ us : Nat, used + sz = us := ⟨_, rfl⟩
                    have hus2 : (used : Int) + (sz : Int) = (us : Int) := by omega
                    obtain ⟨rm2, hrm2⟩ : ∃ rm2 : Int, ((l - 1 - (used + sz) : Nat) : Int) = rm2 := ⟨_, rfl⟩
                    have hw1 : IntKind.i64.wrap ((l : Int) - 1) = (l : Int) - 1 := IntWalk.i64_in _ (by omega)
                    have hfu := HFT.out
                    have hw2 : IntKind.i64.wrap ((l : Int) - 1 - (us : Int)) = (l : Int) - 1 - (us : Int) := IntWalk.i64_in _ (by omega)
                    have tq2 : (rm2 == (l : Int) - 1 - (us : Int)) = true := by rw [beq_iff_eq]; omega
                    have RMT := Lib.hid fun W (h : LogAt g d b l i 1 (1 + l) m (1 + l + m) t (1 + l + m + t) (((p' + (used + sz)) % (l - 1) : Nat) : Int) ((l - 1 - (used + sz) : Nat) : Int) (q' + (ts ++ [(⟨stepL da (chgB xc) fun k => (xf + k) % 256, stepR da (chgB xc) (chgB xr)⟩ : Tx)]).length) 0 W) => (by have := logroom_below h; rw [hrm2] at this; exact this : Calls Tryz.prog 17 #[.pointer (some ⟨g, 0, none⟩)] W fun e w' => e = .returned (.int .i64 rm2) ∧ Below W.heap.size W w')
                    have HUS := Lib.hid hus
                    have hmt := mild_step HMI.out da (chgB xc) (chgB xr) (fun k => (xf + k) % 256)
                    have HMI2 := Lib.hid hmt
                    clear hrm2 hus hmt
                    go_wp2
                    have HKU : Hid (∀ W, Below w12.heap.size w12 W → W.cell? ⟨wd, 10, none⟩ = some (.pointer (some ⟨g, 0, none⟩)) ∧ W.cell? ⟨wd, 1, none⟩ = some (.int .i64 (l : Int))) := Lib.hid fun W b9 => ⟨(WldAt.kept1 HWL.out b9).log, (wldG_cells (WldAt.kept1 HWL.out b9)).2.1⟩
                    have qU : Below w12.heap.size w12 w12.drew := (Below.refl _ _).drew
                    have HAL := Lib.hid (HAL.out.kept qU)
                    have HWL := Lib.hid (WldAt.kept1 HWL.out qU)
                    have HDV := Lib.hid (HDV.out.kept1 qU)
                    have HLG := Lib.hid (Blk.kept1 HLG.out qU)
                    have HB := Lib.hid (bnext HB.out qU)
                    refine wp_region_held_drew (S := fun w9 => w9.cell? ⟨wd, 10, none⟩ = some (.pointer (some ⟨g, 0, none⟩)) ∧ w9.cell? ⟨wd, 1, none⟩ = some (.int .i64 (l : Int))) mixed (HKU.out _ qU) (fun hHeld => ?_)
                    generalize w12.drew = wU at *
                    refine wpAnyH_take (i := 0) (v := ?vru79) rfl (by kernel_rfl) (by kernel_rfl) (by kernel_rfl) (fun _ _ _ h => h) (Or.inl ⟨by kernel_rfl, ?yru79⟩) hHeld ?tru79
                    case yru79 => (intro w9 hSw; clear hSw; go_simp; try with_reducible rfl)
                    try simp only [Act.put, List.getElem_toArray, List.getElem_cons_zero, List.getElem_cons_succ, List.setIfInBounds_toArray, List.set_cons_zero, List.set_cons_succ]
                    refine wpAnyH_take (i := 1) (v := ?vru80) rfl (by kernel_rfl) (by kernel_rfl) (by kernel_rfl) (fun _ _ _ h => h) (Or.inl ⟨by kernel_rfl, ?yru80⟩) hHeld ?tru80
                    case yru80 => (intro w9 hSw; clear hSw; go_simp; try with_reducible rfl)
                    try simp only [Act.put, List.getElem_toArray, List.getElem_cons_zero, List.getElem_cons_succ, List.setIfInBounds_toArray, List.set_cons_zero, List.set_cons_succ]
                    refine wpAnyH_take (i := 2) (v := ?vru81) rfl (by kernel_rfl) (by kernel_rfl) (by kernel_rfl) (fun _ _ _ h => h) (Or.inl ⟨by kernel_rfl, ?yru81⟩) hHeld ?tru81
                    case yru81 => (intro w9 hSw; clear hSw; go_simp; try with_reducible rfl)
                    try simp only [Act.put, List.getElem_toArray, List.getElem_cons_zero, List.getElem_cons_succ, List.setIfInBounds_toArray, List.set_cons_zero, List.set_cons_succ]
                    refine wpAnyH_take (i := 3) (v := ?vru82) rfl (by kernel_rfl) (by kernel_rfl) (by kernel_rfl) (fun _ _ _ h => h) (Or.inl ⟨by kernel_rfl, ?yru82⟩) hHeld ?tru82
                    case yru82 => (intro w9 hSw; obtain ⟨e9, f9⟩ := hSw; go_simp; try with_reducible rfl)
                    try simp only [Act.put, List.getElem_toArray, List.getElem_cons_zero, List.getElem_cons_succ, List.setIfInBounds_toArray, List.set_cons_zero, List.set_cons_succ]
                    refine wpAnyH_take (i := 5) (v := ?vru83) rfl (by kernel_rfl) (by kernel_rfl) (by kernel_rfl) (fun _ _ _ h => h) (Or.inl ⟨by kernel_rfl, ?yru83⟩) hHeld ?tru83
                    case yru83 => (intro w9 hSw; clear hSw; go_simp; try with_reducible rfl)
                    try simp only [Act.put, List.getElem_toArray, List.getElem_cons_zero, List.getElem_cons_succ, List.setIfInBounds_toArray, List.set_cons_zero, List.set_cons_succ]
                    refine wpAnyH_take (i := 6) (v := ?vru84) rfl (by kernel_rfl) (by kernel_rfl) (by kernel_rfl) (fun _ _ _ h => h) (Or.inl ⟨by kernel_rfl, ?yru84⟩) hHeld ?tru84
                    case yru84 => (intro w9 hSw; clear hSw; go_simp; try with_reducible rfl)
                    try simp only [Act.put, List.getElem_toArray, List.getElem_cons_zero, List.getElem_cons_succ, List.setIfInBounds_toArray, List.set_cons_zero, List.set_cons_succ]
                    refine wpAnyH_take (i := 7) (v := ?vru85) rfl (by kernel_rfl) (by kernel_rfl) (by kernel_rfl) (fun _ _ _ h => h) (Or.inl ⟨by kernel_rfl, ?yru85⟩) hHeld ?tru85
                    case yru85 => (intro w9 hSw; clear hSw; go_simp; try with_reducible rfl)
                    try simp only [Act.put, List.getElem_toArray, List.getElem_cons_zero, List.getElem_cons_succ, List.setIfInBounds_toArray, List.set_cons_zero, List.set_cons_succ]
                    refine wpAnyH_take (i := 8) (v := ?vru86) rfl (by kernel_rfl) (by kernel_rfl) (by kernel_rfl) (fun _ _ _ h => h) (Or.inl ⟨by kernel_rfl, ?yru86⟩) hHeld ?tru86
                    case yru86 => (intro w9 hSw; clear hSw; go_simp; try with_reducible rfl)
                    try simp only [Act.put, List.getElem_toArray, List.getElem_cons_zero, List.getElem_cons_succ, List.setIfInBounds_toArray, List.set_cons_zero, List.set_cons_succ]
                    refine wpAnyH_take (i := 9) (v := ?vru87) rfl (by kernel_rfl) (by kernel_rfl) (by kernel_rfl) (fun _ _ _ h => h) (Or.inl ⟨by kernel_rfl, ?yru87⟩) hHeld ?tru87
                    case yru87 => (intro w9 hSw; obtain ⟨e9, f9⟩ := hSw; go_simp; try with_reducible rfl)
                    try simp only [Act.put, List.getElem_toArray, List.getElem_cons_zero, List.getElem_cons_succ, List.setIfInBounds_toArray, List.set_cons_zero, List.set_cons_succ]
                    refine wpAnyH_take (i := 10) (v := ?vru88) rfl (by kernel_rfl) (by kernel_rfl) (by kernel_rfl) (fun _ _ _ h => h) (Or.inl ⟨by kernel_rfl, ?yru88⟩) hHeld ?tru88
                    case yru88 => (intro w9 hSw; clear hSw; go_simp; try with_reducible rfl)
                    try simp only [Act.put, List.getElem_toArray, List.getElem_cons_zero, List.getElem_cons_succ, List.setIfInBounds_toArray, List.set_cons_zero, List.set_cons_succ]
                    refine wpAnyH_take (i := 11) (v := ?vru89) rfl (by kernel_rfl) (by kernel_rfl) (by kernel_rfl) (fun _ _ _ h => h) (Or.inl ⟨by kernel_rfl, ?yru89⟩) hHeld ?tru89
                    case yru89 => (intro w9 hSw; clear hSw; go_simp; try with_reducible rfl)
                    try simp only [Act.put, List.getElem_toArray, List.getElem_cons_zero, List.getElem_cons_succ, List.setIfInBounds_toArray, List.set_cons_zero, List.set_cons_succ]
                    refine wpAnyH_take (i := 12) (v := ?vru90) rfl (by kernel_rfl) (by kernel_rfl) (by kernel_rfl) (fun _ _ _ h => h) (Or.inl ⟨by kernel_rfl, ?yru90⟩) hHeld ?tru90
                    case yru90 => (intro w9 hSw; clear hSw; go_simp; try with_reducible rfl)
                    try simp only [Act.put, List.getElem_toArray, List.getElem_cons_zero, List.getElem_cons_succ, List.setIfInBounds_toArray, List.set_cons_zero, List.set_cons_succ]
                    refine wpAnyH_ready (rs := [4]) (by kernel_rfl) (by simp) ?_
                    refine AllReadyH.cons (o := _) rfl (fun K hK => ?_) ?_
                    · go_simp
                      refine (RMT.out _ HLG.out).mono ?_; rintro e w91 ⟨rfl, b91⟩
                      dsimp only
                      have q91 := bnext qU b91
                      have HAL := Lib.hid (HAL.out.kept b91)
                      have HWL := Lib.hid (WldAt.kept1 HWL.out b91)
                      have HDV := Lib.hid (HDV.out.kept1 b91)
                      have HLG := Lib.hid (Blk.kept1 HLG.out b91)
                      have HB := Lib.hid (bnext HB.out b91)
                      refine hK.out _ _ (HKU.out _ q91) (fun hHeld3 => ?_)
                      clear hK K hHeld
                      have hHeld := hHeld3
                      clear hHeld3
                      try simp only [Act.put, List.getElem_toArray, List.getElem_cons_zero, List.getElem_cons_succ, List.setIfInBounds_toArray, List.set_cons_zero, List.set_cons_succ]
                      refine wpAnyH_take (i := 13) (v := ?vru92) rfl (by kernel_rfl) (by kernel_rfl) (by kernel_rfl) (fun _ _ _ h => h) (Or.inl ⟨by kernel_rfl, ?yru92⟩) hHeld ?tru92
                      case yru92 => (intro w9 hSw; clear hSw; go_simp; try with_reducible rfl)
                      try simp only [Act.put, List.getElem_toArray, List.getElem_cons_zero, List.getElem_cons_succ, List.setIfInBounds_toArray, List.set_cons_zero, List.set_cons_succ]
                      refine ⟨by kernel_rfl, ?_⟩
                      clear hHeld
                      have hsz := q91.size
                      go_wp2
                      exact ⟨⟨k + 1, S1, p', q', used + sz, ts ++ [(⟨stepL da (chgB xc) fun k => (xf + k) % 256, stepR da (chgB xc) (chgB xr)⟩ : Tx)], home, n1, by go_num, by rw [HUS.out], by omega, by omega, a2 hleft, by rw [List.length_append, List.length_singleton]; omega, by rw [List.length_append, List.length_singleton]; omega, by omega, HAL, HMI2, Lib.hid ⟨HWL.out, HDV.out, HLG.out, HPU.out, HBH.out, HN1B.out, hbot, ho1, ho2⟩, HB⟩, by simp [intOf]; omega⟩
                    exact AllReadyH.nil
                  exact AllReadyH.nil
                exact AllReadyH.nil
              exact AllReadyH.nil
            exact AllReadyH.nil
          · have tg : decide (rm < (sz : Int)) = true := decide_eq_true (by omega)
            clear RM0 hrm hkk
            have HKA : Hid (∀ W, Below w6.heap.size w6 W → W.cell? ⟨gx, o + k * 5, none⟩ = some (.int .u8 (xk : Int)) ∧ W.cell? ⟨wd, 10, none⟩ = some (.pointer (some ⟨g, 0, none⟩)) ∧ W.cell? ⟨tb, 0, none⟩ = some (.slice t1 na c3) ∧ W.cell? ⟨tb, 1, none⟩ = some (.slice t2 nb c4)) := Lib.hid fun W b9 => ⟨((bnext HB.out b9).cell (p := ⟨gx, o + (k * 5 + 0), none⟩) hgx).trans (HXC.out 0 _ rfl), (HM.out.wld.kept1 b9).log, (Blk.kept1 HTB.out b9).cell 0, (Blk.kept1 HTB.out b9).cell 1⟩
            have qG : Below w6.heap.size w6 w6.drew := (Below.refl _ _).drew
            have HM := Lib.hid (HM.out.kept1 qG)
            have HAL := Lib.hid (HAL.out.kept qG)
            have HVA := Lib.hid (row_kept HVA.out qG)
            have HVB := Lib.hid (row_kept HVB.out qG)
            have HVD := Lib.hid (row_kept HVD.out qG)
            have HTB := Lib.hid (Blk.kept1 HTB.out qG)
            have HB := Lib.hid (bnext HB.out qG)
            refine wp_region_held_drew (S := fun w9 => w9.cell? ⟨gx, o + k * 5, none⟩ = some (.int .u8 (xk : Int)) ∧ w9.cell? ⟨wd, 10, none⟩ = some (.pointer (some ⟨g, 0, none⟩)) ∧ w9.cell? ⟨tb, 0, none⟩ = some (.slice t1 na c3) ∧ w9.cell? ⟨tb, 1, none⟩ = some (.slice t2 nb c4)) mixed (HKA.out _ qG) (fun hHeld => ?_)
            generalize w6.drew = wH at *
            refine wpAnyH_take (i := 0) (v := ?vrafu93) rfl (by kernel_rfl) (by kernel_rfl) (by kernel_rfl) (fun _ _ _ h => h) (Or.inl ⟨by kernel_rfl, ?yrafu93⟩) hHeld ?trafu93
            case yrafu93 => (intro w9 hSw; clear hSw; go_simp; try with_reducible rfl)
            try simp only [Act.put, List.getElem_toArray, List.getElem_cons_zero, List.getElem_cons_succ, List.setIfInBounds_toArray, List.set_cons_zero, List.set_cons_succ]
            refine wpAnyH_take (i := 1) (v := ?vrafu94) rfl (by kernel_rfl) (by kernel_rfl) (by kernel_rfl) (fun _ _ _ h => h) (Or.inl ⟨by kernel_rfl, ?yrafu94⟩) hHeld ?trafu94
            case yrafu94 => (intro w9 hSw; clear hSw; go_simp; try with_reducible rfl)
            try simp only [Act.put, List.getElem_toArray, List.getElem_cons_zero, List.getElem_cons_succ, List.setIfInBounds_toArray, List.set_cons_zero, List.set_cons_succ]
            refine wpAnyH_take (i := 2) (v := ?vrafu95) rfl (by kernel_rfl) (by kernel_rfl) (by kernel_rfl) (fun _ _ _ h => h) (Or.inl ⟨by kernel_rfl, ?yrafu95⟩) hHeld ?trafu95
            case yrafu95 => (intro w9 hSw; clear hSw; go_simp; try with_reducible rfl)
            try simp only [Act.put, List.getElem_toArray, List.getElem_cons_zero, List.getElem_cons_succ, List.setIfInBounds_toArray, List.set_cons_zero, List.set_cons_succ]
            refine wpAnyH_take (i := 3) (v := ?vrafu96) rfl (by kernel_rfl) (by kernel_rfl) (by kernel_rfl) (fun _ _ _ h => h) (Or.inl ⟨by kernel_rfl, ?yrafu96⟩) hHeld ?trafu96
            case yrafu96 => (intro w9 hSw; clear hSw; go_simp; try with_reducible rfl)
            try simp only [Act.put, List.getElem_toArray, List.getElem_cons_zero, List.getElem_cons_succ, List.setIfInBounds_toArray, List.set_cons_zero, List.set_cons_succ]
            refine wpAnyH_take (i := 4) (v := ?vrafu97) rfl (by kernel_rfl) (by kernel_rfl) (by kernel_rfl) (fun _ _ _ h => h) (Or.inl ⟨by kernel_rfl, ?yrafu97⟩) hHeld ?trafu97
            case yrafu97 => (intro w9 hSw; obtain ⟨e9, f9, g9, h9⟩ := hSw; go_simp; try with_reducible rfl)
            try simp only [Act.put, List.getElem_toArray, List.getElem_cons_zero, List.getElem_cons_succ, List.setIfInBounds_toArray, List.set_cons_zero, List.set_cons_succ]
            refine wpAnyH_take (i := 5) (v := ?vrafu98) rfl (by kernel_rfl) (by kernel_rfl) (by kernel_rfl) (fun _ _ _ h => h) (Or.inl ⟨by kernel_rfl, ?yrafu98⟩) hHeld ?trafu98
            case yrafu98 => (intro w9 hSw; clear hSw; go_simp; try with_reducible rfl)
            try simp only [Act.put, List.getElem_toArray, List.getElem_cons_zero, List.getElem_cons_succ, List.setIfInBounds_toArray, List.set_cons_zero, List.set_cons_succ]
            refine wpAnyH_take (i := 6) (v := ?vrafu99) rfl (by kernel_rfl) (by kernel_rfl) (by kernel_rfl) (fun _ _ _ h => h) (Or.inl ⟨by kernel_rfl, ?yrafu99⟩) hHeld ?trafu99
            case yrafu99 => (intro w9 hSw; clear hSw; go_simp; try with_reducible rfl)
            try simp only [Act.put, List.getElem_toArray, List.getElem_cons_zero, List.getElem_cons_succ, List.setIfInBounds_toArray, List.set_cons_zero, List.set_cons_succ]
            refine wpAnyH_take (i := 7) (v := ?vrafu100) rfl (by kernel_rfl) (by kernel_rfl) (by kernel_rfl) (fun _ _ _ h => h) (Or.inl ⟨by kernel_rfl, ?yrafu100⟩) hHeld ?trafu100
            case yrafu100 => (intro w9 hSw; clear hSw; go_simp; try with_reducible rfl)
            try simp only [Act.put, List.getElem_toArray, List.getElem_cons_zero, List.getElem_cons_succ, List.setIfInBounds_toArray, List.set_cons_zero, List.set_cons_succ]
            refine wpAnyH_take (i := 8) (v := ?vrafu101) rfl (by kernel_rfl) (by kernel_rfl) (by kernel_rfl) (fun _ _ _ h => h) (Or.inl ⟨by kernel_rfl, ?yrafu101⟩) hHeld ?trafu101
            case yrafu101 => (intro w9 hSw; obtain ⟨e9, f9, g9, h9⟩ := hSw; go_simp; try with_reducible rfl)
            try simp only [Act.put, List.getElem_toArray, List.getElem_cons_zero, List.getElem_cons_succ, List.setIfInBounds_toArray, List.set_cons_zero, List.set_cons_succ]
            refine wpAnyH_take (i := 10) (v := ?vrafu102) rfl (by kernel_rfl) (by kernel_rfl) (by kernel_rfl) (fun _ _ _ h => h) (Or.inl ⟨by kernel_rfl, ?yrafu102⟩) hHeld ?trafu102
            case yrafu102 => (intro w9 hSw; clear hSw; go_simp; try with_reducible rfl)
            try simp only [Act.put, List.getElem_toArray, List.getElem_cons_zero, List.getElem_cons_succ, List.setIfInBounds_toArray, List.set_cons_zero, List.set_cons_succ]
            refine wpAnyH_take (i := 11) (v := ?vrafu103) rfl (by kernel_rfl) (by kernel_rfl) (by kernel_rfl) (fun _ _ _ h => h) (Or.inl ⟨by kernel_rfl, ?yrafu103⟩) hHeld ?trafu103
            case yrafu103 => (intro w9 hSw; clear hSw; go_simp; try with_reducible rfl)
            try simp only [Act.put, List.getElem_toArray, List.getElem_cons_zero, List.getElem_cons_succ, List.setIfInBounds_toArray, List.set_cons_zero, List.set_cons_succ]
            refine wpAnyH_take (i := 12) (v := ?vrafu104) rfl (by kernel_rfl) (by kernel_rfl) (by kernel_rfl) (fun _ _ _ h => h) (Or.inl ⟨by kernel_rfl, ?yrafu104⟩) hHeld ?trafu104
            case yrafu104 => (intro w9 hSw; clear hSw; go_simp; try with_reducible rfl)
            try simp only [Act.put, List.getElem_toArray, List.getElem_cons_zero, List.getElem_cons_succ, List.setIfInBounds_toArray, List.set_cons_zero, List.set_cons_succ]
            refine wpAnyH_take (i := 13) (v := ?vrafu105) rfl (by kernel_rfl) (by kernel_rfl) (by kernel_rfl) (fun _ _ _ h => h) (Or.inl ⟨by kernel_rfl, ?yrafu105⟩) hHeld ?trafu105
            case yrafu105 => (intro w9 hSw; obtain ⟨e9, f9, g9, h9⟩ := hSw; go_simp; try with_reducible rfl)
            try simp only [Act.put, List.getElem_toArray, List.getElem_cons_zero, List.getElem_cons_succ, List.setIfInBounds_toArray, List.set_cons_zero, List.set_cons_succ]
            refine wpAnyH_ready (rs := [9]) (by kernel_rfl) (by simp) ?_
            refine AllReadyH.cons (o := _) rfl (fun K hK => ?_) ?_
            · go_simp
              refine (SZ.out _).mono ?_; rintro e w106 ⟨rfl, b106⟩
              dsimp only
              have q106 := bnext qG b106
              have HM := Lib.hid (HM.out.kept1 b106)
              have HAL := Lib.hid (HAL.out.kept b106)
              have HVA := Lib.hid (row_kept HVA.out b106)
              have HVB := Lib.hid (row_kept HVB.out b106)
              have HVD := Lib.hid (row_kept HVD.out b106)
              have HTB := Lib.hid (Blk.kept1 HTB.out b106)
              have HB := Lib.hid (bnext HB.out b106)
              refine hK.out _ _ (HKA.out _ q106) (fun hHeld3 => ?_)
              clear hK K hHeld
              have hHeld := hHeld3
              clear hHeld3
              try simp only [Act.put, List.getElem_toArray, List.getElem_cons_zero, List.getElem_cons_succ, List.setIfInBounds_toArray, List.set_cons_zero, List.set_cons_succ]
              refine wpAnyH_ready (rs := [14]) (by kernel_rfl) (by simp) ?_
              refine AllReadyH.cons (o := _) rfl (fun K hK => ?_) ?_
              · go_simp
                refine (RM.out _ HM.out.log).mono ?_; rintro e w107 ⟨rfl, b107⟩
                dsimp only
                have q107 := bnext q106 b107
                have HM := Lib.hid (HM.out.kept1 b107)
                have HAL := Lib.hid (HAL.out.kept b107)
                have HVA := Lib.hid (row_kept HVA.out b107)
                have HVB := Lib.hid (row_kept HVB.out b107)
                have HVD := Lib.hid (row_kept HVD.out b107)
                have HTB := Lib.hid (Blk.kept1 HTB.out b107)
                have HB := Lib.hid (bnext HB.out b107)
                refine hK.out _ _ (HKA.out _ q107) (fun hHeld3 => ?_)
                clear hK K hHeld
                have hHeld := hHeld3
                clear hHeld3
                try simp only [Act.put, List.getElem_toArray, List.getElem_cons_zero, List.getElem_cons_succ, List.setIfInBounds_toArray, List.set_cons_zero, List.set_cons_succ]
                refine wpAnyH_take (i := 15) (v := ?vrafu108) rfl (by kernel_rfl) (by kernel_rfl) (by kernel_rfl) (fun _ _ _ h => h) (Or.inl ⟨by kernel_rfl, ?yrafu108⟩) hHeld ?trafu108
                case yrafu108 => (intro w9 hSw; clear hSw; go_simp; try with_reducible rfl)
                try simp only [Act.put, List.getElem_toArray, List.getElem_cons_zero, List.getElem_cons_succ, List.setIfInBounds_toArray, List.set_cons_zero, List.set_cons_succ]
                refine wpAnyH_take (i := 16) (v := ?vrafu109) rfl (by kernel_rfl) (by kernel_rfl) (by kernel_rfl) (fun _ _ _ h => h) (Or.inl ⟨by kernel_rfl, ?yrafu109⟩) hHeld ?trafu109
                case yrafu109 => (intro w9 hSw; clear hSw; go_simp; try with_reducible rfl)
                try simp only [Act.put, List.getElem_toArray, List.getElem_cons_zero, List.getElem_cons_succ, List.setIfInBounds_toArray, List.set_cons_zero, List.set_cons_succ]
                refine ⟨by kernel_rfl, ?_⟩
                clear hHeld
                have HAS : Hid (A0 ≤ w107.heap.size) := Lib.hid (Nat.le_trans hAs (q107).size)
                go_wp2
                have HKS : Hid (∀ W, Below w107.heap.size w107 W → W.cell? ⟨wd, 10, none⟩ = some (.pointer (some ⟨g, 0, none⟩)) ∧ W.cell? ⟨wd, 1, none⟩ = some (.int .i64 (l : Int))) := Lib.hid fun W b9 => ⟨(HM.out.wld.kept1 b9).log, (wldG_cells (HM.out.wld.kept1 b9)).2.1⟩
                have hAs : A0 ≤ w107.heap.size := HAS.out
                have qSfu : Below w107.heap.size w107 w107.drew := (Below.refl _ _).drew
                have HM := Lib.hid (HM.out.kept1 qSfu)
                have HB := Lib.hid (bnext HB.out qSfu)
                have hAs : A0 ≤ w107.drew.heap.size := Nat.le_trans hAs (qSfu).size
                refine wp_region_held_drew (S := fun w9 => w9.cell? ⟨wd, 10, none⟩ = some (.pointer (some ⟨g, 0, none⟩)) ∧ w9.cell? ⟨wd, 1, none⟩ = some (.int .i64 (l : Int))) mixed (HKS.out _ qSfu) (fun hHeld => ?_)
                generalize w107.drew = wSfu at *
                refine wpAnyH_take (i := 0) (v := ?vrsfu110) rfl (by kernel_rfl) (by kernel_rfl) (by kernel_rfl) (fun _ _ _ h => h) (Or.inl ⟨by kernel_rfl, ?yrsfu110⟩) hHeld ?trsfu110
                case yrsfu110 => (intro w9 hSw; clear hSw; go_simp; try with_reducible rfl)
                try simp only [Act.put, List.getElem_toArray, List.getElem_cons_zero, List.getElem_cons_succ, List.setIfInBounds_toArray, List.set_cons_zero, List.set_cons_succ]
                refine wpAnyH_ready (rs := [1]) (by kernel_rfl) (by simp) ?_
                refine AllReadyH.cons (o := _) rfl (fun K hK => ?_) ?_
                · go_simp
                  refine (SE.out _ HM.out).mono ?_; rintro e w111 ⟨z111, hs111⟩
                  unfold Settled at hs111
                  obtain ⟨rfl, S1, p1, q1, ts1, a1, a2, a3, hm111⟩ := hs111.resolve_right fun hh => hh.2.1 hleft
                  dsimp only
                  have HB := Lib.hid (HB.out.trans (z111.below (B := w.heap.size) HB.out.size (by omega) (by omega) (by omega)))
                  have hAs : A0 ≤ w111.heap.size := Nat.le_trans hAs z111.size
                  have HM := Lib.hid hm111
                  have hnx1 : q1 + ts1.length = nx := by omega
                  have NXS := Lib.hid fun W (h : LogAt g d b l i 1 (1 + l) m (1 + l + m) t (1 + l + m + t) (((p1 + 0) % (l - 1) : Nat) : Int) ((l - 1 - 0 : Nat) : Int) (q1 + ts1.length) 0 W) => (by have := lognext_below h; rw [hnx1] at this; exact this : Calls Tryz.prog 23 #[.pointer (some ⟨g, 0, none⟩)] W fun e w' => e = .returned (.int .u64 (nx : Int)) ∧ Below W.heap.size W w')
                  have RMS := Lib.hid fun W (h : LogAt g d b l i 1 (1 + l) m (1 + l + m) t (1 + l + m + t) (((p1 + 0) % (l - 1) : Nat) : Int) ((l - 1 - 0 : Nat) : Int) (q1 + ts1.length) 0 W) => (by have := logroom_below h; rw [HLF.out] at this; exact this : Calls Tryz.prog 17 #[.pointer (some ⟨g, 0, none⟩)] W fun e w' => e = .returned (.int .i64 lf) ∧ Below W.heap.size W w')
                  have HKT : Hid (∀ W, Below w111.heap.size w111 W → W.cell? ⟨wd, 10, none⟩ = some (.pointer (some ⟨g, 0, none⟩)) ∧ W.cell? ⟨wd, 1, none⟩ = some (.int .i64 (l : Int))) := Lib.hid fun W b9 => ⟨(HM.out.wld.kept1 b9).log, (wldG_cells (HM.out.wld.kept1 b9)).2.1⟩
                  have q111 : Below w111.heap.size w111 w111 := Below.refl _ _
                  clear z111 hs111 hm111
                  refine hK.out _ _ (HKT.out _ q111) (fun hHeld3 => ?_)
                  clear hK K hHeld
                  have hHeld := hHeld3
                  clear hHeld3
                  try simp only [Act.put, List.getElem_toArray, List.getElem_cons_zero, List.getElem_cons_succ, List.setIfInBounds_toArray, List.set_cons_zero, List.set_cons_succ]
                  refine wpAnyH_take (i := 2) (v := ?vrsfu112) rfl (by kernel_rfl) (by kernel_rfl) (by kernel_rfl) (fun _ _ _ h => h) (Or.inl ⟨by kernel_rfl, ?yrsfu112⟩) hHeld ?trsfu112
                  case yrsfu112 => (intro w9 hSw; clear hSw; go_simp; try with_reducible rfl)
                  try simp only [Act.put, List.getElem_toArray, List.getElem_cons_zero, List.getElem_cons_succ, List.setIfInBounds_toArray, List.set_cons_zero, List.set_cons_succ]
                  refine wpAnyH_take (i := 3) (v := ?vrsfu113) rfl (by kernel_rfl) (by kernel_rfl) (by kernel_rfl) (fun _ _ _ h => h) (Or.inl ⟨by kernel_rfl, ?yrsfu113⟩) hHeld ?trsfu113
                  case yrsfu113 => (intro w9 hSw; clear hSw; go_simp; try with_reducible rfl)
                  try simp only [Act.put, List.getElem_toArray, List.getElem_cons_zero, List.getElem_cons_succ, List.setIfInBounds_toArray, List.set_cons_zero, List.set_cons_succ]
                  refine wpAnyH_take (i := 4) (v := ?vrsfu114) rfl (by kernel_rfl) (by kernel_rfl) (by kernel_rfl) (fun _ _ _ h => h) (Or.inl ⟨by kernel_rfl, ?yrsfu114⟩) hHeld ?trsfu114
                  case yrsfu114 => (intro w9 hSw; clear hSw; go_simp; try with_reducible rfl)
                  try simp only [Act.put, List.getElem_toArray, List.getElem_cons_zero, List.getElem_cons_succ, List.setIfInBounds_toArray, List.set_cons_zero, List.set_cons_succ]
                  refine wpAnyH_take (i := 5) (v := ?vrsfu115) rfl (by kernel_rfl) (by kernel_rfl) (by kernel_rfl) (fun _ _ _ h => h) (Or.inl ⟨by kernel_rfl, ?yrsfu115⟩) hHeld ?trsfu115
                  case yrsfu115 => (intro w9 hSw; clear hSw; go_simp; try with_reducible rfl)
                  try simp only [Act.put, List.getElem_toArray, List.getElem_cons_zero, List.getElem_cons_succ, List.setIfInBounds_toArray, List.set_cons_zero, List.set_cons_succ]
                  refine wpAnyH_take (i := 6) (v := ?vrsfu116) rfl (by kernel_rfl) (by kernel_rfl) (by kernel_rfl) (fun _ _ _ h => h) (Or.inl ⟨by kernel_rfl, ?yrsfu116⟩) hHeld ?trsfu116
                  case yrsfu116 => (intro w9 hSw; clear hSw; go_simp; try with_reducible rfl)
                  try simp only [Act.put, List.getElem_toArray, List.getElem_cons_zero, List.getElem_cons_succ, List.setIfInBounds_toArray, List.set_cons_zero, List.set_cons_succ]
                  refine wpAnyH_take (i := 7) (v := ?vrsfu117) rfl (by kernel_rfl) (by kernel_rfl) (by kernel_rfl) (fun _ _ _ h => h) (Or.inl ⟨by kernel_rfl, ?yrsfu117⟩) hHeld ?trsfu117
                  case yrsfu117 => (intro w9 hSw; obtain ⟨e9, f9⟩ := hSw; go_simp; try with_reducible rfl)
                  try simp only [Act.put, List.getElem_toArray, List.getElem_cons_zero, List.getElem_cons_succ, List.setIfInBounds_toArray, List.set_cons_zero, List.set_cons_succ]
                  refine wpAnyH_take (i := 9) (v := ?vrsfu118) rfl (by kernel_rfl) (by kernel_rfl) (by kernel_rfl) (fun _ _ _ h => h) (Or.inl ⟨by kernel_rfl, ?yrsfu118⟩) hHeld ?trsfu118
                  case yrsfu118 => (intro w9 hSw; clear hSw; go_simp; try with_reducible rfl)
                  try simp only [Act.put, List.getElem_toArray, List.getElem_cons_zero, List.getElem_cons_succ, List.setIfInBounds_toArray, List.set_cons_zero, List.set_cons_succ]
                  refine wpAnyH_ready (rs := [8]) (by kernel_rfl) (by simp) ?_
                  refine AllReadyH.cons (o := _) rfl (fun K hK => ?_) ?_
                  · go_simp
                    refine (NXS.out _ HM.out.log).mono ?_; rintro e w119 ⟨rfl, b119⟩
                    dsimp only
                    have q119 := bnext q111 b119
                    have HM := Lib.hid (HM.out.kept1 b119)
                    have HB := Lib.hid (bnext HB.out b119)
                    refine hK.out _ _ (HKT.out _ q119) (fun hHeld3 => ?_)
                    clear hK K hHeld
                    have hHeld := hHeld3
                    clear hHeld3
                    try simp only [Act.put, List.getElem_toArray, List.getElem_cons_zero, List.getElem_cons_succ, List.setIfInBounds_toArray, List.set_cons_zero, List.set_cons_succ]
                    refine wpAnyH_take (i := 10) (v := ?vrsfu120) rfl (by kernel_rfl) (by kernel_rfl) (by kernel_rfl) (fun _ _ _ h => h) (Or.inl ⟨by kernel_rfl, ?yrsfu120⟩) hHeld ?trsfu120
                    case yrsfu120 => (intro w9 hSw; clear hSw; go_simp; try with_reducible rfl)
                    try simp only [Act.put, List.getElem_toArray, List.getElem_cons_zero, List.getElem_cons_succ, List.setIfInBounds_toArray, List.set_cons_zero, List.set_cons_succ]
                    refine wpAnyH_take (i := 11) (v := ?vrsfu121) rfl (by kernel_rfl) (by kernel_rfl) (by kernel_rfl) (fun _ _ _ h => h) (Or.inl ⟨by kernel_rfl, ?yrsfu121⟩) hHeld ?trsfu121
                    case yrsfu121 => (intro w9 hSw; clear hSw; go_simp; try with_reducible rfl)
                    try simp only [Act.put, List.getElem_toArray, List.getElem_cons_zero, List.getElem_cons_succ, List.setIfInBounds_toArray, List.set_cons_zero, List.set_cons_succ]
                    refine wpAnyH_take (i := 12) (v := ?vrsfu122) rfl (by kernel_rfl) (by kernel_rfl) (by kernel_rfl) (fun _ _ _ h => h) (Or.inl ⟨by kernel_rfl, ?yrsfu122⟩) hHeld ?trsfu122
                    case yrsfu122 => (intro w9 hSw; clear hSw; go_simp; try with_reducible rfl)
                    try simp only [Act.put, List.getElem_toArray, List.getElem_cons_zero, List.getElem_cons_succ, List.setIfInBounds_toArray, List.set_cons_zero, List.set_cons_succ]
                    refine wpAnyH_take (i := 13) (v := ?vrsfu123) rfl (by kernel_rfl) (by kernel_rfl) (by kernel_rfl) (fun _ _ _ h => h) (Or.inl ⟨by kernel_rfl, ?yrsfu123⟩) hHeld ?trsfu123
                    case yrsfu123 => (intro w9 hSw; clear hSw; go_simp; try with_reducible rfl)
                    try simp only [Act.put, List.getElem_toArray, List.getElem_cons_zero, List.getElem_cons_succ, List.setIfInBounds_toArray, List.set_cons_zero, List.set_cons_succ]
                    refine wpAnyH_take (i := 14) (v := ?vrsfu124) rfl (by kernel_rfl) (by kernel_rfl) (by kernel_rfl) (fun _ _ _ h => h) (Or.inl ⟨by kernel_rfl, ?yrsfu124⟩) hHeld ?trsfu124
                    case yrsfu124 => (intro w9 hSw; clear hSw; go_simp; try with_reducible rfl)
                    try simp only [Act.put, List.getElem_toArray, List.getElem_cons_zero, List.getElem_cons_succ, List.setIfInBounds_toArray, List.set_cons_zero, List.set_cons_succ]
                    refine wpAnyH_take (i := 15) (v := ?vrsfu125) rfl (by kernel_rfl) (by kernel_rfl) (by kernel_rfl) (fun _ _ _ h => h) (Or.inl ⟨by kernel_rfl, ?yrsfu125⟩) hHeld ?trsfu125
                    case yrsfu125 => (intro w9 hSw; clear hSw; go_simp; try with_reducible rfl)
                    try simp only [Act.put, List.getElem_toArray, List.getElem_cons_zero, List.getElem_cons_succ, List.setIfInBounds_toArray, List.set_cons_zero, List.set_cons_succ]
                    refine wpAnyH_take (i := 16) (v := ?vrsfu126) rfl (by kernel_rfl) (by kernel_rfl) (by kernel_rfl) (fun _ _ _ h => h) (Or.inl ⟨by kernel_rfl, ?yrsfu126⟩) hHeld ?trsfu126
                    case yrsfu126 => (intro w9 hSw; obtain ⟨e9, f9⟩ := hSw; go_simp; try with_reducible rfl)
                    try simp only [Act.put, List.getElem_toArray, List.getElem_cons_zero, List.getElem_cons_succ, List.setIfInBounds_toArray, List.set_cons_zero, List.set_cons_succ]
                    refine wpAnyH_take (i := 18) (v := ?vrsfu127) rfl (by kernel_rfl) (by kernel_rfl) (by kernel_rfl) (fun _ _ _ h => h) (Or.inl ⟨by kernel_rfl, ?yrsfu127⟩) hHeld ?trsfu127
                    case yrsfu127 => (intro w9 hSw; clear hSw; go_simp; try with_reducible rfl)
                    try simp only [Act.put, List.getElem_toArray, List.getElem_cons_zero, List.getElem_cons_succ, List.setIfInBounds_toArray, List.set_cons_zero, List.set_cons_succ]
                    refine wpAnyH_take (i := 19) (v := ?vrsfu128) rfl (by kernel_rfl) (by kernel_rfl) (by kernel_rfl) (fun _ _ _ h => h) (Or.inl ⟨by kernel_rfl, ?yrsfu128⟩) hHeld ?trsfu128
                    case yrsfu128 => (intro w9 hSw; clear hSw; go_simp; try with_reducible rfl)
                    try simp only [Act.put, List.getElem_toArray, List.getElem_cons_zero, List.getElem_cons_succ, List.setIfInBounds_toArray, List.set_cons_zero, List.set_cons_succ]
                    refine wpAnyH_take (i := 20) (v := ?vrsfu129) rfl (by kernel_rfl) (by kernel_rfl) (by kernel_rfl) (fun _ _ _ h => h) (Or.inl ⟨by kernel_rfl, ?yrsfu129⟩) hHeld ?trsfu129
                    case yrsfu129 => (intro w9 hSw; clear hSw; go_simp; try with_reducible rfl)
                    try simp only [Act.put, List.getElem_toArray, List.getElem_cons_zero, List.getElem_cons_succ, List.setIfInBounds_toArray, List.set_cons_zero, List.set_cons_succ]
                    refine wpAnyH_take (i := 21) (v := ?vrsfu130) rfl (by kernel_rfl) (by kernel_rfl) (by kernel_rfl) (fun _ _ _ h => h) (Or.inl ⟨by kernel_rfl, ?yrsfu130⟩) hHeld ?trsfu130
                    case yrsfu130 => (intro w9 hSw; clear hSw; go_simp; try with_reducible rfl)
                    try simp only [Act.put, List.getElem_toArray, List.getElem_cons_zero, List.getElem_cons_succ, List.setIfInBounds_toArray, List.set_cons_zero, List.set_cons_succ]
                    refine wpAnyH_take (i := 22) (v := ?vrsfu131) rfl (by kernel_rfl) (by kernel_rfl) (by kernel_rfl) (fun _ _ _ h => h) (Or.inl ⟨by kernel_rfl, ?yrsfu131⟩) hHeld ?trsfu131
                    case yrsfu131 => (intro w9 hSw; obtain ⟨e9, f9⟩ := hSw; go_simp; try with_reducible rfl)
                    try simp only [Act.put, List.getElem_toArray, List.getElem_cons_zero, List.getElem_cons_succ, List.setIfInBounds_toArray, List.set_cons_zero, List.set_cons_succ]
                    refine wpAnyH_take (i := 23) (v := ?vrsfu132) rfl (by kernel_rfl) (by kernel_rfl) (by kernel_rfl) (fun _ _ _ h => h) (Or.inl ⟨by kernel_rfl, ?yrsfu132⟩) hHeld ?trsfu132
                    case yrsfu132 => (intro w9 hSw; clear hSw; go_simp; try with_reducible rfl)
                    try simp only [Act.put, List.getElem_toArray, List.getElem_cons_zero, List.getElem_cons_succ, List.setIfInBounds_toArray, List.set_cons_zero, List.set_cons_succ]
                    refine wpAnyH_ready (rs := [17]) (by kernel_rfl) (by simp) ?_
                    refine AllReadyH.cons (o := _) rfl (fun K hK => ?_) ?_
                    · go_simp
                      refine (RMS.out _ HM.out.log).mono ?_; rintro e w133 ⟨rfl, b133⟩
                      dsimp only
                      have q133 := bnext q119 b133
                      have HM := Lib.hid (HM.out.kept1 b133)
                      have HB := Lib.hid (bnext HB.out b133)
                      refine hK.out _ _ (HKT.out _ q133) (fun hHeld3 => ?_)
                      clear hK K hHeld
                      have hHeld := hHeld3
                      clear hHeld3
                      try simp only [Act.put, List.getElem_toArray, List.getElem_cons_zero, List.getElem_cons_succ, List.setIfInBounds_toArray, List.set_cons_zero, List.set_cons_succ]
                      refine wpAnyH_take (i := 24) (v := ?vrsfu134) rfl (by kernel_rfl) (by kernel_rfl) (by kernel_rfl) (fun _ _ _ h => h) (Or.inl ⟨by kernel_rfl, ?yrsfu134⟩) hHeld ?trsfu134
                      case yrsfu134 => (intro w9 hSw; clear hSw; go_simp; try with_reducible rfl)
                      try simp only [Act.put, List.getElem_toArray, List.getElem_cons_zero, List.getElem_cons_succ, List.setIfInBounds_toArray, List.set_cons_zero, List.set_cons_succ]
                      refine wpAnyH_take (i := 25) (v := ?vrsfu135) rfl (by kernel_rfl) (by kernel_rfl) (by kernel_rfl) (fun _ _ _ h => h) (Or.inl ⟨by kernel_rfl, ?yrsfu135⟩) hHeld ?trsfu135
                      case yrsfu135 => (intro w9 hSw; clear hSw; go_simp; try with_reducible rfl)
                      try simp only [Act.put, List.getElem_toArray, List.getElem_cons_zero, List.getElem_cons_succ, List.setIfInBounds_toArray, List.set_cons_zero, List.set_cons_succ]
                      refine ⟨by kernel_rfl, ?_⟩
                      clear hHeld
                      have HE1 : Hid (ts1 = []) := Lib.hid (stands_none HM.out.pure.log.stands)
                      have hsz := q133.size
                      go_wp2
                      exact ⟨⟨k + 1, S1, p1, q1, 0, ts1, want, want, by go_num, rfl, by omega, by omega, a2 hleft, by omega, by rw [HE1.out]; exact Nat.zero_le _, by omega, Lib.hid (by rw [HE1.out]; exact TxnsOwn.nil _ _), Lib.hid (by rw [HE1.out]; exact mild_nil), HM, HB⟩, by simp [intOf]; omega⟩
                    exact AllReadyH.nil
                  exact AllReadyH.nil
                exact AllReadyH.nil
              exact AllReadyH.nil
            exact AllReadyH.nil
      · obtain rfl : k = n := by omega
        have HWW := Lib.hid HM.out.bw
        clear H3
        have hn30 := HFEW.out.1
        obtain ⟨qav, qac, rfl⟩ := HAL.out.shape
        have KE := Lib.hid (kept_any wr HM.out.dev)
        have r9 := Blk.cell HM.out.wld 9
        simp only [List.getElem?_toArray, List.getElem?_cons_zero, List.getElem?_cons_succ] at r9
        go_wp2_with fail
        refine KE.out.mono ?_; rintro e w1 ⟨rfl, b1⟩
        have HMo := HM
        have HM := Lib.hid (HM.out.kept1 b1)
        have HAL := Lib.hid (HAL.out.kept b1)
        have HB := Lib.hid (bnext HB.out b1)
        clear b1 r9 KE
        go_wp2_with fail
        refine (open_kept2 _ HMo.out.dev _).mono ?_; rintro e w2 ⟨d2, rfl, hd2, b2⟩
        obtain ⟨lo2, hlo2⟩ : ∃ q9, w1.heap.size = q9 := ⟨_, rfl⟩
        obtain ⟨hi2, hhi2⟩ : ∃ q9, w2.heap.size = q9 := ⟨_, rfl⟩
        have HPK := Lib.hid (HMo.out.pure.kept2 HF.out (left_kept HMo.out.dev.ok))
        have HLL : Hid (wd < lo2 ∧ g < lo2 ∧ hi ≤ lo2) := Lib.hid (by have := Blk.lt HM.out.wld; have := Blk.lt HM.out.log; have := HM.out.dev.top; omega)
        have HTO := Lib.hid (TxnsOwn.in_ HAL.out)
        have HM := Lib.hid (HM.out.kept1 b2)
        have HAL := Lib.hid (HAL.out.kept b2)
        have HB := Lib.hid (bnext HB.out b2)
        rw [hlo2, hhi2] at hd2
        have HD := Lib.hid hd2
        have hs2l : (freshSt S.n (blkOf 128 (cat S.was S.n))).left < 0 := by show (-1 : Int) < 0; omega
        have hs2a : (freshSt S.n (blkOf 128 (cat S.was S.n))).acts ≤ 800 * 1000 := by show (0 : Nat) ≤ _; omega
        generalize freshSt S.n (blkOf 128 (cat S.was S.n)) = S2 at *
        have HH2 := Lib.hid hhi2
        have HO2 := Lib.hid hlo2
        have HB23 := Lib.hid b2
        clear b2 hd2 hhi2 hlo2 HMo
        obtain ⟨k0, k1, k2, k3, k4, k5, k6, k7, k8, k9, k10⟩ := wldG_cells HM.out.wld
        go_wp2_with fail
        refine (open_inv d2 lo2 hi2 b l i m t HOK.out HPK.out.n HPK.out.log _ HD.out (tabOf HT.out HB.out)).mono ?_; rintro e w3 ⟨g2, rfl, hg2, hlg, b3⟩
        have HM := Lib.hid (HM.out.kept1 b3)
        have HAL := Lib.hid (HAL.out.kept b3)
        have HB := Lib.hid (bnext HB.out b3)
        have HD := Lib.hid (HD.out.kept1 b3)
        have HG := Lib.hid hlg
        have HB23 := Lib.hid (show Below lo2 w1 w3 from by have h1 := HB23.out; have h2 := b3; have h3 := h1.size; rw [HO2.out] at h1 h3; exact h1.trans (h2.mono h3))
        have HG2 : Hid (hi2 ≤ g2 ∧ lo2 ≤ hi2) := Lib.hid ⟨by have := HH2.out; omega, by have := HD.out.lohi; omega⟩
        have HTZ : Hid (∀ W, Zone lo2 hi2 w3 W → TxnsIn (.slice qav ts.length qac) ts W) := Lib.hid fun W z => txnsIn_zone HTO.out HO2.out (HB23.out.trans (z.below (B := lo2) (by have h1 := HB23.out.size; have h2 := HO2.out; omega) (Nat.le_refl _)))
        have RP := Lib.hid fun w hd ht => replay_round HOK.out HF.out hs2l hs2a HPK.out (d := d2) (lo := lo2) (hi := hi2) w hd ht
        clear b3 hlg hg2 k0 k1 k2 k3 k4 k5 k6 k7 k8 k9 k10
        obtain ⟨k0, k1, k2, k3, k4, k5, k6, k7, k8, k9, k10⟩ := wldG_cells HM.out.wld
        go_wp2_with fail
        refine (RP.out _ HD.out (tabOf HT.out HB.out)).mono ?_; rintro e w4 ⟨vx, S3, rfl, hvx, hd4, z4, hn4, hh4⟩
        obtain ⟨xva, xvc, rfl⟩ := hvx.shape
        have hll := HLL.out
        have hgg := HG2.out
        have HWL := Lib.hid (show WldAt wd b l i m t d g home want w4 from Blk.kept HM.out.wld z4 (.inl hll.1))
        have HLG := Lib.hid (Blk.kept HM.out.log z4 (.inl hll.2.1))
        have HG := Lib.hid (Blk.kept HG.out z4 (.inr hgg.1))
        have hlz := HB.out.size
        have HB := Lib.hid (HB.out.trans (z4.below (B := w.heap.size) HB.out.size (by omega)))
        have HAL4 : Hid (TxnsIn (.slice qav ts.length qac) ts w4) := Lib.hid (HTZ.out w4 z4)
        have HXI := Lib.hid (TxnsOwn.in_ hvx)
        have HD := Lib.hid hd4
        have HHS := Lib.hid fun W hw hd => (by have := has_any (S := S3) (wd := wd) (b := b) (l := l) (i := i) (m := m) (t := t) (d := d) (g := g) (home := home) (want := want) (d' := d2) (lo := lo2) (hi := hi2) want HWW.out HDA.out (by omega) hb4 hn4 W hw hd; rw [hh4] at this; exact this : Calls Tryz.prog 14 #[.pointer (some ⟨wd, 0, none⟩), .pointer (some ⟨d2, 0, none⟩), .agg (arr12 want)] W fun e w' => e = .returned (.bool true) ∧ Below W.heap.size W w')
        have SM := Lib.hid fun W ha hb => samerx_yes (.slice xva ts.length xvc) (.slice qav ts.length qac) ts (by omega) HMI.out W ha hb
        have AL := Lib.hid fun W ht => alive_any W ht
        obtain ⟨rm, hrm⟩ : ∃ rm : Int, ((l - 1 - used : Nat) : Int) = rm := ⟨_, rfl⟩
        obtain ⟨nx, hnx⟩ : ∃ nx, q' + ts.length = nx := ⟨_, rfl⟩
        have RM1 := Lib.hid fun W (h : LogAt g2 d2 b l i 1 (1 + l) m (1 + l + m) t (1 + l + m + t) (((p' + used) % (l - 1) : Nat) : Int) ((l - 1 - used : Nat) : Int) (q' + ts.length) 0 W) => logroom_below h
        have RM2 := Lib.hid fun W (h : LogAt g d b l i 1 (1 + l) m (1 + l + m) t (1 + l + m + t) (((p' + used) % (l - 1) : Nat) : Int) ((l - 1 - used : Nat) : Int) (q' + ts.length) 0 W) => logroom_below h
        have NX1 := Lib.hid fun W (h : LogAt g2 d2 b l i 1 (1 + l) m (1 + l + m) t (1 + l + m + t) (((p' + used) % (l - 1) : Nat) : Int) ((l - 1 - used : Nat) : Int) (q' + ts.length) 0 W) => lognext_below h
        have NX2 := Lib.hid fun W (h : LogAt g d b l i 1 (1 + l) m (1 + l + m) t (1 + l + m + t) (((p' + used) % (l - 1) : Nat) : Int) ((l - 1 - used : Nat) : Int) (q' + ts.length) 0 W) => lognext_below h
        rw [hrm] at RM1 RM2 HLG HG
        rw [hnx] at RM1 RM2 NX1 NX2 HLG HG
        rw [hrm] at NX1 NX2
        clear hvx z4 hd4 hn4 hh4 RP HM HAL HTZ k0 k1 k2 k3 k4 k5 k6 k7 k8 k9 k10
        go_wp2
        have HKZ : Hid (∀ W, Below w4.heap.size w4 W → W.cell? ⟨wd, 10, none⟩ = some (.pointer (some ⟨g, 0, none⟩)) ∧ W.cell? ⟨wd, 23, none⟩ = some (.int .u8 (want 0 : Int)) ∧ W.cell? ⟨wd, 24, none⟩ = some (.int .u8 (want 1 : Int)) ∧ W.cell? ⟨wd, 25, none⟩ = some (.int .u8 (want 2 : Int)) ∧ W.cell? ⟨wd, 26, none⟩ = some (.int .u8 (want 3 : Int)) ∧ W.cell? ⟨wd, 27, none⟩ = some (.int .u8 (want 4 : Int)) ∧ W.cell? ⟨wd, 28, none⟩ = some (.int .u8 (want 5 : Int)) ∧ W.cell? ⟨wd, 29, none⟩ = some (.int .u8 (want 6 : Int)) ∧ W.cell? ⟨wd, 30, none⟩ = some (.int .u8 (want 7 : Int)) ∧ W.cell? ⟨wd, 31, none⟩ = some (.int .u8 (want 8 : Int)) ∧ W.cell? ⟨wd, 32, none⟩ = some (.int .u8 (want 9 : Int)) ∧ W.cell? ⟨wd, 33, none⟩ = some (.int .u8 (want 10 : Int)) ∧ W.cell? ⟨wd, 34, none⟩ = some (.int .u8 (want 11 : Int))) := Lib.hid fun W b9 => ⟨(WldAt.kept1 HWL.out b9).log, Blk.cell (WldAt.kept1 HWL.out b9) 23, Blk.cell (WldAt.kept1 HWL.out b9) 24, Blk.cell (WldAt.kept1 HWL.out b9) 25, Blk.cell (WldAt.kept1 HWL.out b9) 26, Blk.cell (WldAt.kept1 HWL.out b9) 27, Blk.cell (WldAt.kept1 HWL.out b9) 28, Blk.cell (WldAt.kept1 HWL.out b9) 29, Blk.cell (WldAt.kept1 HWL.out b9) 30, Blk.cell (WldAt.kept1 HWL.out b9) 31, Blk.cell (WldAt.kept1 HWL.out b9) 32, Blk.cell (WldAt.kept1 HWL.out b9) 33, Blk.cell (WldAt.kept1 HWL.out b9) 34⟩
        have qZ : Below w4.heap.size w4 w4.drew := (Below.refl _ _).drew
        have HWL := Lib.hid (WldAt.kept1 HWL.out qZ)
        have HLG := Lib.hid (Blk.kept1 HLG.out qZ)
        have HG := Lib.hid (Blk.kept1 HG.out qZ)
        have HD := Lib.hid (HD.out.kept1 qZ)
        have HAL4 := Lib.hid (txnsIn_kept HAL4.out qZ)
        have HXI := Lib.hid (txnsIn_kept HXI.out qZ)
        have HB := Lib.hid (bnext HB.out qZ)
        refine wp_region_held_drew (S := fun w9 => w9.cell? ⟨wd, 10, none⟩ = some (.pointer (some ⟨g, 0, none⟩)) ∧ w9.cell? ⟨wd, 23, none⟩ = some (.int .u8 (want 0 : Int)) ∧ w9.cell? ⟨wd, 24, none⟩ = some (.int .u8 (want 1 : Int)) ∧ w9.cell? ⟨wd, 25, none⟩ = some (.int .u8 (want 2 : Int)) ∧ w9.cell? ⟨wd, 26, none⟩ = some (.int .u8 (want 3 : Int)) ∧ w9.cell? ⟨wd, 27, none⟩ = some (.int .u8 (want 4 : Int)) ∧ w9.cell? ⟨wd, 28, none⟩ = some (.int .u8 (want 5 : Int)) ∧ w9.cell? ⟨wd, 29, none⟩ = some (.int .u8 (want 6 : Int)) ∧ w9.cell? ⟨wd, 30, none⟩ = some (.int .u8 (want 7 : Int)) ∧ w9.cell? ⟨wd, 31, none⟩ = some (.int .u8 (want 8 : Int)) ∧ w9.cell? ⟨wd, 32, none⟩ = some (.int .u8 (want 9 : Int)) ∧ w9.cell? ⟨wd, 33, none⟩ = some (.int .u8 (want 10 : Int)) ∧ w9.cell? ⟨wd, 34, none⟩ = some (.int .u8 (want 11 : Int))) mixed (HKZ.out _ qZ) (fun hHeld => ?_)
        generalize w4.drew = wZ at *
        refine wpAnyH_take (i := 0) (v := ?vrz136) rfl (by kernel_rfl) (by kernel_rfl) (by kernel_rfl) (fun _ _ _ h => h) (Or.inl ⟨by kernel_rfl, ?yrz136⟩) hHeld ?trz136
        case yrz136 => (intro w9 hSw; clear hSw; go_simp; try with_reducible rfl)
        try simp only [Act.put, List.getElem_toArray, List.getElem_cons_zero, List.getElem_cons_succ, List.setIfInBounds_toArray, List.set_cons_zero, List.set_cons_succ]
        refine wpAnyH_take (i := 1) (v := ?vrz137) rfl (by kernel_rfl) (by kernel_rfl) (by kernel_rfl) (fun _ _ _ h => h) (Or.inl ⟨by kernel_rfl, ?yrz137⟩) hHeld ?trz137
        case yrz137 => (intro w9 hSw; clear hSw; go_simp; try with_reducible rfl)
        try simp only [Act.put, List.getElem_toArray, List.getElem_cons_zero, List.getElem_cons_succ, List.setIfInBounds_toArray, List.set_cons_zero, List.set_cons_succ]
        refine wpAnyH_take (i := 2) (v := ?vrz138) rfl (by kernel_rfl) (by kernel_rfl) (by kernel_rfl) (fun _ _ _ h => h) (Or.inl ⟨by kernel_rfl, ?yrz138⟩) hHeld ?trz138
        case yrz138 => (intro w9 hSw; clear hSw; go_simp; try with_reducible rfl)
        try simp only [Act.put, List.getElem_toArray, List.getElem_cons_zero, List.getElem_cons_succ, List.setIfInBounds_toArray, List.set_cons_zero, List.set_cons_succ]
        refine wpAnyH_take (i := 3) (v := ?vrz139) rfl (by kernel_rfl) (by kernel_rfl) (by kernel_rfl) (fun _ _ _ h => h) (Or.inl ⟨by kernel_rfl, ?yrz139⟩) hHeld ?trz139
        case yrz139 => (intro w9 hSw; clear hSw; go_simp; try with_reducible rfl)
        try simp only [Act.put, List.getElem_toArray, List.getElem_cons_zero, List.getElem_cons_succ, List.setIfInBounds_toArray, List.set_cons_zero, List.set_cons_succ]
        refine wpAnyH_take (i := 4) (v := ?vrz140) rfl (by kernel_rfl) (by kernel_rfl) (by kernel_rfl) (fun _ _ _ h => h) (Or.inl ⟨by kernel_rfl, ?yrz140⟩) hHeld ?trz140
        case yrz140 => (intro w9 hSw; clear hSw; go_simp; try with_reducible rfl)
        try simp only [Act.put, List.getElem_toArray, List.getElem_cons_zero, List.getElem_cons_succ, List.setIfInBounds_toArray, List.set_cons_zero, List.set_cons_succ]
        refine wpAnyH_take (i := 5) (v := ?vrz141) rfl (by kernel_rfl) (by kernel_rfl) (by kernel_rfl) (fun _ _ _ h => h) (Or.inl ⟨by kernel_rfl, ?yrz141⟩) hHeld ?trz141
        case yrz141 => (intro w9 hSw; clear hSw; go_simp; try with_reducible rfl)
        try simp only [Act.put, List.getElem_toArray, List.getElem_cons_zero, List.getElem_cons_succ, List.setIfInBounds_toArray, List.set_cons_zero, List.set_cons_succ]
        refine wpAnyH_take (i := 6) (v := ?vrz142) rfl (by kernel_rfl) (by kernel_rfl) (by kernel_rfl) (fun _ _ _ h => h) (Or.inl ⟨by kernel_rfl, ?yrz142⟩) hHeld ?trz142
        case yrz142 => (intro w9 hSw; clear hSw; go_simp; try with_reducible rfl)
        try simp only [Act.put, List.getElem_toArray, List.getElem_cons_zero, List.getElem_cons_succ, List.setIfInBounds_toArray, List.set_cons_zero, List.set_cons_succ]
        refine wpAnyH_take (i := 7) (v := ?vrz143) rfl (by kernel_rfl) (by kernel_rfl) (by kernel_rfl) (fun _ _ _ h => h) (Or.inl ⟨by kernel_rfl, ?yrz143⟩) hHeld ?trz143
        case yrz143 => (intro w9 hSw; clear hSw; go_simp; try with_reducible rfl)
        try simp only [Act.put, List.getElem_toArray, List.getElem_cons_zero, List.getElem_cons_succ, List.setIfInBounds_toArray, List.set_cons_zero, List.set_cons_succ]
        refine wpAnyH_take (i := 9) (v := ?vrz144) rfl (by kernel_rfl) (by kernel_rfl) (by kernel_rfl) (fun _ _ _ h => h) (Or.inl ⟨by kernel_rfl, ?yrz144⟩) hHeld ?trz144
        case yrz144 => (intro w9 hSw; clear hSw; go_simp; try with_reducible rfl)
        try simp only [Act.put, List.getElem_toArray, List.getElem_cons_zero, List.getElem_cons_succ, List.setIfInBounds_toArray, List.set_cons_zero, List.set_cons_succ]
        refine wpAnyH_take (i := 10) (v := ?vrz145) rfl (by kernel_rfl) (by kernel_rfl) (by kernel_rfl) (fun _ _ _ h => h) (Or.inl ⟨by kernel_rfl, ?yrz145⟩) hHeld ?trz145
        case yrz145 => (intro w9 hSw; clear hSw; go_simp; try with_reducible rfl)
        try simp only [Act.put, List.getElem_toArray, List.getElem_cons_zero, List.getElem_cons_succ, List.setIfInBounds_toArray, List.set_cons_zero, List.set_cons_succ]
        refine wpAnyH_take (i := 11) (v := ?vrz146) rfl (by kernel_rfl) (by kernel_rfl) (by kernel_rfl) (fun _ _ _ h => h) (Or.inl ⟨by kernel_rfl, ?yrz146⟩) hHeld ?trz146
        case yrz146 => (intro w9 hSw; clear hSw; go_simp; try with_reducible rfl)
        try simp only [Act.put, List.getElem_toArray, List.getElem_cons_zero, List.getElem_cons_succ, List.setIfInBounds_toArray, List.set_cons_zero, List.set_cons_succ]
        refine wpAnyH_take (i := 12) (v := ?vrz147) rfl (by kernel_rfl) (by kernel_rfl) (by kernel_rfl) (fun _ _ _ h => h) (Or.inl ⟨by kernel_rfl, ?yrz147⟩) hHeld ?trz147
        case yrz147 => (intro w9 hSw; obtain ⟨e9, f0, f1, f2, f3, f4, f5, f6, f7, f8, f9, f10, f11⟩ := hSw; go_simp; try with_reducible rfl)
        try simp only [Act.put, List.getElem_toArray, List.getElem_cons_zero, List.getElem_cons_succ, List.setIfInBounds_toArray, List.set_cons_zero, List.set_cons_succ]
        refine wpAnyH_ready (rs := [8]) (by kernel_rfl) (by simp) ?_
        refine AllReadyH.cons (o := _) rfl (fun K hK => ?_) ?_
        · go_simp
          refine (RM1.out _ HG.out).mono ?_; rintro e w148 ⟨rfl, b148⟩
          dsimp only
          have q148 := bnext qZ b148
          have HWL := Lib.hid (WldAt.kept1 HWL.out b148)
          have HLG := Lib.hid (Blk.kept1 HLG.out b148)
          have HG := Lib.hid (Blk.kept1 HG.out b148)
          have HD := Lib.hid (HD.out.kept1 b148)
          have HAL4 := Lib.hid (txnsIn_kept HAL4.out b148)
          have HXI := Lib.hid (txnsIn_kept HXI.out b148)
          have HB := Lib.hid (bnext HB.out b148)
          refine hK.out _ _ (HKZ.out _ q148) (fun hHeld3 => ?_)
          clear hK K hHeld
          have hHeld := hHeld3
          clear hHeld3
          try simp only [Act.put, List.getElem_toArray, List.getElem_cons_zero, List.getElem_cons_succ, List.setIfInBounds_toArray, List.set_cons_zero, List.set_cons_succ]
          refine wpAnyH_ready (rs := [13]) (by kernel_rfl) (by simp) ?_
          refine AllReadyH.cons (o := _) rfl (fun K hK => ?_) ?_
          · go_simp
            refine (RM2.out _ HLG.out).mono ?_; rintro e w149 ⟨rfl, b149⟩
            dsimp only
            have q149 := bnext q148 b149
            have HWL := Lib.hid (WldAt.kept1 HWL.out b149)
            have HLG := Lib.hid (Blk.kept1 HLG.out b149)
            have HG := Lib.hid (Blk.kept1 HG.out b149)
            have HD := Lib.hid (HD.out.kept1 b149)
            have HAL4 := Lib.hid (txnsIn_kept HAL4.out b149)
            have HXI := Lib.hid (txnsIn_kept HXI.out b149)
            have HB := Lib.hid (bnext HB.out b149)
            refine hK.out _ _ (HKZ.out _ q149) (fun hHeld3 => ?_)
            clear hK K hHeld
            have hHeld := hHeld3
            clear hHeld3
            try simp only [Act.put, List.getElem_toArray, List.getElem_cons_zero, List.getElem_cons_succ, List.setIfInBounds_toArray, List.set_cons_zero, List.set_cons_succ]
            refine wpAnyH_take (i := 14) (v := ?vrz150) rfl (by kernel_rfl) (by kernel_rfl) (by kernel_rfl) (fun _ _ _ h => h) (Or.inl ⟨by kernel_rfl, ?yrz150⟩) hHeld ?trz150
            case yrz150 => (intro w9 hSw; clear hSw; go_simp; try with_reducible rfl)
            try simp only [Act.put, List.getElem_toArray, List.getElem_cons_zero, List.getElem_cons_succ, List.setIfInBounds_toArray, List.set_cons_zero, List.set_cons_succ]
            refine wpAnyH_take (i := 15) (v := ?vrz151) rfl (by kernel_rfl) (by kernel_rfl) (by kernel_rfl) (fun _ _ _ h => h) (Or.inl ⟨by kernel_rfl, ?yrz151⟩) hHeld ?trz151
            case yrz151 => (intro w9 hSw; clear hSw; go_simp; try with_reducible rfl)
            try simp only [Act.put, List.getElem_toArray, List.getElem_cons_zero, List.getElem_cons_succ, List.setIfInBounds_toArray, List.set_cons_zero, List.set_cons_succ]
            refine wpAnyH_take (i := 16) (v := ?vrz152) rfl (by kernel_rfl) (by kernel_rfl) (by kernel_rfl) (fun _ _ _ h => h) (Or.inl ⟨by kernel_rfl, ?yrz152⟩) hHeld ?trz152
            case yrz152 => (intro w9 hSw; clear hSw; go_simp; try with_reducible rfl)
            try simp only [Act.put, List.getElem_toArray, List.getElem_cons_zero, List.getElem_cons_succ, List.setIfInBounds_toArray, List.set_cons_zero, List.set_cons_succ]
            refine wpAnyH_take (i := 17) (v := ?vrz153) rfl (by kernel_rfl) (by kernel_rfl) (by kernel_rfl) (fun _ _ _ h => h) (Or.inl ⟨by kernel_rfl, ?yrz153⟩) hHeld ?trz153
            case yrz153 => (intro w9 hSw; clear hSw; go_simp; try with_reducible rfl)
            try simp only [Act.put, List.getElem_toArray, List.getElem_cons_zero, List.getElem_cons_succ, List.setIfInBounds_toArray, List.set_cons_zero, List.set_cons_succ]
            refine wpAnyH_take (i := 19) (v := ?vrz154) rfl (by kernel_rfl) (by kernel_rfl) (by kernel_rfl) (fun _ _ _ h => h) (Or.inl ⟨by kernel_rfl, ?yrz154⟩) hHeld ?trz154
            case yrz154 => (intro w9 hSw; clear hSw; go_simp; try with_reducible rfl)
            try simp only [Act.put, List.getElem_toArray, List.getElem_cons_zero, List.getElem_cons_succ, List.setIfInBounds_toArray, List.set_cons_zero, List.set_cons_succ]
            refine wpAnyH_take (i := 20) (v := ?vrz155) rfl (by kernel_rfl) (by kernel_rfl) (by kernel_rfl) (fun _ _ _ h => h) (Or.inl ⟨by kernel_rfl, ?yrz155⟩) hHeld ?trz155
            case yrz155 => (intro w9 hSw; clear hSw; go_simp; try with_reducible rfl)
            try simp only [Act.put, List.getElem_toArray, List.getElem_cons_zero, List.getElem_cons_succ, List.setIfInBounds_toArray, List.set_cons_zero, List.set_cons_succ]
            refine wpAnyH_take (i := 21) (v := ?vrz156) rfl (by kernel_rfl) (by kernel_rfl) (by kernel_rfl) (fun _ _ _ h => h) (Or.inl ⟨by kernel_rfl, ?yrz156⟩) hHeld ?trz156
            case yrz156 => (intro w9 hSw; clear hSw; go_simp; try with_reducible rfl)
            try simp only [Act.put, List.getElem_toArray, List.getElem_cons_zero, List.getElem_cons_succ, List.setIfInBounds_toArray, List.set_cons_zero, List.set_cons_succ]
            refine wpAnyH_take (i := 22) (v := ?vrz157) rfl (by kernel_rfl) (by kernel_rfl) (by kernel_rfl) (fun _ _ _ h => h) (Or.inl ⟨by kernel_rfl, ?yrz157⟩) hHeld ?trz157
            case yrz157 => (intro w9 hSw; obtain ⟨e9, f0, f1, f2, f3, f4, f5, f6, f7, f8, f9, f10, f11⟩ := hSw; go_simp; try with_reducible rfl)
            try simp only [Act.put, List.getElem_toArray, List.getElem_cons_zero, List.getElem_cons_succ, List.setIfInBounds_toArray, List.set_cons_zero, List.set_cons_succ]
            refine wpAnyH_ready (rs := [18]) (by kernel_rfl) (by simp) ?_
            refine AllReadyH.cons (o := _) rfl (fun K hK => ?_) ?_
            · go_simp
              refine (NX1.out _ HG.out).mono ?_; rintro e w158 ⟨rfl, b158⟩
              dsimp only
              have q158 := bnext q149 b158
              have HWL := Lib.hid (WldAt.kept1 HWL.out b158)
              have HLG := Lib.hid (Blk.kept1 HLG.out b158)
              have HG := Lib.hid (Blk.kept1 HG.out b158)
              have HD := Lib.hid (HD.out.kept1 b158)
              have HAL4 := Lib.hid (txnsIn_kept HAL4.out b158)
              have HXI := Lib.hid (txnsIn_kept HXI.out b158)
              have HB := Lib.hid (bnext HB.out b158)
              refine hK.out _ _ (HKZ.out _ q158) (fun hHeld3 => ?_)
              clear hK K hHeld
              have hHeld := hHeld3
              clear hHeld3
              try simp only [Act.put, List.getElem_toArray, List.getElem_cons_zero, List.getElem_cons_succ, List.setIfInBounds_toArray, List.set_cons_zero, List.set_cons_succ]
              refine wpAnyH_ready (rs := [23]) (by kernel_rfl) (by simp) ?_
              refine AllReadyH.cons (o := _) rfl (fun K hK => ?_) ?_
              · go_simp
                refine (NX2.out _ HLG.out).mono ?_; rintro e w159 ⟨rfl, b159⟩
                dsimp only
                have q159 := bnext q158 b159
                have HWL := Lib.hid (WldAt.kept1 HWL.out b159)
                have HLG := Lib.hid (Blk.kept1 HLG.out b159)
                have HG := Lib.hid (Blk.kept1 HG.out b159)
                have HD := Lib.hid (HD.out.kept1 b159)
                have HAL4 := Lib.hid (txnsIn_kept HAL4.out b159)
                have HXI := Lib.hid (txnsIn_kept HXI.out b159)
                have HB := Lib.hid (bnext HB.out b159)
                refine hK.out _ _ (HKZ.out _ q159) (fun hHeld3 => ?_)
                clear hK K hHeld
                have hHeld := hHeld3
                clear hHeld3
                try simp only [Act.put, List.getElem_toArray, List.getElem_cons_zero, List.getElem_cons_succ, List.setIfInBounds_toArray, List.set_cons_zero, List.set_cons_succ]
                refine wpAnyH_take (i := 24) (v := ?vrz160) rfl (by kernel_rfl) (by kernel_rfl) (by kernel_rfl) (fun _ _ _ h => h) (Or.inl ⟨by kernel_rfl, ?yrz160⟩) hHeld ?trz160
                case yrz160 => (intro w9 hSw; clear hSw; go_simp; try with_reducible rfl)
                try simp only [Act.put, List.getElem_toArray, List.getElem_cons_zero, List.getElem_cons_succ, List.setIfInBounds_toArray, List.set_cons_zero, List.set_cons_succ]
                refine wpAnyH_take (i := 25) (v := ?vrz161) rfl (by kernel_rfl) (by kernel_rfl) (by kernel_rfl) (fun _ _ _ h => h) (Or.inl ⟨by kernel_rfl, ?yrz161⟩) hHeld ?trz161
                case yrz161 => (intro w9 hSw; clear hSw; go_simp; try with_reducible rfl)
                try simp only [Act.put, List.getElem_toArray, List.getElem_cons_zero, List.getElem_cons_succ, List.setIfInBounds_toArray, List.set_cons_zero, List.set_cons_succ]
                refine wpAnyH_take (i := 26) (v := ?vrz162) rfl (by kernel_rfl) (by kernel_rfl) (by kernel_rfl) (fun _ _ _ h => h) (Or.inl ⟨by kernel_rfl, ?yrz162⟩) hHeld ?trz162
                case yrz162 => (intro w9 hSw; clear hSw; go_simp; try with_reducible rfl)
                try simp only [Act.put, List.getElem_toArray, List.getElem_cons_zero, List.getElem_cons_succ, List.setIfInBounds_toArray, List.set_cons_zero, List.set_cons_succ]
                refine wpAnyH_take (i := 27) (v := ?vrz163) rfl (by kernel_rfl) (by kernel_rfl) (by kernel_rfl) (fun _ _ _ h => h) (Or.inl ⟨by kernel_rfl, ?yrz163⟩) hHeld ?trz163
                case yrz163 => (intro w9 hSw; clear hSw; go_simp; try with_reducible rfl)
                try simp only [Act.put, List.getElem_toArray, List.getElem_cons_zero, List.getElem_cons_succ, List.setIfInBounds_toArray, List.set_cons_zero, List.set_cons_succ]
                refine wpAnyH_take (i := 28) (v := ?vrz164) rfl (by kernel_rfl) (by kernel_rfl) (by kernel_rfl) (fun _ _ _ h => h) (Or.inl ⟨by kernel_rfl, ?yrz164⟩) hHeld ?trz164
                case yrz164 => (intro w9 hSw; clear hSw; go_simp; try with_reducible rfl)
                try simp only [Act.put, List.getElem_toArray, List.getElem_cons_zero, List.getElem_cons_succ, List.setIfInBounds_toArray, List.set_cons_zero, List.set_cons_succ]
                refine wpAnyH_ready (rs := [29]) (by kernel_rfl) (by simp) ?_
                refine AllReadyH.cons (o := _) rfl (fun K hK => ?_) ?_
                · go_simp
                  refine (SM.out _ HXI.out HAL4.out).mono ?_; rintro e w165 ⟨rfl, b165⟩
                  dsimp only
                  have q165 := bnext q159 b165
                  have HWL := Lib.hid (WldAt.kept1 HWL.out b165)
                  have HLG := Lib.hid (Blk.kept1 HLG.out b165)
                  have HG := Lib.hid (Blk.kept1 HG.out b165)
                  have HD := Lib.hid (HD.out.kept1 b165)
                  have HAL4 := Lib.hid (txnsIn_kept HAL4.out b165)
                  have HXI := Lib.hid (txnsIn_kept HXI.out b165)
                  have HB := Lib.hid (bnext HB.out b165)
                  refine hK.out _ _ (HKZ.out _ q165) (fun hHeld3 => ?_)
                  clear hK K hHeld
                  have hHeld := hHeld3
                  clear hHeld3
                  try simp only [Act.put, List.getElem_toArray, List.getElem_cons_zero, List.getElem_cons_succ, List.setIfInBounds_toArray, List.set_cons_zero, List.set_cons_succ]
                  refine wpAnyH_take (i := 30) (v := ?vrz166) rfl (by kernel_rfl) (by kernel_rfl) (by kernel_rfl) (fun _ _ _ h => h) (Or.inl ⟨by kernel_rfl, ?yrz166⟩) hHeld ?trz166
                  case yrz166 => (intro w9 hSw; clear hSw; go_simp; try with_reducible rfl)
                  try simp only [Act.put, List.getElem_toArray, List.getElem_cons_zero, List.getElem_cons_succ, List.setIfInBounds_toArray, List.set_cons_zero, List.set_cons_succ]
                  refine wpAnyH_take (i := 31) (v := ?vrz167) rfl (by kernel_rfl) (by kernel_rfl) (by kernel_rfl) (fun _ _ _ h => h) (Or.inl ⟨by kernel_rfl, ?yrz167⟩) hHeld ?trz167
                  case yrz167 => (intro w9 hSw; clear hSw; go_simp; try with_reducible rfl)
                  try simp only [Act.put, List.getElem_toArray, List.getElem_cons_zero, List.getElem_cons_succ, List.setIfInBounds_toArray, List.set_cons_zero, List.set_cons_succ]
                  refine wpAnyH_take (i := 32) (v := ?vrz168) rfl (by kernel_rfl) (by kernel_rfl) (by kernel_rfl) (fun _ _ _ h => h) (Or.inl ⟨by kernel_rfl, ?yrz168⟩) hHeld ?trz168
                  case yrz168 => (intro w9 hSw; clear hSw; go_simp; try with_reducible rfl)
                  try simp only [Act.put, List.getElem_toArray, List.getElem_cons_zero, List.getElem_cons_succ, List.setIfInBounds_toArray, List.set_cons_zero, List.set_cons_succ]
                  refine wpAnyH_take (i := 33) (v := ?vrz169) rfl (by kernel_rfl) (by kernel_rfl) (by kernel_rfl) (fun _ _ _ h => h) (Or.inl ⟨by kernel_rfl, ?yrz169⟩) hHeld ?trz169
                  case yrz169 => (intro w9 hSw; clear hSw; go_simp; try with_reducible rfl)
                  try simp only [Act.put, List.getElem_toArray, List.getElem_cons_zero, List.getElem_cons_succ, List.setIfInBounds_toArray, List.set_cons_zero, List.set_cons_succ]
                  refine wpAnyH_take (i := 34) (v := ?vrz170) rfl (by kernel_rfl) (by kernel_rfl) (by kernel_rfl) (fun _ _ _ h => h) (Or.inl ⟨by kernel_rfl, ?yrz170⟩) hHeld ?trz170
                  case yrz170 => (intro w9 hSw; clear hSw; go_simp; try with_reducible rfl)
                  try simp only [Act.put, List.getElem_toArray, List.getElem_cons_zero, List.getElem_cons_succ, List.setIfInBounds_toArray, List.set_cons_zero, List.set_cons_succ]
                  refine wpAnyH_take (i := 35) (v := ?vrz171) rfl (by kernel_rfl) (by kernel_rfl) (by kernel_rfl) (fun _ _ _ h => h) (Or.inl ⟨by kernel_rfl, ?yrz171⟩) hHeld ?trz171
                  case yrz171 => (intro w9 hSw; clear hSw; go_simp; try with_reducible rfl)
                  try simp only [Act.put, List.getElem_toArray, List.getElem_cons_zero, List.getElem_cons_succ, List.setIfInBounds_toArray, List.set_cons_zero, List.set_cons_succ]
                  refine wpAnyH_take (i := 36) (v := ?vrz172) rfl (by kernel_rfl) (by kernel_rfl) (by kernel_rfl) (fun _ _ _ h => h) (Or.inl ⟨by kernel_rfl, ?yrz172⟩) hHeld ?trz172
                  case yrz172 => (intro w9 hSw; clear hSw; go_simp; try with_reducible rfl)
                  try simp only [Act.put, List.getElem_toArray, List.getElem_cons_zero, List.getElem_cons_succ, List.setIfInBounds_toArray, List.set_cons_zero, List.set_cons_succ]
                  refine wpAnyH_take (i := 37) (v := ?vrz173) rfl (by kernel_rfl) (by kernel_rfl) (by kernel_rfl) (fun _ _ _ h => h) (Or.inl ⟨by kernel_rfl, ?yrz173⟩) hHeld ?trz173
                  case yrz173 => (intro w9 hSw; obtain ⟨e9, f0, f1, f2, f3, f4, f5, f6, f7, f8, f9, f10, f11⟩ := hSw; go_simp; try with_reducible rfl)
                  try simp only [Act.put, List.getElem_toArray, List.getElem_cons_zero, List.getElem_cons_succ, List.setIfInBounds_toArray, List.set_cons_zero, List.set_cons_succ]
                  refine wpAnyH_ready (rs := [38]) (by kernel_rfl) (by simp) ?_
                  refine AllReadyH.cons (o := _) rfl (fun K hK => ?_) ?_
                  · go_simp
                    refine (HHS.out _ HWL.out HD.out).mono ?_; rintro e w174 ⟨rfl, b174⟩
                    dsimp only
                    have q174 := bnext q165 b174
                    have HWL := Lib.hid (WldAt.kept1 HWL.out b174)
                    have HLG := Lib.hid (Blk.kept1 HLG.out b174)
                    have HG := Lib.hid (Blk.kept1 HG.out b174)
                    have HD := Lib.hid (HD.out.kept1 b174)
                    have HAL4 := Lib.hid (txnsIn_kept HAL4.out b174)
                    have HXI := Lib.hid (txnsIn_kept HXI.out b174)
                    have HB := Lib.hid (bnext HB.out b174)
                    refine hK.out _ _ (HKZ.out _ q174) (fun hHeld3 => ?_)
                    clear hK K hHeld
                    have hHeld := hHeld3
                    clear hHeld3
                    try simp only [Act.put, List.getElem_toArray, List.getElem_cons_zero, List.getElem_cons_succ, List.setIfInBounds_toArray, List.set_cons_zero, List.set_cons_succ]
                    refine wpAnyH_take (i := 39) (v := ?vrz175) rfl (by kernel_rfl) (by kernel_rfl) (by kernel_rfl) (fun _ _ _ h => h) (Or.inl ⟨by kernel_rfl, ?yrz175⟩) hHeld ?trz175
                    case yrz175 => (intro w9 hSw; clear hSw; go_simp; try with_reducible rfl)
                    try simp only [Act.put, List.getElem_toArray, List.getElem_cons_zero, List.getElem_cons_succ, List.setIfInBounds_toArray, List.set_cons_zero, List.set_cons_succ]
                    refine wpAnyH_take (i := 40) (v := ?vrz176) rfl (by kernel_rfl) (by kernel_rfl) (by kernel_rfl) (fun _ _ _ h => h) (Or.inl ⟨by kernel_rfl, ?yrz176⟩) hHeld ?trz176
                    case yrz176 => (intro w9 hSw; clear hSw; go_simp; try with_reducible rfl)
                    try simp only [Act.put, List.getElem_toArray, List.getElem_cons_zero, List.getElem_cons_succ, List.setIfInBounds_toArray, List.set_cons_zero, List.set_cons_succ]
                    refine wpAnyH_ready (rs := [41]) (by kernel_rfl) (by simp) ?_
                    refine AllReadyH.cons (o := _) rfl (fun K hK => ?_) ?_
                    · go_simp
                      refine (AL.out _ (tabOf HT.out HB.out)).mono ?_; rintro e w177 ⟨rfl, b177⟩
                      dsimp only
                      have q177 := bnext q174 b177
                      have HWL := Lib.hid (WldAt.kept1 HWL.out b177)
                      have HLG := Lib.hid (Blk.kept1 HLG.out b177)
                      have HG := Lib.hid (Blk.kept1 HG.out b177)
                      have HD := Lib.hid (HD.out.kept1 b177)
                      have HAL4 := Lib.hid (txnsIn_kept HAL4.out b177)
                      have HXI := Lib.hid (txnsIn_kept HXI.out b177)
                      have HB := Lib.hid (bnext HB.out b177)
                      refine hK.out _ _ (HKZ.out _ q177) (fun hHeld3 => ?_)
                      clear hK K hHeld
                      have hHeld := hHeld3
                      clear hHeld3
                      try simp only [Act.put, List.getElem_toArray, List.getElem_cons_zero, List.getElem_cons_succ, List.setIfInBounds_toArray, List.set_cons_zero, List.set_cons_succ]
                      refine wpAnyH_take (i := 42) (v := ?vrz178) rfl (by kernel_rfl) (by kernel_rfl) (by kernel_rfl) (fun _ _ _ h => h) (Or.inl ⟨by kernel_rfl, ?yrz178⟩) hHeld ?trz178
                      case yrz178 => (intro w9 hSw; clear hSw; go_simp; try with_reducible rfl)
                      try simp only [Act.put, List.getElem_toArray, List.getElem_cons_zero, List.getElem_cons_succ, List.setIfInBounds_toArray, List.set_cons_zero, List.set_cons_succ]
                      refine wpAnyH_take (i := 43) (v := ?vrz179) rfl (by kernel_rfl) (by kernel_rfl) (by kernel_rfl) (fun _ _ _ h => h) (Or.inl ⟨by kernel_rfl, ?yrz179⟩) hHeld ?trz179
                      case yrz179 => (intro w9 hSw; clear hSw; go_simp; try with_reducible rfl)
                      try simp only [Act.put, List.getElem_toArray, List.getElem_cons_zero, List.getElem_cons_succ, List.setIfInBounds_toArray, List.set_cons_zero, List.set_cons_succ]
                      refine ⟨by kernel_rfl, ?_⟩
                      clear hHeld
                      go_wp2
                      go_ret
                      exact ⟨rfl, HB.out⟩
                    exact AllReadyH.nil
                  exact AllReadyH.nil
                exact AllReadyH.nil
              exact AllReadyH.nil
            exact AllReadyH.nil
          exact AllReadyH.nil
        exact AllReadyH.nil
end Go.Proofs.YtanghmogeiiooaaGreatDoor
