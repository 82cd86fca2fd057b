/- The walk of DeviceTwo. -/
import Derived.Test.YtgdnlkoncajaoaaDLaw2
namespace Go.Proofs.Ytgdnlkoncajaoaa
set_option linter.unusedVariables false
open Go.RowKit

set_option maxRecDepth 100000 in
set_option maxHeartbeats 16000000 in
theorem two_walk (b : Nat) (hb0 : b < 256) (v v2 : Value) (n n2 : Nat) (A A2 : Nat → ActD) (w : World) (h : ActsIn v n A w) (h2 : ActsIn v2 n2 A2 w) :
    Calls Try.prog 9 #[.int .u8 (b : Int), v, v2] w fun e w' => e = .returned (.bool true) ∧ Below w.heap.size w w' := by
  have mixed : Try.prog.follows .mixedOrders = true := by kernel_rfl
  have G := Lib.hid (great_any v n A w h)
  have G2 := Lib.hid fun w' (h' : ActsIn v2 n2 A2 w') => great_any v2 n2 A2 w' h'
  have P := Lib.hid fun hn w' (h' : ActsIn v n A w') => played_any b hb0 v n A hn w' h'
  have AL := Lib.hid alive_any
  have HV := Lib.hid h
  have HV2 := Lib.hid h2
  have WT := Lib.hid what_any
  obtain ⟨ad2, cap2, rfl, j1, j2, j3⟩ := h2.shape
  have J3 := Lib.hid j3
  obtain ⟨ad, cap, rfl, h1, h2', -⟩ := h.shape
  have KE := Lib.hid fun d lo hi S w h => kept_any (d := d) (lo := lo) (hi := hi) (S := S) w h
  have RA := Lib.hid fun d lo hi S w h => readall_any (d := d) (lo := lo) (hi := hi) (S := S) w h
  have PE := Lib.hid fun d lo hi S w h => pending_any (d := d) (lo := lo) (hi := hi) (S := S) w h
  have CR := Lib.hid fun d lo hi S kv w h hk => crash_any (d := d) (lo := lo) (hi := hi) (S := S) [true, false, true] kv w h hk
  have WR := Lib.hid fun d lo hi S b s ha w h => write_any (d := d) (lo := lo) (hi := hi) (S := S) b s ha w h
  have FL := Lib.hid fun d lo hi S ha w h => flush_any (d := d) (lo := lo) (hi := hi) (S := S) ha w h
  have OP := Lib.hid open_yes
  have SY := Lib.hid same_yes
  clear h h2 j3
  go_enter Try.func9, Try.ntmps9
  go_wp2_with fail
  refine G.out.mono ?_; rintro e w1 ⟨g, rfl, hg, hb⟩
  clear G
  cases g with
  | true =>
    go_wp2
    go_ret
    exact ⟨rfl, hb⟩
  | false =>
    have hn := hg rfl
    have GG := Lib.hid (G2.out w1 (HV2.out.kept hb))
    clear hg G2
    go_wp2_with fail
    refine GG.out.mono ?_; rintro e w2 ⟨g, rfl, hg, b⟩
    have hb := bnext hb b
    clear b GG
    cases g with
    | true =>
      go_wp2
      go_ret
      exact ⟨rfl, hb⟩
    | false =>
      have hn2 := hg rfl
      have P1 := Lib.hid (P.out hn w2 (HV.out.kept hb))
      have hw2 := hb.size
      clear hg P HV
      go_wp2_with fail
      refine P1.out.mono ?_; rintro e w3 ⟨d, hi, S, rfl, hd, hSn, hSa, b⟩
      have hb := bnext hb b
      generalize hlq : w2.heap.size = lo at *
      clear b P1 hlq
      have hok := hd.ok
      have HOK := Lib.hid hok
      have hn1 := hok.lo
      have hn3 := hok.hi
      clear hok
      go_wp2_with fail
      refine (RA.out _ _ _ _ _ hd).mono ?_; rintro e w' ⟨rfl, rfl⟩
      go_wp2_with fail
      refine (KE.out _ _ _ _ _ hd).mono ?_; rintro e w4 ⟨rfl, b⟩
      have hd := hd.kept1 b
      have hb := bnext hb b
      clear b
      go_wp2_with fail
      refine (PE.out _ _ _ _ _ hd).mono ?_; rintro e w5 ⟨vp, rfl, hv, b⟩
      have hd := hd.kept1 b
      have hb := bnext hb b
      clear b
      have HP := Lib.hid (natsAt_in hv)
      obtain ⟨adp, capp, rfl, -, -, -⟩ := shape_of hv
      have HA5 := Lib.hid hd
      have htop := hd.top
      have hb5 := Below.refl w5.heap.size w5
      have HB5 := Lib.hid hb
      have hs5 := hb.size
      clear hv hb
      have b := balloc1 w5 (.cells #[.bool true, .bool false, .bool true] 4)
      have C := Lib.hid (CR.out d _ _ _ _ _ (hd.kept1 b) (lit_row w5 #[.bool true, .bool false, .bool true] 4 3 rfl (by decide)))
      have hb5 := bnext hb5 b
      have hX := crashT_size HOK.out [true, false, true]
      have OP1 := Lib.hid fun w => OP.out S.n (crashT S [true, false, true]) hn1 hn3 hX w
      have e1 : cat (freshSt S.n (blkOf 128 (crashT S [true, false, true]))).was (freshSt S.n (blkOf 128 (crashT S [true, false, true]))).n = crashT S [true, false, true] := cat_blocks hX
      have e2 : cat (freshSt S.n (blkOf 128 (crashT S [true, false, true]))).now (freshSt S.n (blkOf 128 (crashT S [true, false, true]))).n = crashT S [true, false, true] := cat_blocks hX
      clear b hd CR hX OP
      generalize crashT S [true, false, true] = X at *
      go_wp2_with fail
      refine C.out.mono ?_; rintro e w6 ⟨rfl, b⟩
      have hb5 := bnext hb5 b
      clear b C
      go_wp2_with fail
      refine (OP1.out _).mono ?_; rintro e w7 ⟨d2, rfl, hd2, b⟩
      have hs6 : w5.heap.size ≤ w6.heap.size := hb5.size
      have hb5 := bnext hb5 b
      generalize w6.heap.size = lo2 at *
      generalize w7.heap.size = hi2 at *
      clear b
      have KE2 := KE.out d2 lo2 hi2 _ w7 hd2
      rw [e1] at KE2
      have KE2 := Lib.hid KE2
      go_wp2_with fail
      refine KE2.out.mono ?_; rintro e w8 ⟨rfl, b⟩
      have hd2 := hd2.kept1 b
      have hb5 := bnext hb5 b
      have HD2 := Lib.hid hd2
      have HB8 := Lib.hid hb5
      clear b KE2 hd2 hb5
      go_wp2
      go_loopw [14] (fun q wr => ∃ (i : Nat) (T : St), q = .int .i64 i ∧ i ≤ n2 ∧ DevAt d2 lo2 hi2 T wr ∧ T.acts ≤ 2 * i ∧ Below w5.heap.size w5 wr) (fun q _ => n2 - (intOf q).toNat)
      case atStart => exact ⟨0, _, rfl, Nat.zero_le _, HD2.out, Nat.le_refl _, HB8.out⟩
      case round =>
        obtain ⟨i, T, rfl, hiI, hd2, hTa, hbr⟩ := hrel
        clear HD2 HB8
        have hbw := HB5.out.trans (hbr.mono hs5)
        by_cases hlt : i < n2
        · obtain ⟨g, o, rfl, hg, hc⟩ := J3.out (by omega)
          obtain ⟨c0, c1, c2, c3, c4, c5⟩ := hc i hlt
          have hx := HV2.out.2 i hlt
          generalize A2 i = x at *
          obtain ⟨adk, capk, hkv, -, -, -, -⟩ := hx.keep.shape
          rw [hkv] at c5
          have kc : ∀ p : BelowP wr, ∀ j u, w.cell? ⟨g, j, none⟩ = some u → p.to.cell? ⟨g, j, none⟩ = some u := fun p j u hu => ((bnext hbw p.h).cell (p := ⟨g, j, none⟩) hg).trans hu
          have k0 := fun p => kc p _ _ c0
          have k1 := fun p => kc p _ _ c1
          have k2 := fun p => kc p _ _ c2
          have k3 := fun p => kc p _ _ c3
          have k4 := fun p => kc p _ _ c4
          have k5 := fun p => kc p _ _ c5
          have WA := Lib.hid (WT.out ⟨x.kind, x.b, x.n, x.fill, x.data, x.keep, .slice adk x.keep.length capk⟩ hx.fill)
          have HD2 := Lib.hid hd2
          have HBR := Lib.hid hbr
          have HBW := Lib.hid hbw
          have C0 := Lib.hid c0
          clear hc hd2 hbr hbw kc c0 c1 c2 c3 c4 c5 hx
          go_wp2
          refine wp_region_tail_below 11 mixed (by kernel_rfl) ?_
          simp only [List.take_succ_cons, List.take_zero, List.drop_succ_cons, List.drop_zero]
          repeat (go_big_quiet_step (first | (go_at_call 15; refine calls_below (WA.out _))))
          refine wpQuiet_nil ?_
          intro w0q hw'
          obtain ⟨⟨wq, bq⟩, hw''⟩ := hw'
          have hw2 : wq = w0q := hw''.symm
          clear hw''
          subst hw2
          have F := Lib.hid (WR.out d2 lo2 hi2 T x.b (whatT ⟨x.kind, x.b, x.n, x.fill, x.data, x.keep, .slice adk x.keep.length capk⟩) (by omega) wq (HD2.out.kept1 bq))
          have HB4 := Lib.hid (bnext HBR.out bq)
          clear k0 k1 k2 k3 k4 k5 WA HBR HBW
          go_wp2_with fail
          refine F.out.mono ?_; rintro e w10 ⟨rfl, hd3, z3⟩
          have hb10 := HB4.out.trans (z3.below HB4.out.size hs6)
          have ha4 := wSt_acts T x.b (whatT ⟨x.kind, x.b, x.n, x.fill, x.data, x.keep, .slice adk x.keep.length capk⟩)
          have c0 := ((HB5.out.trans (hb10.mono hs5)).cell (p := ⟨g, o + i * 6, none⟩) hg).trans C0.out
          generalize wSt T x.b (whatT ⟨x.kind, x.b, x.n, x.fill, x.data, x.keep, .slice adk x.keep.length capk⟩) = T2 at *
          have HD4 := Lib.hid hd3
          have HB10 := Lib.hid hb10
          clear F hd3 z3 HB4 bq hb10
          by_cases hk : x.kind % 2 = 0
          · have hk8 : (x.kind : Int) % 2 = 0 := by omega
            have F := Lib.hid (FL.out d2 lo2 hi2 T2 (by omega) w10 HD4.out)
            clear hk
            go_wp2_with fail
            refine F.out.mono ?_; rintro e w11 ⟨rfl, hd3, z3⟩
            have HB11 := Lib.hid (HB10.out.trans (z3.below HB10.out.size hs6))
            have ha5 := fSt_acts T2
            have HD5 := Lib.hid hd3
            clear F hd3 z3 HB10 HD4 c0
            go_wp2
            exact ⟨⟨i + 1, _, by go_num, by omega, HD5.out, by omega, HB11.out⟩, by simp [intOf]; omega⟩
          · have hk8 : ((x.kind : Int) % 2) = 1 := by omega
            clear hk
            go_wp2
            exact ⟨⟨i + 1, _, by go_num, by omega, HD4.out, by omega, HB10.out⟩, by simp [intOf]; omega⟩
        · obtain rfl : i = n2 := by omega
          clear J3 WT WR HV2
          have hd := HA5.out.kept1 hbr
          have PEq := PE.out d lo hi S
          clear hd2 hbw
          go_wp2_with fail
          refine (RA.out _ _ _ _ _ hd).mono ?_; rintro e w' ⟨rfl, rfl⟩
          go_wp2_with fail
          refine (KE.out _ _ _ _ _ hd).mono ?_; rintro e w11 ⟨rfl, b⟩
          have hbr := bnext hbr b
          have hd := hd.kept1 b
          clear b
          go_wp2_with fail
          refine (PE.out _ _ _ _ _ hd).mono ?_; rintro e w12 ⟨vq, rfl, hv, b⟩
          have hbr := bnext hbr b
          have hd := hd.kept1 b
          have S1 := Lib.hid (SY.out _ _ (pends S) (by have := pendL_len S.pend S.n; show (pendL S.pend S.n).length ≤ _; omega) _ (natsAt_in hv) (HP.out.kept hbr))
          clear b hv PEq PE SY HP
          go_wp2_with fail
          refine S1.out.mono ?_; rintro e w13 ⟨rfl, b⟩
          have hbr := bnext hbr b
          have hd := hd.kept1 b
          clear b S1
          have hs13 := hbr.size
          go_wp2_with fail
          refine (OP1.out _).mono ?_; rintro e w14 ⟨d3, rfl, hd3, b⟩
          have hbr := bnext hbr b
          have hd := hd.kept1 b
          have hhi : hi ≤ w13.heap.size := Nat.le_trans htop hs13
          have hb := HB5.out.trans (hbr.mono hs5)
          clear b hbr OP1
          generalize w13.heap.size = lo3 at *
          generalize w14.heap.size = hi3 at *
          have F := Lib.hid (FL.out d lo hi S (by omega) w14 hd)
          clear hd FL
          go_wp2_with fail
          refine F.out.mono ?_; rintro e w15 ⟨rfl, -, z⟩
          have hd3 := hd3.kept z (.inr hhi)
          have hb := hb.trans (z.below hb.size hw2)
          have KE3 := KE.out d3 lo3 hi3 _ w15 hd3
          rw [e1] at KE3
          have KE3 := Lib.hid KE3
          clear z F
          go_wp2_with fail
          refine KE3.out.mono ?_; rintro e w16 ⟨rfl, b⟩
          have hd3 := hd3.kept1 b
          have hb := bnext hb b
          have RA3 := RA.out d3 lo3 hi3 _ w16 hd3
          rw [e2] at RA3
          have RA3 := Lib.hid RA3
          clear b KE3
          go_wp2_with fail
          refine RA3.out.mono ?_; rintro e w' ⟨rfl, rfl⟩
          clear hd3 RA3
          go_wp2_with fail
          refine (AL.out _).mono ?_; rintro e w17 ⟨rfl, b⟩
          have hb := bnext hb b
          clear b
          go_wp2
          go_ret
          exact ⟨rfl, hb⟩
end Go.Proofs.Ytgdnlkoncajaoaa
