import Derived.Test.YtknefoemgifbfaaGreatPd54
set_option linter.unusedVariables false
set_option linter.unusedSimpArgs false
set_option linter.constructorNameAsVariable false
set_option maxRecDepth 100000
set_option maxHeartbeats 16000000
namespace Go.Proofs.YtknefoemgifbfaaGreat
open Go.RowKit
theorem ints_one {p : Nat} {b : Int} {w : World} (h : Blk p #[.int .i64 b] 3 w) : IntsR (.slice (some ⟨p, 0, none⟩) 1 1) [b] w := by
 refine ⟨rfl, some ⟨p, 0, none⟩, 1, rfl, Nat.le_refl _, by unfold maxLen; omega, fun _ => ⟨p, 0, rfl, h.lt, fun k u hk => ?_⟩, fun e => by cases e⟩
 match k, hk with
 | 0, hk =>
   have hk : some (Value.int .i64 b) = some u := hk;rw [← hk];exact h.cell 0
 | k + 1, hk => cases hk
theorem lled_any (g : Nat) (F : Nat → ByteArray) (hF : ∀ k, (F k).size ≤ 1000) (N : List Int) (row : List Ent) (hrow0 : RowOk true row) (dp : Int) (root : List Ent) (R : RpR) (lg n mt fr tt : Int) (H : LedOk F N row dp root R fr tt) (htt : I64 tt)
 (hNl : N.length ≤ 100000) (vRow vN vt vr vc vf : Value) (w : World)
 (hd : DskAt g F w) (hvN : IntsR vN N w) (hrow : EntsIn vRow row w) (hvt : EntsIn vt root w) (hvr : EntsIn vr (rtR R) w) (hvc : ChgsIn vc (chR R) w) (hvf : IntsR vf (frR R) w) :
 Calls Tryz.prog 27 #[.slice (some ⟨g, 0, none⟩) 4096 4096, vRow, vN, .agg #[.int .i64 dp, vt], setV (dpR R) vr vc vf, .int .i64 (ecR R), .agg #[.int .i64 lg, .int .i64 n, .int .i64 mt, .int .i64 fr, .int .i64 tt]] w
  fun e w' => e = .returned (.bool true) ∧ Below w.heap.size w w' := by
 have mixed : Tryz.prog.follows .mixedOrders = true := by kernel_rfl
 have HNONE := Lib.hid H.none;have HBAD := Lib.hid H.bad;have HSAME := Lib.hid H.same;have HGOOD := Lib.hid H.good;clear H;obtain ⟨EC, hEC⟩ : ∃ x, ecR R = x := ⟨_, rfl⟩;obtain ⟨DR, hDR⟩ : ∃ x, dpR R = x := ⟨_, rfl⟩;obtain ⟨RT, hRT⟩ : ∃ x, rtR R = x := ⟨_, rfl⟩;obtain ⟨CH, hCH⟩ : ∃ x, chR R = x := ⟨_, rfl⟩;obtain ⟨FR, hFR⟩ : ∃ x, frR R = x := ⟨_, rfl⟩
 have HG2 : Hid (fr ∈ N → ¬ LdBad row N fr tt → tt ≠ fr → (EC = 0 ∧ ∃ T, DR = ((T.length - 1 : Nat) : Int) ∧ RT = rootA T ∧ HoldsOk F N row CH T FR [tt] ∧ fitE (rootA T) ∧ (numsA T).length ≤ 100000 ∧ I64 ((T.length - 1 : Nat) : Int)) ∧ CH.length ≤ 2 ∧ DR = dp ∧ RT.length = root.length ∧ (0 ≤ fr ∧ fr < 4096) ∧ (∀ c ∈ CH, c.1 = tt → c.2 = F fr.toNat) ∧ (∃ c ∈ CH, c.1 = tt) ∧ FR = [fr]) := Lib.hid fun hf hb hne => by
  rw [← hEC, ← hDR, ← hRT, ← hCH, ← hFR];obtain ⟨⟨k1, k2⟩, k3⟩ := HGOOD.out hf hb hne;exact ⟨⟨k1, k2⟩, k3⟩
 rw [hEC, hDR, hRT, hCH, hFR] at HSAME;rw [hEC] at HNONE HBAD ⊢;rw [hDR];rw [hRT] at hvr;rw [hCH] at hvc;rw [hFR] at hvf;clear HGOOD hEC hDR hRT hCH hFR R;obtain ⟨ta, tc, rfl, -⟩ := entsIn_cells hvt;obtain ⟨ra, rc, rfl, -⟩ := entsIn_cells hvr;obtain ⟨ca, cc, rfl, hcc1, hcc2, hcell⟩ := hvc.open;obtain ⟨fa, fc, rfl, -⟩ := hvf.shape;obtain ⟨wa, wc9, rfl, -⟩ := entsIn_cells hrow;obtain ⟨na, nc, rfl, -⟩ := hvN.shape;obtain ⟨w1, hw1, hb1, k1, k2, k3⟩ := three_box w #[.int .i64 dp, .slice ta root.length tc] #[.int .i64 DR, .slice ra RT.length rc, .slice ca CH.length cc, .slice fa FR.length fc] #[.int .i64 lg, .int .i64 n, .int .i64 mt, .int .i64 fr, .int .i64 tt] 35 58 56;have HW1 := Lib.hid hw1;have HB1 := Lib.hid hb1;have HT1 := Lib.hid k1;have HX1 := Lib.hid k2;have HO1 := Lib.hid k3;have HVT := Lib.hid hvt;have HVR := Lib.hid hvr;have HVC := Lib.hid hvc;have HVF := Lib.hid hvf;have HVN := Lib.hid hvN;have HROW := Lib.hid hrow;have HC := Lib.hid hcell;have HDK := Lib.hid hd;have HR0 := Lib.hid hrow0;have z3 := k3.cell 3;simp only [List.getElem?_toArray, List.getElem?_cons_zero, List.getElem?_cons_succ] at z3;have IN1 := Lib.hid (lin_any N fr _ w1 (hvN.kept hb1));clear hw1 hb1 k1 k2 k3 hvt hvr hvc hvf hvN hrow hcell hd hrow0;obtain ⟨b1, hb1⟩ : ∃ b, decide (fr ∈ N) = b := ⟨_, rfl⟩;rw [hb1] at IN1
 go_enter Tryz.func27, Tryz.ntmps27
 go_upto_region 1 with fail
 rw [HW1.out];go_wp2_with fail
 refine IN1.out.mono ?_; rintro e w2 ⟨rfl, b2⟩;have HB2 := Lib.hid b2;clear IN1 b2 z3
 cases b1 with
 | false =>
   have HE := Lib.hid (HNONE.out (of_decide_eq_false hb1))
   have d1 : (EC == (4 : Int)) = true := by rw [HE.out]; simp
   clear HE HNONE HBAD HSAME HG2 hb1;go_wp2;go_ret;exact ⟨rfl, bnext HB1.out HB2.out⟩
 | true =>
   have hf := of_decide_eq_true hb1;have HBAD2 := Lib.hid (HBAD.out hf);have HSAME2 := Lib.hid (HSAME.out hf);have HG3 := Lib.hid (HG2.out hf);clear HNONE HBAD HSAME HG2 hb1 hf
   go_upto_region 3 with fail
   go_cut [49] (fun u1 wx => ∃ b : Bool, u1 = .bool b ∧ Hid (b = true → LdBad row N fr tt) ∧ Hid (b = false → ¬ LdBad row N fr tt) ∧ Hid (Below w2.heap.size w2 wx))
   case first =>
    have z4 := (HO1.out.kept1 HB2.out).cell 4;simp only [List.getElem?_toArray, List.getElem?_cons_zero, List.getElem?_cons_succ] at z4;have TK := Lib.hid (rftaken_any row HR0.out tt _ w2 (HROW.out.kept (HB1.out.trans (HB2.out.mono HB1.out.size))));by_cases t1 : tt < 1
    ·have d1 : decide (tt < 1) = true := decide_eq_true t1
     clear TK;go_wp2;go_meet
     case rel => exact ⟨true, rfl, Lib.hid fun _ => .inl t1, Lib.hid (fun h => by cases h), Lib.hid (Below.refl _ _)⟩
    have d1 : decide (tt < 1) = false := decide_eq_false t1;by_cases t2 : 4096 ≤ tt
    ·have d2 : decide ((4096 : Int) ≤ tt) = true := decide_eq_true t2
     clear TK;go_wp2;go_meet
     case rel => exact ⟨true, rfl, Lib.hid fun _ => .inr (.inl t2), Lib.hid (fun h => by cases h), Lib.hid (Below.refl _ _)⟩
    have d2 : decide ((4096 : Int) ≤ tt) = false := decide_eq_false t2;obtain ⟨b2, hb2⟩ : ∃ b, takenA row tt = b := ⟨_, rfl⟩;rw [hb2] at TK
    cases b2 with
    | true =>
      have HTK := Lib.hid hb2;clear hb2;go_wp2_with fail
      refine TK.out.mono ?_; rintro e w3 ⟨rfl, b3⟩;go_wp2;go_meet
      case rel => exact ⟨true, rfl, Lib.hid fun _ => .inr (.inr (.inl HTK.out)), Lib.hid (fun h => by cases h), Lib.hid b3⟩
    | false =>
      have HTK := Lib.hid hb2;clear hb2;go_wp2_with fail
      refine TK.out.mono ?_; rintro e w3 ⟨rfl, b3⟩;have z3 := (HO1.out.kept1 (bnext HB2.out b3)).cell 3;have z4' := (HO1.out.kept1 (bnext HB2.out b3)).cell 4;simp only [List.getElem?_toArray, List.getElem?_cons_zero, List.getElem?_cons_succ] at z3 z4';have HB3 := Lib.hid b3;have IN := Lib.hid (lin_any N tt _ w3 (HVN.out.kept (HB1.out.trans ((bnext HB2.out b3).mono HB1.out.size))));clear b3 z4 TK;by_cases t3 : tt = fr
      ·have d3 : (tt != fr) = false := by rw [t3]; simp
       have HT3 := Lib.hid t3;clear t3 IN;go_wp2;go_meet
       case rel => exact ⟨false, rfl, Lib.hid (fun h => by cases h), Lib.hid fun _ => (by
        rintro (q | q | q | q)
        ·omega
        ·omega
        ·rw [HTK.out] at q; cases q
        ·exact q.1 HT3.out), HB3⟩
      ·have d3 : (tt != fr) = true := by simpa using t3
       have HT3 := Lib.hid t3;clear t3;obtain ⟨b4, hb4⟩ : ∃ b, decide (tt ∈ N) = b := ⟨_, rfl⟩;rw [hb4] at IN;have HB4 := Lib.hid hb4;clear hb4;go_wp2_with fail
       refine IN.out.mono ?_; rintro e w4 ⟨rfl, b4'⟩
       cases b4 with
       | true =>
         go_wp2;go_meet
         case rel => exact ⟨true, rfl, Lib.hid fun _ => .inr (.inr (.inr ⟨HT3.out, of_decide_eq_true HB4.out⟩)), Lib.hid (fun h => by cases h), Lib.hid (bnext HB3.out b4')⟩
       | false =>
         go_wp2;go_meet
         case rel => exact ⟨false, rfl, Lib.hid (fun h => by cases h), Lib.hid fun _ => (by
          rintro (q | q | q | q)
          ·omega
          ·omega
          ·rw [HTK.out] at q; cases q
          ·exact of_decide_eq_false HB4.out q.2), Lib.hid (bnext HB3.out b4')⟩
   case rest =>
    as_aux_lemma =>
    obtain ⟨b0, rfl, HT, HF', HBQ⟩ := hcut;obtain ⟨w3, hww⟩ : ∃ x, x = wc := ⟨_, rfl⟩;subst hww;have HW3 := Lib.hid (bnext HB2.out HBQ.out);have HEND3 := Lib.hid (HB1.out.trans (HW3.out.mono HB1.out.size));clear HBQ HB2
    cases b0 with
    | true =>
      have HE := Lib.hid (HBAD2.out (HT.out rfl))
      have d1 : (EC == (2 : Int)) = true := by rw [HE.out]; simp
      clear HE HBAD2 HSAME2 HG3 HT HF';go_wp2;go_ret;exact ⟨rfl, HEND3.out⟩
    | false =>
      have hgood := HF'.out rfl;have z3 := (HO1.out.kept1 HW3.out).cell 3;have z4 := (HO1.out.kept1 HW3.out).cell 4;have x0 := (HX1.out.kept1 HW3.out).cell 0;have x1 := (HX1.out.kept1 HW3.out).cell 1;have x2 := (HX1.out.kept1 HW3.out).cell 2;have x3 := (HX1.out.kept1 HW3.out).cell 3;have y0 := (HT1.out.kept1 HW3.out).cell 0;have y1 := (HT1.out.kept1 HW3.out).cell 1;simp only [List.getElem?_toArray, List.getElem?_cons_zero, List.getElem?_cons_succ] at z3 z4 x0 x1 x2 x3 y0 y1;by_cases t3 : tt = fr
      ·have d3 : (tt == fr) = true := by rw [t3]; simp
       obtain ⟨rfl, rfl, rfl, hdd, hrr⟩ := HSAME2.out hgood t3;subst hdd
       have d4 : (DR == DR) = true := by simp
       have SE := Lib.hid (by have := sameEnts_any RT root (.slice ra RT.length rc) (.slice ta root.length tc) w3 (HVR.out.kept HEND3.out) (HVT.out.kept HEND3.out); rw [decide_eq_true hrr] at this; exact this : Calls Tryz.prog 14 #[.slice ra RT.length rc, .slice ta root.length tc] w3 fun e w' => e = .returned (.bool true) ∧ Below w3.heap.size w3 w');clear hrr t3 HT HF' HBAD2 HG3 HSAME2 hgood;go_wp2_with fail
       refine SE.out.mono ?_; rintro e w4 ⟨rfl, b4⟩;have HE4 := Lib.hid (bnext HEND3.out b4);clear SE b4;go_wp2;go_ret;exact ⟨rfl, HE4.out⟩
      ·have d3 : (tt == fr) = false := by rw [beq_eq_false_iff_ne]; exact t3
       obtain ⟨⟨rfl, T, hdr, hrt, hH, hfr, hml, hdi⟩, hc2, hdd, hrl, hfin, hdat, hex, hone⟩ := HG3.out hgood t3;subst hdd;clear t3 HT HF' HBAD2 HG3 HSAME2 hgood
       have HHO : Hid (∀ W vs, Below w1.heap.size w1 W → IntsR vs [tt] W → Calls Tryz.prog 68 #[.slice (some ⟨g, 0, none⟩) 4096 4096, .slice na N.length nc, .slice wa row.length wc9, setV DR (.slice ra RT.length rc) (.slice ca CH.length cc) (.slice fa FR.length fc), vs] W fun e w' => e = .returned (.bool true) ∧ Below W.heap.size W w') := Lib.hid fun W vs b hvs => by
        have bb := HB1.out.trans (b.mono HB1.out.size);have hvr2 := HVR.out.kept bb;rw [hrt] at hvr2;have := lholds_any g F hF N _ CH T FR [tt] hH hdi hfr hNl hml (.slice na N.length nc) (.slice wa row.length wc9) (.slice ra (rootA T).length rc) (.slice ca CH.length cc) (.slice fa FR.length fc) vs W (HDK.out.eq_block bb.size (bb.block g HDK.out.c.1)) (HVN.out.kept bb) (HROW.out.kept bb) hvr2 (HVC.out.kept bb) (HVF.out.kept bb) hvs;rw [← hdr, ← hrt] at this;exact this
       have HDAT := Lib.hid hdat;have HEX := Lib.hid hex;have HONE := Lib.hid hone;have d4 : decide ((2 : Int) < (CH.length : Int)) = false := decide_eq_false (by omega)
       have d5 : (DR != DR) = false := by simp
       have d6 : ((RT.length : Int) != (root.length : Int)) = false := by rw [hrl]; simp
       obtain ⟨mf, rfl⟩ := Int.eq_ofNat_of_zero_le hfin.1
       have hmf : mf < 4096 := by have := hfin.2; omega
       clear hH hfr hml hdi hdr hrt hdat hex hone hrl hc2 hfin;obtain ⟨w4, hw4⟩ : ∃ x, w3.alloc (.cells #[.int .i64 tt] 3) = x := ⟨_, rfl⟩;have b4 := balloc1 w3 (.cells #[.int .i64 tt] 3);have k4 := Blk.new #[.int .i64 tt] 3 w3;rw [hw4] at b4 k4;have HC4 := Lib.hid (HHO.out w4 _ (bnext HW3.out b4) (ints_one k4));have HW4 := Lib.hid (bnext HW3.out b4);have HWW := Lib.hid hw4;clear hw4 b4 k4 HHO;go_wp2_with fail
       rw [HWW.out];refine HC4.out.mono ?_; rintro e w5 ⟨rfl, b5⟩;have HW5 := Lib.hid (bnext HW4.out b5);clear HC4 b5 HWW HW4 x0 x1 x2 x3 y0 y1 z3 z4 d4 d5 d6;go_wp2
       go_loopw [15] (fun p wr => ∃ (i : Nat), p = .int .i64 i ∧ i ≤ CH.length ∧ Hid (∀ j (hj : j < CH.length), j < i → CH[j].1 ≠ tt) ∧ Hid (Below w1.heap.size w1 wr)) (fun p _ => CH.length - (intOf p).toNat)
       case atStart => exact ⟨0, rfl, Nat.zero_le _, Lib.hid (fun j hj h => by omega), HW5⟩
       case round =>
        obtain ⟨i, rfl, hi, HNO, HBI⟩ := hrel;have x2 := (HX1.out.kept1 HBI.out).cell 2;simp only [List.getElem?_toArray, List.getElem?_cons_zero, List.getElem?_cons_succ] at x2;by_cases hlt : i < CH.length
        ·obtain ⟨gcb, ocb, rfl, hgc, hcl⟩ := HC.out (by omega)
         have HCEL : Hid (∀ W, Below w1.heap.size w1 W → W.cell? ⟨gcb, ocb + i * 2, none⟩ = some (.int .i64 CH[i].1) ∧ W.cell? ⟨gcb, ocb + i * 2 + 1, none⟩ = some (.string CH[i].2)) := Lib.hid fun W b => by
          have bb := HB1.out.trans (b.mono HB1.out.size);exact ⟨(bb.cell (p := ⟨gcb, ocb + i * 2, none⟩) hgc).trans (hcl i hlt).1, (bb.cell (p := ⟨gcb, ocb + i * 2 + 1, none⟩) hgc).trans (hcl i hlt).2⟩
         have HDI := Lib.hid (HDAT.out CH[i] (List.getElem_mem hlt))
         have HNI : Hid (CH[i].1 ≠ tt → ∀ j (hj : j < CH.length), j < i + 1 → CH[j].1 ≠ tt) := Lib.hid fun h j hj h2 => by
          by_cases e : j = i
          ·subst e; exact h
          ·exact HNO.out j hj (by omega)
         obtain ⟨bk, hbk⟩ : ∃ x, CH[i].1 = x := ⟨_, rfl⟩;obtain ⟨sk, hsk⟩ : ∃ x, CH[i].2 = x := ⟨_, rfl⟩;rw [hbk, hsk] at HCEL HDI;rw [hbk] at HNI;rw [Int.toNat_natCast] at HDI;clear hbk hsk hcl HC HNO HEX HDAT
         go_upto_region 12 with fail
         go_cut [137] (fun u1 wx => u1 = .bool (bk == tt) ∧ Hid (Below wr.heap.size wr wx))
         case first =>
          have q1 := fun p : BelowP wr => (HX1.out.kept1 (bnext HBI.out p.h)).cell 2;have q2 := fun p : BelowP wr => (HCEL.out p.to (bnext HBI.out p.h)).1;have q3 := fun p : BelowP wr => (HO1.out.kept1 (bnext HBI.out p.h)).cell 4;simp only [List.getElem?_toArray, List.getElem?_cons_zero, List.getElem?_cons_succ] at q1 q3;refine wp_region_quiet_below mixed (by kernel_rfl) ?_
          repeat (go_big_quiet_step (fail))
          refine wpQuiet_nil ?_;intro w0q hw';obtain ⟨⟨wq, bq⟩, hw''⟩ := hw';have hw2 : wq = w0q := hw''.symm;clear hw'';subst hw2;go_wp2;go_meet
          case rel => exact ⟨rfl, Lib.hid bq⟩
         case rest =>
          obtain ⟨rfl, HBQ⟩ := hcut;obtain ⟨w6, hww6⟩ : ∃ x, x = wc := ⟨_, rfl⟩;subst hww6;have HW6 := Lib.hid (bnext HBI.out HBQ.out);clear HBQ x2;by_cases t4 : bk = tt
          ·have d4 : (bk == tt) = true := by rw [t4]; simp
           have hsk := HDI.out t4
           have d5 : (sk.toList == (F mf).toList) = true := by rw [hsk]; simp
           clear hsk t4 HNI HDI;rw [d4]
           go_upto_region 13 with fail
           obtain ⟨wq, hwq⟩ : ∃ x, x = w6 := ⟨_, rfl⟩;subst hwq;have hq : Below wq.heap.size wq wq.drew := (Below.refl _ _).drew
           have HK : Hid (∀ w9, Below wq.heap.size wq w9 → w9.cell? ⟨w.heap.size + 1, 2, none⟩ = some (.slice (some ⟨gcb, ocb, none⟩) CH.length cc) ∧ w9.cell? ⟨w.heap.size + 1, 3, none⟩ = some (.slice fa FR.length fc) ∧ w9.cell? ⟨w.heap.size + 1 + 1, 3, none⟩ = some (.int .i64 (mf : Int)) ∧ w9.cell? ⟨gcb, ocb + i * 2 + 1, none⟩ = some (.string sk) ∧ w9.cell? ⟨g, mf, none⟩ = some (.string (F mf))) := Lib.hid fun w9 b => by
            have bb := bnext HW6.out b;exact ⟨(HX1.out.kept1 bb).cell 2, (HX1.out.kept1 bb).cell 3, (HO1.out.kept1 bb).cell 3, (HCEL.out w9 bb).2, (((HDK.out.eq_block HB1.out.size (HB1.out.block g HDK.out.c.1)).kept1 bb).c.2 mf hmf).1⟩
           have SI : Hid (∀ W p, Below wq.heap.size wq W → Blk p #[.int .i64 (mf : Int)] 3 W → Calls Tryz.prog 23 #[.slice fa FR.length fc, .slice (some ⟨p, 0, none⟩) 1 1] W fun e w' => e = .returned (.bool true) ∧ Below W.heap.size W w') := Lib.hid fun W p b hk => by
            have bb := bnext HW6.out b;exact lints_same _ _ FR W (HVF.out.kept (HB1.out.trans (bb.mono HB1.out.size))) (by rw [HONE.out]; exact ints_one hk)
           have HEQ := Lib.hid (HB1.out.trans (HW6.out.mono HB1.out.size))
           have hmfi : (mf : Int) < 4096 := by omega
           refine wp_region_held_drew (S := fun w9 => w9.cell? ⟨w.heap.size + 1, 2, none⟩ = some (.slice (some ⟨gcb, ocb, none⟩) CH.length cc) ∧ w9.cell? ⟨w.heap.size + 1, 3, none⟩ = some (.slice fa FR.length fc) ∧ w9.cell? ⟨w.heap.size + 1 + 1, 3, none⟩ = some (.int .i64 (mf : Int)) ∧ w9.cell? ⟨gcb, ocb + i * 2 + 1, none⟩ = some (.string sk) ∧ w9.cell? ⟨g, mf, none⟩ = some (.string (F mf))) mixed (HK.out _ hq) (fun hHeld => ?_);generalize wq.drew = wd at *;refine tk 0 _ rfl (by intro w9 hSw; clear hSw; go_simp; try with_reducible rfl) hHeld ?_
           try simp only [Act.put, za, zb, zc, zd, ze, zf]
           refine tk 1 _ rfl (by intro w9 hSw; obtain ⟨e1, e2, e3, e4, e5⟩ := hSw; go_simp; try with_reducible rfl) hHeld ?_
           try simp only [Act.put, za, zb, zc, zd, ze, zf]
           refine tk 2 _ rfl (by intro w9 hSw; clear hSw; go_simp; try with_reducible rfl) hHeld ?_
           try simp only [Act.put, za, zb, zc, zd, ze, zf]
           refine tk 3 _ rfl (by intro w9 hSw; clear hSw; go_simp; try with_reducible rfl) hHeld ?_
           try simp only [Act.put, za, zb, zc, zd, ze, zf]
           refine tk 4 _ rfl (by intro w9 hSw; clear hSw; go_simp; try with_reducible rfl) hHeld ?_
           try simp only [Act.put, za, zb, zc, zd, ze, zf]
           refine tk 5 _ rfl (by intro w9 hSw; obtain ⟨e1, e2, e3, e4, e5⟩ := hSw; go_simp; try with_reducible rfl) hHeld ?_
           try simp only [Act.put, za, zb, zc, zd, ze, zf]
           refine tk 6 _ rfl (by intro w9 hSw; clear hSw; go_simp; try with_reducible rfl) hHeld ?_
           try simp only [Act.put, za, zb, zc, zd, ze, zf]
           refine tk 7 _ rfl (by intro w9 hSw; clear hSw; go_simp; try with_reducible rfl) hHeld ?_
           try simp only [Act.put, za, zb, zc, zd, ze, zf]
           refine tk 8 _ rfl (by intro w9 hSw; obtain ⟨e1, e2, e3, e4, e5⟩ := hSw; go_simp; try with_reducible rfl) hHeld ?_
           try simp only [Act.put, za, zb, zc, zd, ze, zf]
           refine tk 9 _ rfl (by intro w9 hSw; clear hSw; go_simp; try with_reducible rfl) hHeld ?_
           try simp only [Act.put, za, zb, zc, zd, ze, zf]
           refine tk 10 _ rfl (by intro w9 hSw; obtain ⟨e1, e2, e3, e4, e5⟩ := hSw; go_simp; try with_reducible rfl) hHeld ?_
           try simp only [Act.put, za, zb, zc, zd, ze, zf]
           refine tk 11 _ rfl (by intro w9 hSw; clear hSw; go_simp; try with_reducible rfl) hHeld ?_
           try simp only [Act.put, za, zb, zc, zd, ze, zf]
           refine tk 12 _ rfl (by intro w9 hSw; clear hSw; go_simp; try with_reducible rfl) hHeld ?_
           try simp only [Act.put, za, zb, zc, zd, ze, zf]
           refine tk 13 _ rfl (by intro w9 hSw; clear hSw; go_simp; try with_reducible rfl) hHeld ?_
           try simp only [Act.put, za, zb, zc, zd, ze, zf]
           refine tk 14 _ rfl (by intro w9 hSw; obtain ⟨e1, e2, e3, e4, e5⟩ := hSw; go_simp; try with_reducible rfl) hHeld ?_
           try simp only [Act.put, za, zb, zc, zd, ze, zf]
           refine tk 15 _ rfl (by intro w9 hSw; clear hSw; go_simp; try with_reducible rfl) hHeld ?_
           try simp only [Act.put, za, zb, zc, zd, ze, zf]
           refine tk 16 _ rfl (by intro w9 hSw; obtain ⟨e1, e2, e3, e4, e5⟩ := hSw; go_simp; try with_reducible rfl) hHeld ?_
           try simp only [Act.put, za, zb, zc, zd, ze, zf]
           refine wpAnyH_ready (rs := [17]) (by kernel_rfl) (by simp) ?_;refine AllReadyH.cons (o := _) rfl (fun K hK => ?_) ?_
           ·obtain ⟨w18, hw18⟩ : ∃ w9, wd.alloc (.cells #[.int .i64 (mf : Int)] 3) = w9 := ⟨_, rfl⟩
            have b18 : Below wd.heap.size wd w18 := by rw [← hw18]; exact balloc1 _ _
            have q18 := bnext hq b18
            have hz18 : w18.heap.size = wd.heap.size + 1 := by rw [← hw18]; exact size_alloc _ _
            have hB18 : Blk wd.heap.size #[.int .i64 (mf : Int)] 3 w18 := by rw [← hw18]; exact Blk.new _ _ _
            have HFB := Lib.hid hB18;have HZ18 := Lib.hid hz18;have HW18 := Lib.hid hw18;clear hB18 hz18 hw18;go_simp
            try rw [HW18.out]
            clear hHeld;refine hK.out _ _ (HK.out _ (q18)) (fun hHeld => ?_);clear hK K
            try simp only [Act.put, za, zb, zc, zd, ze, zf]
            refine wpAnyH_ready (rs := [18]) (by kernel_rfl) (by simp) ?_;refine AllReadyH.cons (o := _) rfl (fun K hK => ?_) ?_
            ·go_simp
             refine (SI.out w18 _ (q18) HFB.out).mono ?_; rintro e w19 ⟨rfl, b19⟩;dsimp only;have q19 := bnext q18 b19;have HFB := Lib.hid (HFB.out.kept1 b19);clear hHeld;refine hK.out _ _ (HK.out _ (q19)) (fun hHeld => ?_);clear hK K
             try simp only [Act.put, za, zb, zc, zd, ze, zf]
             refine tk 19 _ rfl (by intro w9 hSw; clear hSw; go_simp; try with_reducible rfl) hHeld ?_
             try simp only [Act.put, za, zb, zc, zd, ze, zf]
             refine tk 20 _ rfl (by intro w9 hSw; clear hSw; go_simp; try with_reducible rfl) hHeld ?_
             try simp only [Act.put, za, zb, zc, zd, ze, zf]
             refine ⟨by kernel_rfl, ?_⟩;clear hHeld;have HQ := Lib.hid (q19);go_wp2;go_ret;exact ⟨rfl, bnext HEQ.out HQ.out⟩
            exact AllReadyH.nil
           exact AllReadyH.nil
          ·have d4 : (bk == tt) = false := by rw [beq_eq_false_iff_ne]; exact t4
           have HN2 := Lib.hid (HNI.out t4);clear t4 HNI HDI;rw [d4];go_wp2;exact ⟨⟨i + 1, by go_num, by omega, HN2, HW6⟩, by simp [intOf]; omega⟩
        ·obtain rfl : i = CH.length := by omega
         exfalso;obtain ⟨c, hc, e⟩ := HEX.out;obtain ⟨j, hj, rfl⟩ := List.mem_iff_getElem.1 hc;exact HNO.out j hj hj e
open Go.RowKit
theorem set_sz : (Tryz.prog.info? 58).map (·.size) = some 4 := by kernel_rfl
def SetSay (R : RpR) (w : World) (e : Ending) (w' : World) : Prop :=
 ∃ vr vc vf, e = .returned (.tuple #[setV (dpR R) vr vc vf, .int .i64 (ecR R)]) ∧ EntsAt w.heap.size vr (rtR R) w' ∧ ChgsOwn w.heap.size vc (chR R) w' ∧ IntsFk w.heap.size vf (frR R) w' ∧ Below w.heap.size w w'
theorem SetEnd.say {R : RpR} {w : World} {e : Ending} {w' : World} (h : SetEnd R w e w') : SetSay R w e w' := by
 unfold SetEnd at h;obtain ⟨b, h⟩ := h
 cases R with
 | ok q => obtain ⟨S, T⟩ := q; obtain ⟨vr, vc, vf, h1, h2, h3, h4⟩ := h; exact ⟨vr, vc, vf, h1, h2, h3, h4, b⟩
 | error c => exact ⟨_, _, _, h.1, World.ownsRow_nil _ _ _ _, World.ownsRow_nil _ _ _ _, World.ownsRow_nil _ _ _ _, b⟩
theorem set_zero {R : RpR} (h : ecR R ≠ 0) : (chR R).length = 0 ∧ (frR R).length = 0 ∧ (rtR R).length = 0 ∧ dpR R = 0 := by
 cases R with
 | ok q => exact absurd rfl h
 | error c => exact ⟨rfl, rfl, rfl, rfl⟩
theorem take_err (rd : Rd) : ∀ (r : Nat) (l : List Ent) (S : Shp) (seen : List Int) (c : Int), takeA rd r l (S, seen) = .error c → c ≠ 0
 | 0, l, S, seen, c, h => by rw [takeA] at h; cases h
 | r + 1, l, S, seen, c, h => by
   rw [takeA_succ] at h
   have key : ∀ (q : List Ent) (Sc : Shp) (sc : List Int), q.foldlM (takeF rd r) (Sc, sc) = (.error c : Except Int (Shp × List Int)) → c ≠ 0 := fun q => by
    induction q with
    | nil => intro Sc sc h; rw [List.foldlM_nil] at h; cases h
    | cons x q ih =>
      intro Sc sc h;rw [List.foldlM_cons] at h
      cases hn : nodeA rd x (r == 0) sc with
      | error e =>
        have f1 : takeF rd r (Sc, sc) x = .error e := by show (match nodeA rd x (r == 0) sc with | .error e => Except.error e | .ok (m, seen) => takeA rd r m (Sc, seen)) = _; rw [hn]
        rw [f1] at h
        injection h with h
        rw [← h];exact (nodeA_err hn).2
      | ok y =>
        obtain ⟨m, s2⟩ := y
        have f1 : takeF rd r (Sc, sc) x = takeA rd r m (Sc, s2) := by show (match nodeA rd x (r == 0) sc with | .error e => Except.error e | .ok (m, seen) => takeA rd r m (Sc, seen)) = _; rw [hn]
        rw [f1] at h
        cases ht : takeA rd r m (Sc, s2) with
        | error e =>
          rw [ht] at h
          injection h with h
          rw [← h];exact take_err rd r m Sc s2 e ht
        | ok z =>
          obtain ⟨S3, s3⟩ := z;rw [ht] at h;exact ih S3 s3 h
   exact key l _ _ h
theorem load_err {rd : Rd} {no : Bool} {dp : Int} {root : List Ent} {c : Int} (h : loadA rd no dp root = .error c) (h0 : c = 0) : False := by
 unfold loadA at h
 split at h
 ·cases ht : takeA rd dp.toNat root (List.replicate (dp.toNat + 1) [], []) with
  | error e =>
    rw [ht] at h
    injection h with h
    exact take_err rd _ _ _ _ _ ht (by omega)
  | ok q =>
    obtain ⟨S, s⟩ := q;rw [ht] at h;dsimp only at h
    split at h
    ·cases h
    ·injection h with h
     omega
 ·injection h with h
  omega
theorem fmoves_walk (dp : Int) (hdp : I64 dp) (root : List Ent) (hfr : fitE root) (vt : Value) (d : List Ch) (hfd : ∀ c ∈ d, I64 c.1 ∧ c.2.size ≤ maxLen) (bad : Int) (vd : Value) (lg n tt fr nd : Int) (hlg : I64 lg) (hn : I64 n) (htt : I64 tt) (hff : I64 fr) (hnd : I64 nd) (w : World)
 (hvt : EntsIn vt root w) (hvd : ChgsIn vd d w) :
 Calls Tryz.prog 5 #[.agg #[.int .i64 dp, vt], .agg #[vd, .int .i64 bad], .agg #[.int .i64 lg, .int .i64 n, .int .i64 tt, .int .i64 fr, .int .i64 nd]] w fun e w' => e = .returned (.bool true) ∧ Below w.heap.size w w' := by
 have mixed : Tryz.prog.follows .mixedOrders = true := by kernel_rfl
 obtain ⟨at', ct, rfl, -⟩ := entsIn_cells hvt;obtain ⟨ad, cd, rfl, -⟩ := hvd.open;obtain ⟨W3, hW3, hb3, kt, kd, ko⟩ := three_box w #[.int .i64 dp, .slice at' root.length ct] #[.slice ad d.length cd, .int .i64 bad] #[.int .i64 lg, .int .i64 n, .int .i64 tt, .int .i64 fr, .int .i64 nd] 35 38 56;have GR := Lib.hid (lgreat_any d (fun c hc => (hfd c hc).2) bad root _ _ W3 (hvd.kept hb3) (hvt.kept hb3));have HB3 := Lib.hid hb3;have HT := Lib.hid kt;have HD := Lib.hid kd;have HO := Lib.hid ko;have HVT := Lib.hid hvt;have HVD := Lib.hid hvd;have HW3 := Lib.hid hW3;have x0 := kt.cell 0;have x1 := kt.cell 1;have y0 := kd.cell 0;have y1 := kd.cell 1;simp only [List.getElem?_toArray, List.getElem?_cons_zero, List.getElem?_cons_succ] at x0 x1 y0 y1;clear hb3 kt kd ko hvt hvd hW3
 go_enter Tryz.func5, Tryz.ntmps5
 go_upto_region 1 with fail
 rw [HW3.out];go_wp2_with fail
 refine GR.out.mono ?_; rintro e w4 ⟨rfl, b4⟩;have HB4 := Lib.hid (bnext HB3.out b4);have HC4 := Lib.hid b4
 cases hgb : greatB d root with
 | true =>
   clear b4 hgb;go_wp2;go_ret;exact ⟨rfl, HB4.out⟩
 | false =>
   obtain ⟨hd3, hr1, hd1⟩ := great_no hgb;have BL := Lib.hid (lblocks_any d (by omega) (fun c hc => (hfd c hc).1) bad _ w4 (HVD.out.kept HB4.out));have HSZ := Lib.hid (dskF_size hd1);have y0 := (HD.out.kept1 b4).cell 0;have y1 := (HD.out.kept1 b4).cell 1;simp only [List.getElem?_toArray, List.getElem?_cons_zero, List.getElem?_cons_succ] at y0 y1;clear b4 hgb hd1 x0 x1;go_wp2_with fail
   refine BL.out.mono ?_; rintro e w5 ⟨g, rfl, hg, hdk, b5⟩;have HG := Lib.hid hdk;have HB5 := Lib.hid (bnext HB4.out b5);have HC5 := Lib.hid (bnext HC4.out b5);clear hdk b5 y0 y1 BL GR
   go_upto_region 4 with fail
   go_cut [8] (fun u1 wx => ∃ (X gt ct9 B : Nat), u1 = .pointer (some ⟨X, 0, none⟩) ∧ Hid (Blk X #[.int .i64 dp, .slice (some ⟨gt, 0, none⟩) root.length ct9] 35 wx ∧ TwinF B (.slice (some ⟨gt, 0, none⟩) root.length ct9) root wx ∧ Below w5.heap.size w5 wx))
   case first =>
    obtain ⟨wq, hwq⟩ : ∃ x, x = w5 := ⟨_, rfl⟩;subst hwq;have HK : Hid (∀ w9, Below wq.heap.size wq w9 → w9.cell? ⟨w.heap.size, 0, none⟩ = some (.int .i64 dp) ∧ w9.cell? ⟨w.heap.size, 1, none⟩ = some (.slice at' root.length ct)) := Lib.hid fun w9 hb => ⟨(HT.out.kept1 (bnext HC5.out hb)).cell 0, (HT.out.kept1 (bnext HC5.out hb)).cell 1⟩;have TW := Lib.hid fun W (b : Below wq.heap.size wq W) => twinf_any root (by omega) _ W (HVT.out.kept (bnext HB5.out b));have hq : Below wq.heap.size wq wq.drew := (Below.refl _ _).drew;refine wp_region_held_drew (S := fun w9 => w9.cell? ⟨w.heap.size, 0, none⟩ = some (.int .i64 dp) ∧ w9.cell? ⟨w.heap.size, 1, none⟩ = some (.slice at' root.length ct)) mixed (HK.out _ hq) (fun hHeld => ?_);generalize wq.drew = wd at *;refine tk 0 _ rfl (by intro w9 hSw; clear hSw; go_simp; try with_reducible rfl) hHeld ?_
    try simp only [Act.put, za, zb, zc, zd, ze, zf]
    refine tk 1 _ rfl (by intro w9 hSw; obtain ⟨e1, e2⟩ := hSw; go_simp; try with_reducible rfl) hHeld ?_
    try simp only [Act.put, za, zb, zc, zd, ze, zf]
    refine tk 2 _ rfl (by intro w9 hSw; clear hSw; go_simp; try with_reducible rfl) hHeld ?_
    try simp only [Act.put, za, zb, zc, zd, ze, zf]
    refine tk 3 _ rfl (by intro w9 hSw; obtain ⟨e1, e2⟩ := hSw; go_simp; try with_reducible rfl) hHeld ?_
    try simp only [Act.put, za, zb, zc, zd, ze, zf]
    refine wpAnyH_ready (rs := [4, 6]) (by kernel_rfl) (by simp) ?_;refine AllReadyH.cons (o := _) rfl (fun K hK => ?_) ?_
    ·go_simp
     refine (TW.out wd (hq)).mono ?_; rintro e w5 ⟨vtw, rfl, ht5, b5⟩;dsimp only;have q5 := bnext hq b5;obtain ⟨gt, ct9, rfl, -⟩ := id ht5;have HTW := Lib.hid ht5;clear ht5;clear hHeld;refine hK.out _ _ (HK.out _ (q5)) (fun hHeld => ?_);clear hK K
     try simp only [Act.put, za, zb, zc, zd, ze, zf]
     refine tk 5 _ rfl (by intro w9 hSw; clear hSw; go_simp; try with_reducible rfl) hHeld ?_
     try simp only [Act.put, za, zb, zc, zd, ze, zf]
     refine wpAnyH_ready (rs := [6]) (by kernel_rfl) (by simp) ?_;refine AllReadyH.cons (o := _) rfl (fun K hK => ?_) ?_
     ·obtain ⟨w7, hw7⟩ : ∃ w9, w5.alloc (.cells #[.int .i64 0, .slice none 0 0] 35) = w9 := ⟨_, rfl⟩
      have b7 : Below w5.heap.size w5 w7 := by rw [← hw7]; exact balloc1 _ _
      have q7 := bnext q5 b7
      have hz7 : w7.heap.size = w5.heap.size + 1 := by rw [← hw7]; exact size_alloc _ _
      have hB7 : Blk w5.heap.size #[.int .i64 0, .slice none 0 0] 35 w7 := by rw [← hw7]; exact Blk.new _ _ _
      have HTW := Lib.hid (HTW.out.kept1 b7);have HX := Lib.hid hB7;have HZ7 := Lib.hid hz7;have HW7 := Lib.hid hw7;clear hB7 hz7 hw7;go_simp
      try rw [HW7.out]
      clear hHeld;refine hK.out _ _ (HK.out _ (q7)) (fun hHeld => ?_);clear hK K
      try simp only [Act.put, za, zb, zc, zd, ze, zf]
      refine wpAnyH_ready (rs := [7]) (by kernel_rfl) (by simp) ?_;refine AllReadyH.cons (o := _) rfl (fun K hK => ?_) ?_
      ·obtain ⟨w8, hw8⟩ : ∃ w9, w7.setRow w5.heap.size #[.int .i64 dp, .slice (some ⟨gt, 0, none⟩) root.length ct9] = w9 := ⟨_, rfl⟩
       have hB8 : Blk w5.heap.size #[.int .i64 dp, .slice (some ⟨gt, 0, none⟩) root.length ct9] 35 w8 := by rw [← hw8]; exact setRow_blk HX.out _
       have g8 : World.grownBy w7 w8 (some w5.heap.size) := by rw [← hw8]; exact ⟨rfl, rfl, rfl, by simp, fun k hk hne => setRow_other _ _ k _ (fun e => hne (by rw [e]))⟩
       have b8 : Below wq.heap.size w7 w8 := by rw [← hw8]; exact setRow_below q5.size _
       have q8 := (q7).trans b8;have HTW := Lib.hid (HTW.out.grown g8 ⟨_, _, HX.out⟩ (by decide));have HW8 := Lib.hid hw8;clear hw8 g8 b8;rw [if_pos (by kernel_rfl)];refine wp_store_row 35 _ _ rfl w5.heap.size #[.int .i64 dp, .slice (some ⟨gt, 0, none⟩) root.length ct9] rfl rfl _ _ HX.out tree_sz rfl (by simp [Value.oneCell']) ?_;rw [HW8.out];have HX := Lib.hid hB8;clear hB8;clear hHeld;refine hK.out _ _ (HK.out _ (q8)) (fun hHeld => ?_);clear hK K
       try simp only [Act.put, za, zb, zc, zd, ze, zf]
       refine ⟨by kernel_rfl, ?_⟩;clear hHeld;have HQ := Lib.hid (q8);go_wp2;go_meet
       case rel => exact ⟨w5.heap.size, _, _, _, rfl, Lib.hid ⟨HX.out, HTW.out, HQ.out⟩⟩
      exact AllReadyH.nil
     exact AllReadyH.nil
    refine AllReadyH.cons (o := _) rfl (fun K hK => ?_) ?_
    ·obtain ⟨w9, hw9⟩ : ∃ w9, wd.alloc (.cells #[.int .i64 0, .slice none 0 0] 35) = w9 := ⟨_, rfl⟩
     have b9 : Below wd.heap.size wd w9 := by rw [← hw9]; exact balloc1 _ _
     have q9 := bnext hq b9
     have hz9 : w9.heap.size = wd.heap.size + 1 := by rw [← hw9]; exact size_alloc _ _
     have hB9 : Blk wd.heap.size #[.int .i64 0, .slice none 0 0] 35 w9 := by rw [← hw9]; exact Blk.new _ _ _
     have HX := Lib.hid hB9;have HZ9 := Lib.hid hz9;have HW9 := Lib.hid hw9;clear hB9 hz9 hw9;go_simp
     try rw [HW9.out]
     clear hHeld;refine hK.out _ _ (HK.out _ (q9)) (fun hHeld => ?_);clear hK K
     try simp only [Act.put, za, zb, zc, zd, ze, zf]
     refine wpAnyH_ready (rs := [4]) (by kernel_rfl) (by simp) ?_;refine AllReadyH.cons (o := _) rfl (fun K hK => ?_) ?_
     ·go_simp
      refine (TW.out w9 (q9)).mono ?_; rintro e w10 ⟨vtw, rfl, ht10, b10⟩;dsimp only;have q10 := bnext q9 b10;have HX := Lib.hid (HX.out.kept1 b10);obtain ⟨gt, ct9, rfl, -⟩ := id ht10;have HTW := Lib.hid ht10;clear ht10;clear hHeld;refine hK.out _ _ (HK.out _ (q10)) (fun hHeld => ?_);clear hK K
      try simp only [Act.put, za, zb, zc, zd, ze, zf]
      refine tk 5 _ rfl (by intro w9 hSw; clear hSw; go_simp; try with_reducible rfl) hHeld ?_
      try simp only [Act.put, za, zb, zc, zd, ze, zf]
      refine wpAnyH_ready (rs := [7]) (by kernel_rfl) (by simp) ?_;refine AllReadyH.cons (o := _) rfl (fun K hK => ?_) ?_
      ·obtain ⟨w12, hw12⟩ : ∃ w9, w10.setRow wd.heap.size #[.int .i64 dp, .slice (some ⟨gt, 0, none⟩) root.length ct9] = w9 := ⟨_, rfl⟩
       have hB12 : Blk wd.heap.size #[.int .i64 dp, .slice (some ⟨gt, 0, none⟩) root.length ct9] 35 w12 := by rw [← hw12]; exact setRow_blk HX.out _
       have g12 : World.grownBy w10 w12 (some wd.heap.size) := by rw [← hw12]; exact ⟨rfl, rfl, rfl, by simp, fun k hk hne => setRow_other _ _ k _ (fun e => hne (by rw [e]))⟩
       have b12 : Below wq.heap.size w10 w12 := by rw [← hw12]; exact setRow_below hq.size _
       have q12 := (q10).trans b12;have HTW := Lib.hid (HTW.out.grown g12 ⟨_, _, HX.out⟩ (by decide));have HW12 := Lib.hid hw12;clear hw12 g12 b12;rw [if_pos (by kernel_rfl)];refine wp_store_row 35 _ _ rfl wd.heap.size #[.int .i64 dp, .slice (some ⟨gt, 0, none⟩) root.length ct9] rfl rfl _ _ HX.out tree_sz rfl (by simp [Value.oneCell']) ?_;rw [HW12.out];have HX := Lib.hid hB12;clear hB12;clear hHeld;refine hK.out _ _ (HK.out _ (q12)) (fun hHeld => ?_);clear hK K
       try simp only [Act.put, za, zb, zc, zd, ze, zf]
       refine ⟨by kernel_rfl, ?_⟩;clear hHeld;have HQ := Lib.hid (q12);go_wp2;go_meet
       case rel => exact ⟨wd.heap.size, _, _, _, rfl, Lib.hid ⟨HX.out, HTW.out, HQ.out⟩⟩
      exact AllReadyH.nil
     exact AllReadyH.nil
    exact AllReadyH.nil
   case rest =>
    obtain ⟨X, gt, ct9, B0, rfl, HX⟩ := hcut;obtain ⟨w6, hw6⟩ : ∃ x, x = wc := ⟨_, rfl⟩;subst hw6;obtain ⟨hX1, hX2, hX3⟩ := HX.out;have HXB := Lib.hid hX1;have HTW := Lib.hid hX2;have HB6 := Lib.hid (bnext HB5.out hX3);have HC6 := Lib.hid (bnext HC5.out hX3);have HG6 := Lib.hid (HG.out.kept1 hX3);clear hX1 hX2 hX3 HX;obtain ⟨AA, hAA⟩ : ∃ A, loadA (rdOf (dskF d) bad) false dp root = A := ⟨_, rfl⟩;obtain ⟨R1, hR1⟩ : ∃ A, moveA (rdOf (dskF d) bad) dp root lg n tt = A := ⟨_, rfl⟩;obtain ⟨R2, hR2⟩ : ∃ A, leadA (rdOf (dskF d) bad) dp root fr nd = A := ⟨_, rfl⟩;have RDG := Lib.hid fun W (b : Below w6.heap.size w6 W) => lreading_any (dskF d) bad g W (HG6.out.kept1 b)
    have MOV : Hid (∀ p q W, Below w6.heap.size w6 W → RdrAt p q g (dskF d) bad W → Calls Tryz.prog 24 #[.agg #[.int .i64 dp, .slice (some ⟨gt, 0, none⟩) root.length ct9], .func (.func 49) #[] (rdrC p q), .int .i64 lg, .int .i64 n, .int .i64 tt] W (SetSay R1 W)) := Lib.hid fun p q W b hr => by
     have := fkmove_any _ _ _ W (hr.reads HSZ.out) dp hdp root hfr _ (twinF_in (twinF_kept HTW.out b)) lg n tt hlg hn htt;rw [hR1] at this;exact this.mono fun e w' h => h.say
    have LEA : Hid (∀ p q W, Below w6.heap.size w6 W → RdrAt p q g (dskF d) bad W → Calls Tryz.prog 25 #[.agg #[.int .i64 dp, .slice (some ⟨gt, 0, none⟩) root.length ct9], .func (.func 49) #[] (rdrC p q), .int .i64 fr, .int .i64 nd] W (SetSay R2 W)) := Lib.hid fun p q W b hr => by
     have := fklead_any _ _ _ W (hr.reads HSZ.out) dp hdp root hfr _ (twinF_in (twinF_kept HTW.out b)) fr nd hff hnd;rw [hR2] at this;exact this.mono fun e w' h => h.say
    have DOC : Hid (∀ W, Below w6.heap.size w6 W → Calls Tryz.prog 21 #[.int .i64 dp, .slice at' root.length ct, .agg #[.slice (some ⟨g, 0, none⟩) 4096 4096, .int .i64 bad]] W (WkSay AA W)) := Lib.hid fun W b => by
     have := rfdoc_load (cb := 4096) (dskF d) HSZ.out bad g dp hdp root hfr _ W (HVT.out.kept (bnext HB6.out b)) (HG6.out.kept1 b);rw [hAA] at this;exact this.mono fun e w' h => h.say
    have HLOAD := Lib.hid hAA;have HR1 := Lib.hid hR1;have HR2 := Lib.hid hR2;unfold WkSay at DOC;unfold SetSay at MOV LEA;clear hAA hR1 hR2;obtain ⟨D1, hD1⟩ : ∃ x, dpR R1 = x := ⟨_, rfl⟩;obtain ⟨E1, hE1⟩ : ∃ x, ecR R1 = x := ⟨_, rfl⟩;obtain ⟨T1, hT1⟩ : ∃ x, rtR R1 = x := ⟨_, rfl⟩;obtain ⟨C1, hC1⟩ : ∃ x, chR R1 = x := ⟨_, rfl⟩;obtain ⟨F1, hF1⟩ : ∃ x, frR R1 = x := ⟨_, rfl⟩;obtain ⟨D2, hD2⟩ : ∃ x, dpR R2 = x := ⟨_, rfl⟩;obtain ⟨E2, hE2⟩ : ∃ x, ecR R2 = x := ⟨_, rfl⟩;obtain ⟨T2, hT2⟩ : ∃ x, rtR R2 = x := ⟨_, rfl⟩;obtain ⟨C2, hC2⟩ : ∃ x, chR R2 = x := ⟨_, rfl⟩;obtain ⟨F2, hF2⟩ : ∃ x, frR R2 = x := ⟨_, rfl⟩;obtain ⟨EC, hEC⟩ : ∃ E, ecA AA = E := ⟨_, rfl⟩;obtain ⟨LS, hLS⟩ : ∃ E, lsA AA = E := ⟨_, rfl⟩;obtain ⟨NS, hNS⟩ : ∃ E, nsA AA = E := ⟨_, rfl⟩;rw [hD1, hE1, hT1, hC1, hF1] at MOV;rw [hD2, hE2, hT2, hC2, hF2] at LEA;rw [hEC, hLS, hNS] at DOC;have HZ1 : Hid (E1 ≠ 0 → C1.length = 0 ∧ F1.length = 0 ∧ T1.length = 0 ∧ D1 = 0) := Lib.hid (by rw [← hE1, ← hC1, ← hF1, ← hT1, ← hD1]; exact set_zero);have HZ2 : Hid (E2 ≠ 0 → C2.length = 0 ∧ F2.length = 0 ∧ T2.length = 0 ∧ D2 = 0) := Lib.hid (by rw [← hE2, ← hC2, ← hF2, ← hT2, ← hD2]; exact set_zero)
    have HERR : Hid (EC ≠ 0 → E1 = EC ∧ E2 = EC) := Lib.hid fun h => by
     cases hA : AA with
     | ok S => rw [← hEC, hA] at h; exact absurd rfl h
     | error c =>
       have e1 : R1 = .error c := by rw [← HR1.out]; unfold moveA; rw [HLOAD.out, hA]
       have e2 : R2 = .error c := by rw [← HR2.out]; unfold leadA; rw [HLOAD.out, hA]
       rw [← hE1, ← hE2, ← hEC, e1, e2, hA];exact ⟨rfl, rfl⟩
    have HMVD : Hid (EC = 0 → ∀ (W : World) (a b : Option Addr) (c e : Nat) (vr vc vf : Value), DskAt g (dskF d) W → IntsR (.slice a NS.length c) NS W → EntsIn (.slice b LS.length e) LS W → EntsIn (.slice at' root.length ct) root W → EntsIn vr T1 W → ChgsIn vc C1 W → IntsR vf F1 W →
     Calls Tryz.prog 26 #[.slice (some ⟨g, 0, none⟩) 4096 4096, .slice b LS.length e, .slice a NS.length c, .agg #[.int .i64 dp, .slice at' root.length ct], setV D1 vr vc vf, .int .i64 E1, .agg #[.int .i64 lg, .int .i64 n, .int .i64 tt, .int .i64 fr, .int .i64 nd]] W
      fun e w' => e = .returned (.bool true) ∧ Below W.heap.size W w') := Lib.hid fun h W a b c e vr vc vf h1 h2 h3 h4 h5 h6 h7 => by
     cases hA : AA with
     | error c =>
       exfalso;have hl := HLOAD.out;rw [hA] at hl;rw [← hEC, hA] at h;exact load_err hl h
     | ok S =>
       have hl := HLOAD.out;rw [hA] at hl;obtain ⟨-, hTO, -, -⟩ := load_stands hl;have hm := moved_ok hl lg n tt;rw [HR1.out] at hm
       have hl9 : LS = listA S := by rw [← hLS, hA]; rfl
       have hn9 : NS = sortI (numsA S) := by rw [← hNS, hA]; rfl
       rw [hn9] at h2;rw [hl9] at h3;rw [hn9, hl9];rw [← hT1] at h5;rw [← hC1] at h6;rw [← hF1] at h7;rw [← hD1, ← hE1];exact lmoved_any g (dskF d) HSZ.out (sortI (numsA S)) (listA S) dp root R1 lg n tt fr nd hm htt hn (by rw [sortI_len]; exact nums_small hTO) (Nat.le_trans (row_len hTO.good.rise) (by omega)) _ _ _ vr vc vf W h1 h2 h3 h4 h5 h6 h7
    have HLED : Hid (EC = 0 → ∀ (W : World) (a b : Option Addr) (c e : Nat) (vr vc vf : Value), DskAt g (dskF d) W → IntsR (.slice a NS.length c) NS W → EntsIn (.slice b LS.length e) LS W → EntsIn (.slice at' root.length ct) root W → EntsIn vr T2 W → ChgsIn vc C2 W → IntsR vf F2 W →
     Calls Tryz.prog 27 #[.slice (some ⟨g, 0, none⟩) 4096 4096, .slice b LS.length e, .slice a NS.length c, .agg #[.int .i64 dp, .slice at' root.length ct], setV D2 vr vc vf, .int .i64 E2, .agg #[.int .i64 lg, .int .i64 n, .int .i64 tt, .int .i64 fr, .int .i64 nd]] W
      fun e w' => e = .returned (.bool true) ∧ Below W.heap.size W w') := Lib.hid fun h W a b c e vr vc vf h1 h2 h3 h4 h5 h6 h7 => by
     cases hA : AA with
     | error c =>
       exfalso;have hl := HLOAD.out;rw [hA] at hl;rw [← hEC, hA] at h;exact load_err hl h
     | ok S =>
       have hl := HLOAD.out;rw [hA] at hl;obtain ⟨-, hTO, -, -⟩ := load_stands hl;have hm := led_ok hl fr nd;rw [HR2.out] at hm
       have hl9 : LS = listA S := by rw [← hLS, hA]; rfl
       have hn9 : NS = sortI (numsA S) := by rw [← hNS, hA]; rfl
       rw [hn9] at h2;rw [hl9] at h3;rw [hn9, hl9];rw [← hT2] at h5;rw [← hC2] at h6;rw [← hF2] at h7;rw [← hD2, ← hE2];exact lled_any g (dskF d) HSZ.out (sortI (numsA S)) (listA S) hTO.good.rise dp root R2 lg n tt fr nd hm hnd (by rw [sortI_len]; exact nums_small hTO) _ _ _ vr vc vf W h1 h2 h3 h4 h5 h6 h7
    clear hD1 hE1 hT1 hC1 hF1 hD2 hE2 hT2 hC2 hF2 hEC hLS hNS HLOAD HR1 HR2 AA R1 R2
    have HK5 : Hid (∀ w9, Below w6.heap.size w6 w9 → w9.cell? ⟨X, 0, none⟩ = some (.int .i64 dp) ∧ w9.cell? ⟨X, 1, none⟩ = some (.slice (some ⟨gt, 0, none⟩) root.length ct9) ∧ w9.cell? ⟨w.heap.size + 1, 1, none⟩ = some (.int .i64 bad) ∧ w9.cell? ⟨w.heap.size, 0, none⟩ = some (.int .i64 dp) ∧ w9.cell? ⟨w.heap.size, 1, none⟩ = some (.slice at' root.length ct) ∧
     w9.cell? ⟨w.heap.size + 1 + 1, 0, none⟩ = some (.int .i64 lg) ∧ w9.cell? ⟨w.heap.size + 1 + 1, 1, none⟩ = some (.int .i64 n) ∧ w9.cell? ⟨w.heap.size + 1 + 1, 2, none⟩ = some (.int .i64 tt) ∧ w9.cell? ⟨w.heap.size + 1 + 1, 3, none⟩ = some (.int .i64 fr) ∧ w9.cell? ⟨w.heap.size + 1 + 1, 4, none⟩ = some (.int .i64 nd)) := Lib.hid fun w9 hb =>
     ⟨(HXB.out.kept1 hb).cell 0, (HXB.out.kept1 hb).cell 1, (HD.out.kept1 (bnext HC6.out hb)).cell 1, (HT.out.kept1 (bnext HC6.out hb)).cell 0, (HT.out.kept1 (bnext HC6.out hb)).cell 1, (HO.out.kept1 (bnext HC6.out hb)).cell 0, (HO.out.kept1 (bnext HC6.out hb)).cell 1, (HO.out.kept1 (bnext HC6.out hb)).cell 2, (HO.out.kept1 (bnext HC6.out hb)).cell 3, (HO.out.kept1 (bnext HC6.out hb)).cell 4⟩
    have LF := Lib.hid fun W (b : Below w6.heap.size w6 W) => leftf_any root (by omega) _ _ _ W (twinF_kept HTW.out b) (HVT.out.kept (bnext HB6.out b));have AL := Lib.hid fun W => lalive_any W
    go_upto_region 5 with fail
    go_cut [9, 10] (fun u1 u2 wx => ∃ (X : Nat) (vr vc vf : Value), u1 = .pointer (some ⟨X, 0, none⟩) ∧ u2 = .int .i64 E1 ∧ Hid (Blk X #[.int .i64 D1, vr, vc, vf] 58 wx ∧ EntsAt w6.heap.size vr T1 wx ∧ ChgsOwn w6.heap.size vc C1 wx ∧ IntsFk w6.heap.size vf F1 wx ∧ Below w6.heap.size w6 wx))
    case first =>
     obtain ⟨wq, hwq⟩ : ∃ x, x = w6 := ⟨_, rfl⟩;subst hwq;have hq : Below wq.heap.size wq wq.drew := (Below.refl _ _).drew;have HWD : Hid (wq.heap.size ≤ wq.drew.heap.size) := Lib.hid (Nat.le_refl _);refine wp_region_held_drew (S := fun w9 => w9.cell? ⟨X, 0, none⟩ = some (.int .i64 dp) ∧ w9.cell? ⟨X, 1, none⟩ = some (.slice (some ⟨gt, 0, none⟩) root.length ct9) ∧ w9.cell? ⟨w.heap.size + 1, 1, none⟩ = some (.int .i64 bad) ∧ w9.cell? ⟨w.heap.size, 0, none⟩ = some (.int .i64 dp) ∧ w9.cell? ⟨w.heap.size, 1, none⟩ = some (.slice at' root.length ct) ∧ w9.cell? ⟨w.heap.size + 1 + 1, 0, none⟩ = some (.int .i64 lg) ∧ w9.cell? ⟨w.heap.size + 1 + 1, 1, none⟩ = some (.int .i64 n) ∧ w9.cell? ⟨w.heap.size + 1 + 1, 2, none⟩ = some (.int .i64 tt) ∧ w9.cell? ⟨w.heap.size + 1 + 1, 3, none⟩ = some (.int .i64 fr) ∧ w9.cell? ⟨w.heap.size + 1 + 1, 4, none⟩ = some (.int .i64 nd)) mixed (HK5.out _ (hq)) (fun hHeld => ?_);generalize wq.drew = wd at *;refine tk 0 _ rfl (by intro w9 hSw; obtain ⟨e1, e2, e3, e4, e5, e6, e7, e8, e9, e10⟩ := hSw; go_simp; try with_reducible rfl) hHeld ?_
     try simp only [Act.put, za, zb, zc, zd, ze, zf]
     refine tk 1 _ rfl (by intro w9 hSw; clear hSw; go_simp; try with_reducible rfl) hHeld ?_
     try simp only [Act.put, za, zb, zc, zd, ze, zf]
     refine tk 2 _ rfl (by intro w9 hSw; clear hSw; go_simp; try with_reducible rfl) hHeld ?_
     try simp only [Act.put, za, zb, zc, zd, ze, zf]
     refine tk 3 _ rfl (by intro w9 hSw; obtain ⟨e1, e2, e3, e4, e5, e6, e7, e8, e9, e10⟩ := hSw; go_simp; try with_reducible rfl) hHeld ?_
     try simp only [Act.put, za, zb, zc, zd, ze, zf]
     refine tk 5 _ rfl (by intro w9 hSw; clear hSw; go_simp; try with_reducible rfl) hHeld ?_
     try simp only [Act.put, za, zb, zc, zd, ze, zf]
     refine tk 6 _ rfl (by intro w9 hSw; obtain ⟨e1, e2, e3, e4, e5, e6, e7, e8, e9, e10⟩ := hSw; go_simp; try with_reducible rfl) hHeld ?_
     try simp only [Act.put, za, zb, zc, zd, ze, zf]
     refine tk 7 _ rfl (by intro w9 hSw; clear hSw; go_simp; try with_reducible rfl) hHeld ?_
     try simp only [Act.put, za, zb, zc, zd, ze, zf]
     refine tk 8 _ rfl (by intro w9 hSw; obtain ⟨e1, e2, e3, e4, e5, e6, e7, e8, e9, e10⟩ := hSw; go_simp; try with_reducible rfl) hHeld ?_
     try simp only [Act.put, za, zb, zc, zd, ze, zf]
     refine tk 9 _ rfl (by intro w9 hSw; clear hSw; go_simp; try with_reducible rfl) hHeld ?_
     try simp only [Act.put, za, zb, zc, zd, ze, zf]
     refine tk 10 _ rfl (by intro w9 hSw; obtain ⟨e1, e2, e3, e4, e5, e6, e7, e8, e9, e10⟩ := hSw; go_simp; try with_reducible rfl) hHeld ?_
     try simp only [Act.put, za, zb, zc, zd, ze, zf]
     refine wpAnyH_ready (rs := [4, 15]) (by kernel_rfl) (by simp) ?_;refine AllReadyH.cons (o := _) rfl (fun K hK => ?_) ?_
     ·go_simp
      refine (RDG.out wd (hq)).mono ?_; rintro e w23 ⟨rfl, hr23, b23⟩;dsimp only;have q23 := bnext hq b23;have HRR := Lib.hid hr23;clear hr23;have HWD := Lib.hid (Nat.le_trans HWD.out b23.size);clear hHeld;refine hK.out _ _ (HK5.out _ (q23)) (fun hHeld => ?_);clear hK K
      try simp only [Act.put, za, zb, zc, zd, ze, zf]
      refine wpAnyH_ready (rs := [11, 15]) (by kernel_rfl) (by simp) ?_;refine AllReadyH.cons (o := _) rfl (fun K hK => ?_) ?_
      ·go_simp
       refine (MOV.out _ _ w23 (q23) HRR.out).mono ?_; rintro e w24 ⟨vr9, vc9, vf9, rfl, hvr24, hvc24, hvf24, b24⟩;dsimp only;have q24 := bnext q23 b24;have HRR := Lib.hid (HRR.out.kept1 b24);have HVR := Lib.hid (row_down HWD.out hvr24);have HVC := Lib.hid (row_down HWD.out hvc24);have HVF := Lib.hid (row_down HWD.out hvf24);obtain ⟨ra9, rc9, rfl, -⟩ := shape_of hvr24;obtain ⟨ca9, cc9, rfl, -⟩ := shape_of hvc24;obtain ⟨fa9, fc9, rfl, -⟩ := shape_of hvf24;clear hvr24 hvc24 hvf24;have HWD := Lib.hid (Nat.le_trans HWD.out b24.size);clear hHeld;refine hK.out _ _ (HK5.out _ (q24)) (fun hHeld => ?_);clear hK K
       try simp only [Act.put, za, zb, zc, zd, ze, zf]
       refine tk 12 _ rfl (by intro w9 hSw; clear hSw; go_simp; try with_reducible rfl) hHeld ?_
       try simp only [Act.put, za, zb, zc, zd, ze, zf]
       refine tk 13 _ rfl (by intro w9 hSw; clear hSw; go_simp; try with_reducible rfl) hHeld ?_
       try simp only [Act.put, za, zb, zc, zd, ze, zf]
       refine tk 14 _ rfl (by intro w9 hSw; clear hSw; go_simp; try with_reducible rfl) hHeld ?_
       try simp only [Act.put, za, zb, zc, zd, ze, zf]
       refine wpAnyH_ready (rs := [15]) (by kernel_rfl) (by simp) ?_;refine AllReadyH.cons (o := _) rfl (fun K hK => ?_) ?_
       ·obtain ⟨w28, hw28⟩ : ∃ w9, w24.alloc (.cells setC 58) = w9 := ⟨_, rfl⟩
        have b28 : Below w24.heap.size w24 w28 := by rw [← hw28]; exact balloc1 _ _
        have q28 := bnext q24 b28
        have hz28 : w28.heap.size = w24.heap.size + 1 := by rw [← hw28]; exact size_alloc _ _
        have hB28 : Blk w24.heap.size setC 58 w28 := by rw [← hw28]; exact Blk.new _ _ _
        have HRR := Lib.hid (HRR.out.kept1 b28);have HVR := Lib.hid (row_kept HVR.out b28);have HVC := Lib.hid (row_kept HVC.out b28);have HVF := Lib.hid (row_kept HVF.out b28);have HX := Lib.hid hB28;have HZ28 := Lib.hid hz28;have HW28 := Lib.hid hw28;clear hB28 hz28 hw28;go_simp
        try rw [HW28.out]
        have HWD := Lib.hid (Nat.le_trans HWD.out b28.size);clear hHeld;refine hK.out _ _ (HK5.out _ (q28)) (fun hHeld => ?_);clear hK K
        try simp only [Act.put, za, zb, zc, zd, ze, zf]
        refine wpAnyH_ready (rs := [16]) (by kernel_rfl) (by simp) ?_;refine AllReadyH.cons (o := _) rfl (fun K hK => ?_) ?_
        ·obtain ⟨w29, hw29⟩ : ∃ w9, w28.setRow w24.heap.size #[.int .i64 D1, .slice ra9 T1.length rc9, .slice ca9 C1.length cc9, .slice fa9 F1.length fc9] = w9 := ⟨_, rfl⟩
         have hB29 : Blk w24.heap.size #[.int .i64 D1, .slice ra9 T1.length rc9, .slice ca9 C1.length cc9, .slice fa9 F1.length fc9] 58 w29 := by rw [← hw29]; exact setRow_blk HX.out _
         have g29 : World.grownBy w28 w29 (some w24.heap.size) := by rw [← hw29]; exact ⟨rfl, rfl, rfl, by simp, fun k hk hne => setRow_other _ _ k _ (fun e => hne (by rw [e]))⟩
         have b29 : Below wq.heap.size w28 w29 := by rw [← hw29]; exact setRow_below q24.size _
         have q29 := (q28).trans b29;have HVR := Lib.hid (row_grown HVR.out g29 fun q hq e => by cases e; exact absurd (ty_one (own_ty HVR.out hq).1 ⟨_, _, HX.out⟩) (by decide));have HVC := Lib.hid (row_grown HVC.out g29 fun q hq e => by cases e; exact absurd (ty_one (own_ty HVC.out hq).1 ⟨_, _, HX.out⟩) (by decide));have HVF := Lib.hid (row_grown HVF.out g29 fun q hq e => by cases e; exact absurd (ty_one (own_ty HVF.out hq).1 ⟨_, _, HX.out⟩) (by decide));have HW29 := Lib.hid hw29;clear hw29 g29 b29;rw [if_pos (by kernel_rfl)];refine wp_store_row 58 _ _ rfl w24.heap.size #[.int .i64 D1, .slice ra9 T1.length rc9, .slice ca9 C1.length cc9, .slice fa9 F1.length fc9] rfl rfl _ _ HX.out set_sz rfl (by simp [Value.oneCell']) ?_;rw [HW29.out];have HX := Lib.hid hB29;clear hB29;clear hHeld;refine hK.out _ _ (HK5.out _ (q29)) (fun hHeld => ?_);clear hK K
         try simp only [Act.put, za, zb, zc, zd, ze, zf]
         refine tk 17 _ rfl (by intro w9 hSw; clear hSw; go_simp; try with_reducible rfl) hHeld ?_
         try simp only [Act.put, za, zb, zc, zd, ze, zf]
         refine ⟨by kernel_rfl, ?_⟩;clear hHeld;have HQ := Lib.hid (q29);go_wp2;go_meet
         case rel => exact ⟨w24.heap.size, _, _, _, rfl, rfl, Lib.hid ⟨HX.out, HVR.out, HVC.out, HVF.out, HQ.out⟩⟩
        exact AllReadyH.nil
       exact AllReadyH.nil
      refine AllReadyH.cons (o := _) rfl (fun K hK => ?_) ?_
      ·obtain ⟨w31, hw31⟩ : ∃ w9, w23.alloc (.cells setC 58) = w9 := ⟨_, rfl⟩
       have b31 : Below w23.heap.size w23 w31 := by rw [← hw31]; exact balloc1 _ _
       have q31 := bnext q23 b31
       have hz31 : w31.heap.size = w23.heap.size + 1 := by rw [← hw31]; exact size_alloc _ _
       have hB31 : Blk w23.heap.size setC 58 w31 := by rw [← hw31]; exact Blk.new _ _ _
       have HRR := Lib.hid (HRR.out.kept1 b31);have HX := Lib.hid hB31;have HZ31 := Lib.hid hz31;have HW31 := Lib.hid hw31;clear hB31 hz31 hw31;go_simp
       try rw [HW31.out]
       have HWD := Lib.hid (Nat.le_trans HWD.out b31.size);clear hHeld;refine hK.out _ _ (HK5.out _ (q31)) (fun hHeld => ?_);clear hK K
       try simp only [Act.put, za, zb, zc, zd, ze, zf]
       refine wpAnyH_ready (rs := [11]) (by kernel_rfl) (by simp) ?_;refine AllReadyH.cons (o := _) rfl (fun K hK => ?_) ?_
       ·go_simp
        refine (MOV.out _ _ w31 (q31) HRR.out).mono ?_; rintro e w32 ⟨vr9, vc9, vf9, rfl, hvr32, hvc32, hvf32, b32⟩;dsimp only;have q32 := bnext q31 b32;have HRR := Lib.hid (HRR.out.kept1 b32);have HX := Lib.hid (HX.out.kept1 b32);have HVR := Lib.hid (row_down HWD.out hvr32);have HVC := Lib.hid (row_down HWD.out hvc32);have HVF := Lib.hid (row_down HWD.out hvf32);obtain ⟨ra9, rc9, rfl, -⟩ := shape_of hvr32;obtain ⟨ca9, cc9, rfl, -⟩ := shape_of hvc32;obtain ⟨fa9, fc9, rfl, -⟩ := shape_of hvf32;clear hvr32 hvc32 hvf32;have HWD := Lib.hid (Nat.le_trans HWD.out b32.size);clear hHeld;refine hK.out _ _ (HK5.out _ (q32)) (fun hHeld => ?_);clear hK K
        try simp only [Act.put, za, zb, zc, zd, ze, zf]
        refine tk 12 _ rfl (by intro w9 hSw; clear hSw; go_simp; try with_reducible rfl) hHeld ?_
        try simp only [Act.put, za, zb, zc, zd, ze, zf]
        refine tk 13 _ rfl (by intro w9 hSw; clear hSw; go_simp; try with_reducible rfl) hHeld ?_
        try simp only [Act.put, za, zb, zc, zd, ze, zf]
        refine tk 14 _ rfl (by intro w9 hSw; clear hSw; go_simp; try with_reducible rfl) hHeld ?_
        try simp only [Act.put, za, zb, zc, zd, ze, zf]
        refine wpAnyH_ready (rs := [16]) (by kernel_rfl) (by simp) ?_;refine AllReadyH.cons (o := _) rfl (fun K hK => ?_) ?_
        ·obtain ⟨w36, hw36⟩ : ∃ w9, w32.setRow w23.heap.size #[.int .i64 D1, .slice ra9 T1.length rc9, .slice ca9 C1.length cc9, .slice fa9 F1.length fc9] = w9 := ⟨_, rfl⟩
         have hB36 : Blk w23.heap.size #[.int .i64 D1, .slice ra9 T1.length rc9, .slice ca9 C1.length cc9, .slice fa9 F1.length fc9] 58 w36 := by rw [← hw36]; exact setRow_blk HX.out _
         have g36 : World.grownBy w32 w36 (some w23.heap.size) := by rw [← hw36]; exact ⟨rfl, rfl, rfl, by simp, fun k hk hne => setRow_other _ _ k _ (fun e => hne (by rw [e]))⟩
         have b36 : Below wq.heap.size w32 w36 := by rw [← hw36]; exact setRow_below q23.size _
         have q36 := (q32).trans b36;have HVR := Lib.hid (row_grown HVR.out g36 fun q hq e => by cases e; exact absurd (ty_one (own_ty HVR.out hq).1 ⟨_, _, HX.out⟩) (by decide));have HVC := Lib.hid (row_grown HVC.out g36 fun q hq e => by cases e; exact absurd (ty_one (own_ty HVC.out hq).1 ⟨_, _, HX.out⟩) (by decide));have HVF := Lib.hid (row_grown HVF.out g36 fun q hq e => by cases e; exact absurd (ty_one (own_ty HVF.out hq).1 ⟨_, _, HX.out⟩) (by decide));have HW36 := Lib.hid hw36;clear hw36 g36 b36;rw [if_pos (by kernel_rfl)];refine wp_store_row 58 _ _ rfl w23.heap.size #[.int .i64 D1, .slice ra9 T1.length rc9, .slice ca9 C1.length cc9, .slice fa9 F1.length fc9] rfl rfl _ _ HX.out set_sz rfl (by simp [Value.oneCell']) ?_;rw [HW36.out];have HX := Lib.hid hB36;clear hB36;clear hHeld;refine hK.out _ _ (HK5.out _ (q36)) (fun hHeld => ?_);clear hK K
         try simp only [Act.put, za, zb, zc, zd, ze, zf]
         refine tk 17 _ rfl (by intro w9 hSw; clear hSw; go_simp; try with_reducible rfl) hHeld ?_
         try simp only [Act.put, za, zb, zc, zd, ze, zf]
         refine ⟨by kernel_rfl, ?_⟩;clear hHeld;have HQ := Lib.hid (q36);go_wp2;go_meet
         case rel => exact ⟨w23.heap.size, _, _, _, rfl, rfl, Lib.hid ⟨HX.out, HVR.out, HVC.out, HVF.out, HQ.out⟩⟩
        exact AllReadyH.nil
       exact AllReadyH.nil
      exact AllReadyH.nil
     refine AllReadyH.cons (o := _) rfl (fun K hK => ?_) ?_
     ·obtain ⟨w38, hw38⟩ : ∃ w9, wd.alloc (.cells setC 58) = w9 := ⟨_, rfl⟩
      have b38 : Below wd.heap.size wd w38 := by rw [← hw38]; exact balloc1 _ _
      have q38 := bnext hq b38
      have hz38 : w38.heap.size = wd.heap.size + 1 := by rw [← hw38]; exact size_alloc _ _
      have hB38 : Blk wd.heap.size setC 58 w38 := by rw [← hw38]; exact Blk.new _ _ _
      have HX := Lib.hid hB38;have HZ38 := Lib.hid hz38;have HW38 := Lib.hid hw38;clear hB38 hz38 hw38;go_simp
      try rw [HW38.out]
      have HWD := Lib.hid (Nat.le_trans HWD.out b38.size);clear hHeld;refine hK.out _ _ (HK5.out _ (q38)) (fun hHeld => ?_);clear hK K
      try simp only [Act.put, za, zb, zc, zd, ze, zf]
      refine wpAnyH_ready (rs := [4]) (by kernel_rfl) (by simp) ?_;refine AllReadyH.cons (o := _) rfl (fun K hK => ?_) ?_
      ·go_simp
       refine (RDG.out w38 (q38)).mono ?_; rintro e w39 ⟨rfl, hr39, b39⟩;dsimp only;have q39 := bnext q38 b39;have HX := Lib.hid (HX.out.kept1 b39);have HRR := Lib.hid hr39;clear hr39;have HWD := Lib.hid (Nat.le_trans HWD.out b39.size);clear hHeld;refine hK.out _ _ (HK5.out _ (q39)) (fun hHeld => ?_);clear hK K
       try simp only [Act.put, za, zb, zc, zd, ze, zf]
       refine wpAnyH_ready (rs := [11]) (by kernel_rfl) (by simp) ?_;refine AllReadyH.cons (o := _) rfl (fun K hK => ?_) ?_
       ·go_simp
        refine (MOV.out _ _ w39 (q39) HRR.out).mono ?_; rintro e w40 ⟨vr9, vc9, vf9, rfl, hvr40, hvc40, hvf40, b40⟩;dsimp only;have q40 := bnext q39 b40;have HX := Lib.hid (HX.out.kept1 b40);have HRR := Lib.hid (HRR.out.kept1 b40);have HVR := Lib.hid (row_down HWD.out hvr40);have HVC := Lib.hid (row_down HWD.out hvc40);have HVF := Lib.hid (row_down HWD.out hvf40);obtain ⟨ra9, rc9, rfl, -⟩ := shape_of hvr40;obtain ⟨ca9, cc9, rfl, -⟩ := shape_of hvc40;obtain ⟨fa9, fc9, rfl, -⟩ := shape_of hvf40;clear hvr40 hvc40 hvf40;have HWD := Lib.hid (Nat.le_trans HWD.out b40.size);clear hHeld;refine hK.out _ _ (HK5.out _ (q40)) (fun hHeld => ?_);clear hK K
        try simp only [Act.put, za, zb, zc, zd, ze, zf]
        refine tk 12 _ rfl (by intro w9 hSw; clear hSw; go_simp; try with_reducible rfl) hHeld ?_
        try simp only [Act.put, za, zb, zc, zd, ze, zf]
        refine tk 13 _ rfl (by intro w9 hSw; clear hSw; go_simp; try with_reducible rfl) hHeld ?_
        try simp only [Act.put, za, zb, zc, zd, ze, zf]
        refine tk 14 _ rfl (by intro w9 hSw; clear hSw; go_simp; try with_reducible rfl) hHeld ?_
        try simp only [Act.put, za, zb, zc, zd, ze, zf]
        refine wpAnyH_ready (rs := [16]) (by kernel_rfl) (by simp) ?_;refine AllReadyH.cons (o := _) rfl (fun K hK => ?_) ?_
        ·obtain ⟨w44, hw44⟩ : ∃ w9, w40.setRow wd.heap.size #[.int .i64 D1, .slice ra9 T1.length rc9, .slice ca9 C1.length cc9, .slice fa9 F1.length fc9] = w9 := ⟨_, rfl⟩
         have hB44 : Blk wd.heap.size #[.int .i64 D1, .slice ra9 T1.length rc9, .slice ca9 C1.length cc9, .slice fa9 F1.length fc9] 58 w44 := by rw [← hw44]; exact setRow_blk HX.out _
         have g44 : World.grownBy w40 w44 (some wd.heap.size) := by rw [← hw44]; exact ⟨rfl, rfl, rfl, by simp, fun k hk hne => setRow_other _ _ k _ (fun e => hne (by rw [e]))⟩
         have b44 : Below wq.heap.size w40 w44 := by rw [← hw44]; exact setRow_below hq.size _
         have q44 := (q40).trans b44;have HVR := Lib.hid (row_grown HVR.out g44 fun q hq e => by cases e; exact absurd (ty_one (own_ty HVR.out hq).1 ⟨_, _, HX.out⟩) (by decide));have HVC := Lib.hid (row_grown HVC.out g44 fun q hq e => by cases e; exact absurd (ty_one (own_ty HVC.out hq).1 ⟨_, _, HX.out⟩) (by decide));have HVF := Lib.hid (row_grown HVF.out g44 fun q hq e => by cases e; exact absurd (ty_one (own_ty HVF.out hq).1 ⟨_, _, HX.out⟩) (by decide));have HW44 := Lib.hid hw44;clear hw44 g44 b44;rw [if_pos (by kernel_rfl)];refine wp_store_row 58 _ _ rfl wd.heap.size #[.int .i64 D1, .slice ra9 T1.length rc9, .slice ca9 C1.length cc9, .slice fa9 F1.length fc9] rfl rfl _ _ HX.out set_sz rfl (by simp [Value.oneCell']) ?_;rw [HW44.out];have HX := Lib.hid hB44;clear hB44;clear hHeld;refine hK.out _ _ (HK5.out _ (q44)) (fun hHeld => ?_);clear hK K
         try simp only [Act.put, za, zb, zc, zd, ze, zf]
         refine tk 17 _ rfl (by intro w9 hSw; clear hSw; go_simp; try with_reducible rfl) hHeld ?_
         try simp only [Act.put, za, zb, zc, zd, ze, zf]
         refine ⟨by kernel_rfl, ?_⟩;clear hHeld;have HQ := Lib.hid (q44);go_wp2;go_meet
         case rel => exact ⟨wd.heap.size, _, _, _, rfl, rfl, Lib.hid ⟨HX.out, HVR.out, HVC.out, HVF.out, HQ.out⟩⟩
        exact AllReadyH.nil
       exact AllReadyH.nil
      exact AllReadyH.nil
     exact AllReadyH.nil
    case rest =>
     obtain ⟨Y1, vr1, vc1, vf1, rfl, rfl, HS1⟩ := hcut;obtain ⟨w7, hw7⟩ : ∃ x, x = wc := ⟨_, rfl⟩;subst hw7;have HQ7 := Lib.hid HS1.out.2.2.2.2
     go_upto_region 6 with fail
     go_cut [11, 12] (fun u1 u2 wx => ∃ (X : Nat) (vr vc vf : Value), u1 = .pointer (some ⟨X, 0, none⟩) ∧ u2 = .int .i64 E2 ∧ Hid (Blk X #[.int .i64 D2, vr, vc, vf] 58 wx ∧ EntsAt w7.heap.size vr T2 wx ∧ ChgsOwn w7.heap.size vc C2 wx ∧ IntsFk w7.heap.size vf F2 wx ∧ Below w7.heap.size w7 wx))
     case first =>
      obtain ⟨wq, hwq⟩ : ∃ x, x = w7 := ⟨_, rfl⟩;subst hwq;have hq : Below wq.heap.size wq wq.drew := (Below.refl _ _).drew;have HWD : Hid (wq.heap.size ≤ wq.drew.heap.size) := Lib.hid (Nat.le_refl _);refine wp_region_held_drew (S := fun w9 => w9.cell? ⟨X, 0, none⟩ = some (.int .i64 dp) ∧ w9.cell? ⟨X, 1, none⟩ = some (.slice (some ⟨gt, 0, none⟩) root.length ct9) ∧ w9.cell? ⟨w.heap.size + 1, 1, none⟩ = some (.int .i64 bad) ∧ w9.cell? ⟨w.heap.size, 0, none⟩ = some (.int .i64 dp) ∧ w9.cell? ⟨w.heap.size, 1, none⟩ = some (.slice at' root.length ct) ∧ w9.cell? ⟨w.heap.size + 1 + 1, 0, none⟩ = some (.int .i64 lg) ∧ w9.cell? ⟨w.heap.size + 1 + 1, 1, none⟩ = some (.int .i64 n) ∧ w9.cell? ⟨w.heap.size + 1 + 1, 2, none⟩ = some (.int .i64 tt) ∧ w9.cell? ⟨w.heap.size + 1 + 1, 3, none⟩ = some (.int .i64 fr) ∧ w9.cell? ⟨w.heap.size + 1 + 1, 4, none⟩ = some (.int .i64 nd)) mixed (HK5.out _ (HQ7.out.trans ((hq).mono HQ7.out.size))) (fun hHeld => ?_);generalize wq.drew = wd at *;refine tk 0 _ rfl (by intro w9 hSw; obtain ⟨e1, e2, e3, e4, e5, e6, e7, e8, e9, e10⟩ := hSw; go_simp; try with_reducible rfl) hHeld ?_
      try simp only [Act.put, za, zb, zc, zd, ze, zf]
      refine tk 1 _ rfl (by intro w9 hSw; clear hSw; go_simp; try with_reducible rfl) hHeld ?_
      try simp only [Act.put, za, zb, zc, zd, ze, zf]
      refine tk 2 _ rfl (by intro w9 hSw; clear hSw; go_simp; try with_reducible rfl) hHeld ?_
      try simp only [Act.put, za, zb, zc, zd, ze, zf]
      refine tk 3 _ rfl (by intro w9 hSw; obtain ⟨e1, e2, e3, e4, e5, e6, e7, e8, e9, e10⟩ := hSw; go_simp; try with_reducible rfl) hHeld ?_
      try simp only [Act.put, za, zb, zc, zd, ze, zf]
      refine tk 5 _ rfl (by intro w9 hSw; clear hSw; go_simp; try with_reducible rfl) hHeld ?_
      try simp only [Act.put, za, zb, zc, zd, ze, zf]
      refine tk 6 _ rfl (by intro w9 hSw; obtain ⟨e1, e2, e3, e4, e5, e6, e7, e8, e9, e10⟩ := hSw; go_simp; try with_reducible rfl) hHeld ?_
      try simp only [Act.put, za, zb, zc, zd, ze, zf]
      refine tk 7 _ rfl (by intro w9 hSw; clear hSw; go_simp; try with_reducible rfl) hHeld ?_
      try simp only [Act.put, za, zb, zc, zd, ze, zf]
      refine tk 8 _ rfl (by intro w9 hSw; obtain ⟨e1, e2, e3, e4, e5, e6, e7, e8, e9, e10⟩ := hSw; go_simp; try with_reducible rfl) hHeld ?_
      try simp only [Act.put, za, zb, zc, zd, ze, zf]
      refine wpAnyH_ready (rs := [4, 13]) (by kernel_rfl) (by simp) ?_;refine AllReadyH.cons (o := _) rfl (fun K hK => ?_) ?_
      ·go_simp
       refine (RDG.out wd (HQ7.out.trans ((hq).mono HQ7.out.size))).mono ?_; rintro e w54 ⟨rfl, hr54, b54⟩;dsimp only;have q54 := bnext hq b54;have HRR := Lib.hid hr54;clear hr54;have HWD := Lib.hid (Nat.le_trans HWD.out b54.size);clear hHeld;refine hK.out _ _ (HK5.out _ (HQ7.out.trans ((q54).mono HQ7.out.size))) (fun hHeld => ?_);clear hK K
       try simp only [Act.put, za, zb, zc, zd, ze, zf]
       refine wpAnyH_ready (rs := [9, 13]) (by kernel_rfl) (by simp) ?_;refine AllReadyH.cons (o := _) rfl (fun K hK => ?_) ?_
       ·go_simp
        refine (LEA.out _ _ w54 (HQ7.out.trans ((q54).mono HQ7.out.size)) HRR.out).mono ?_; rintro e w55 ⟨vr9, vc9, vf9, rfl, hvr55, hvc55, hvf55, b55⟩;dsimp only;have q55 := bnext q54 b55;have HRR := Lib.hid (HRR.out.kept1 b55);have HVR := Lib.hid (row_down HWD.out hvr55);have HVC := Lib.hid (row_down HWD.out hvc55);have HVF := Lib.hid (row_down HWD.out hvf55);obtain ⟨ra9, rc9, rfl, -⟩ := shape_of hvr55;obtain ⟨ca9, cc9, rfl, -⟩ := shape_of hvc55;obtain ⟨fa9, fc9, rfl, -⟩ := shape_of hvf55;clear hvr55 hvc55 hvf55;have HWD := Lib.hid (Nat.le_trans HWD.out b55.size);clear hHeld;refine hK.out _ _ (HK5.out _ (HQ7.out.trans ((q55).mono HQ7.out.size))) (fun hHeld => ?_);clear hK K
        try simp only [Act.put, za, zb, zc, zd, ze, zf]
        refine tk 10 _ rfl (by intro w9 hSw; clear hSw; go_simp; try with_reducible rfl) hHeld ?_
        try simp only [Act.put, za, zb, zc, zd, ze, zf]
        refine tk 11 _ rfl (by intro w9 hSw; clear hSw; go_simp; try with_reducible rfl) hHeld ?_
        try simp only [Act.put, za, zb, zc, zd, ze, zf]
        refine tk 12 _ rfl (by intro w9 hSw; clear hSw; go_simp; try with_reducible rfl) hHeld ?_
        try simp only [Act.put, za, zb, zc, zd, ze, zf]
        refine wpAnyH_ready (rs := [13]) (by kernel_rfl) (by simp) ?_;refine AllReadyH.cons (o := _) rfl (fun K hK => ?_) ?_
        ·obtain ⟨w59, hw59⟩ : ∃ w9, w55.alloc (.cells setC 58) = w9 := ⟨_, rfl⟩
         have b59 : Below w55.heap.size w55 w59 := by rw [← hw59]; exact balloc1 _ _
         have q59 := bnext q55 b59
         have hz59 : w59.heap.size = w55.heap.size + 1 := by rw [← hw59]; exact size_alloc _ _
         have hB59 : Blk w55.heap.size setC 58 w59 := by rw [← hw59]; exact Blk.new _ _ _
         have HRR := Lib.hid (HRR.out.kept1 b59);have HVR := Lib.hid (row_kept HVR.out b59);have HVC := Lib.hid (row_kept HVC.out b59);have HVF := Lib.hid (row_kept HVF.out b59);have HX := Lib.hid hB59;have HZ59 := Lib.hid hz59;have HW59 := Lib.hid hw59;clear hB59 hz59 hw59;go_simp
         try rw [HW59.out]
         have HWD := Lib.hid (Nat.le_trans HWD.out b59.size);clear hHeld;refine hK.out _ _ (HK5.out _ (HQ7.out.trans ((q59).mono HQ7.out.size))) (fun hHeld => ?_);clear hK K
         try simp only [Act.put, za, zb, zc, zd, ze, zf]
         refine wpAnyH_ready (rs := [14]) (by kernel_rfl) (by simp) ?_;refine AllReadyH.cons (o := _) rfl (fun K hK => ?_) ?_
         ·obtain ⟨w60, hw60⟩ : ∃ w9, w59.setRow w55.heap.size #[.int .i64 D2, .slice ra9 T2.length rc9, .slice ca9 C2.length cc9, .slice fa9 F2.length fc9] = w9 := ⟨_, rfl⟩
          have hB60 : Blk w55.heap.size #[.int .i64 D2, .slice ra9 T2.length rc9, .slice ca9 C2.length cc9, .slice fa9 F2.length fc9] 58 w60 := by rw [← hw60]; exact setRow_blk HX.out _
          have g60 : World.grownBy w59 w60 (some w55.heap.size) := by rw [← hw60]; exact ⟨rfl, rfl, rfl, by simp, fun k hk hne => setRow_other _ _ k _ (fun e => hne (by rw [e]))⟩
          have b60 : Below wq.heap.size w59 w60 := by rw [← hw60]; exact setRow_below q55.size _
          have q60 := (q59).trans b60;have HVR := Lib.hid (row_grown HVR.out g60 fun q hq e => by cases e; exact absurd (ty_one (own_ty HVR.out hq).1 ⟨_, _, HX.out⟩) (by decide));have HVC := Lib.hid (row_grown HVC.out g60 fun q hq e => by cases e; exact absurd (ty_one (own_ty HVC.out hq).1 ⟨_, _, HX.out⟩) (by decide));have HVF := Lib.hid (row_grown HVF.out g60 fun q hq e => by cases e; exact absurd (ty_one (own_ty HVF.out hq).1 ⟨_, _, HX.out⟩) (by decide));have HW60 := Lib.hid hw60;clear hw60 g60 b60;rw [if_pos (by kernel_rfl)];refine wp_store_row 58 _ _ rfl w55.heap.size #[.int .i64 D2, .slice ra9 T2.length rc9, .slice ca9 C2.length cc9, .slice fa9 F2.length fc9] rfl rfl _ _ HX.out set_sz rfl (by simp [Value.oneCell']) ?_;rw [HW60.out];have HX := Lib.hid hB60;clear hB60;clear hHeld;refine hK.out _ _ (HK5.out _ (HQ7.out.trans ((q60).mono HQ7.out.size))) (fun hHeld => ?_);clear hK K
          try simp only [Act.put, za, zb, zc, zd, ze, zf]
          refine tk 15 _ rfl (by intro w9 hSw; clear hSw; go_simp; try with_reducible rfl) hHeld ?_
          try simp only [Act.put, za, zb, zc, zd, ze, zf]
          refine ⟨by kernel_rfl, ?_⟩;clear hHeld;have HQ := Lib.hid (q60);go_wp2;go_meet
          case rel => exact ⟨w55.heap.size, _, _, _, rfl, rfl, Lib.hid ⟨HX.out, HVR.out, HVC.out, HVF.out, HQ.out⟩⟩
         exact AllReadyH.nil
        exact AllReadyH.nil
       refine AllReadyH.cons (o := _) rfl (fun K hK => ?_) ?_
       ·obtain ⟨w62, hw62⟩ : ∃ w9, w54.alloc (.cells setC 58) = w9 := ⟨_, rfl⟩
        have b62 : Below w54.heap.size w54 w62 := by rw [← hw62]; exact balloc1 _ _
        have q62 := bnext q54 b62
        have hz62 : w62.heap.size = w54.heap.size + 1 := by rw [← hw62]; exact size_alloc _ _
        have hB62 : Blk w54.heap.size setC 58 w62 := by rw [← hw62]; exact Blk.new _ _ _
        have HRR := Lib.hid (HRR.out.kept1 b62);have HX := Lib.hid hB62;have HZ62 := Lib.hid hz62;have HW62 := Lib.hid hw62;clear hB62 hz62 hw62;go_simp
        try rw [HW62.out]
        have HWD := Lib.hid (Nat.le_trans HWD.out b62.size);clear hHeld;refine hK.out _ _ (HK5.out _ (HQ7.out.trans ((q62).mono HQ7.out.size))) (fun hHeld => ?_);clear hK K
        try simp only [Act.put, za, zb, zc, zd, ze, zf]
        refine wpAnyH_ready (rs := [9]) (by kernel_rfl) (by simp) ?_;refine AllReadyH.cons (o := _) rfl (fun K hK => ?_) ?_
        ·go_simp
         refine (LEA.out _ _ w62 (HQ7.out.trans ((q62).mono HQ7.out.size)) HRR.out).mono ?_; rintro e w63 ⟨vr9, vc9, vf9, rfl, hvr63, hvc63, hvf63, b63⟩;dsimp only;have q63 := bnext q62 b63;have HRR := Lib.hid (HRR.out.kept1 b63);have HX := Lib.hid (HX.out.kept1 b63);have HVR := Lib.hid (row_down HWD.out hvr63);have HVC := Lib.hid (row_down HWD.out hvc63);have HVF := Lib.hid (row_down HWD.out hvf63);obtain ⟨ra9, rc9, rfl, -⟩ := shape_of hvr63;obtain ⟨ca9, cc9, rfl, -⟩ := shape_of hvc63;obtain ⟨fa9, fc9, rfl, -⟩ := shape_of hvf63;clear hvr63 hvc63 hvf63;have HWD := Lib.hid (Nat.le_trans HWD.out b63.size);clear hHeld;refine hK.out _ _ (HK5.out _ (HQ7.out.trans ((q63).mono HQ7.out.size))) (fun hHeld => ?_);clear hK K
         try simp only [Act.put, za, zb, zc, zd, ze, zf]
         refine tk 10 _ rfl (by intro w9 hSw; clear hSw; go_simp; try with_reducible rfl) hHeld ?_
         try simp only [Act.put, za, zb, zc, zd, ze, zf]
         refine tk 11 _ rfl (by intro w9 hSw; clear hSw; go_simp; try with_reducible rfl) hHeld ?_
         try simp only [Act.put, za, zb, zc, zd, ze, zf]
         refine tk 12 _ rfl (by intro w9 hSw; clear hSw; go_simp; try with_reducible rfl) hHeld ?_
         try simp only [Act.put, za, zb, zc, zd, ze, zf]
         refine wpAnyH_ready (rs := [14]) (by kernel_rfl) (by simp) ?_;refine AllReadyH.cons (o := _) rfl (fun K hK => ?_) ?_
         ·obtain ⟨w67, hw67⟩ : ∃ w9, w63.setRow w54.heap.size #[.int .i64 D2, .slice ra9 T2.length rc9, .slice ca9 C2.length cc9, .slice fa9 F2.length fc9] = w9 := ⟨_, rfl⟩
          have hB67 : Blk w54.heap.size #[.int .i64 D2, .slice ra9 T2.length rc9, .slice ca9 C2.length cc9, .slice fa9 F2.length fc9] 58 w67 := by rw [← hw67]; exact setRow_blk HX.out _
          have g67 : World.grownBy w63 w67 (some w54.heap.size) := by rw [← hw67]; exact ⟨rfl, rfl, rfl, by simp, fun k hk hne => setRow_other _ _ k _ (fun e => hne (by rw [e]))⟩
          have b67 : Below wq.heap.size w63 w67 := by rw [← hw67]; exact setRow_below q54.size _
          have q67 := (q63).trans b67;have HVR := Lib.hid (row_grown HVR.out g67 fun q hq e => by cases e; exact absurd (ty_one (own_ty HVR.out hq).1 ⟨_, _, HX.out⟩) (by decide));have HVC := Lib.hid (row_grown HVC.out g67 fun q hq e => by cases e; exact absurd (ty_one (own_ty HVC.out hq).1 ⟨_, _, HX.out⟩) (by decide));have HVF := Lib.hid (row_grown HVF.out g67 fun q hq e => by cases e; exact absurd (ty_one (own_ty HVF.out hq).1 ⟨_, _, HX.out⟩) (by decide));have HW67 := Lib.hid hw67;clear hw67 g67 b67;rw [if_pos (by kernel_rfl)];refine wp_store_row 58 _ _ rfl w54.heap.size #[.int .i64 D2, .slice ra9 T2.length rc9, .slice ca9 C2.length cc9, .slice fa9 F2.length fc9] rfl rfl _ _ HX.out set_sz rfl (by simp [Value.oneCell']) ?_;rw [HW67.out];have HX := Lib.hid hB67;clear hB67;clear hHeld;refine hK.out _ _ (HK5.out _ (HQ7.out.trans ((q67).mono HQ7.out.size))) (fun hHeld => ?_);clear hK K
          try simp only [Act.put, za, zb, zc, zd, ze, zf]
          refine tk 15 _ rfl (by intro w9 hSw; clear hSw; go_simp; try with_reducible rfl) hHeld ?_
          try simp only [Act.put, za, zb, zc, zd, ze, zf]
          refine ⟨by kernel_rfl, ?_⟩;clear hHeld;have HQ := Lib.hid (q67);go_wp2;go_meet
          case rel => exact ⟨w54.heap.size, _, _, _, rfl, rfl, Lib.hid ⟨HX.out, HVR.out, HVC.out, HVF.out, HQ.out⟩⟩
         exact AllReadyH.nil
        exact AllReadyH.nil
       exact AllReadyH.nil
      refine AllReadyH.cons (o := _) rfl (fun K hK => ?_) ?_
      ·obtain ⟨w69, hw69⟩ : ∃ w9, wd.alloc (.cells setC 58) = w9 := ⟨_, rfl⟩
       have b69 : Below wd.heap.size wd w69 := by rw [← hw69]; exact balloc1 _ _
       have q69 := bnext hq b69
       have hz69 : w69.heap.size = wd.heap.size + 1 := by rw [← hw69]; exact size_alloc _ _
       have hB69 : Blk wd.heap.size setC 58 w69 := by rw [← hw69]; exact Blk.new _ _ _
       have HX := Lib.hid hB69;have HZ69 := Lib.hid hz69;have HW69 := Lib.hid hw69;clear hB69 hz69 hw69;go_simp
       try rw [HW69.out]
       have HWD := Lib.hid (Nat.le_trans HWD.out b69.size);clear hHeld;refine hK.out _ _ (HK5.out _ (HQ7.out.trans ((q69).mono HQ7.out.size))) (fun hHeld => ?_);clear hK K
       try simp only [Act.put, za, zb, zc, zd, ze, zf]
       refine wpAnyH_ready (rs := [4]) (by kernel_rfl) (by simp) ?_;refine AllReadyH.cons (o := _) rfl (fun K hK => ?_) ?_
       ·go_simp
        refine (RDG.out w69 (HQ7.out.trans ((q69).mono HQ7.out.size))).mono ?_; rintro e w70 ⟨rfl, hr70, b70⟩;dsimp only;have q70 := bnext q69 b70;have HX := Lib.hid (HX.out.kept1 b70);have HRR := Lib.hid hr70;clear hr70;have HWD := Lib.hid (Nat.le_trans HWD.out b70.size);clear hHeld;refine hK.out _ _ (HK5.out _ (HQ7.out.trans ((q70).mono HQ7.out.size))) (fun hHeld => ?_);clear hK K
        try simp only [Act.put, za, zb, zc, zd, ze, zf]
        refine wpAnyH_ready (rs := [9]) (by kernel_rfl) (by simp) ?_;refine AllReadyH.cons (o := _) rfl (fun K hK => ?_) ?_
        ·go_simp
         refine (LEA.out _ _ w70 (HQ7.out.trans ((q70).mono HQ7.out.size)) HRR.out).mono ?_; rintro e w71 ⟨vr9, vc9, vf9, rfl, hvr71, hvc71, hvf71, b71⟩;dsimp only;have q71 := bnext q70 b71;have HX := Lib.hid (HX.out.kept1 b71);have HRR := Lib.hid (HRR.out.kept1 b71);have HVR := Lib.hid (row_down HWD.out hvr71);have HVC := Lib.hid (row_down HWD.out hvc71);have HVF := Lib.hid (row_down HWD.out hvf71);obtain ⟨ra9, rc9, rfl, -⟩ := shape_of hvr71;obtain ⟨ca9, cc9, rfl, -⟩ := shape_of hvc71;obtain ⟨fa9, fc9, rfl, -⟩ := shape_of hvf71;clear hvr71 hvc71 hvf71;have HWD := Lib.hid (Nat.le_trans HWD.out b71.size);clear hHeld;refine hK.out _ _ (HK5.out _ (HQ7.out.trans ((q71).mono HQ7.out.size))) (fun hHeld => ?_);clear hK K
         try simp only [Act.put, za, zb, zc, zd, ze, zf]
         refine tk 10 _ rfl (by intro w9 hSw; clear hSw; go_simp; try with_reducible rfl) hHeld ?_
         try simp only [Act.put, za, zb, zc, zd, ze, zf]
         refine tk 11 _ rfl (by intro w9 hSw; clear hSw; go_simp; try with_reducible rfl) hHeld ?_
         try simp only [Act.put, za, zb, zc, zd, ze, zf]
         refine tk 12 _ rfl (by intro w9 hSw; clear hSw; go_simp; try with_reducible rfl) hHeld ?_
         try simp only [Act.put, za, zb, zc, zd, ze, zf]
         refine wpAnyH_ready (rs := [14]) (by kernel_rfl) (by simp) ?_;refine AllReadyH.cons (o := _) rfl (fun K hK => ?_) ?_
         ·obtain ⟨w75, hw75⟩ : ∃ w9, w71.setRow wd.heap.size #[.int .i64 D2, .slice ra9 T2.length rc9, .slice ca9 C2.length cc9, .slice fa9 F2.length fc9] = w9 := ⟨_, rfl⟩
          have hB75 : Blk wd.heap.size #[.int .i64 D2, .slice ra9 T2.length rc9, .slice ca9 C2.length cc9, .slice fa9 F2.length fc9] 58 w75 := by rw [← hw75]; exact setRow_blk HX.out _
          have g75 : World.grownBy w71 w75 (some wd.heap.size) := by rw [← hw75]; exact ⟨rfl, rfl, rfl, by simp, fun k hk hne => setRow_other _ _ k _ (fun e => hne (by rw [e]))⟩
          have b75 : Below wq.heap.size w71 w75 := by rw [← hw75]; exact setRow_below hq.size _
          have q75 := (q71).trans b75;have HVR := Lib.hid (row_grown HVR.out g75 fun q hq e => by cases e; exact absurd (ty_one (own_ty HVR.out hq).1 ⟨_, _, HX.out⟩) (by decide));have HVC := Lib.hid (row_grown HVC.out g75 fun q hq e => by cases e; exact absurd (ty_one (own_ty HVC.out hq).1 ⟨_, _, HX.out⟩) (by decide));have HVF := Lib.hid (row_grown HVF.out g75 fun q hq e => by cases e; exact absurd (ty_one (own_ty HVF.out hq).1 ⟨_, _, HX.out⟩) (by decide));have HW75 := Lib.hid hw75;clear hw75 g75 b75;rw [if_pos (by kernel_rfl)];refine wp_store_row 58 _ _ rfl wd.heap.size #[.int .i64 D2, .slice ra9 T2.length rc9, .slice ca9 C2.length cc9, .slice fa9 F2.length fc9] rfl rfl _ _ HX.out set_sz rfl (by simp [Value.oneCell']) ?_;rw [HW75.out];have HX := Lib.hid hB75;clear hB75;clear hHeld;refine hK.out _ _ (HK5.out _ (HQ7.out.trans ((q75).mono HQ7.out.size))) (fun hHeld => ?_);clear hK K
          try simp only [Act.put, za, zb, zc, zd, ze, zf]
          refine tk 15 _ rfl (by intro w9 hSw; clear hSw; go_simp; try with_reducible rfl) hHeld ?_
          try simp only [Act.put, za, zb, zc, zd, ze, zf]
          refine ⟨by kernel_rfl, ?_⟩;clear hHeld;have HQ := Lib.hid (q75);go_wp2;go_meet
          case rel => exact ⟨wd.heap.size, _, _, _, rfl, rfl, Lib.hid ⟨HX.out, HVR.out, HVC.out, HVF.out, HQ.out⟩⟩
         exact AllReadyH.nil
        exact AllReadyH.nil
       exact AllReadyH.nil
      exact AllReadyH.nil
     case rest =>
      as_aux_lemma =>
      obtain ⟨Y2, vr2, vc2, vf2, rfl, rfl, HS2⟩ := hcut;obtain ⟨w8, hw8⟩ : ∃ x, x = wc := ⟨_, rfl⟩;subst hw8;obtain ⟨h21, h22, h23, h24, h25⟩ := HS2.out;obtain ⟨h11, h12, h13, h14, h15⟩ := HS1.out;obtain ⟨ra1, rc1, rfl, -⟩ := shape_of h12;obtain ⟨ca1, cc1, rfl, -⟩ := shape_of h13;obtain ⟨fa1, fc1, rfl, -⟩ := shape_of h14;obtain ⟨ra2, rc2, rfl, -⟩ := shape_of h22;obtain ⟨ca2, cc2, rfl, -⟩ := shape_of h23;obtain ⟨fa2, fc2, rfl, -⟩ := shape_of h24;have H11 := Lib.hid (h11.kept1 h25);have H12 := Lib.hid (row_kept h12 h25);have H13 := Lib.hid (row_kept h13 h25);have H14 := Lib.hid (row_kept h14 h25);have H21 := Lib.hid h21;have H22 := Lib.hid h22;have H23 := Lib.hid h23;have H24 := Lib.hid h24;have HQ8 := Lib.hid (bnext HQ7.out h25);obtain ⟨-, -, e3, e4, e5, -⟩ := HK5.out _ HQ8.out;clear h11 h12 h13 h14 h15 h21 h22 h23 h24 h25 HS1 HS2;go_wp2_with fail
      refine (DOC.out _ HQ8.out).mono ?_; rintro e w9 ⟨vw, vm, rfl, hw, hm, b9⟩;obtain ⟨wa, wc', rfl, -⟩ := shape_of hw;obtain ⟨ma, mc, rfl, -⟩ := shape_of hm;have HW9 := Lib.hid hw;have HM9 := Lib.hid hm;have HA9 := Lib.hid b9;have HQ9 := Lib.hid (bnext HQ8.out b9);obtain ⟨-, z1, -, -, z2, -⟩ := HK5.out _ HQ9.out;clear hw hm b9 e3 e4 e5;go_wp2_with fail
      refine (LF.out _ HQ9.out).mono ?_; rintro e w10 ⟨rfl, b10⟩;have HW10 := Lib.hid (row_kept HW9.out b10);have HM10 := Lib.hid (row_kept HM9.out b10);have HA10 := Lib.hid (bnext HA9.out b10);have HQ10 := Lib.hid (bnext HQ9.out b10);clear b10 z1 z2 HW9 HM9 HA9
      go_upto_region 10 with fail
      go_cut [118] (fun u1 wx => u1 = .bool false ∧ wx = w10)
      case first =>
       have x0 := (H11.out.kept1 HA10.out).cell 0;have x1 := (H11.out.kept1 HA10.out).cell 1;have x2 := (H11.out.kept1 HA10.out).cell 2;have x3 := (H11.out.kept1 HA10.out).cell 3;have y0 := (H21.out.kept1 HA10.out).cell 0;have y1 := (H21.out.kept1 HA10.out).cell 1;have y2 := (H21.out.kept1 HA10.out).cell 2;have y3 := (H21.out.kept1 HA10.out).cell 3;simp only [List.getElem?_toArray, List.getElem?_cons_zero, List.getElem?_cons_succ] at x0 x1 x2 x3 y0 y1 y2 y3;by_cases t1 : E1 = 0
       ·have d1 : (E1 != 0) = false := by rw [t1]; simp
        by_cases t2 : E2 = 0
        ·have d2 : (E2 != 0) = false := by rw [t2]; simp
         clear t1 t2;go_wp2;go_meet
         case rel => exact ⟨rfl, rfl⟩
        ·have d2 : (E2 != 0) = true := by simpa using t2
         obtain ⟨z1, z2, z3, z4⟩ := HZ2.out t2;rw [z1] at y2;rw [z2] at y3;rw [z3] at y1;rw [z4] at y0;clear t1 t2 z1 z2 z3 z4;go_wp2;go_meet
         case rel => exact ⟨rfl, rfl⟩
       ·have d1 : (E1 != 0) = true := by simpa using t1
        obtain ⟨z1, z2, z3, z4⟩ := HZ1.out t1;rw [z1] at x2;rw [z2] at x3;rw [z3] at x1;rw [z4] at x0;clear z1 z2 z3 z4;by_cases t2 : E2 = 0
        ·have d2 : (E2 != 0) = false := by rw [t2]; simp
         clear t1 t2;go_wp2;go_meet
         case rel => exact ⟨rfl, rfl⟩
        ·have d2 : (E2 != 0) = true := by simpa using t2
         obtain ⟨z1, z2, z3, z4⟩ := HZ2.out t2;rw [z1] at y2;rw [z2] at y3;rw [z3] at y1;rw [z4] at y0;clear t1 t2 z1 z2 z3 z4;go_wp2;go_meet
         case rel => exact ⟨rfl, rfl⟩
      case rest =>
       as_aux_lemma =>
       obtain ⟨rfl, hwe⟩ := hcut;subst hwe;obtain ⟨w10, hw10⟩ : ∃ x, x = wc := ⟨_, rfl⟩;subst hw10;have HEND := Lib.hid (HB6.out.trans (HQ10.out.mono HB6.out.size));by_cases tz : EC = 0
       ·have d1 : (EC != 0) = false := by rw [tz]; simp
        have MV := Lib.hid (HMVD.out tz);have LD := Lib.hid (HLED.out tz);clear tz HERR HMVD HLED HZ1 HZ2;have x0 := (H11.out.kept1 HA10.out).cell 0;have x1 := (H11.out.kept1 HA10.out).cell 1;have x2 := (H11.out.kept1 HA10.out).cell 2;have x3 := (H11.out.kept1 HA10.out).cell 3;simp only [List.getElem?_toArray, List.getElem?_cons_zero, List.getElem?_cons_succ] at x0 x1 x2 x3;obtain ⟨-, -, -, u0, u1, o0, o1, o2, o3, o4⟩ := HK5.out _ HQ10.out;have M1 := Lib.hid (MV.out w10 ma wa mc wc' _ _ _ (HG6.out.kept1 HQ10.out) (row_of_own HM10.out) (row_of_own HW10.out) (HVT.out.kept HEND.out) (row_of_own (row_kept H12.out HA10.out)) (row_of_own (row_kept H13.out HA10.out)) (row_of_own (row_kept H14.out HA10.out)));clear MV;go_wp2_with fail
        refine M1.out.mono ?_; rintro e w11 ⟨rfl, b11⟩;have HQ11 := Lib.hid (bnext HQ10.out b11);have HA11 := Lib.hid (bnext HA10.out b11);have HE11 := Lib.hid (bnext HEND.out b11);have HW11 := Lib.hid (row_kept HW10.out b11);have HM11 := Lib.hid (row_kept HM10.out b11);clear M1 b11 x0 x1 x2 x3 u0 u1 o0 o1 o2 o3 o4;have y0 := (H21.out.kept1 HA11.out).cell 0;have y1 := (H21.out.kept1 HA11.out).cell 1;have y2 := (H21.out.kept1 HA11.out).cell 2;have y3 := (H21.out.kept1 HA11.out).cell 3;simp only [List.getElem?_toArray, List.getElem?_cons_zero, List.getElem?_cons_succ] at y0 y1 y2 y3;obtain ⟨-, -, -, u0, u1, o0, o1, o2, o3, o4⟩ := HK5.out _ HQ11.out;have L1 := Lib.hid (LD.out w11 ma wa mc wc' _ _ _ (HG6.out.kept1 HQ11.out) (row_of_own HM11.out) (row_of_own HW11.out) (HVT.out.kept HE11.out) (row_of_own (row_kept H22.out HA11.out)) (row_of_own (row_kept H23.out HA11.out)) (row_of_own (row_kept H24.out HA11.out)));clear LD;go_wp2_with fail
        refine L1.out.mono ?_; rintro e w12 ⟨rfl, b12⟩;have HE12 := Lib.hid (bnext HE11.out b12);clear L1 b12 y0 y1 y2 y3 u0 u1 o0 o1 o2 o3 o4;go_wp2_with fail
        refine (AL.out _).mono ?_; rintro e w13 ⟨rfl, b13⟩;have HE13 := Lib.hid (bnext HE12.out b13);clear b13;go_wp2;go_ret;exact ⟨rfl, HE13.out⟩
       ·have d1 : (EC != 0) = true := by simpa using tz
        obtain ⟨h1, h2⟩ := HERR.out tz
        have d2 : (E1 == EC) = true := by rw [h1]; simp
        have d3 : (E2 == EC) = true := by rw [h2]; simp
        clear tz h1 h2 HERR HMVD HLED HZ1 HZ2;go_wp2_with fail
        refine (AL.out _).mono ?_; rintro e w11 ⟨rfl, b11⟩;have HE11 := Lib.hid (bnext HEND.out b11);clear b11;go_wp2;go_ret;exact ⟨rfl, HE11.out⟩
end Go.Proofs.YtknefoemgifbfaaGreat
