import Derived.Test.YtknefoemgifbfaaGreatPd52
import Derived.Test.YtknefoemgifbfaaGreatPd53
import Derived.Deep.CutBlock
import Derived.Deep.DeepCutAuto
set_option linter.unusedVariables false
set_option linter.unusedSimpArgs false
set_option linter.constructorNameAsVariable false
set_option maxRecDepth 100000
set_option maxHeartbeats 16000000
namespace Go.Proofs.YtknefoemgifbfaaGreat
open Go.RowKit
def walkA (rd : Rd) : Nat → List Ent → List Int × List Ent → Except Int (List Int × List Ent)
 | 0, _, st => .ok st
 | h + 1, l, st => l.foldlM (fun st x => match nodeA rd x (h == 0) st.1 with
   | .error e => .error e
   | .ok (m, _) => if h = 0 then .ok (st.1 ++ [x.phys], st.2 ++ m) else walkA rd h m (st.1 ++ [x.phys], st.2)) st
abbrev walkF (rd : Rd) (h : Nat) : List Int × List Ent → Ent → Except Int (List Int × List Ent) := fun st x => match nodeA rd x (h == 0) st.1 with
 | .error e => .error e
 | .ok (m, _) => if h = 0 then .ok (st.1 ++ [x.phys], st.2 ++ m) else walkA rd h m (st.1 ++ [x.phys], st.2)
theorem walkA_succ (rd : Rd) (h : Nat) (l : List Ent) (st : List Int × List Ent) : walkA rd (h + 1) l st = l.foldlM (walkF rd h) st := by rw [walkA]
theorem wfold_next {f : List Int × List Ent → Ent → Except Int (List Int × List Ent)} {l : List Ent} {s0 s : List Int × List Ent} {k : Nat} (h : k < l.length) (hf : (l.take k).foldlM f s0 = Except.ok s) : (l.take (k + 1)).foldlM f s0 = f s (eat l k) := by
 rw [List.take_succ_eq_append_getElem h, List.foldlM_append, hf, eat_eq h]
 show (List.foldlM f s [l[k]] : Except Int _) = _
 rw [List.foldlM_cons]
 cases f s l[k] <;> rfl
theorem wfold_stop {f : List Int × List Ent → Ent → Except Int (List Int × List Ent)} {l : List Ent} {s0 : List Int × List Ent} {k : Nat} {c : Int} (hf : (l.take k).foldlM f s0 = Except.error c) : l.foldlM f s0 = Except.error c := by
 have h : l.foldlM f s0 = (l.take k ++ l.drop k).foldlM f s0 := by rw [List.take_append_drop]
 rw [h, List.foldlM_append, hf]; rfl
theorem seen_snoc {n : List Int} {b : Int} (h : SeenOk n) (hx : b ∉ n) (hb : 0 ≤ b ∧ b < 4096) : SeenOk (n ++ [b]) :=
 ⟨(List.perm_append_singleton b n).nodup_iff.2 (List.nodup_cons.2 ⟨hx, h.1⟩), fun c hc => by
   rcases List.mem_append.1 hc with hc | hc
   ·exact h.2 c hc
   ·rw [List.mem_singleton.1 hc]; exact hb⟩
def InvW (n : List Int) (r : List Ent) : Prop := SeenOk n ∧ r.length ≤ 10 * n.length ∧ fitE r
def WEnd (cb B R g : Nat) (bad : Int) (a : Except Int (List Int × List Ent)) (w : World) (e : Ending) (w' : World) : Prop :=
 KeepE B w w' ∧ match a with
 | .ok (n, r) => e = .returned (.int .i64 0) ∧ (∃ vn vr, WkAt cb B R g bad vn vr n r w') ∧ InvW n r
 | .error c => e = .returned (.int .i64 c) ∧ c ≠ 0
def Walks (cb B R g : Nat) (F : Nat → ByteArray) (bad : Int) (h : Nat) : Prop :=
 ∀ (l : List Ent) (lv : Value) (n : List Int) (r : List Ent) (vn vr : Value) (w : World), B ≤ w.heap.size → DskAt g F w → WkAt cb B R g bad vn vr n r w → EntsK B lv l w → InvW n r →
  (fitE l ∧ ∀ x ∈ l, 0 ≤ x.phys ∧ x.phys < 4096) →
  Calls Tryz.prog 52 #[.pointer (some ⟨R, 0, none⟩), lv, .int .i64 (h : Int)] w (WEnd cb B R g bad (walkA (rdOf F bad) h l (n, r)) w)
theorem rfwalk_step (cb B R g : Nat) (F : Nat → ByteArray) (hF : ∀ k, (F k).size ≤ 1000) (bad : Int) (hg : g < B) (h : Nat) (hh : h ≤ 1000) (IH : h = 0 ∨ Walks cb B R g F bad h) : Walks cb B R g F bad (h + 1) := by
 intro l lv n r vn vr w hBw hd hwk hl hinv ⟨hfl, hph⟩
 have mixed : Tryz.prog.follows .mixedOrders = true := by kernel_rfl
 obtain ⟨ad, cap, rfl, c1, c2, c3⟩ := entsK_cells hl;have H3 := Lib.hid c3;have HD := Lib.hid hd;have HIH := Lib.hid IH;have HW0 := Lib.hid hwk;have HINV := Lib.hid hinv;have HPH := Lib.hid hph;have HWA := Lib.hid (walkA_succ (rdOf F bad) h l (n, r));obtain ⟨lf, hlf⟩ : ∃ lf : Bool, (((h + 1 : Nat) : Int) == 1) = lf := ⟨_, rfl⟩;have HLF : Hid ((h == 0) = lf) := Lib.hid (by rw [← hlf, Bool.eq_iff_iff, beq_iff_eq, beq_iff_eq]; omega)
 have hw1 : IntKind.i64.wrap (((h + 1 : Nat) : Int) - 1) = (h : Int) := by rw [IntWalk.i64_in _ (by omega)]; omega
 have hlf2 : (((h : Int) + 1) == 1) = lf := by rw [← hlf, Bool.eq_iff_iff, beq_iff_eq, beq_iff_eq]; omega
 have hw2 : IntKind.i64.wrap ((h : Int) + 1 - 1) = (h : Int) := by rw [IntWalk.i64_in _ (by omega)]; omega
 have hw3 : (h : Int) + 1 - 1 = (h : Int) := by omega
 have HRS : Hid (∀ b, (rdOf F bad b).1.size ≤ maxLen) := Lib.hid fun b => by
  unfold rdOf maxLen;split
  ·show (0 : Nat) ≤ _; omega
  ·exact Nat.le_trans (hF _) (by omega)
 clear c3 hd hwk hl hinv IH hph hfl
 go_enter Tryz.func52, Tryz.ntmps52
 go_wp2
 go_loopw [7, 8, 9, 10, 11, 12] (fun p q8 q9 q10 q11 q12 wr => ∃ (k : Nat) (n1 : List Int) (r1 : List Ent) (vn1 vr1 : Value), p = .int .i64 (k : Int) ∧ k ≤ l.length ∧ Hid ((l.take k).foldlM (walkF (rdOf F bad) h) (n, r) = .ok (n1, r1)) ∧ Hid (WkAt cb B R g bad vn1 vr1 n1 r1 wr) ∧ Hid (InvW n1 r1) ∧ Hid (KeepE B w wr)) (fun p _ _ _ _ _ _ => l.length - (intOf p).toNat)
 case atStart => exact ⟨0, _, _, _, _, rfl, Nat.zero_le _, Lib.hid rfl, HW0, HINV, Lib.hid (KeepE.refl _ _)⟩
 case round =>
  clear HW0 HINV;obtain ⟨k, n1, r1, vn1, vr1, rfl, hk, HF, HWK, HINV, HKE⟩ := hrel;by_cases hlt : k < l.length
  ·obtain ⟨gl, o, rfl, hc⟩ := H3.out (by omega)
   have HCC := Lib.hid (fun (w' : World) (hx : KeepE B w w') => hc w' hx k hlt);have HX := HPH.out _ (List.getElem_mem hlt);rw [← eat_eq hlt] at HX;have HNX := Lib.hid (wfold_next hlt HF.out)
   have HER : Hid (∀ c, walkF (rdOf F bad) h (n1, r1) (eat l k) = .error c → walkA (rdOf F bad) (h + 1) l (n, r) = .error c) := Lib.hid fun c hc => by rw [HWA.out]; exact wfold_stop (k := k + 1) (by rw [HNX.out]; exact hc)
   obtain ⟨an, cn, rfl, -, -, sn⟩ := shape_of HWK.out.n;have HBW := Lib.hid (HKE.out.below hBw);have hn1 : n1.length ≤ 4096 := HINV.out.1.len;have HBS := Lib.hid (Nat.le_trans hBw HKE.out.size);clear hc H3 HPH HF HWA sn;obtain ⟨y, hy⟩ : ∃ y, eat l k = y := ⟨_, rfl⟩;rw [hy] at HX HNX HER HCC;clear hy;obtain ⟨ya, yp, yz⟩ := y;dsimp only at HX HCC;obtain ⟨wA, hA⟩ : ∃ x, x = wr := ⟨_, rfl⟩;subst hA;go_wp2
   go_loopw [8] (fun q wr => ∃ j : Nat, q = .int .i64 (j : Int) ∧ j ≤ n1.length ∧ Hid (yp ∉ n1.take j) ∧ Hid (Below wA.heap.size wA wr)) (fun q _ => n1.length - (intOf q).toNat)
   case atStart => exact ⟨0, rfl, Nat.zero_le _, Lib.hid (by simp), Lib.hid (Below.refl _ _)⟩
   case round =>
    obtain ⟨j, rfl, hj, HJ, HB⟩ := hrel;have HWR := Lib.hid (HWK.out.kept1 HB.out);have z2 := HWR.out.blk.cell 2;simp only [List.getElem?_toArray, List.getElem?_cons_zero, List.getElem?_cons_succ] at z2;by_cases hjl : j < n1.length
    ·obtain ⟨gn, rfl, -, -⟩ := (shape_of HWR.out.n).elim fun _ q => by
      obtain ⟨cq, e1, -, -, e2⟩ := q
      cases e1
      exact e2 (by omega)
     have y2 : ∀ q : BelowP wr, q.to.cell? ⟨R, 2, none⟩ = some (.slice (some ⟨gn, 0, none⟩) n1.length cn) := fun q => (HWR.out.kept1 q.h).blk.cell 2;obtain ⟨b, hb⟩ : ∃ b, n1[j] = b := ⟨_, rfl⟩
     have y3 : ∀ q : BelowP wr, q.to.cell? ⟨gn, j, none⟩ = some (.int .i64 b) := fun q => by rw [← hb]; exact fkint_cell (HWR.out.kept1 q.h).n j hjl
     have y4 : ∀ q : BelowP wr, q.to.cell? ⟨gl, o + k * 3 + 1, none⟩ = some (.int .i64 yp) := fun q => (HCC.out q.to (HKE.out.trans (KeepE.of_below (HB.out.trans (q.h.mono HB.out.size))))).2.1;by_cases e : b = yp
     ·subst e
      have d1 : (b == b) = true := by simp
      have HE : Hid (walkA (rdOf F bad) (h + 1) l (n, r) = .error 80) := Lib.hid (HER.out 80 (by
       have : b ∈ n1 := by rw [← hb]; exact List.getElem_mem hjl
       show (match nodeA (rdOf F bad) ⟨ya, b, yz⟩ (h == 0) n1 with | .error e => Except.error e | .ok (m, _) => if h = 0 then .ok (n1 ++ [b], r1 ++ m) else walkA (rdOf F bad) h m (n1 ++ [b], r1)) = _
       unfold nodeA
       rw [if_pos this]))
      clear hb HER HNX;go_wp2;refine wp_region_quiet_below mixed (by kernel_rfl) ?_
      repeat (go_big_quiet_step (fail))
      refine wpQuiet_nil ?_;intro w0q hw';obtain ⟨⟨wq, bq⟩, hw''⟩ := hw';have hw2 : wq = w0q := hw''.symm;clear hw'';subst hw2;have HKQ := Lib.hid (HKE.out.trans (KeepE.of_below (B := B) (HB.out.trans (bq.mono HB.out.size))));go_wp2;go_ret;unfold WEnd;rw [HE.out];exact ⟨HKQ.out, rfl, by decide⟩
     ·have d1 : (b == yp) = false := by rw [beq_eq_false_iff_ne]; exact e
      have HM : Hid (yp ∉ n1.take (j + 1)) := Lib.hid (by
       rw [List.take_succ_eq_append_getElem hjl, List.mem_append, hb, List.mem_singleton]
       exact fun q => q.elim HJ.out (fun q => e q.symm))
      clear hb e;go_wp2;refine wp_region_quiet_below mixed (by kernel_rfl) ?_
      repeat (go_big_quiet_step (fail))
      refine wpQuiet_nil ?_;intro w0q hw';obtain ⟨⟨wq, bq⟩, hw''⟩ := hw';have hw2 : wq = w0q := hw''.symm;clear hw'';subst hw2;go_wp2;exact ⟨⟨j + 1, by go_num, by omega, HM, Lib.hid (HB.out.trans (bq.mono HB.out.size))⟩, by simp [intOf]; omega⟩
    ·obtain rfl : j = n1.length := by omega
     have HNS : Hid (yp ∉ n1) := Lib.hid (by have := HJ.out; rwa [List.take_length] at this);have HKE := Lib.hid (HKE.out.trans (KeepE.of_below HB.out));have HBS := Lib.hid (Nat.le_trans HBS.out HB.out.size);clear HJ HWK HB HBW;have HWK := HWR;clear HWR;obtain ⟨w5, hw5⟩ : ∃ x, x = wr := ⟨_, rfl⟩;subst hw5;have x0 : ∀ q : BelowP w5, q.to.cell? ⟨R, 0, none⟩ = some (.slice (some ⟨g, 0, none⟩) 4096 cb) := fun q => (HWK.out.kept1 q.h).blk.cell 0;have x1 : ∀ q : BelowP w5, q.to.cell? ⟨R, 1, none⟩ = some (.int .i64 bad) := fun q => (HWK.out.kept1 q.h).blk.cell 1;have x2 : ∀ q : BelowP w5, q.to.cell? ⟨gl, o + k * 3 + 1, none⟩ = some (.int .i64 yp) := fun q => (HCC.out q.to (HKE.out.trans (KeepE.of_below q.h))).2.1;have RD := Lib.hid fun q : BelowP w5 => rfread_any (cb := cb) F bad g yp q.to (HD.out.eq_block (Nat.le_trans HKE.out.size q.h.size) (((HKE.out.trans (KeepE.of_below q.h)).below hBw).block g hg));have HSZ := HRS.out yp;obtain ⟨s, E, hse⟩ : ∃ s E, rdOf F bad yp = (s, E) := ⟨_, _, rfl⟩;rw [hse] at RD HSZ;have HSE := Lib.hid hse;clear hse;dsimp only at HSZ;go_wp2;refine wp_region_quiet_below mixed (by kernel_rfl) ?_
     repeat (go_big_quiet_step (refine calls_below (RD.out _)))
     refine wpQuiet_nil ?_;intro w0q hw';obtain ⟨⟨wq, bq⟩, hw''⟩ := hw';have hw2 : wq = w0q := hw''.symm;clear hw'';subst hw2;have HKE := Lib.hid (HKE.out.trans (KeepE.of_below bq));have HWK := Lib.hid (HWK.out.kept1 bq);have HBS := Lib.hid (Nat.le_trans HBS.out bq.size);clear x0 x1 x2 bq RD
     have HNE : Hid (∀ c, nodeA (rdOf F bad) ⟨ya, yp, yz⟩ lf n1 = .error c → walkA (rdOf F bad) (h + 1) l (n, r) = .error c) := Lib.hid fun c hc => HER.out c (by
      show (match nodeA (rdOf F bad) ⟨ya, yp, yz⟩ (h == 0) n1 with | .error e => Except.error e | .ok (m, _) => if h = 0 then .ok (n1 ++ [yp], r1 ++ m) else walkA (rdOf F bad) h m (n1 ++ [yp], r1)) = _
      rw [HLF.out, hc])
     have HNO : Hid (∀ m q, nodeA (rdOf F bad) ⟨ya, yp, yz⟩ lf n1 = .ok (m, q) → (l.take (k + 1)).foldlM (walkF (rdOf F bad) h) (n, r) = if h = 0 then .ok (n1 ++ [yp], r1 ++ m) else walkA (rdOf F bad) h m (n1 ++ [yp], r1)) := Lib.hid fun m q hc => by
      rw [HNX.out]
      show (match nodeA (rdOf F bad) ⟨ya, yp, yz⟩ (h == 0) n1 with | .error e => Except.error e | .ok (m, _) => if h = 0 then .ok (n1 ++ [yp], r1 ++ m) else walkA (rdOf F bad) h m (n1 ++ [yp], r1)) = _
      rw [HLF.out, hc]
     have HCR : Hid (∀ c, (l.take (k + 1)).foldlM (walkF (rdOf F bad) h) (n, r) = .error c → walkA (rdOf F bad) (h + 1) l (n, r) = .error c) := Lib.hid fun c hc => by rw [HNX.out] at hc; exact HER.out c hc
     clear HER HNX;by_cases hE : E = 0
     ·subst hE
      have DC := Lib.hid (rfdec_any s HSZ wq)
      have FE : decE s = 0 ∨ decE s = 80 := by
       unfold decE;split
       ·exact .inl rfl
       ·exact .inr rfl
      have FNO : Hid (decE s ≠ 0 ∨ decF s ≠ lf ∨ (eat (decL s) 0).log ≠ ya → nodeA (rdOf F bad) ⟨ya, yp, yz⟩ lf n1 = .error 80) := Lib.hid fun q => by
       have := nodeA_no (rd := rdOf F bad) (x := ⟨ya, yp, yz⟩) (leaf := lf) HNS.out (by show (rdOf F bad yp).2 = 0; rw [HSE.out]) (by show decE (rdOf F bad yp).1 ≠ 0 ∨ decF (rdOf F bad yp).1 ≠ lf ∨ (eat (decL (rdOf F bad yp).1) 0).log ≠ ya; rw [HSE.out]; exact q);exact this
      have FOK : Hid (decE s = 0 → decF s = lf → (eat (decL s) 0).log = ya → nodeA (rdOf F bad) ⟨ya, yp, yz⟩ lf n1 = .ok (decL s, yp :: n1)) := Lib.hid fun q1 q2 q3 => by
       have := nodeA_ok (rd := rdOf F bad) (x := ⟨ya, yp, yz⟩) (leaf := lf) HNS.out (by show (rdOf F bad yp).2 = 0; rw [HSE.out]) (by show decE (rdOf F bad yp).1 = 0; rw [HSE.out]; exact q1) (by show decF (rdOf F bad yp).1 = lf; rw [HSE.out]; exact q2) (by show (eat (decL (rdOf F bad yp).1) 0).log = ya; rw [HSE.out]; exact q3);rw [this]
       show Except.ok (decL (rdOf F bad yp).1, yp :: n1) = _
       rw [HSE.out]
      have FL : Hid (decE s = 0 → 0 < (decL s).length) := Lib.hid fun h => by
       unfold decE at h;unfold decL
       cases hd : decN s with
       | none => rw [hd] at h; simp at h
       | some q => obtain ⟨m, is⟩ := q; exact (decN_some hd).1.1
      obtain ⟨fl, hfl⟩ : ∃ fl, decF s = fl := ⟨_, rfl⟩;rw [hfl] at FNO FOK DC;clear hfl;generalize decL s = m at *;rcases FE with hD | hD
      ·rw [hD] at FNO FOK FL DC
       clear hD HSE HRS;go_wp2_with fail
       refine DC.out.mono ?_; rintro e w7 ⟨mv, rfl, hmv, b7⟩;have HWK := Lib.hid (HWK.out.kept1 b7);have HKE := Lib.hid (HKE.out.trans (KeepE.of_below b7));have HBS := Lib.hid (Nat.le_trans HBS.out b7.size);have hpos := FL.out (by trivial);obtain ⟨am, cm, rfl, v1, v2, v3, -⟩ := entsIn_cells (entsAt_in hmv);obtain ⟨gm, om, rfl, hgm, hcm⟩ := v3 hpos
       have l0 : ∀ q : BelowP w7, q.to.cell? ⟨gm, om, none⟩ = some (.int .i64 (eat m 0).log) := fun q => by
        have := (hcm q.to q.h 0 hpos).1;rwa [Nat.zero_mul, Nat.add_zero] at this
       have x0 : ∀ q : BelowP w7, q.to.cell? ⟨gl, o + k * 3, none⟩ = some (.int .i64 ya) := fun q => (HCC.out q.to (HKE.out.trans (KeepE.of_below q.h))).1;have HMK : Hid (EntsK B (.slice (some ⟨gm, om, none⟩) m.length cm) m w7) := Lib.hid (EntsK.own hmv);obtain ⟨ml, hmm⟩ : ∃ ml, m.length = ml := ⟨_, rfl⟩;clear b7 DC FL hmv v3 hcm;generalize hll : (eat m 0).log = la at *;rw [hmm] at v1 hpos HMK ⊢;have HMM := Lib.hid hmm;clear hll hmm;by_cases hfl : fl = lf
       ·subst hfl
        by_cases hla : la = ya
        ·have tl : (la == ya) = true := by rw [beq_iff_eq]; exact hla
         have hna := FOK.out (by trivial) (by trivial) hla;have n6 := (nodeA_yes hna).2.2.2.2.2;have HNA := Lib.hid (HNO.out _ _ hna);have HN6 := Lib.hid n6;clear hna FOK FNO HNE HNO n6;by_cases h0 : h = 0
         ·have e1 : fl = true := by rw [← HLF.out, h0]; rfl
          subst e1;rw [if_pos h0] at HNA;clear h0
          go_upto_region 13 with fail
          refine wp_region_quiet_below mixed (by kernel_rfl) ?_
          repeat (go_big_quiet_step (fail))
          refine wpQuiet_nil ?_;intro w0q hw';obtain ⟨⟨wq, bq⟩, hw''⟩ := hw';have hw2 : wq = w0q := hw''.symm;clear hw'';subst hw2;have HKE := Lib.hid (HKE.out.trans (KeepE.of_below (B := B) bq));have HWK := Lib.hid (HWK.out.kept1 bq);have HBS := Lib.hid (Nat.le_trans HBS.out bq.size);have HMK := Lib.hid (HMK.out.kept (KeepE.of_below (B := B) bq));clear bq l0 x0;obtain ⟨v', w2, hrun, K0, K1, K2, K3, r0, r1', r2, f2, wk3⟩ := node_facts HBS.out HWK.out yp (by omega);have HSN := Lib.hid (seen_snoc HINV.out.1 HNS.out HX);have HN2L : Hid ((n1 ++ [yp]).length = n1.length + 1) := Lib.hid (by simp);generalize n1 ++ [yp] = N2 at *;obtain ⟨a2, c2', rfl, -⟩ := shape_of wk3.n;have HRUN := Lib.hid hrun;have HS0 := Lib.hid (HCC.out _ (HKE.out.trans K0)).2.1;have HS1 := Lib.hid (HCC.out _ (HKE.out.trans K1)).2.1;have HS2 := Lib.hid (HCC.out _ (HKE.out.trans K2)).2.1;have HS3 := Lib.hid (HCC.out _ (HKE.out.trans K3)).2.1;have RD0 := Lib.hid r0;have RD1 := Lib.hid r1';have RD2 := Lib.hid r2;have FR2 := Lib.hid f2;have HKE := Lib.hid (HKE.out.trans K3);have HBS := Lib.hid (Nat.le_trans HBS.out K3.size);have HMK := Lib.hid (HMK.out.kept K3);have HWK := Lib.hid wk3;clear hrun K0 K1 K2 K3 r0 r1' r2 f2 wk3;have HF2 := HNA;have HINV2 : Hid (InvW N2 (r1 ++ m)) := Lib.hid ⟨HSN.out, by rw [List.length_append, HN2L.out]; have := HINV.out.2.1; have := HN6.out.2.1; omega, fun x hx => (List.mem_append.1 hx).elim (HINV.out.2.2 x) (node_fit HN6.out x)⟩;have ADD := Lib.hid (rfadd_any HBS.out HWK.out m (by have := HINV.out.2.1; have := HN6.out.2.1; omega) _ HMK.out)
          go_upto_region 15 with fail
          refine wp_region_held_drew (S := fun w9 => w9.cell? ⟨gl, o + k * 3 + 1, none⟩ = some (.int .i64 yp)) mixed HS0.out (fun hHeld => ?_);generalize wq.drew = wd at *;refine tk 0 _ rfl (by intro w9 hSw; clear hSw; go_simp; try with_reducible rfl) hHeld ?_
          try simp only [Act.put, za, zb, zc, zd, ze, zf]
          refine tk 1 _ rfl (by intro w9 hSw; clear hSw; go_simp; try with_reducible rfl) hHeld ?_
          try simp only [Act.put, za, zb, zc, zd, ze, zf]
          refine tk 2 _ rfl (by intro w9 hSw; clear hSw; go_simp; try with_reducible rfl) hHeld ?_
          try simp only [Act.put, za, zb, zc, zd, ze, zf]
          refine tk 3 _ rfl (by intro w9 hSw; clear hSw; go_simp; try with_reducible rfl) hHeld ?_
          try simp only [Act.put, za, zb, zc, zd, ze, zf]
          refine tk 5 _ rfl (by intro w9 hSw; clear hSw; go_simp; try with_reducible rfl) hHeld ?_
          try simp only [Act.put, za, zb, zc, zd, ze, zf]
          refine tk 6 _ rfl (by intro w9 hSw; clear hSw; go_simp; try with_reducible rfl) hHeld ?_
          try simp only [Act.put, za, zb, zc, zd, ze, zf]
          refine tk 7 _ rfl (by intro w9 hSw; clear hSw; go_simp; try with_reducible rfl) hHeld ?_
          try simp only [Act.put, za, zb, zc, zd, ze, zf]
          refine tk 8 _ rfl (by intro w9 hSw; clear hSw; go_simp; try with_reducible rfl) hHeld ?_
          try simp only [Act.put, za, zb, zc, zd, ze, zf]
          refine tk 9 _ rfl (by intro w9 hSw; have e9 := hSw; go_simp; try with_reducible rfl) hHeld ?_
          try simp only [Act.put, za, zb, zc, zd, ze, zf]
          refine wpAnyH_ready (rs := [4, 10]) (by kernel_rfl) (by simp) ?_;refine AllReadyH.cons (o := _) rfl (fun K hK => ?_) ?_
          ·have cr := RD0.out
           go_simp;clear cr;clear hHeld;refine hK.out _ _ (HS0.out) (fun hHeld => ?_);clear hK K
           try simp only [Act.put, za, zb, zc, zd, ze, zf]
           refine wpAnyH_ready (rs := [10]) (by kernel_rfl) (by simp) ?_;refine AllReadyH.cons (o := _) rfl (fun K hK => ?_) ?_
           ·go_simp
            clear hHeld;refine hK.out _ _ (HS1.out) (fun hHeld => ?_);clear hK K
            try simp only [Act.put, za, zb, zc, zd, ze, zf]
            refine wpAnyH_ready (rs := [11]) (by kernel_rfl) (by simp) ?_;refine AllReadyH.cons (o := _) rfl (fun K hK => ?_) ?_
            ·refine step_append rfl _ _ _ rfl rfl rfl HRUN.out ?_
             try go_simp
             clear hHeld;refine hK.out _ _ (HS2.out) (fun hHeld => ?_);clear hK K
             try simp only [Act.put, za, zb, zc, zd, ze, zf]
             refine tk 12 _ rfl (by intro w9 hSw; clear hSw; go_simp; try with_reducible rfl) hHeld ?_
             try simp only [Act.put, za, zb, zc, zd, ze, zf]
             refine tk 13 _ rfl (by intro w9 hSw; clear hSw; go_simp; try with_reducible rfl) hHeld ?_
             try simp only [Act.put, za, zb, zc, zd, ze, zf]
             refine wpAnyH_ready (rs := [14]) (by kernel_rfl) (by simp) ?_;refine AllReadyH.cons (o := _) rfl (fun K hK => ?_) ?_
             ·have cr := RD2.out
              have fr := FR2.out;go_simp;clear cr fr;clear hHeld;refine hK.out _ _ (HS3.out) (fun hHeld => ?_);clear hK K
              try simp only [Act.put, za, zb, zc, zd, ze, zf]
              refine ⟨by kernel_rfl, ?_⟩;clear hHeld;clear HS0 HS1 HS2 HS3 RD0 RD1 RD2 FR2 HRUN;go_wp2_with fail
              refine ADD.out.mono ?_; rintro e w9 ⟨rfl, ⟨vr9, hw9⟩, k9⟩;have HWK := Lib.hid hw9;have HKE := Lib.hid (HKE.out.trans k9);clear hw9 k9 ADD;go_wp2;refine ⟨?_, by simp [intOf]; omega⟩
              repeat apply Exists.intro
              exact ⟨⟨k + 1, _, _, _, _, by go_num, by omega, HF2, HWK, HINV2, HKE⟩, rfl⟩
             exact AllReadyH.nil
            exact AllReadyH.nil
           exact AllReadyH.nil
          refine AllReadyH.cons (o := _) rfl (fun K hK => ?_) ?_
          ·go_simp
           clear hHeld;refine hK.out _ _ (HS1.out) (fun hHeld => ?_);clear hK K
           try simp only [Act.put, za, zb, zc, zd, ze, zf]
           refine wpAnyH_ready (rs := [4]) (by kernel_rfl) (by simp) ?_;refine AllReadyH.cons (o := _) rfl (fun K hK => ?_) ?_
           ·have cr := RD1.out
            go_simp;clear cr;clear hHeld;refine hK.out _ _ (HS1.out) (fun hHeld => ?_);clear hK K
            try simp only [Act.put, za, zb, zc, zd, ze, zf]
            refine wpAnyH_ready (rs := [11]) (by kernel_rfl) (by simp) ?_;refine AllReadyH.cons (o := _) rfl (fun K hK => ?_) ?_
            ·refine step_append rfl _ _ _ rfl rfl rfl HRUN.out ?_
             try go_simp
             clear hHeld;refine hK.out _ _ (HS2.out) (fun hHeld => ?_);clear hK K
             try simp only [Act.put, za, zb, zc, zd, ze, zf]
             refine tk 12 _ rfl (by intro w9 hSw; clear hSw; go_simp; try with_reducible rfl) hHeld ?_
             try simp only [Act.put, za, zb, zc, zd, ze, zf]
             refine tk 13 _ rfl (by intro w9 hSw; clear hSw; go_simp; try with_reducible rfl) hHeld ?_
             try simp only [Act.put, za, zb, zc, zd, ze, zf]
             refine wpAnyH_ready (rs := [14]) (by kernel_rfl) (by simp) ?_;refine AllReadyH.cons (o := _) rfl (fun K hK => ?_) ?_
             ·have cr := RD2.out
              have fr := FR2.out;go_simp;clear cr fr;clear hHeld;refine hK.out _ _ (HS3.out) (fun hHeld => ?_);clear hK K
              try simp only [Act.put, za, zb, zc, zd, ze, zf]
              refine ⟨by kernel_rfl, ?_⟩;clear hHeld;clear HS0 HS1 HS2 HS3 RD0 RD1 RD2 FR2 HRUN;go_wp2_with fail
              refine ADD.out.mono ?_; rintro e w9 ⟨rfl, ⟨vr9, hw9⟩, k9⟩;have HWK := Lib.hid hw9;have HKE := Lib.hid (HKE.out.trans k9);clear hw9 k9 ADD;go_wp2;refine ⟨?_, by simp [intOf]; omega⟩
              repeat apply Exists.intro
              exact ⟨⟨k + 1, _, _, _, _, by go_num, by omega, HF2, HWK, HINV2, HKE⟩, rfl⟩
             exact AllReadyH.nil
            exact AllReadyH.nil
           exact AllReadyH.nil
          exact AllReadyH.nil
         ·have e1 : fl = false := by rw [← HLF.out]; simpa using h0
          subst e1;rw [if_neg h0] at HNA;have HIH := Lib.hid (HIH.out.resolve_left h0);clear h0
          go_upto_region 13 with fail
          refine wp_region_quiet_below mixed (by kernel_rfl) ?_
          repeat (go_big_quiet_step (fail))
          refine wpQuiet_nil ?_;intro w0q hw';obtain ⟨⟨wq, bq⟩, hw''⟩ := hw';have hw2 : wq = w0q := hw''.symm;clear hw'';subst hw2;have HKE := Lib.hid (HKE.out.trans (KeepE.of_below (B := B) bq));have HWK := Lib.hid (HWK.out.kept1 bq);have HBS := Lib.hid (Nat.le_trans HBS.out bq.size);have HMK := Lib.hid (HMK.out.kept (KeepE.of_below (B := B) bq));clear bq l0 x0;obtain ⟨v', w2, hrun, K0, K1, K2, K3, r0, r1', r2, f2, wk3⟩ := node_facts HBS.out HWK.out yp (by omega);have HSN := Lib.hid (seen_snoc HINV.out.1 HNS.out HX);have HN2L : Hid ((n1 ++ [yp]).length = n1.length + 1) := Lib.hid (by simp);generalize n1 ++ [yp] = N2 at *;obtain ⟨a2, c2', rfl, -⟩ := shape_of wk3.n;have HRUN := Lib.hid hrun;have HS0 := Lib.hid (HCC.out _ (HKE.out.trans K0)).2.1;have HS1 := Lib.hid (HCC.out _ (HKE.out.trans K1)).2.1;have HS2 := Lib.hid (HCC.out _ (HKE.out.trans K2)).2.1;have HS3 := Lib.hid (HCC.out _ (HKE.out.trans K3)).2.1;have RD0 := Lib.hid r0;have RD1 := Lib.hid r1';have RD2 := Lib.hid r2;have FR2 := Lib.hid f2;have HKE := Lib.hid (HKE.out.trans K3);have HBS := Lib.hid (Nat.le_trans HBS.out K3.size);have HMK := Lib.hid (HMK.out.kept K3);have HWK := Lib.hid wk3;clear hrun K0 K1 K2 K3 r0 r1' r2 f2 wk3;have HDW := Lib.hid (HD.out.eq_block HKE.out.size ((HKE.out.below hBw).block g hg));have REC := Lib.hid (HIH.out m _ N2 r1 _ _ _ HBS.out HDW.out HWK.out HMK.out ⟨HSN.out, by rw [HN2L.out]; have := HINV.out.2.1; omega, HINV.out.2.2⟩ ⟨node_fit HN6.out, node_phys HN6.out⟩)
          go_upto_region 15 with fail
          refine wp_region_held_drew (S := fun w9 => w9.cell? ⟨gl, o + k * 3 + 1, none⟩ = some (.int .i64 yp)) mixed HS0.out (fun hHeld => ?_);generalize wq.drew = wd at *;refine tk 0 _ rfl (by intro w9 hSw; clear hSw; go_simp; try with_reducible rfl) hHeld ?_
          try simp only [Act.put, za, zb, zc, zd, ze, zf]
          refine tk 1 _ rfl (by intro w9 hSw; clear hSw; go_simp; try with_reducible rfl) hHeld ?_
          try simp only [Act.put, za, zb, zc, zd, ze, zf]
          refine tk 2 _ rfl (by intro w9 hSw; clear hSw; go_simp; try with_reducible rfl) hHeld ?_
          try simp only [Act.put, za, zb, zc, zd, ze, zf]
          refine tk 3 _ rfl (by intro w9 hSw; clear hSw; go_simp; try with_reducible rfl) hHeld ?_
          try simp only [Act.put, za, zb, zc, zd, ze, zf]
          refine tk 5 _ rfl (by intro w9 hSw; clear hSw; go_simp; try with_reducible rfl) hHeld ?_
          try simp only [Act.put, za, zb, zc, zd, ze, zf]
          refine tk 6 _ rfl (by intro w9 hSw; clear hSw; go_simp; try with_reducible rfl) hHeld ?_
          try simp only [Act.put, za, zb, zc, zd, ze, zf]
          refine tk 7 _ rfl (by intro w9 hSw; clear hSw; go_simp; try with_reducible rfl) hHeld ?_
          try simp only [Act.put, za, zb, zc, zd, ze, zf]
          refine tk 8 _ rfl (by intro w9 hSw; clear hSw; go_simp; try with_reducible rfl) hHeld ?_
          try simp only [Act.put, za, zb, zc, zd, ze, zf]
          refine tk 9 _ rfl (by intro w9 hSw; have e9 := hSw; go_simp; try with_reducible rfl) hHeld ?_
          try simp only [Act.put, za, zb, zc, zd, ze, zf]
          refine wpAnyH_ready (rs := [4, 10]) (by kernel_rfl) (by simp) ?_;refine AllReadyH.cons (o := _) rfl (fun K hK => ?_) ?_
          ·have cr := RD0.out
           go_simp;clear cr;clear hHeld;refine hK.out _ _ (HS0.out) (fun hHeld => ?_);clear hK K
           try simp only [Act.put, za, zb, zc, zd, ze, zf]
           refine wpAnyH_ready (rs := [10]) (by kernel_rfl) (by simp) ?_;refine AllReadyH.cons (o := _) rfl (fun K hK => ?_) ?_
           ·go_simp
            clear hHeld;refine hK.out _ _ (HS1.out) (fun hHeld => ?_);clear hK K
            try simp only [Act.put, za, zb, zc, zd, ze, zf]
            refine wpAnyH_ready (rs := [11]) (by kernel_rfl) (by simp) ?_;refine AllReadyH.cons (o := _) rfl (fun K hK => ?_) ?_
            ·refine step_append rfl _ _ _ rfl rfl rfl HRUN.out ?_
             try go_simp
             clear hHeld;refine hK.out _ _ (HS2.out) (fun hHeld => ?_);clear hK K
             try simp only [Act.put, za, zb, zc, zd, ze, zf]
             refine tk 12 _ rfl (by intro w9 hSw; clear hSw; go_simp; try with_reducible rfl) hHeld ?_
             try simp only [Act.put, za, zb, zc, zd, ze, zf]
             refine tk 13 _ rfl (by intro w9 hSw; clear hSw; go_simp; try with_reducible rfl) hHeld ?_
             try simp only [Act.put, za, zb, zc, zd, ze, zf]
             refine wpAnyH_ready (rs := [14]) (by kernel_rfl) (by simp) ?_;refine AllReadyH.cons (o := _) rfl (fun K hK => ?_) ?_
             ·have cr := RD2.out
              have fr := FR2.out;go_simp;clear cr fr;clear hHeld;refine hK.out _ _ (HS3.out) (fun hHeld => ?_);clear hK K
              try simp only [Act.put, za, zb, zc, zd, ze, zf]
              refine ⟨by kernel_rfl, ?_⟩;clear hHeld;clear HS0 HS1 HS2 HS3 RD0 RD1 RD2 FR2 HRUN;go_wp2_with fail
              refine REC.out.mono ?_; rintro e w9 ⟨k9, h9⟩;have HKE := Lib.hid (HKE.out.trans k9);clear REC k9
              cases hta : walkA (rdOf F bad) h m (N2, r1) with
              | error c =>
                rw [hta] at h9;obtain ⟨rfl, n2⟩ := h9;have HE : Hid (walkA (rdOf F bad) (h + 1) l (n, r) = .error c) := Lib.hid (HCR.out c (by rw [HNA.out, hta]))
                have te : (c == 0) = false := by rw [beq_eq_false_iff_ne]; exact n2
                clear hta;go_wp2;go_ret;unfold WEnd;rw [HE.out];exact ⟨HKE.out, rfl, n2⟩
              | ok q2 =>
                obtain ⟨n2, r2⟩ := q2;rw [hta] at h9;obtain ⟨rfl, ⟨vn9, vr9, hw9⟩, hin⟩ := h9;have HF2 : Hid ((l.take (k + 1)).foldlM (walkF (rdOf F bad) h) (n, r) = .ok (n2, r2)) := Lib.hid (by rw [HNA.out, hta]);have HWK := Lib.hid hw9;have HINV2 := Lib.hid hin;clear hta hw9 hin;go_wp2;refine ⟨?_, by simp [intOf]; omega⟩
                repeat apply Exists.intro
                exact ⟨⟨k + 1, _, _, _, _, by go_num, by omega, HF2, HWK, HINV2, HKE⟩, rfl⟩
             exact AllReadyH.nil
            exact AllReadyH.nil
           exact AllReadyH.nil
          refine AllReadyH.cons (o := _) rfl (fun K hK => ?_) ?_
          ·go_simp
           clear hHeld;refine hK.out _ _ (HS1.out) (fun hHeld => ?_);clear hK K
           try simp only [Act.put, za, zb, zc, zd, ze, zf]
           refine wpAnyH_ready (rs := [4]) (by kernel_rfl) (by simp) ?_;refine AllReadyH.cons (o := _) rfl (fun K hK => ?_) ?_
           ·have cr := RD1.out
            go_simp;clear cr;clear hHeld;refine hK.out _ _ (HS1.out) (fun hHeld => ?_);clear hK K
            try simp only [Act.put, za, zb, zc, zd, ze, zf]
            refine wpAnyH_ready (rs := [11]) (by kernel_rfl) (by simp) ?_;refine AllReadyH.cons (o := _) rfl (fun K hK => ?_) ?_
            ·refine step_append rfl _ _ _ rfl rfl rfl HRUN.out ?_
             try go_simp
             clear hHeld;refine hK.out _ _ (HS2.out) (fun hHeld => ?_);clear hK K
             try simp only [Act.put, za, zb, zc, zd, ze, zf]
             refine tk 12 _ rfl (by intro w9 hSw; clear hSw; go_simp; try with_reducible rfl) hHeld ?_
             try simp only [Act.put, za, zb, zc, zd, ze, zf]
             refine tk 13 _ rfl (by intro w9 hSw; clear hSw; go_simp; try with_reducible rfl) hHeld ?_
             try simp only [Act.put, za, zb, zc, zd, ze, zf]
             refine wpAnyH_ready (rs := [14]) (by kernel_rfl) (by simp) ?_;refine AllReadyH.cons (o := _) rfl (fun K hK => ?_) ?_
             ·have cr := RD2.out
              have fr := FR2.out;go_simp;clear cr fr;clear hHeld;refine hK.out _ _ (HS3.out) (fun hHeld => ?_);clear hK K
              try simp only [Act.put, za, zb, zc, zd, ze, zf]
              refine ⟨by kernel_rfl, ?_⟩;clear hHeld;clear HS0 HS1 HS2 HS3 RD0 RD1 RD2 FR2 HRUN;go_wp2_with fail
              refine REC.out.mono ?_; rintro e w9 ⟨k9, h9⟩;have HKE := Lib.hid (HKE.out.trans k9);clear REC k9
              cases hta : walkA (rdOf F bad) h m (N2, r1) with
              | error c =>
                rw [hta] at h9;obtain ⟨rfl, n2⟩ := h9;have HE : Hid (walkA (rdOf F bad) (h + 1) l (n, r) = .error c) := Lib.hid (HCR.out c (by rw [HNA.out, hta]))
                have te : (c == 0) = false := by rw [beq_eq_false_iff_ne]; exact n2
                clear hta;go_wp2;go_ret;unfold WEnd;rw [HE.out];exact ⟨HKE.out, rfl, n2⟩
              | ok q2 =>
                obtain ⟨n2, r2⟩ := q2;rw [hta] at h9;obtain ⟨rfl, ⟨vn9, vr9, hw9⟩, hin⟩ := h9;have HF2 : Hid ((l.take (k + 1)).foldlM (walkF (rdOf F bad) h) (n, r) = .ok (n2, r2)) := Lib.hid (by rw [HNA.out, hta]);have HWK := Lib.hid hw9;have HINV2 := Lib.hid hin;clear hta hw9 hin;go_wp2;refine ⟨?_, by simp [intOf]; omega⟩
                repeat apply Exists.intro
                exact ⟨⟨k + 1, _, _, _, _, by go_num, by omega, HF2, HWK, HINV2, HKE⟩, rfl⟩
             exact AllReadyH.nil
            exact AllReadyH.nil
           exact AllReadyH.nil
          exact AllReadyH.nil
        ·have tl : (la == ya) = false := by rw [beq_eq_false_iff_ne]; exact hla
         have HE := Lib.hid (HNE.out _ (FNO.out (.inr (.inr hla))));clear FOK FNO HNE HNO
         cases fl
         all_goals
          go_upto_region 13 with fail
          refine wp_region_quiet_below mixed (by kernel_rfl) ?_
          repeat (go_big_quiet_step (fail))
          refine wpQuiet_nil ?_;intro w0q hw';obtain ⟨⟨wq, bq⟩, hw''⟩ := hw';have hw2 : wq = w0q := hw''.symm;clear hw'';subst hw2;have HKQ := Lib.hid (HKE.out.trans (KeepE.of_below (B := B) bq));go_wp2;go_ret;unfold WEnd;rw [HE.out];exact ⟨HKQ.out, rfl, by decide⟩
       ·have HE := Lib.hid (HNE.out _ (FNO.out (.inr (.inl hfl))))
        clear FOK FNO HNE HNO
        cases fl <;> cases lf
        case false.false => exact absurd rfl hfl
        case true.true => exact absurd rfl hfl
        all_goals
         clear hfl
         go_upto_region 13 with fail
         refine wp_region_quiet_below mixed (by kernel_rfl) ?_
         repeat (go_big_quiet_step (fail))
         refine wpQuiet_nil ?_;intro w0q hw';obtain ⟨⟨wq, bq⟩, hw''⟩ := hw';have hw2 : wq = w0q := hw''.symm;clear hw'';subst hw2;have HKQ := Lib.hid (HKE.out.trans (KeepE.of_below (B := B) bq));go_wp2;go_ret;unfold WEnd;rw [HE.out];exact ⟨HKQ.out, rfl, by decide⟩
      ·rw [hD] at FNO FOK FL DC
       have HE := Lib.hid (HNE.out _ (FNO.out (.inl (by decide))));clear hD FNO FOK FL HNE HNO HSE HRS;go_wp2_with fail
       refine DC.out.mono ?_; rintro e w7 ⟨mv, rfl, hmv, b7⟩;have HKE := Lib.hid (HKE.out.trans (KeepE.of_below b7));clear b7 DC hmv
       go_upto_region 13 with fail
       refine wp_region_quiet_below mixed (by kernel_rfl) ?_
       repeat (go_big_quiet_step (fail))
       refine wpQuiet_nil ?_;intro w0q hw';obtain ⟨⟨wq, bq⟩, hw''⟩ := hw';have hw2 : wq = w0q := hw''.symm;clear hw'';subst hw2;have HKQ := Lib.hid (HKE.out.trans (KeepE.of_below (B := B) bq));go_wp2;go_ret;unfold WEnd;rw [HE.out];exact ⟨HKQ.out, rfl, by decide⟩
     ·have tE : (E == 0) = false := by rw [beq_eq_false_iff_ne]; exact hE
      have HE : Hid (walkA (rdOf F bad) (h + 1) l (n, r) = .error E) := Lib.hid (HNE.out _ (by
       unfold nodeA;rw [if_neg HNS.out, if_pos (by show (rdOf F bad yp).2 ≠ 0; rw [HSE.out]; exact hE)]
       show Except.error (rdOf F bad yp).2 = _
       rw [HSE.out]))
      clear HNE HNO HSE HRS;go_wp2;go_ret;unfold WEnd;rw [HE.out];exact ⟨HKE.out, rfl, hE⟩
  ·obtain rfl : k = l.length := by omega
   have HE : Hid (walkA (rdOf F bad) (h + 1) l (n, r) = .ok (n1, r1)) := Lib.hid (by rw [HWA.out, ← HF.out, List.take_length]);clear HF;go_wp2;go_ret;unfold WEnd;rw [HE.out];exact ⟨HKE.out, rfl, ⟨_, _, HWK.out⟩, HINV.out⟩
open Go.RowKit
theorem rfwalk_all (cb B R g : Nat) (F : Nat → ByteArray) (hF : ∀ k, (F k).size ≤ 1000) (bad : Int) (hg : g < B) : ∀ h : Nat, h ≤ 1000 → Walks cb B R g F bad (h + 1)
 | 0, hh => rfwalk_step cb B R g F hF bad hg 0 hh (.inl rfl)
 | h + 1, hh => rfwalk_step cb B R g F hF bad hg (h + 1) hh (.inr (rfwalk_all cb B R g F hF bad hg h (by omega)))
theorem xrcheck_long (l : List Ent) (hf : fitE l) (hl : l.length ≤ 100000) (v : Value) (w : World) (hv : EntsIn v l w) :
 Calls Tryz.prog 53 #[v] w fun e w' => e = .returned (.bool (decide (RowOk true l))) ∧ Below w.heap.size w w' := by
 obtain ⟨ad, cap, rfl, c1, c2, c3, -⟩ := entsIn_cells hv
 have mixed : Tryz.prog.follows .mixedOrders = true := by kernel_rfl
 have H3 := Lib.hid c3;have V := Lib.hid fun v w hv => rrow_any true l hf v w hv
 have HT : Hid (∀ k, k < l.length → l.take (k + 1) = l.take k ++ [eat l k]) := Lib.hid fun k hk => by rw [List.take_succ_eq_append_getElem hk, eat_eq hk]
 have HF : Hid (l.take l.length = l) := Lib.hid (List.take_length);clear c3 hv
 go_enter Tryz.func53, Tryz.ntmps53
 go_wp2
 go_loopw [3, 4] (fun vo p wr => ∃ (k : Nat) (out : List Ent), p = .int .i64 k ∧ k ≤ l.length ∧ out.length ≤ k ∧ Hid (out = l.take k) ∧ EntsAt w.heap.size vo out wr ∧ Below w.heap.size w wr) (fun _ p _ => l.length - (intOf p).toNat)
 case atStart => exact ⟨0, [], rfl, Nat.zero_le _, Nat.le_refl _, Lib.hid rfl, World.ownsRow_nil _ _ _ _, Below.refl _ _⟩
 case round =>
  obtain ⟨k, out, rfl, hk, hol, HR, hown, hb⟩ := hrel;by_cases hlt : k < l.length
  ·obtain ⟨g, o, rfl, hg, hc⟩ := H3.out (by omega)
   have k0 := fun p : BelowP wr => (hc p.to (hb.trans (p.h.mono hb.size)) k hlt).1;have k1 := fun p : BelowP wr => (hc p.to (hb.trans (p.h.mono hb.size)) k hlt).2.1;have k2 := fun p : BelowP wr => (hc p.to (hb.trans (p.h.mono hb.size)) k hlt).2.2;have HR2 : Hid (out ++ [eat l k] = l.take (k + 1)) := Lib.hid (by rw [HT.out k hlt, HR.out]);clear hc;generalize eat l k = yk at *;obtain ⟨ea, ep, ez⟩ := yk;dsimp only at *;clear V HT H3 HR;go_wp2;refine wp_region_mix 17 mixed (by kernel_rfl) (v := ?vmix1) rfl (fun _ _ _ h => h) (Or.inl ⟨by kernel_rfl, ?hymix1⟩) ?restmix1
   case hymix1 => (intro w9 _; go_simp; try with_reducible rfl)
   simp only [List.take_succ_cons, List.take_zero, List.drop_succ_cons, List.drop_zero]
   try simp only [Act.put, List.setIfInBounds_toArray, List.set_cons_zero, List.set_cons_succ]
   repeat (go_big_quiet_step (fail))
   refine wpQuiet_nil ?_;intro w0q hw';obtain ⟨⟨wq, bq⟩, hw''⟩ := hw';have hw2 : wq = w0q := hw''.symm;clear hw'';subst hw2;have hb2 := bnext hb bq;have hown2 := row_kept hown bq;have hs2 := hb2.size;have hI : EntsIn (.slice (some ⟨wq.heap.size, 0, none⟩) 1 1) [⟨ea, ep, ez⟩] (wq.alloc (.cells #[.int .i64 ea, .int .i64 ep, .int .i64 ez] 31)) := lit_inE wq [⟨ea, ep, ez⟩] _ (by simp) rfl;clear hb hown k0 k1 k2
   go_wp2_with (at_builtin; refine wpList_appE rfl _ _ 22 31 rfl Tryz.underlying22 entry_info w.heap.size _ out rfl (hown2.alloc _) _ [⟨ea, ep, ez⟩] rfl hI (by simp; omega) (by rw [size_alloc]; omega) ?_)
   intro v' w4 h4 g4;have hb4 := (balloc hb2 _).trans (below_of_row (hown2.alloc _) g4 (by rw [size_alloc]; omega));clear hown2 g4 hb2 hI;go_wp2;exact ⟨⟨k + 1, _, by go_num, by omega, by simp; omega, HR2, ents_snoc h4, hb4⟩, by simp [intOf]; omega⟩
  ·obtain rfl : k = l.length := by omega
   rw [HR.out, HF.out] at hown;have hI := Lib.hid (entsAt_in hown);obtain ⟨ad2, cap2, rfl, -⟩ := shape_of hown;clear hown;go_wp2_with fail
   refine (V.out _ _ hI.out).mono ?_; rintro e w1 ⟨rfl, b1⟩;go_wp2;go_ret;exact ⟨rfl, bnext hb b1⟩
open Go.RowKit
def startA (rd : Rd) (depth : Int) (root : List Ent) : Except Int (List Int × List Ent) := if depth = 0 then .ok ([], root) else walkA rd depth.toNat root ([], [])
def docA (rd : Rd) (depth : Int) (root : List Ent) : Except Int (List Ent × List Int) :=
 if RootedA depth root then
  match startA rd depth root with
  | .error c => .error c
  | .ok (n, r) => if RowOk true r ∧ hitA r n = false then .ok (r, riseTo n 4096) else .error 80
 else .error 80
theorem hit_no {r : List Ent} {n : List Int} (h : ∀ j, (hj : j < n.length) → takenA r n[j] = false) : hitA r n = false := by
 rw [hit_taken, List.any_eq_false];intro b hb;obtain ⟨j, hj, rfl⟩ := List.mem_iff_getElem.1 hb;rw [h j hj]; simp
theorem hit_yes {r : List Ent} {n : List Int} {j : Nat} (hj : j < n.length) (h : takenA r n[j] = true) : hitA r n = true := by
 rw [hit_taken, List.any_eq_true];exact ⟨_, List.getElem_mem hj, h⟩
open Go.RowKit Go.Shelf
theorem nums_push0 (S : Shp) (m : List Ent) : numsA (pushA S 0 m) = numsA S := by
 have h : ∀ k, numsTo (pushA S 0 m) k = numsTo S k := fun k => by
  induction k with
  | zero => rfl
  | succ k ih => rw [numsTo_succ, numsTo_succ, ih]; unfold headsA; rw [rowA_push_ne S (by omega)]
 rw [← numsTo_all, ← numsTo_all, pushA_len]; exact h _
theorem nums_push (S : Shp) (r : Nat) (hr : r + 1 < S.length) (m : List Ent) : (numsA (pushA S (r + 1) m)).Perm (numsA S ++ m.map Ent.phys) := by
 have h : ∀ k, (numsTo (pushA S (r + 1) m) k).Perm (numsTo S k ++ if r < k then m.map Ent.phys else []) := fun k => by
  induction k with
  | zero => simp [numsTo]
  | succ k ih =>
    rw [numsTo_succ, numsTo_succ];by_cases e : k = r
    ·subst e
     have e1 : headsA (pushA S (k + 1) m) k = headsA S k ++ m := by unfold headsA; rw [rowA_push hr, List.flatten_append]; simp
     rw [e1, List.map_append, if_pos (Nat.lt_succ_self k)];rw [if_neg (Nat.lt_irrefl k), List.append_nil] at ih;rw [← List.append_assoc];exact (ih.append_right _).append_right _
    ·have e1 : headsA (pushA S (r + 1) m) k = headsA S k := by unfold headsA; rw [rowA_push_ne S (by omega)]
     rw [e1];by_cases q : r < k
     ·rw [if_pos q] at ih
      rw [if_pos (by omega)];refine (ih.append_right _).trans ?_;rw [List.append_assoc, List.append_assoc];exact List.Perm.append_left _ List.perm_append_comm
     ·rw [if_neg q, List.append_nil] at ih
      rw [if_neg (by omega), List.append_nil];exact ih.append_right _
 rw [← numsTo_all, ← numsTo_all, pushA_len];have := h S.length;rwa [if_pos (by omega)] at this
structure Side (D : Nat) (p : List Int) (S : Shp) (seen n : List Int) (row : List Ent) : Prop where
 len : S.length = D
 list : listA S = row
 seen : ∀ b, b ∈ seen ↔ b ∈ n
 nums : (numsA S).Perm (n ++ p)
def Sides (D : Nat) (p : List Int) : Except Int (Shp × List Int) → Except Int (List Int × List Ent) → Prop
 | .error a, .error b => a = b
 | .ok (S, seen), .ok (n, row) => Side D p S seen n row
 | _, _ => False
theorem nodeA_side {rd : Rd} {x : Ent} {leaf : Bool} {s t : List Int} (h : ∀ b, b ∈ s ↔ b ∈ t) : (∃ c, nodeA rd x leaf s = .error c ∧ nodeA rd x leaf t = .error c) ∨ (∃ m, nodeA rd x leaf s = .ok (m, x.phys :: s) ∧ nodeA rd x leaf t = .ok (m, x.phys :: t)) := by
 unfold nodeA;by_cases h1 : x.phys ∈ s
 ·rw [if_pos h1, if_pos ((h _).1 h1)]; exact .inl ⟨_, rfl, rfl⟩
 ·rw [if_neg h1, if_neg fun q => h1 ((h _).2 q)]
  by_cases h2 : (rd x.phys).2 ≠ 0
  ·rw [if_pos h2, if_pos h2]; exact .inl ⟨_, rfl, rfl⟩
  ·rw [if_neg h2, if_neg h2]
   cases decN (rd x.phys).1 with
   | none => exact .inl ⟨_, rfl, rfl⟩
   | some q =>
     obtain ⟨m, is⟩ := q;by_cases h3 : is = leaf ∧ (eat m 0).log = x.log
     ·exact .inr ⟨m, if_pos h3, if_pos h3⟩
     ·exact .inl ⟨80, if_neg h3, if_neg h3⟩
theorem list_push0 {S : Shp} (h : 0 < S.length) (m : List Ent) : listA (pushA S 0 m) = listA S ++ m := by
 unfold listA; rw [rowA_push h, List.flatten_append]; simp
theorem list_push (S : Shp) (r : Nat) (m : List Ent) : listA (pushA S (r + 1) m) = listA S := by
 unfold listA; rw [rowA_push_ne S (by omega)]
theorem side_take (rd : Rd) (D : Nat) : ∀ (r : Nat), r < D → ∀ (m : List Ent) (p : List Int) (S : Shp) (seen n : List Int) (row : List Ent), Side D p S seen n row → Sides D p (takeA rd r m (S, seen)) (if r = 0 then .ok (n, row ++ m) else walkA rd r m (n, row))
 | 0, hr, m, p, S, seen, n, row, h => by
   rw [if_pos rfl]
   show Side D p (pushA S 0 m) seen n (row ++ m)
   exact ⟨by rw [pushA_len]; exact h.len, by rw [list_push0 (by rw [h.len]; exact hr), h.list], h.seen, by rw [nums_push0]; exact h.nums⟩
 | r + 1, hr, m, p, S, seen, n, row, h => by
   rw [if_neg (by omega), takeA_succ, walkA_succ]
   have key : ∀ (l : List Ent) (S : Shp) (seen n : List Int) (row : List Ent), Side D (l.map Ent.phys ++ p) S seen n row → Sides D p (l.foldlM (takeF rd r) (S, seen)) (l.foldlM (walkF rd r) (n, row)) := by
    intro l
    induction l with
    | nil => intro S seen n row h; exact h
    | cons x l ih =>
      intro S seen n row h;rw [List.foldlM_cons, List.foldlM_cons];rcases nodeA_side (rd := rd) (x := x) (leaf := r == 0) h.seen with ⟨c, e1, e2⟩ | ⟨y, e1, e2⟩
      ·have f1 : takeF rd r (S, seen) x = .error c := by show (match nodeA rd x (r == 0) seen with | .error e => Except.error e | .ok (m, seen) => takeA rd r m (S, seen)) = _; rw [e1]
       have f2 : walkF rd r (n, row) x = .error c := by show (match nodeA rd x (r == 0) n with | .error e => Except.error e | .ok (m, _) => if r = 0 then .ok (n ++ [x.phys], row ++ m) else walkA rd r m (n ++ [x.phys], row)) = _; rw [e2]
       rw [f1, f2]; exact rfl
      ·have f1 : takeF rd r (S, seen) x = takeA rd r y (S, x.phys :: seen) := by show (match nodeA rd x (r == 0) seen with | .error e => Except.error e | .ok (m, seen) => takeA rd r m (S, seen)) = _; rw [e1]
       have f2 : walkF rd r (n, row) x = if r = 0 then .ok (n ++ [x.phys], row ++ y) else walkA rd r y (n ++ [x.phys], row) := by show (match nodeA rd x (r == 0) n with | .error e => Except.error e | .ok (m, _) => if r = 0 then .ok (n ++ [x.phys], row ++ m) else walkA rd r m (n ++ [x.phys], row)) = _; rw [e2]
       have hs : Side D (l.map Ent.phys ++ p) S (x.phys :: seen) (n ++ [x.phys]) row := ⟨h.len, h.list, fun b => by rw [List.mem_cons, List.mem_append, List.mem_singleton, h.seen b]; exact Or.comm, by
        have := h.nums;rw [List.map_cons, List.cons_append] at this
        rw [List.append_assoc]; exact this⟩
       have k := side_take rd D r (by omega) y _ S (x.phys :: seen) (n ++ [x.phys]) row hs;rw [f1, f2]
       revert k
       cases takeA rd r y (S, x.phys :: seen) with
       | error a =>
         cases (if r = 0 then Except.ok (n ++ [x.phys], row ++ y) else walkA rd r y (n ++ [x.phys], row) : Except Int (List Int × List Ent)) with
         | error b => intro k; exact k
         | ok q => intro k; exact k.elim
       | ok q1 =>
         cases (if r = 0 then Except.ok (n ++ [x.phys], row ++ y) else walkA rd r y (n ++ [x.phys], row) : Except Int (List Int × List Ent)) with
         | error b => intro k; exact k.elim
         | ok q2 => intro k; exact ih _ _ _ _ k
   exact key m _ _ _ _ ⟨by rw [pushA_len]; exact h.len, by rw [list_push]; exact h.list, h.seen, by
    refine (nums_push S r (by rw [h.len]; exact hr) m).trans ?_;refine (h.nums.append_right _).trans ?_;rw [List.append_assoc]
    exact List.Perm.append_left _ List.perm_append_comm⟩
open Go.RowKit Go.Shelf
theorem nums_repl (D : Nat) : numsA (List.replicate D ([] : List (List Ent))) = [] := by
 have h : ∀ k, numsTo (List.replicate D ([] : List (List Ent))) k = [] := fun k => by
  induction k with
  | zero => rfl
  | succ k ih => rw [numsTo_succ, ih]; unfold headsA; rw [rowA_repl]; rfl
 rw [← numsTo_all]; exact h _
theorem walk_seen (rd : Rd) : ∀ (h : Nat) (m : List Ent) (n : List Int) (row : List Ent) (n' : List Int) (row' : List Ent), SeenOk n → (∀ x ∈ m, 0 ≤ x.phys ∧ x.phys < 4096) → walkA rd h m (n, row) = .ok (n', row') → SeenOk n'
 | 0, m, n, row, n', row', hs, hp, h => by
   rw [walkA] at h
   injection h with h
   injection h with h1 h2
   rw [← h1]; exact hs
 | h + 1, m, n, row, n', row', hs, hp, hw => by
   rw [walkA_succ] at hw
   induction m generalizing n row with
   | nil =>
     have hw : (Except.ok (n, row) : Except Int (List Int × List Ent)) = .ok (n', row') := hw
     injection hw with hw
     injection hw with h1 h2
     rw [← h1]; exact hs
   | cons x m ih =>
     rw [List.foldlM_cons] at hw
     cases e : nodeA rd x (h == 0) n with
     | error c =>
       have f : walkF rd h (n, row) x = .error c := by show (match nodeA rd x (h == 0) n with | .error e => Except.error e | .ok (m, _) => if h = 0 then .ok (n ++ [x.phys], row ++ m) else walkA rd h m (n ++ [x.phys], row)) = _; rw [e]
       rw [f] at hw
       cases hw
     | ok q =>
       obtain ⟨y, sn⟩ := q;obtain ⟨-, -, -, n4, -, n6⟩ := nodeA_yes e
       have f : walkF rd h (n, row) x = if h = 0 then .ok (n ++ [x.phys], row ++ y) else walkA rd h y (n ++ [x.phys], row) := by show (match nodeA rd x (h == 0) n with | .error e => Except.error e | .ok (m, _) => if h = 0 then .ok (n ++ [x.phys], row ++ m) else walkA rd h m (n ++ [x.phys], row)) = _; rw [e]
       have hs2 := seen_snoc hs n4 (hp x (List.mem_cons_self ..));rw [f] at hw;by_cases h0 : h = 0
       ·rw [if_pos h0] at hw
        exact ih _ _ hs2 (fun z hz => hp z (List.mem_cons_of_mem _ hz)) hw
       ·rw [if_neg h0] at hw
        cases e2 : walkA rd h y (n ++ [x.phys], row) with
        | error c => rw [e2] at hw; cases hw
        | ok q =>
          obtain ⟨n2, row2⟩ := q;rw [e2] at hw
          have hb : (h == 0) = false := by simpa using h0
          rw [hb] at n6;exact ih _ _ (walk_seen rd h y _ _ _ _ hs2 (node_phys n6) e2) (fun z hz => hp z (List.mem_cons_of_mem _ hz)) hw
theorem hit_perm {l : List Ent} {a b : List Int} (h : a.Perm b) : hitA l a = hitA l b := by
 unfold hitA;rw [Bool.eq_iff_iff, List.any_eq_true, List.any_eq_true];exact ⟨fun ⟨x, hx, k⟩ => ⟨x, h.mem_iff.1 hx, k⟩, fun ⟨x, hx, k⟩ => ⟨x, h.mem_iff.2 hx, k⟩⟩
def saysA (a : Except Int Shp) : Except Int (List Ent × List Int) := match a with
 | .error c => .error c
 | .ok S => .ok (listA S, sortI (numsA S))
theorem doc_load (rd : Rd) (depth : Int) (root : List Ent) : docA rd depth root = saysA (loadA rd false depth root) := by
 unfold docA loadA;by_cases hok : RootedA depth root
 ·rw [if_pos hok, if_pos ⟨hok, .inr rfl⟩]
  have hd := (rooted_iff depth root).1 hok;have h0 : Side (depth.toNat + 1) [] (List.replicate (depth.toNat + 1) []) [] [] [] := ⟨List.length_replicate, by unfold listA; rw [rowA_repl]; rfl, fun b => Iff.rfl, by rw [nums_repl]; exact List.Perm.refl _⟩;have hside := side_take rd (depth.toNat + 1) depth.toNat (Nat.lt_succ_self _) root [] _ _ _ _ h0
  have hst : (if depth.toNat = 0 then Except.ok ([], [] ++ root) else walkA rd depth.toNat root ([], []) : Except Int (List Int × List Ent)) = startA rd depth root := by
   unfold startA;by_cases e : depth = 0
   ·rw [if_pos e, if_pos (by omega)]; rfl
   ·rw [if_neg e, if_neg (by have := hd.1; omega)]
  rw [hst] at hside
  have hseen : ∀ n r, startA rd depth root = .ok (n, r) → SeenOk n := fun n r h => by
   unfold startA at h;by_cases e : depth = 0
   ·rw [if_pos e] at h
    injection h with h
    injection h with h1 h2
    rw [← h1]; exact ⟨List.nodup_nil, fun b hb => by cases hb⟩
   ·rw [if_neg e] at h
    exact walk_seen rd _ _ _ _ _ _ ⟨List.nodup_nil, fun b hb => by cases hb⟩ ((rooted_phys hok).resolve_left (by have := hd.1; omega)) h
  revert hside hseen
  cases takeA rd depth.toNat root (List.replicate (depth.toNat + 1) [], []) with
  | error a =>
    cases startA rd depth root with
    | error b => intro k _; have k : a = b := k; rw [k]; rfl
    | ok q => intro k; exact k.elim
  | ok q1 =>
    obtain ⟨S, sn⟩ := q1
    cases startA rd depth root with
    | error b => intro k; exact k.elim
    | ok q2 =>
      obtain ⟨n, r⟩ := q2;intro k hseen;have k : Side (depth.toNat + 1) [] S sn n r := k;have hp := k.nums;rw [List.append_nil] at hp;have hsn := hseen n r rfl
      show (if RowOk true r ∧ hitA r n = false then Except.ok (r, riseTo n 4096) else .error 80) = saysA (if RowOk true (listA S) ∧ hitA (listA S) (numsA S) = false then .ok S else .error 80)
      rw [k.list, hit_perm hp];by_cases c : RowOk true r ∧ hitA r n = false
      ·rw [if_pos c, if_pos c]
       show _ = Except.ok (listA S, sortI (numsA S))
       rw [k.list, sort_rise (hp.nodup_iff.2 hsn.1) (fun b hb => hsn.2 b (hp.mem_iff.1 hb)) (fun x => hp.mem_iff)]
      ·rw [if_neg c, if_neg c]; rfl
 ·rw [if_neg hok, if_neg (fun h => hok h.1)]; rfl
open Go.RowKit
def ndA (rd : Rd) (x : Ent) : List Ent := match decN (rd x.phys).1 with | some q => q.1 | none => []
def OkE (rd : Rd) (leaf : Bool) (x : Ent) : Prop := (rd x.phys).2 = 0 ∧ decN (rd x.phys).1 = some (ndA rd x, leaf) ∧ (eat (ndA rd x) 0).log = x.log
def below (rd : Rd) : Nat → List (List Ent) → List (List Ent)
 | 0, ns => ns
 | k + 1, ns => below rd k (ns.flatten.map (ndA rd))
theorem below_succ (rd : Rd) (k : Nat) (ns : List (List Ent)) : below rd (k + 1) ns = below rd k (ns.flatten.map (ndA rd)) := rfl
theorem below_last (rd : Rd) : ∀ (k : Nat) (ns : List (List Ent)), below rd (k + 1) ns = (below rd k ns).flatten.map (ndA rd)
 | 0, ns => rfl
 | k + 1, ns => by rw [below_succ, below_last rd k, ← below_succ]
theorem below_append (rd : Rd) : ∀ (k : Nat) (a b : List (List Ent)), below rd k (a ++ b) = below rd k a ++ below rd k b
 | 0, a, b => rfl
 | k + 1, a, b => by rw [below_succ, List.flatten_append, List.map_append, below_append rd k]; rfl
theorem below_nil (rd : Rd) : ∀ (k : Nat), below rd k [] = []
 | 0 => rfl
 | k + 1 => below_nil rd k
def okAll (rd : Rd) : Nat → List Ent → Prop
 | 0, _ => True
 | r + 1, l => ∀ x ∈ l, OkE rd (r == 0) x ∧ okAll rd r (ndA rd x)
theorem okAll_of (rd : Rd) : ∀ (r : Nat) (ns : List (List Ent)), (∀ k, k < r → ∀ x ∈ (below rd (r - 1 - k) ns).flatten, OkE rd (k == 0) x) → ∀ l ∈ ns, okAll rd r l
 | 0, ns, h, l, hl => trivial
 | r + 1, ns, h, l, hl => by
   intro x hx;have hxf : x ∈ ns.flatten := List.mem_flatten.2 ⟨l, hl, hx⟩;refine ⟨?_, okAll_of rd r (ns.flatten.map (ndA rd)) (fun k hk y hy => ?_) _ (List.mem_map.2 ⟨x, hxf, rfl⟩)⟩
   ·have := h r (Nat.lt_succ_self r) x
    rw [show r + 1 - 1 - r = 0 by omega] at this;exact this hxf
   ·refine h k (by omega) y ?_
    rw [show r + 1 - 1 - k = (r - 1 - k) + 1 by omega, below_succ]; exact hy
theorem okAll_to (rd : Rd) : ∀ (r : Nat) (ns : List (List Ent)), (∀ l ∈ ns, okAll rd r l) → ∀ k, k < r → ∀ x ∈ (below rd (r - 1 - k) ns).flatten, OkE rd (k == 0) x
 | 0, ns, h, k, hk, x, hx => absurd hk (Nat.not_lt_zero k)
 | r + 1, ns, h, k, hk, x, hx => by
   by_cases e : k = r
   ·subst e
    rw [show k + 1 - 1 - k = 0 by omega] at hx;obtain ⟨l, hl, hx⟩ := List.mem_flatten.1 hx;exact (h l hl x hx).1
   ·rw [show r + 1 - 1 - k = (r - 1 - k) + 1 by omega, below_succ] at hx
    refine okAll_to rd r (ns.flatten.map (ndA rd)) (fun m hm => ?_) k (by omega) x hx;obtain ⟨y, hy, rfl⟩ := List.mem_map.1 hm;obtain ⟨l, hl, hy⟩ := List.mem_flatten.1 hy;exact (h l hl y hy).2
def rowsB (rd : Rd) (r : Nat) (ns : List (List Ent)) (k : Nat) : List (List Ent) := if k ≤ r then below rd (r - k) ns else []
theorem rowsB_cons (rd : Rd) (r : Nat) (a : List Ent) (ns : List (List Ent)) (k : Nat) : rowsB rd r (a :: ns) k = rowsB rd r [a] k ++ rowsB rd r ns k := by
 unfold rowsB;by_cases h : k ≤ r
 ·rw [if_pos h, if_pos h, if_pos h, ← below_append]; rfl
 ·rw [if_neg h, if_neg h, if_neg h]; rfl
theorem rowsB_nil (rd : Rd) (r k : Nat) : rowsB rd r [] k = [] := by
 unfold rowsB; split
 ·exact below_nil rd _
 ·rfl
theorem rowsB_up (rd : Rd) (r : Nat) (l : List Ent) (k : Nat) : rowsB rd (r + 1) [l] k = if k = r + 1 then [l] else rowsB rd r (l.map (ndA rd)) k := by
 unfold rowsB;by_cases e : k = r + 1
 ·subst e; rw [if_pos (Nat.le_refl _), if_pos rfl, Nat.sub_self]; rfl
 ·rw [if_neg e]
  by_cases h : k ≤ r
  ·rw [if_pos h, if_pos (by omega), show r + 1 - k = (r - k) + 1 by omega, below_succ, List.flatten_singleton]
  ·rw [if_neg h, if_neg (by omega)]
theorem push_rows {S : Shp} {r : Nat} (hr : r < S.length) (l : List Ent) (k : Nat) : rowA (pushA S r l) k = rowA S k ++ (if k = r then [l] else []) := by
 by_cases e : k = r
 ·subst e; rw [if_pos rfl, rowA_push hr]
 ·rw [if_neg e, List.append_nil, rowA_push_ne S e]
theorem nodeA_nd {rd : Rd} {x : Ent} {leaf : Bool} {seen : List Int} {m : List Ent} {s2 : List Int} (h : nodeA rd x leaf seen = .ok (m, s2)) : m = ndA rd x ∧ s2 = x.phys :: seen ∧ OkE rd leaf x := by
 obtain ⟨-, h2, -, h4, h5, h6⟩ := nodeA_some h
 have e : ndA rd x = m := by unfold ndA; rw [h5]
 exact ⟨e.symm, h2, h4, by rw [e]; exact h5, by rw [e]; exact h6⟩
theorem take_stood (rd : Rd) : ∀ (r : Nat) (l : List Ent) (S : Shp) (seen : List Int) (S' : Shp) (seen' : List Int), r < S.length → takeA rd r l (S, seen) = .ok (S', seen') →
 S'.length = S.length ∧ okAll rd r l ∧ ∀ k, rowA S' k = rowA S k ++ rowsB rd r [l] k
 | 0, l, S, seen, S', seen', hr, h => by
   unfold takeA at h
   injection h with h
   injection h with e1 e2
   subst e1 e2;refine ⟨pushA_len _ _ _, trivial, fun k => ?_⟩;rw [push_rows hr];unfold rowsB;by_cases e : k = 0
   ·subst e; rfl
   ·rw [if_neg e, if_neg (by omega)]
 | r + 1, l, S, seen, S', seen', hr, h => by
   rw [takeA_succ] at h
   have key : ∀ (q : List Ent) (Sc : Shp) (sc : List Int), Sc.length = S.length → q.foldlM (takeF rd r) (Sc, sc) = (.ok (S', seen') : Except Int _) →
    S'.length = S.length ∧ (∀ x ∈ q, OkE rd (r == 0) x ∧ okAll rd r (ndA rd x)) ∧ ∀ k, rowA S' k = rowA Sc k ++ rowsB rd r (q.map (ndA rd)) k := fun q => by
    induction q with
    | nil =>
      intro Sc sc hl he;rw [List.foldlM_nil] at he
      injection he with he
      injection he with e1 e2
      subst e1 e2;exact ⟨hl, (fun x hx => by cases hx), fun k => by rw [List.map_nil, rowsB_nil, List.append_nil]⟩
    | cons x q ih =>
      intro Sc sc hl he;rw [List.foldlM_cons] at he
      cases hn : nodeA rd x (r == 0) sc with
      | error e =>
        have f1 : takeF rd r (Sc, sc) x = .error e := by show (match nodeA rd x (r == 0) sc with | .error e => Except.error e | .ok (m, seen) => takeA rd r m (Sc, seen)) = _; rw [hn]
        rw [f1] at he; cases he
      | ok y =>
        obtain ⟨m, s2⟩ := y
        have f1 : takeF rd r (Sc, sc) x = takeA rd r m (Sc, s2) := by show (match nodeA rd x (r == 0) sc with | .error e => Except.error e | .ok (m, seen) => takeA rd r m (Sc, seen)) = _; rw [hn]
        rw [f1] at he;obtain ⟨rfl, rfl, n3⟩ := nodeA_nd hn
        cases ht : takeA rd r (ndA rd x) (Sc, x.phys :: sc) with
        | error e => rw [ht] at he; cases he
        | ok z =>
          obtain ⟨S3, s3⟩ := z;rw [ht] at he;obtain ⟨i1, i2, i3⟩ := take_stood rd r _ Sc _ S3 s3 (by omega) ht;obtain ⟨j1, j2, j3⟩ := ih S3 s3 (by omega) he;refine ⟨j1, fun y hy => ?_, fun k => ?_⟩
          ·rcases List.mem_cons.1 hy with rfl | hy
           ·exact ⟨n3, i2⟩
           ·exact j2 y hy
          ·rw [j3, i3, List.map_cons, rowsB_cons rd r (ndA rd x) (q.map (ndA rd)), List.append_assoc]
   obtain ⟨k1, k2, k3⟩ := key l (pushA S (r + 1) l) seen (pushA_len _ _ _) h;refine ⟨k1, k2, fun k => ?_⟩;rw [k3, push_rows hr, List.append_assoc, rowsB_up];by_cases e : k = r + 1
   ·subst e
    have : rowsB rd r (l.map (ndA rd)) (r + 1) = [] := by unfold rowsB; rw [if_neg (by omega)]
    rw [if_pos rfl, if_pos rfl, this, List.append_nil]
   ·rw [if_neg e, if_neg e, List.nil_append]
theorem flatMap_subl {α β : Type} {f g : α → List β} : ∀ (l : List α), (∀ x ∈ l, (f x).Sublist (g x)) → (l.flatMap f).Sublist (l.flatMap g)
 | [], h => List.Sublist.refl _
 | x :: l, h => by
   rw [List.flatMap_cons, List.flatMap_cons];exact (h x (List.mem_cons_self ..)).append (flatMap_subl l fun y hy => h y (List.mem_cons_of_mem _ hy))
theorem nums_pre {S T : Shp} (hl : S.length = T.length) {Z : Nat → List (List Ent)} (h : ∀ k, rowA T k = rowA S k ++ Z k) : (numsA S).Sublist (numsA T) := by
 unfold numsA;rw [hl];refine flatMap_subl _ fun k _ => List.Sublist.map _ ?_;unfold headsA;rw [h, List.flatten_append];exact List.sublist_append_left _ _
theorem take_again (rd : Rd) (T : Shp) (hnd : (numsA T).Nodup) : ∀ (r : Nat) (l : List Ent) (S : Shp) (seen p : List Int) (Z : Nat → List (List Ent)), S.length = T.length → r < T.length → okAll rd r l →
 (∀ k, rowA T k = rowA S k ++ (rowsB rd r [l] k ++ Z k)) → (numsA S).Perm (seen ++ p) →
 ∃ S' seen', takeA rd r l (S, seen) = .ok (S', seen') ∧ S'.length = S.length ∧ (∀ k, rowA S' k = rowA S k ++ rowsB rd r [l] k) ∧ (numsA S').Perm (seen' ++ p)
 | 0, l, S, seen, p, Z, hl, hr, ho, hT, hp => by
   refine ⟨pushA S 0 l, seen, rfl, pushA_len _ _ _, fun k => ?_, by rw [nums_push0]; exact hp⟩;rw [push_rows (by omega)];unfold rowsB;by_cases e : k = 0
   ·subst e; rfl
   ·rw [if_neg e, if_neg (by omega)]
 | r + 1, l, S, seen, p, Z, hl, hr, ho, hT, hp => by
   rw [takeA_succ]
   have key : ∀ (q : List Ent) (Sc : Shp) (sc : List Int), Sc.length = T.length → (∀ x ∈ q, OkE rd (r == 0) x ∧ okAll rd r (ndA rd x)) → (∀ k, rowA T k = rowA Sc k ++ (rowsB rd r (q.map (ndA rd)) k ++ Z k)) → (numsA Sc).Perm (sc ++ (q.map Ent.phys ++ p)) →
    ∃ S' seen', q.foldlM (takeF rd r) (Sc, sc) = (.ok (S', seen') : Except Int _) ∧ S'.length = Sc.length ∧ (∀ k, rowA S' k = rowA Sc k ++ rowsB rd r (q.map (ndA rd)) k) ∧ (numsA S').Perm (seen' ++ p) := fun q => by
    induction q with
    | nil =>
      intro Sc sc hlc ho hT hp;exact ⟨Sc, sc, rfl, rfl, fun k => by rw [List.map_nil, rowsB_nil, List.append_nil], hp⟩
    | cons x q ih =>
      intro Sc sc hlc ho hT hp;obtain ⟨⟨o1, o2, o3⟩, oa⟩ := ho x (List.mem_cons_self ..);have hndc : (numsA Sc).Nodup := (nums_pre hlc hT).nodup hnd
      have hx : x.phys ∉ sc := fun hm => by
       have := hp.nodup_iff.1 hndc;rw [List.nodup_append] at this;exact this.2.2 _ hm _ (by simp) rfl
      have hn : nodeA rd x (r == 0) sc = .ok (ndA rd x, x.phys :: sc) := by
       unfold nodeA;rw [if_neg hx, if_neg (by rw [Decidable.not_not]; exact o1), o2];exact if_pos ⟨rfl, o3⟩
      have f1 : takeF rd r (Sc, sc) x = takeA rd r (ndA rd x) (Sc, x.phys :: sc) := by show (match nodeA rd x (r == 0) sc with | .error e => Except.error e | .ok (m, seen) => takeA rd r m (Sc, seen)) = _; rw [hn]
      have hT1 : ∀ k, rowA T k = rowA Sc k ++ (rowsB rd r [ndA rd x] k ++ (rowsB rd r (q.map (ndA rd)) k ++ Z k)) := fun k => by
       rw [hT k, List.map_cons, rowsB_cons rd r (ndA rd x) (q.map (ndA rd)), List.append_assoc]
      have hp1 : (numsA Sc).Perm ((x.phys :: sc) ++ (q.map Ent.phys ++ p)) := by
       refine hp.trans ?_;rw [List.map_cons, List.cons_append, List.cons_append];exact List.perm_middle
      obtain ⟨S3, s3, t1, t2, t3, t4⟩ := take_again rd T hnd r (ndA rd x) Sc (x.phys :: sc) (q.map Ent.phys ++ p) _ hlc (by omega) oa hT1 hp1;obtain ⟨S4, s4, u1, u2, u3, u4⟩ := ih S3 s3 (by omega) (fun y hy => ho y (List.mem_cons_of_mem _ hy)) (fun k => by rw [hT1 k, t3 k, List.append_assoc]) t4;refine ⟨S4, s4, ?_, by omega, fun k => ?_, u4⟩
      ·rw [List.foldlM_cons, f1, t1]; exact u1
      ·rw [u3, t3, List.map_cons, rowsB_cons rd r (ndA rd x) (q.map (ndA rd)), List.append_assoc]
   have hTl : ∀ k, rowA T k = rowA (pushA S (r + 1) l) k ++ (rowsB rd r (l.map (ndA rd)) k ++ Z k) := fun k => by
    rw [hT k, push_rows (by omega), rowsB_up, List.append_assoc];by_cases e : k = r + 1
    ·subst e
     have : rowsB rd r (l.map (ndA rd)) (r + 1) = [] := by unfold rowsB; rw [if_neg (by omega)]
     rw [if_pos rfl, if_pos rfl, this, List.nil_append]
    ·rw [if_neg e, if_neg e, List.nil_append]
   obtain ⟨S4, s4, u1, u2, u3, u4⟩ := key l (pushA S (r + 1) l) seen (by rw [pushA_len]; exact hl) ho hTl (by
    refine (nums_push S r (by omega) l).trans ?_;refine (hp.append_right _).trans ?_;rw [List.append_assoc]
    exact List.Perm.append_left _ List.perm_append_comm)
   refine ⟨S4, s4, u1, by rw [u2, pushA_len], fun k => ?_, u4⟩;rw [u3, push_rows (by omega), List.append_assoc, rowsB_up];by_cases e : k = r + 1
   ·subst e
    have : rowsB rd r (l.map (ndA rd)) (r + 1) = [] := by unfold rowsB; rw [if_neg (by omega)]
    rw [if_pos rfl, if_pos rfl, this, List.append_nil]
   ·rw [if_neg e, if_neg e, List.nil_append]
structure Stands (rd : Rd) (S : Shp) : Prop where
 rows : ∀ r, r + 1 < S.length → rowA S r = (headsA S r).map (ndA rd)
 ok : ∀ r, r + 1 < S.length → ∀ x ∈ headsA S r, OkE rd (r == 0) x
structure TreeOk (S : Shp) : Prop where
 good : GoodS S
 logs : ∀ r, r + 1 < S.length → (rowA S r).map (fun n => (eat n 0).log) = (headsA S r).map Ent.log
 root : RootedA ((S.length - 1 : Nat) : Int) (rootA S)
theorem load_stands {rd : Rd} {no : Bool} {depth : Int} {root : List Ent} {S : Shp} (h : loadA rd no depth root = .ok S) : Stands rd S ∧ TreeOk S ∧ (S.length : Int) = depth + 1 ∧ rowA S (S.length - 1) = [root] := by
 obtain ⟨g1, g2, g3⟩ := loadA_good h;have hroot := loadA_rooted h;unfold loadA at h
 split at h
 ·rename_i hk
  obtain ⟨D, rfl⟩ : ∃ D : Nat, depth = D := ⟨depth.toNat, by have := g1.well.pos; omega⟩;rw [Int.toNat_natCast] at h
  cases ht : takeA rd D root (List.replicate (D + 1) [], []) with
  | error e => rw [ht] at h; cases h
  | ok q =>
    obtain ⟨S2, s2⟩ := q;rw [ht] at h;dsimp only at h
    split at h
    ·injection h with h
     subst h;obtain ⟨t1, t2, t3⟩ := take_stood rd D root _ _ _ _ (by rw [List.length_replicate]; omega) ht
     have hl : S2.length = D + 1 := by omega
     have hrow : ∀ k, k ≤ D → rowA S2 k = below rd (D - k) [root] := fun k hk => by
      rw [t3, rowA_repl, List.nil_append]; unfold rowsB; rw [if_pos hk]
     have hst : Stands rd S2 := ⟨fun r hr => by
      unfold headsA;rw [hrow r (by omega), hrow (r + 1) (by omega), ← below_last]
      congr 1; omega, fun r hr x hx => by
      unfold headsA at hx;rw [hrow (r + 1) (by omega)] at hx
      exact okAll_to rd D [root] (fun l hl => by rw [List.mem_singleton] at hl; rw [hl]; exact t2) r (by omega) x (by rw [show D - 1 - r = D - (r + 1) by omega]; exact hx)⟩
     refine ⟨hst, ⟨g1, fun r hr => ?_, ?_⟩, g2, g3⟩
     ·rw [hst.rows r hr, List.map_map]
      exact List.map_congr_left fun x hx => (hst.ok r hr x hx).2.2
     ·unfold rootA
      rw [g3, hl];exact hroot
    ·cases h
 ·cases h
theorem load_again {rd : Rd} {T : Shp} (h : TreeOk T) (hs : Stands rd T) : loadA rd false ((T.length - 1 : Nat) : Int) (rootA T) = .ok T := by
 have hpos := h.good.well.pos
 have hroot : rowA T (T.length - 1) = [rootA T] := by
  have := h.good.well.root;unfold rootA
  match hq : rowA T (T.length - 1) with
  | [] => rw [hq] at this; cases this
  | [x] => rfl
  | x :: y :: z => rw [hq] at this; cases this
 obtain ⟨D, hD⟩ : ∃ D, T.length = D + 1 := ⟨T.length - 1, by omega⟩
 have hrow : ∀ j, j ≤ D → rowA T (D - j) = below rd j [rootA T] := fun j => by
  induction j with
  | zero => intro _; rw [Nat.sub_zero, show D = T.length - 1 by omega]; exact hroot
  | succ j ih =>
    intro hj;rw [hs.rows (D - (j + 1)) (by omega), below_last, ← ih (by omega)];unfold headsA;rw [show D - (j + 1) + 1 = D - j by omega]
 have hrowB : ∀ k, rowA T k = rowsB rd D [rootA T] k := fun k => by
  unfold rowsB;by_cases e : k ≤ D
  ·rw [if_pos e, ← hrow (D - k) (by omega), show D - (D - k) = k by omega]
  ·rw [if_neg e, rowA_none (by omega)]
 have hok : okAll rd D (rootA T) := okAll_of rd D [rootA T] (fun k hk x hx => by
  rw [← hrow (D - 1 - k) (by omega), show D - (D - 1 - k) = k + 1 by omega] at hx
  exact hs.ok k (by omega) x hx) _ (List.mem_singleton.2 rfl)
 have hlen0 : (List.replicate (D + 1) ([] : List (List Ent))).length = T.length := by rw [List.length_replicate]; omega
 obtain ⟨S', s', t1, t2, t3, t4⟩ := take_again rd T h.good.nd D (rootA T) (List.replicate (D + 1) []) [] [] (fun _ => []) hlen0 (by omega) hok (fun k => by rw [hrowB, rowA_repl, List.nil_append, List.append_nil]) (by rw [nums_repl]; exact List.Perm.refl _)
 have hST : S' = T := by
  apply List.ext_getElem (by omega)
  intro k h1 h2
  have e1 : rowA S' k = S'[k] := by unfold rowA; rw [List.getElem?_eq_getElem h1]; rfl
  have e2 : rowA T k = T[k] := by unfold rowA; rw [List.getElem?_eq_getElem h2]; rfl
  rw [← e1, ← e2, t3, rowA_repl, List.nil_append, hrowB]
 subst hST;unfold loadA;rw [if_pos ⟨h.root, .inr rfl⟩, Int.toNat_natCast, hD, Nat.add_sub_cancel, t1];exact if_pos ⟨h.good.rise, h.good.free⟩
open Go.RowKit
theorem sortC_mem (l : List Ch) (c : Ch) : c ∈ sortC l ↔ c ∈ l := (List.mergeSort_perm l _).mem_iff
theorem blk_mem {S : Shp} {c : Ch} (h : c ∈ blocksA S) : ∃ r, r + 1 < S.length ∧ ∃ p ∈ (headsA S r).zip (rowA S r), c = (p.1.phys, encN p.2 (r == 0)) := by
 unfold blocksA at h;rw [sortC_mem] at h;unfold blkTo at h;obtain ⟨r, hr, h⟩ := List.mem_flatMap.1 h;unfold blkR at h;obtain ⟨p, hp, rfl⟩ := List.mem_map.1 h;refine ⟨r, ?_, p, hp, rfl⟩;by_cases e : r + 1 < S.length
 ·exact e
 ·have := (List.of_mem_zip hp).1
  unfold headsA at this;rw [rowA_none (by omega)] at this
  cases this
theorem mem_blk {S : Shp} {r : Nat} (hr : r < S.length) {p : Ent × List Ent} (hp : p ∈ (headsA S r).zip (rowA S r)) : (p.1.phys, encN p.2 (r == 0)) ∈ blocksA S := by
 unfold blocksA;rw [sortC_mem];unfold blkTo;refine List.mem_flatMap.2 ⟨r, List.mem_range.2 hr, ?_⟩;unfold blkR;exact List.mem_map.2 ⟨p, hp, rfl⟩
theorem blocks_nums {S : Shp} (h : WellS S) : ((blocksA S).map (·.1)).Perm (numsA S) := by
 unfold blocksA;rw [← nums_blk (well_le h)];exact (List.mergeSort_perm _ _).map _
theorem stands_blk {rd : Rd} {S : Shp} (h : Stands rd S) : ∀ c ∈ blocksA S, rd c.1 = (c.2, 0) := by
 intro c hc;obtain ⟨r, hr, p, hp, rfl⟩ := blk_mem hc;have hx := (List.of_mem_zip hp).1;obtain ⟨o1, o2, o3⟩ := h.ok r hr p.1 hx
 have hn : p.2 = ndA rd p.1 := by
  rw [h.rows r hr] at hp;obtain ⟨i, hi, e⟩ := List.mem_iff_getElem.1 hp;rw [List.getElem_zip, List.getElem_map] at e;rw [← e]
 obtain ⟨d1, d2⟩ := decN_some o2
 show rd p.1.phys = (encN p.2 (r == 0), 0)
 have : encN p.2 (r == 0) = (rd p.1.phys).1 := by unfold encN; rw [hn, if_pos d1, d2]
 rw [this, ← o1]
theorem stands_of {rd : Rd} {T : Shp} (hT : TreeOk T) (h : ∀ c ∈ blocksA T, rd c.1 = (c.2, 0)) : Stands rd T := by
 have key : ∀ r, r + 1 < T.length → ∀ p ∈ (headsA T r).zip (rowA T r), (rd p.1.phys).2 = 0 ∧ decN (rd p.1.phys).1 = some (p.2, r == 0) := fun r hr p hp => by
  have h1 := h _ (mem_blk (by omega) hp);have hok := hT.good.nodes r hr p.2 (List.of_mem_zip hp).2;have h1 : rd p.1.phys = (encN p.2 (r == 0), 0) := h1;rw [h1];refine ⟨rfl, ?_⟩
  show decN (encN p.2 (r == 0)) = _
  unfold encN;rw [if_pos hok];exact decN_nodeB hok
 have key2 : ∀ r, r + 1 < T.length → ∀ p ∈ (headsA T r).zip (rowA T r), ndA rd p.1 = p.2 := fun r hr p hp => by
  unfold ndA; rw [(key r hr p hp).2]
 have hlen : ∀ r, r + 1 < T.length → (headsA T r).length = (rowA T r).length := hT.good.well.heads
 have hrows : ∀ r, r + 1 < T.length → rowA T r = (headsA T r).map (ndA rd) := fun r hr => by
  apply List.ext_getElem (by rw [List.length_map, hlen r hr])
  intro i h1 h2;rw [List.getElem_map]
  have hi : i < (headsA T r).length := by rw [hlen r hr]; exact h1
  have := key2 r hr ((headsA T r)[i], (rowA T r)[i]) (List.mem_iff_getElem.2 ⟨i, by rw [List.length_zip]; omega, List.getElem_zip⟩);exact this.symm
 refine ⟨hrows, fun r hr x hx => ?_⟩;obtain ⟨i, hi, rfl⟩ := List.mem_iff_getElem.1 hx
 have hi2 : i < (rowA T r).length := by rw [← hlen r hr]; exact hi
 have hmem : ((headsA T r)[i], (rowA T r)[i]) ∈ (headsA T r).zip (rowA T r) := List.mem_iff_getElem.2 ⟨i, by rw [List.length_zip]; omega, List.getElem_zip⟩;obtain ⟨k1, k2⟩ := key r hr _ hmem;have k3 := key2 r hr _ hmem;refine ⟨k1, by rw [k3]; exact k2, ?_⟩;rw [k3];have := hT.logs r hr;have e := congrArg (fun l : List Int => l[i]?) this;rw [List.getElem?_map, List.getElem?_map, List.getElem?_eq_getElem hi, List.getElem?_eq_getElem hi2] at e
 simpa using e
theorem findC_of {l : List Ch} {b : Int} {c : Ch} (h : findC l b = some c) : c ∈ l ∧ c.1 = b := ⟨List.mem_of_find?_eq_some h, by have := List.find?_some h; simpa using this⟩
theorem fst_inj {l : List Ch} (h : (l.map (·.1)).Nodup) {a b : Ch} (ha : a ∈ l) (hb : b ∈ l) (e : a.1 = b.1) : a = b := by
 induction l with
 | nil => cases ha
 | cons x l ih =>
   rw [List.map_cons, List.nodup_cons] at h;obtain ⟨h1, h2⟩ := h;rcases List.mem_cons.1 ha with ha | ha
   ·rcases List.mem_cons.1 hb with hb | hb
    ·rw [ha, hb]
    ·exact absurd (List.mem_map.2 ⟨b, hb, by rw [← e, ha]⟩) h1
   ·rcases List.mem_cons.1 hb with hb | hb
    ·exact absurd (List.mem_map.2 ⟨a, ha, by rw [e, hb]⟩) h1
    ·exact ih h2 ha hb
theorem blocks_nd {S : Shp} (h : GoodS S) : ((blocksA S).map (·.1)).Nodup := (blocks_nums h.well).nodup_iff.2 h.nd
theorem findC_mem {l : List Ch} (h : (l.map (·.1)).Nodup) {c : Ch} (hc : c ∈ l) : findC l c.1 = some c := by
 unfold findC
 induction l with
 | nil => cases hc
 | cons x l ih =>
   rw [List.map_cons, List.nodup_cons] at h;rw [List.find?_cons];rcases List.mem_cons.1 hc with rfl | hc
   ·simp
   ·have : x.1 ≠ c.1 := fun e => h.1 (List.mem_map.2 ⟨c, hc, e.symm⟩)
    rw [decide_eq_false this];exact ih h.2 hc
theorem tell_stands {rd rd' : Rd} {S T : Shp} (hs : Stands rd S) (hT : TreeOk T) (hnew : ∀ c ∈ chgA (blocksA S) (blocksA T), rd' c.1 = (c.2, 0))
 (hold : ∀ b, (∀ c ∈ chgA (blocksA S) (blocksA T), c.1 ≠ b) → (rd b).2 = 0 → rd' b = rd b) : Stands rd' T := by
 refine stands_of hT fun c hc => ?_;by_cases e : findC (blocksA S) c.1 = some c
 ·have h1 := stands_blk hs c (findC_of e).1
  rw [hold c.1 (fun d hd k => ?_) (by rw [h1]), h1];unfold chgA at hd;obtain ⟨d1, d2⟩ := List.mem_filter.1 hd;have := fst_inj (blocks_nd hT.good) d1 hc k;subst this;rw [decide_eq_true_iff] at d2;exact d2 e
 ·exact hnew c (by unfold chgA; exact List.mem_filter.2 ⟨hc, decide_eq_true e⟩)
theorem row_map {leaf : Bool} {g : Ent → Ent} (hg : ∀ x, (g x).log = x.log ∧ (g x).len = x.len) {l : List Ent} (h : RowOk leaf l) (h2 : ∀ x ∈ l, EntOk leaf (g x)) : RowOk leaf (l.map g) := by
 have hat : ∀ i, i < l.length → eat (l.map g) i = g (eat l i) := fun i hi => by
  rw [eat_eq (by rw [List.length_map]; exact hi), List.getElem_map, eat_eq hi]
 intro i hi;rw [List.length_map] at hi;rw [hat i hi];refine ⟨by rw [eat_eq hi]; exact h2 _ (List.getElem_mem hi), fun h0 => ?_⟩;rw [hat (i - 1) (by omega)];have := (h i hi).2 h0;unfold After at this ⊢;rw [(hg _).1, (hg _).1, (hg _).2]; exact this
abbrev mapS (g : Ent → Ent) (S : Shp) : Shp := S.map fun n => n.map fun l => l.map g
theorem listU (g : Ent → Ent) (S : Shp) : listA (mapS g S) = (listA S).map g := by unfold listA; rw [rowU, List.map_flatten]
theorem rootU (g : Ent → Ent) (S : Shp) : rootA (mapS g S) = (rootA S).map g := by
 unfold rootA;rw [rowU, List.length_map, List.getElem?_map]
 cases (rowA S (S.length - 1))[0]? <;> rfl
theorem root_row {S : Shp} (h : WellS S) : rowA S (S.length - 1) = [rootA S] := by
 have := h.root;unfold rootA
 match hq : rowA S (S.length - 1) with
 | [] => rw [hq] at this; cases this
 | [x] => rfl
 | x :: y :: z => rw [hq] at this; cases this
theorem tree_map {S : Shp} (h : TreeOk S) {g : Ent → Ent} (hg : ∀ x, (g x).log = x.log ∧ (g x).len = x.len) (h2 : ∀ r, ∀ x ∈ (rowA S r).flatten, EntOk (r == 0) (g x))
 (hnd : (numsA (mapS g S)).Nodup) (hfree : hitA (listA (mapS g S)) (numsA (mapS g S)) = false) : TreeOk (mapS g S) := by
 have hlen : (mapS g S).length = S.length := List.length_map _;have hw := h.good.well;refine ⟨⟨⟨by rw [hlen]; exact hw.pos, fun r hr => ?_, fun r hr x hx => ?_, ?_⟩, ?_, hfree, hnd, fun r hr x hx => ?_⟩, fun r hr => ?_, ?_⟩
 ·rw [headsU, rowU, List.length_map, List.length_map]; exact hw.heads r (by omega)
 ·rw [rowU] at hx
  obtain ⟨l, hl, rfl⟩ := List.mem_map.1 hx;rw [List.length_map]; exact hw.some r (by omega) l hl
 ·rw [hlen, rowU, List.length_map]; exact hw.root
 ·rw [listU]
  refine row_map hg h.good.rise fun x hx => ?_;exact h2 0 x hx
 ·rw [rowU] at hx
  obtain ⟨l, hl, rfl⟩ := List.mem_map.1 hx;obtain ⟨n1, n2, n3⟩ := h.good.nodes r (by omega) l hl;refine ⟨by rw [List.length_map]; exact n1, by rw [List.length_map]; exact n2, row_map hg n3 fun x hx => h2 r x (List.mem_flatten.2 ⟨l, hl, hx⟩)⟩
 ·rw [rowU, headsU, List.map_map, List.map_map]
  have := h.logs r (by omega);rw [show (Ent.log ∘ g) = Ent.log from funext fun x => (hg x).1, ← this];refine List.map_congr_left fun n hn => ?_
  show (eat (n.map g) 0).log = (eat n 0).log
  have := hw.some r (by omega) n hn;rw [eat_eq (by rw [List.length_map]; omega), List.getElem_map, (hg _).1, eat_eq (by omega)]
 ·rw [hlen, rootU]
  have hr := h.root;unfold RootedA at hr ⊢;rw [ok_kindN (by show (1 : Int) ≠ 0; decide)] at hr ⊢;unfold Full at hr ⊢;refine ⟨hr.1, hr.2.1, hr.2.2.1, hr.2.2.2.1, by show (List.map g (rootA S)).length ≤ 4; rw [List.length_map]; exact hr.2.2.2.2.1, ?_, ?_⟩
  ·refine row_map hg hr.2.2.2.2.2.1 fun x hx => ?_
   have hx : x ∈ rootA S := hx;have := h2 (S.length - 1) x (by rw [root_row hw]; simpa using hx)
   have e : ((S.length - 1 == 0) : Bool) = decide (((S.length - 1 : Nat) : Int) = 0) := by
    by_cases q : S.length - 1 = 0
    ·rw [q]; rfl
    ·rw [decide_eq_false (by omega)]; simpa using q
   rw [e] at this;exact this
  ·have := hr.2.2.2.2.2.2
   show _ ∨ 0 < (List.map g (rootA S)).length
   rw [List.length_map]; exact this
open Go.RowKit
def layF (F : Nat → ByteArray) (C : List Ch) (k : Nat) : ByteArray := match findC C (k : Int) with | some c => c.2 | none => F k
theorem findC_none {l : List Ch} {b : Int} (h : ∀ c ∈ l, c.1 ≠ b) : findC l b = none := by
 unfold findC;rw [List.find?_eq_none];intro c hc
 simpa using h c hc
theorem layF_take {F : Nat → ByteArray} {C : List Ch} (hn : (C.map (·.1)).Nodup) {i : Nat} (hi : i < C.length) (h0 : 0 ≤ (C[i]).1) : layF F (C.take (i + 1)) = upd (layF F (C.take i)) (C[i]).1.toNat (C[i]).2 := by
 funext k
 have hsub : C.take (i + 1) = C.take i ++ [C[i]] := List.take_succ_eq_append_getElem hi
 have hni : ∀ c ∈ C.take i, c.1 ≠ (C[i]).1 := fun c hc e => by
  have hm : ((C.take (i + 1)).map (·.1)).Nodup := (List.Sublist.map _ (List.take_sublist _ _)).nodup hn;rw [hsub, List.map_append, List.nodup_append] at hm;exact hm.2.2 _ (List.mem_map.2 ⟨c, hc, rfl⟩) _ (by simp) e
 unfold upd;by_cases e : k = (C[i]).1.toNat
 ·rw [if_pos e]
  have ek : (k : Int) = (C[i]).1 := by omega
  have : findC (C.take (i + 1)) (k : Int) = some C[i] := by
   rw [hsub, ek];unfold findC;rw [List.find?_append];have := findC_none hni;unfold findC at this;rw [this]; simp
  unfold layF;rw [this]
 ·rw [if_neg e]
  have : findC (C.take (i + 1)) (k : Int) = findC (C.take i) (k : Int) := by
   rw [hsub];unfold findC;rw [List.find?_append]
   have : List.find? (fun c : Ch => decide (c.1 = (k : Int))) [C[i]] = none := by
    rw [List.find?_eq_none];intro c hc;rw [List.mem_singleton] at hc;subst hc
    simp; omega
   rw [this]
   cases List.find? (fun c : Ch => decide (c.1 = (k : Int))) (C.take i) <;> rfl
  unfold layF;rw [this]
theorem layF_size {F : Nat → ByteArray} {C : List Ch} (hF : ∀ k, (F k).size ≤ 1000) (hC : ∀ c ∈ C, c.2.size ≤ 1000) : ∀ k, (layF F C k).size ≤ 1000 := fun k => by
 unfold layF
 cases h : findC C (k : Int) with
 | none => exact hF k
 | some c => exact hC c (findC_of h).1
theorem rdOf_in {F : Nat → ByteArray} {bad b : Int} (h : (rdOf F bad b).2 = 0) : (0 ≤ b ∧ b < 4096 ∧ b ≠ bad) ∧ rdOf F bad b = (F b.toNat, 0) := by
 unfold rdOf at h ⊢
 split at h
 ·cases h
 ·rename_i k
  exact ⟨by omega, if_neg k⟩
theorem rdOf_get (F : Nat → ByteArray) {bad b : Int} (h0 : 0 ≤ b) (h1 : b < 4096) (h2 : b ≠ bad) : rdOf F bad b = (F b.toNat, 0) := by
 unfold rdOf; rw [if_neg (by omega)]
theorem chg_mem {B A : List Ch} {c : Ch} : c ∈ chgA B A ↔ c ∈ A ∧ findC B c.1 ≠ some c := by unfold chgA; rw [List.mem_filter, decide_eq_true_iff]
theorem chg_nd {S T : Shp} (hT : GoodS T) : ((chgA (blocksA S) (blocksA T)).map (·.1)).Nodup := (List.Sublist.map _ (by unfold chgA; exact List.filter_sublist)).nodup (blocks_nd hT)
theorem tree_phys {S : Shp} (h : TreeOk S) : ∀ b ∈ numsA S, 1 ≤ b ∧ b < 4096 := fun b hb => by
 unfold numsA at hb;obtain ⟨r, -, hb⟩ := List.mem_flatMap.1 hb;obtain ⟨x, hx, rfl⟩ := List.mem_map.1 hb
 have hroot : ∀ x ∈ rowA S (S.length - 1), RowOk (decide (S.length = 1)) x := fun x hx => by
  rw [root_row h.good.well, List.mem_singleton] at hx;subst hx;have hr := h.root;unfold RootedA at hr;rw [ok_kindN (by show (1 : Int) ≠ 0; decide)] at hr;unfold Full at hr;have := hr.2.2.2.2.2.1;have hp := h.good.well.pos;rw [show decide (S.length = 1) = decide (((S.length - 1 : Nat) : Int) = 0) from decide_eq_decide.2 ⟨fun e => by omega, fun e => by omega⟩];exact this
 have := heads_len h.good hroot r x hx;unfold EntOk at this
 simp at this
 omega
theorem blk_phys {S : Shp} (h : TreeOk S) : ∀ c ∈ blocksA S, 1 ≤ c.1 ∧ c.1 < 4096 := fun c hc => tree_phys h _ ((blocks_nums h.good.well).mem_iff.1 (List.mem_map.2 ⟨c, hc, rfl⟩))
theorem lay_load {F : Nat → ByteArray} {bad : Int} {S T : Shp} (hs : Stands (rdOf F bad) S) (hT : TreeOk T) : loadA (rdOf (layF F (chgA (blocksA S) (blocksA T))) (-1)) false ((T.length - 1 : Nat) : Int) (rootA T) = .ok T := by
 refine load_again hT (tell_stands hs hT (fun c hc => ?_) fun b hb h0 => ?_)
 ·have hp := blk_phys hT c (chg_mem.1 hc).1
  rw [rdOf_get _ (by omega) (by omega) (by omega)]
  have : layF F (chgA (blocksA S) (blocksA T)) c.1.toNat = c.2 := by
   unfold layF;rw [show ((c.1.toNat : Nat) : Int) = c.1 by omega, findC_mem (chg_nd hT.good) hc]
  rw [this]
 ·obtain ⟨h1, h2⟩ := rdOf_in h0
  rw [h2, rdOf_get _ h1.1 h1.2.1 (by omega)]
  have : layF F (chgA (blocksA S) (blocksA T)) b.toNat = F b.toNat := by
   unfold layF;rw [show ((b.toNat : Nat) : Int) = b by omega, findC_none hb]
  rw [this]
theorem sortI_perm (l : List Int) : (sortI l).Perm l := List.mergeSort_perm _ _
theorem sortI_pw (l : List Int) : (sortI l).Pairwise (· ≤ ·) := by
 have := List.pairwise_mergeSort (le := fun x y : Int => decide (x ≤ y)) (fun a b c h1 h2 => by simp at *; omega) (fun a b => by simp; omega) l
 exact this.imp fun h => by simpa using h
theorem sortI_of {l s : List Int} (hp : s.Perm l) (hs : s.Pairwise (· ≤ ·)) : s = sortI l :=
 List.Perm.eq_of_pairwise (fun a b _ _ h1 h2 => Int.le_antisymm h1 h2) hs (sortI_pw l) (hp.trans (sortI_perm l).symm)
theorem sortC_pw (l : List Ch) : (sortC l).Pairwise (fun a b => a.1 ≤ b.1) := by
 have := List.pairwise_mergeSort (le := fun x y : Ch => decide (x.1 ≤ y.1)) (fun a b c h1 h2 => by simp at *; omega) (fun a b => by simp; omega) l
 exact this.imp fun h => by simpa using h
theorem blocks_fst {S : Shp} (h : WellS S) : (blocksA S).map (·.1) = sortI (numsA S) := sortI_of (blocks_nums h) (by
 rw [List.pairwise_map]; unfold blocksA; exact sortC_pw _)
theorem blocks_lt {S : Shp} (h : GoodS S) : (blocksA S).Pairwise (fun a b => a.1 < b.1) := by
 have h1 : (blocksA S).Pairwise (fun a b => a.1 ≤ b.1) := by unfold blocksA; exact sortC_pw _
 have h2 : (blocksA S).Pairwise (fun a b => a.1 ≠ b.1) := by
  have := blocks_nd h;rw [List.nodup_iff_pairwise_ne, List.pairwise_map] at this;exact this
 exact h1.imp₂ (fun a b x y => by omega) h2
theorem free_is {S T : Shp} (hS : WellS S) (hT : WellS T) : freeA (blocksA S) (blocksA T) = (sortI (numsA S)).filter fun b => decide (b ∉ sortI (numsA T)) := by
 unfold freeA;rw [← blocks_fst hS, ← blocks_fst hT, List.filter_map];congr 1;refine List.filter_congr fun c hc => ?_
 show (findC (blocksA T) c.1).isNone = decide (c.1 ∉ (blocksA T).map (·.1))
 by_cases e : c.1 ∈ (blocksA T).map (·.1)
 ·rw [decide_eq_false (by simpa using e)]
  cases h : findC (blocksA T) c.1 with
  | some d => rfl
  | none =>
    exfalso;obtain ⟨d, hd, k⟩ := List.mem_map.1 e;unfold findC at h;rw [List.find?_eq_none] at h;have := h d hd
    simp at this
    exact this k
 ·rw [decide_eq_true e, findC_none (fun d hd k => e (List.mem_map.2 ⟨d, hd, k⟩))]
  rfl
structure HoldsOk (F : Nat → ByteArray) (N : List Int) (row : List Ent) (C : List Ch) (T : Shp) (FR fresh : List Int) : Prop where
 rng : ∀ c ∈ C, 0 ≤ c.1 ∧ c.1 < 4096
 rise : C.Pairwise fun a b => a.1 < b.1
 new : ∀ c ∈ C, c.1 ∈ N → c.2 ≠ F c.1.toNat
 size : ∀ c ∈ C, c.2.size ≤ 1000
 load : loadA (rdOf (layF F C) (-1)) false ((T.length - 1 : Nat) : Int) (rootA T) = .ok T
 row : listA T = row
 node : ∀ c ∈ C, c.1 ∈ sortI (numsA T)
 gone : FR = N.filter fun b => decide (b ∉ sortI (numsA T))
 come : ∀ f ∈ fresh, f ∈ (sortI (numsA T)).filter fun b => decide (b ∉ N)
 many : ((sortI (numsA T)).filter fun b => decide (b ∉ N)).length = fresh.length
theorem enc_size {l : List Ent} (leaf : Bool) : (encN l leaf).size ≤ 1000 := by
 unfold encN;split
 ·rename_i h; rw [nodeB_size leaf h.2.1]; omega
 ·show 0 ≤ 1000; omega
theorem holds_of {F : Nat → ByteArray} {bad : Int} {S T : Shp} (hs : Stands (rdOf F bad) S) (hS : TreeOk S) (hT : TreeOk T) {fresh : List Int}
 (hc : ∀ f ∈ fresh, f ∈ (sortI (numsA T)).filter fun b => decide (b ∉ sortI (numsA S))) (hm : ((sortI (numsA T)).filter fun b => decide (b ∉ sortI (numsA S))).length = fresh.length) :
 HoldsOk F (sortI (numsA S)) (listA T) (chgA (blocksA S) (blocksA T)) T (freeA (blocksA S) (blocksA T)) fresh where
 rng := fun c hc => by have := blk_phys hT c (chg_mem.1 hc).1; omega
 rise := List.Pairwise.sublist (by unfold chgA; exact List.filter_sublist : (chgA (blocksA S) (blocksA T)).Sublist (blocksA T)) (blocks_lt hT.good)
 new := fun c hc hn e => by
  obtain ⟨-, h2⟩ := chg_mem.1 hc;rw [← blocks_fst hS.good.well] at hn;obtain ⟨d, hd, k⟩ := List.mem_map.1 hn;have k : d.1 = c.1 := k;have h3 := stands_blk hs d hd;have h4 := (rdOf_in (by rw [h3])).2;rw [h3, k] at h4
  injection h4 with h4 _
  have : d = c := Prod.ext k (by rw [h4, e]);subst this;exact h2 (findC_mem (blocks_nd hS.good) hd)
 size := fun c hc => by
  obtain ⟨r, hr, p, hp, rfl⟩ := blk_mem (chg_mem.1 hc).1;exact enc_size _
 load := lay_load hs hT
 row := rfl
 node := fun c hc => by rw [← blocks_fst hT.good.well]; exact List.mem_map.2 ⟨c, (chg_mem.1 hc).1, rfl⟩
 gone := free_is hS.good.well hT.good.well
 come := hc
 many := hm
open Go.RowKit
theorem flat_uniq {L : List (List Ent)} {key : Ent → Int} (h : (L.flatten.map key).Nodup) {i j : Nat} (hi : i < L.length) (hj : j < L.length) {x y : Ent} (hx : x ∈ L[i]) (hy : y ∈ L[j]) (e : key x = key y) : i = j := by
 rw [List.nodup_iff_pairwise_ne, List.pairwise_map, List.pairwise_flatten] at h;rcases Nat.lt_trichotomy i j with k | k | k
 ·exact absurd e (List.pairwise_iff_getElem.1 h.2 i j hi hj k x hx y hy)
 ·exact k
 ·exact absurd e.symm (List.pairwise_iff_getElem.1 h.2 j i hj hi k y hy x hx)
theorem heads_nd {S : Shp} (h : (numsA S).Nodup) (r : Nat) : ((headsA S r).map Ent.phys).Nodup := by
 by_cases hr : r < S.length
 ·unfold numsA at h
  rw [List.nodup_iff_pairwise_ne, List.pairwise_flatMap] at h;rw [List.nodup_iff_pairwise_ne];exact h.1 r (List.mem_range.2 hr)
 ·unfold headsA; rw [rowA_none (by omega)]; exact List.nodup_nil
theorem heads_row {S : Shp} (h : (numsA S).Nodup) {r q : Nat} (hr : r < S.length) (hq : q < S.length) {x y : Ent} (hx : x ∈ headsA S r) (hy : y ∈ headsA S q) (e : x.phys = y.phys) : r = q := by
 unfold numsA at h;rw [List.nodup_iff_pairwise_ne, List.pairwise_flatMap] at h;have h2 := h.2;rw [List.pairwise_iff_getElem] at h2;rcases Nat.lt_trichotomy r q with k | k | k
 ·have := h2 r q (by simpa using hr) (by simpa using hq) k
  rw [List.getElem_range, List.getElem_range] at this;exact absurd e (this _ (List.mem_map.2 ⟨x, hx, rfl⟩) _ (List.mem_map.2 ⟨y, hy, rfl⟩))
 ·exact k
 ·have := h2 q r (by simpa using hq) (by simpa using hr) k
  rw [List.getElem_range, List.getElem_range] at this;exact absurd e.symm (this _ (List.mem_map.2 ⟨y, hy, rfl⟩) _ (List.mem_map.2 ⟨x, hx, rfl⟩))
theorem heads_lt {S : Shp} {r : Nat} {x : Ent} (h : x ∈ headsA S r) : r + 1 < S.length := by
 by_cases e : r + 1 < S.length
 ·exact e
 ·unfold headsA at h; rw [rowA_none (by omega)] at h; cases h
theorem chg_pair {S : Shp} (hS : GoodS S) {g : Ent → Ent} {c : Ch} (h : c ∈ chgA (blocksA S) (blocksA (mapS g S))) :
 ∃ r i, ∃ (hr : r + 1 < S.length) (hi : i < (headsA S r).length) (hj : i < (rowA S r).length), c.1 = (g (headsA S r)[i]).phys ∧ c.2 = encN ((rowA S r)[i].map g) (r == 0) ∧
  ((g (headsA S r)[i]).phys ≠ (headsA S r)[i].phys ∨ ∃ y ∈ (rowA S r)[i], g y ≠ y) := by
 obtain ⟨h1, h2⟩ := chg_mem.1 h;obtain ⟨r, hr, p, hp, rfl⟩ := blk_mem h1;rw [List.length_map] at hr;rw [headsU, rowU] at hp;obtain ⟨i, hi, e⟩ := List.mem_iff_getElem.1 hp;rw [List.length_zip, List.length_map, List.length_map] at hi;rw [List.getElem_zip, List.getElem_map, List.getElem_map] at e;subst e;refine ⟨r, i, hr, by omega, by omega, rfl, rfl, ?_⟩;by_cases k : (g (headsA S r)[i]).phys = (headsA S r)[i].phys
 ·refine .inr (Classical.byContradiction fun hno => h2 ?_)
  have hm : (rowA S r)[i].map g = (rowA S r)[i] := by
   refine (List.map_congr_left fun y hy => ?_).trans (List.map_id _);exact Classical.byContradiction fun q => hno ⟨y, hy, q⟩
  show findC (blocksA S) (g (headsA S r)[i]).phys = some ((g (headsA S r)[i]).phys, encN ((rowA S r)[i].map g) (r == 0))
  rw [hm, k];exact findC_mem (blocks_nd hS) (mem_blk (p := ((headsA S r)[i], (rowA S r)[i])) (by omega) (List.mem_iff_getElem.2 ⟨i, by rw [List.length_zip]; omega, List.getElem_zip⟩))
 ·exact .inl k
theorem most_one {l : List Ch} (h : (l.map (·.1)).Nodup) {a : Int} (ha : ∀ c ∈ l, c.1 = a) : l.length ≤ 1 := by
 match l, h, ha with
 | [], _, _ => simp
 | [x], _, _ => simp
 | x :: y :: t, h, ha =>
   exfalso;rw [List.map_cons, List.nodup_cons] at h;exact h.1 (List.mem_map.2 ⟨y, by simp, by rw [ha x (by simp), ha y (by simp)]⟩)
theorem most_two {l : List Ch} (h : (l.map (·.1)).Nodup) {a b : Int} (ha : ∀ c ∈ l, c.1 = a ∨ c.1 = b) : l.length ≤ 2 := by
 match l, h, ha with
 | [], _, _ => simp
 | [x], _, _ => simp
 | [x, y], _, _ => simp
 | x :: y :: z :: t, h, ha =>
   exfalso;rw [List.map_cons, List.nodup_cons, List.map_cons, List.nodup_cons, List.map_cons] at h;have hxy : x.1 ≠ y.1 := fun e => h.1 (by rw [e]; simp);have hxz : x.1 ≠ z.1 := fun e => h.1 (by rw [e]; simp);have hyz : y.1 ≠ z.1 := fun e => h.2.1 (by rw [e]; simp);have h1 := ha x (by simp);have h2 := ha y (by simp);have h3 := ha z (by simp);omega
theorem hit_iff {l : List Ent} {bl : List Int} : hitA l bl = false ↔ ∀ b ∈ bl, ∀ e ∈ l, ¬ (e.phys ≤ b ∧ b < e.phys + e.len) := by
 unfold hitA;rw [List.any_eq_false];constructor
 ·intro h b hb e he k
  have := h b hb;rw [Bool.not_eq_true, List.any_eq_false] at this;exact this e he (decide_eq_true k)
 ·intro h b hb
  rw [Bool.not_eq_true, List.any_eq_false];intro e he;rw [decide_eq_true_eq];exact h b hb e he
theorem logs_nd {l : List Ent} (h : RowOk true l) : (l.map Ent.log).Nodup := by
 rw [List.nodup_iff_pairwise_ne, List.pairwise_map];have := (row_rise _).1 h;clear h
 have key : ∀ (l : List Ent) (b : Int), Rise b l → l.Pairwise fun x y => x.log ≠ y.log := fun l => by
  induction l with
  | nil => intro b _; exact List.Pairwise.nil
  | cons x l ih =>
    intro b hb;refine List.pairwise_cons.2 ⟨fun y hy => ?_, ih _ hb.2.2⟩;have h1 := (hb.2.2.mem y hy).2;have h2 := ((entT x).1 hb.2.1).1;omega
 exact key l 0 this
def mvG (lg n tt : Int) (x : Ent) : Ent := if mvP lg n x then ⟨x.log, tt, x.len⟩ else x
theorem mv_map (lg n tt : Int) (S : Shp) : (chgS (mvF lg n tt) () S).2 = mapS (mvG lg n tt) S := chgU (mvG lg n tt) S
theorem mvG_same (lg n tt : Int) (x : Ent) : (mvG lg n tt x).log = x.log ∧ (mvG lg n tt x).len = x.len := by unfold mvG; split <;> exact ⟨rfl, rfl⟩
theorem mvP_iff {lg n : Int} {x : Ent} : mvP lg n x = true ↔ x.log = lg ∧ x.len = n := by unfold mvP; simp
theorem mvG_head {lg n tt : Int} (hn : 1 ≤ n) {x : Ent} (h : EntOk false x) : mvG lg n tt x = x := by
 unfold EntOk at h
 simp at h
 unfold mvG;rw [if_neg];rw [mvP_iff];omega
section
variable {rd : Rd} {no : Bool} {depth : Int} {root : List Ent} {S : Shp}
theorem move_tree (h : loadA rd no depth root = .ok S) {lg n tt : Int} (hx : RowOk true [⟨lg, tt, n⟩]) (hh : hitA [⟨lg, tt, n⟩] (numsA S) = false) : TreeOk (mapS (mvG lg n tt) S) ∧ numsA (mapS (mvG lg n tt) S) = numsA S := by
 obtain ⟨-, hT, -, -⟩ := load_stands h;have hE : EntOk true ⟨lg, tt, n⟩ := (hx 0 (by simp)).1;have hn : 1 ≤ n := ((entT _).1 hE).1
 have hnum : numsA (mapS (mvG lg n tt) S) = numsA S := by
  rw [numsU];unfold numsA
  exact flatMap_congr' fun r _ => List.map_congr_left fun x hx => by rw [mvG_head hn (load_heads h r x hx)]
 refine ⟨tree_map hT (mvG_same lg n tt) (fun r x hx => ?_) (by rw [hnum]; exact hT.good.nd) ?_, hnum⟩
 ·cases r with
  | zero =>
    have hok := (((row_rise _).1 hT.good.rise).mem x hx).1;unfold mvG;split
    ·rename_i k
     obtain ⟨k1, k2⟩ := mvP_iff.1 k;rw [k1, k2]; exact hE
    ·exact hok
  | succ r =>
    have := load_heads h r x hx;rw [mvG_head hn this]
    have e : ((r + 1 == 0) : Bool) = false := by simp
    rw [e]; exact this
 ·rw [hnum, listU, hit_iff]
  intro b hb e he k;obtain ⟨x, hx, rfl⟩ := List.mem_map.1 he;unfold mvG at k
  split at k
  ·rename_i q
   obtain ⟨q1, q2⟩ := mvP_iff.1 q;exact hit_iff.1 hh b hb ⟨lg, tt, n⟩ (by simp) (by rw [← q2]; exact k)
  ·exact hit_iff.1 hT.good.free b hb x hx k
theorem move_one (h : loadA rd no depth root = .ok S) {lg n tt : Int} (hn : 1 ≤ n) (hx : TreeOk (mapS (mvG lg n tt) S)) : (chgA (blocksA S) (blocksA (mapS (mvG lg n tt) S))).length ≤ 1 := by
 obtain ⟨-, hT, -, -⟩ := load_stands h
 have key : ∀ c ∈ chgA (blocksA S) (blocksA (mapS (mvG lg n tt) S)), ∃ i, ∃ (hi : i < (headsA S 0).length) (hj : i < (rowA S 0).length), c.1 = (headsA S 0)[i].phys ∧ ∃ y ∈ (rowA S 0)[i], y.log = lg := fun c hc => by
  obtain ⟨r, i, hr, hi, hj, e1, -, e3⟩ := chg_pair hT.good hc;have hh := mvG_head (lg := lg) (tt := tt) hn (load_heads h r _ (List.getElem_mem hi));rw [hh] at e1 e3;rcases e3 with e3 | ⟨y, hy, e3⟩
  ·exact absurd rfl e3
  ·cases r with
   | zero =>
     refine ⟨i, hi, hj, e1, y, hy, ?_⟩;unfold mvG at e3
     split at e3
     ·rename_i k; exact (mvP_iff.1 k).1
     ·exact absurd rfl e3
   | succ r =>
     exact absurd (mvG_head hn (load_heads h r y (List.mem_flatten.2 ⟨_, List.getElem_mem hj, hy⟩))) e3
 match hC : chgA (blocksA S) (blocksA (mapS (mvG lg n tt) S)) with
 | [] => simp
 | c0 :: t =>
   obtain ⟨i, hi, hj, e1, y, hy, e2⟩ := key c0 (by rw [hC]; simp);rw [← hC];refine most_one (chg_nd hx.good) (a := c0.1) fun c hc => ?_;obtain ⟨i', hi', hj', e1', y', hy', e2'⟩ := key c hc;have : i = i' := flat_uniq (L := rowA S 0) (key := Ent.log) (logs_nd hT.good.rise) hj hj' hy hy' (by rw [e2, e2']);subst this;rw [e1, e1']
def ldG (fr tt : Int) (x : Ent) : Ent := if x.phys = fr then ⟨x.log, tt, x.len⟩ else x
theorem ld_map (fr tt : Int) (S : Shp) : (chgS (ldF fr tt) () S).2 = mapS (ldG fr tt) S := chgU (ldG fr tt) S
theorem ldG_same (fr tt : Int) (x : Ent) : (ldG fr tt x).log = x.log ∧ (ldG fr tt x).len = x.len := by unfold ldG; split <;> exact ⟨rfl, rfl⟩
theorem ldG_phys (fr tt : Int) (x : Ent) : (ldG fr tt x).phys = if x.phys = fr then tt else x.phys := by unfold ldG; split <;> rfl
theorem ldG_id (fr : Int) (S : Shp) : mapS (ldG fr fr) S = S := by
 have e : ldG fr fr = id := by
  funext x
  unfold ldG;split
  ·rename_i k; rw [← k]; rfl
  ·rfl
 unfold mapS;rw [e]
 simp
theorem ext_ne (hT : TreeOk S) {fr : Int} (hf : fr ∈ numsA S) {x : Ent} (hx : x ∈ listA S) : x.phys ≠ fr := fun e => by
 have h1 := ((entT x).1 (((row_rise _).1 hT.good.rise).mem x hx).1).1;exact hit_iff.1 hT.good.free fr hf x hx (by omega)
theorem lead_nums {fr tt : Int} : numsA (mapS (ldG fr tt) S) = (numsA S).map fun p => if p = fr then tt else p := by
 rw [numsU];unfold numsA;rw [List.map_flatMap];refine flatMap_congr' fun r _ => ?_;rw [List.map_map];exact List.map_congr_left fun x _ => ldG_phys fr tt x
theorem lead_list (hT : TreeOk S) {fr tt : Int} (hf : fr ∈ numsA S) : listA (mapS (ldG fr tt) S) = listA S := by
 rw [listU];refine (List.map_congr_left fun x hx => ?_).trans (List.map_id _);unfold ldG;rw [if_neg (ext_ne hT hf hx)]; rfl
theorem lead_tree (h : loadA rd no depth root = .ok S) {fr tt : Int} (hf : fr ∈ numsA S) (h1 : 1 ≤ tt ∧ tt < 4096) (h2 : ∀ e ∈ listA S, ¬ (e.phys ≤ tt ∧ tt < e.phys + e.len)) (h3 : tt = fr ∨ tt ∉ numsA S) : TreeOk (mapS (ldG fr tt) S) := by
 obtain ⟨-, hT, -, -⟩ := load_stands h;refine tree_map hT (ldG_same fr tt) (fun r x hx => ?_) (by rw [lead_nums]; exact nodup_turn hT.good.nd (h3.symm)) ?_
 ·cases r with
  | zero =>
    have hok := (((row_rise _).1 hT.good.rise).mem x hx).1;unfold ldG;rw [if_neg (ext_ne hT hf hx)]; exact hok
  | succ r =>
    have := load_heads h r x hx
    have e : ((r + 1 == 0) : Bool) = false := by simp
    rw [e];unfold EntOk at this ⊢
    simp at this ⊢
    rw [(ldG_same fr tt x).1, (ldG_same fr tt x).2, ldG_phys]
    split <;> omega
 ·rw [lead_nums, lead_list hT hf, hit_iff]
  intro b hb e he k;obtain ⟨p, hp, rfl⟩ := List.mem_map.1 hb
  split at k
  ·exact h2 e he k
  ·exact hit_iff.1 hT.good.free p hp e he k
theorem lead_two (h : loadA rd no depth root = .ok S) {fr tt : Int} (hf : fr ∈ numsA S) (hx : TreeOk (mapS (ldG fr tt) S)) : (chgA (blocksA S) (blocksA (mapS (ldG fr tt) S))).length ≤ 2 := by
 obtain ⟨-, hT, -, -⟩ := load_stands h
 have key : ∀ c ∈ chgA (blocksA S) (blocksA (mapS (ldG fr tt) S)), c.1 = tt ∨ ∃ r i, ∃ (hr : r + 2 < S.length) (hi : i < (headsA S (r + 1)).length) (hj : i < (rowA S (r + 1)).length), c.1 = (headsA S (r + 1))[i].phys ∧ ∃ y ∈ (rowA S (r + 1))[i], y.phys = fr := fun c hc => by
  obtain ⟨r, i, hr, hi, hj, e1, -, e3⟩ := chg_pair hT.good hc;rw [ldG_phys] at e1 e3;by_cases k : (headsA S r)[i].phys = fr
  ·rw [if_pos k] at e1; exact .inl e1
  ·rw [if_neg k] at e1 e3
   refine .inr ?_;rcases e3 with e3 | ⟨y, hy, e3⟩
   ·exact absurd rfl e3
   ·have hyf : y.phys = fr := Classical.byContradiction fun q => e3 (by unfold ldG; rw [if_neg q])
    cases r with
    | zero => exact absurd hyf (ext_ne hT hf (List.mem_flatten.2 ⟨_, List.getElem_mem hj, hy⟩))
    | succ r => exact ⟨r, i, hr, hi, hj, e1, y, hy, hyf⟩
 by_cases hall : ∀ c ∈ chgA (blocksA S) (blocksA (mapS (ldG fr tt) S)), c.1 = tt
 ·exact Nat.le_trans (most_one (chg_nd hx.good) hall) (by omega)
 ·obtain ⟨c0, hc0⟩ := Classical.not_forall.1 hall
  obtain ⟨hc0, hne⟩ := Classical.not_imp.1 hc0;obtain ⟨r, i, hr, hi, hj, e1, y, hy, e2⟩ := (key c0 hc0).resolve_left hne;refine most_two (chg_nd hx.good) (a := tt) (b := c0.1) fun c hc => ?_;rcases key c hc with k | ⟨r', i', hr', hi', hj', e1', y', hy', e2'⟩
  ·exact .inl k
  ·refine .inr ?_
   have hy1 : y ∈ headsA S r := List.mem_flatten.2 ⟨_, List.getElem_mem hj, hy⟩;have hy2 : y' ∈ headsA S r' := List.mem_flatten.2 ⟨_, List.getElem_mem hj', hy'⟩;have hrr : r = r' := heads_row hT.good.nd (by omega) (by omega) hy1 hy2 (by rw [e2, e2']);subst hrr;have : i = i' := flat_uniq (L := rowA S (r + 1)) (key := Ent.phys) (heads_nd hT.good.nd r) hj hj' hy hy' (by rw [e2, e2']);subst this;rw [e1, e1']
theorem filter_one {l : List Int} (h : l.Nodup) {a : Int} (ha : a ∈ l) {p : Int → Bool} (hp : ∀ x ∈ l, p x = decide (x = a)) : l.filter p = [a] := by
 rw [List.filter_congr hp]
 induction l with
 | nil => cases ha
 | cons x l ih =>
   rw [List.nodup_cons] at h;rcases List.mem_cons.1 ha with e | ha
   ·subst e
    rw [List.filter_cons, if_pos (by simp)];congr 1;rw [List.filter_eq_nil_iff];intro y hy;rw [decide_eq_true_eq];exact fun e => h.1 (e ▸ hy)
   ·rw [List.filter_cons, if_neg (by rw [decide_eq_true_eq]; exact fun e => h.1 (e ▸ ha))]
    exact ih h.2 ha fun y hy => hp y (List.mem_cons_of_mem _ hy)
theorem lead_gone (hT : TreeOk S) {fr tt : Int} (hf : fr ∈ numsA S) (ht : tt ∉ numsA S) (hx : TreeOk (mapS (ldG fr tt) S)) :
 ((sortI (numsA S)).filter fun b => decide (b ∉ sortI (numsA (mapS (ldG fr tt) S)))) = [fr] ∧ ((sortI (numsA (mapS (ldG fr tt) S))).filter fun b => decide (b ∉ sortI (numsA S))) = [tt] := by
 have hne : tt ≠ fr := fun e => ht (e ▸ hf);have hnd1 : (sortI (numsA S)).Nodup := (sortI_perm _).nodup_iff.2 hT.good.nd;have hnd2 : (sortI (numsA (mapS (ldG fr tt) S))).Nodup := (sortI_perm _).nodup_iff.2 hx.good.nd
 have hin : ∀ b, b ∈ numsA (mapS (ldG fr tt) S) ↔ (b = tt ∨ (b ≠ fr ∧ b ∈ numsA S)) := fun b => by
  rw [lead_nums, List.mem_map];constructor
  ·rintro ⟨p, hp, rfl⟩
   split
   ·exact .inl rfl
   ·rename_i k; exact .inr ⟨k, hp⟩
  ·rintro (rfl | ⟨k1, k2⟩)
   ·exact ⟨fr, hf, if_pos rfl⟩
   ·exact ⟨b, k2, if_neg k1⟩
 refine ⟨filter_one hnd1 ((sortI_mem _ _).2 hf) fun x hx => ?_, filter_one hnd2 ((sortI_mem _ _).2 ((hin tt).2 (.inl rfl))) fun x hx => ?_⟩
 ·rw [sortI_mem] at hx
  refine decide_eq_decide.2 ?_;rw [sortI_mem, hin];constructor
  ·intro k
   exact Classical.byContradiction fun q => k (.inr ⟨q, hx⟩)
  ·rintro rfl (k | k)
   ·exact hne k.symm
   ·exact k.1 rfl
 ·rw [sortI_mem, hin] at hx
  refine decide_eq_decide.2 ?_;rw [sortI_mem];constructor
  ·intro k
   rcases hx with hx | hx
   ·exact hx
   ·exact absurd hx.2 k
  ·rintro rfl; exact ht
theorem lead_data {F : Nat → ByteArray} {bad : Int} (hs : Stands (rdOf F bad) S) (hT : TreeOk S) {fr tt : Int} (hf : fr ∈ numsA S) (ht : tt ∉ numsA S) :
 (∀ c ∈ chgA (blocksA S) (blocksA (mapS (ldG fr tt) S)), c.1 = tt → c.2 = F fr.toNat) ∧ ∃ c ∈ chgA (blocksA S) (blocksA (mapS (ldG fr tt) S)), c.1 = tt := by
 constructor
 ·intro c hc e
  obtain ⟨r, i, hr, hi, hj, e1, e2, -⟩ := chg_pair hT.good hc;rw [ldG_phys] at e1;have hx : (headsA S r)[i] ∈ headsA S r := List.getElem_mem hi
  have hin : (headsA S r)[i].phys ∈ numsA S := by
   unfold numsA;exact List.mem_flatMap.2 ⟨r, List.mem_range.2 (by omega), List.mem_map.2 ⟨_, hx, rfl⟩⟩
  have hphys : (headsA S r)[i].phys = fr := Classical.byContradiction fun k => by
   rw [if_neg k] at e1;exact ht (by rw [← e, e1]; exact hin)
  have hm : (rowA S r)[i].map (ldG fr tt) = (rowA S r)[i] := by
   refine (List.map_congr_left fun y hy => ?_).trans (List.map_id _)
   have hyf : y.phys ≠ fr := fun q => by
    cases r with
    | zero => exact ext_ne hT hf (List.mem_flatten.2 ⟨_, List.getElem_mem hj, hy⟩) q
    | succ r =>
      have := heads_row hT.good.nd (by omega) (by omega) (List.mem_flatten.2 ⟨_, List.getElem_mem hj, hy⟩ : y ∈ headsA S r) hx (by rw [q, hphys]);omega
   unfold ldG;rw [if_neg hyf]; rfl
  rw [hm] at e2;have hb := stands_blk hs _ (mem_blk (p := ((headsA S r)[i], (rowA S r)[i])) (by omega) (List.mem_iff_getElem.2 ⟨i, by rw [List.length_zip]; omega, List.getElem_zip⟩));have hb : rdOf F bad (headsA S r)[i].phys = (encN (rowA S r)[i] (r == 0), 0) := hb;have := (rdOf_in (by rw [hb])).2;rw [hb, hphys] at this
  injection this with this _
  rw [e2, this]
 ·have hf2 := hf
  unfold numsA at hf2;obtain ⟨r, hr, hf2⟩ := List.mem_flatMap.1 hf2;obtain ⟨x, hx, hxf⟩ := List.mem_map.1 hf2;have hlt := heads_lt hx;obtain ⟨i, hi, rfl⟩ := List.mem_iff_getElem.1 hx
  have hj : i < (rowA S r).length := by rw [← hT.good.well.heads r hlt]; exact hi
  refine ⟨(tt, encN ((rowA S r)[i].map (ldG fr tt)) (r == 0)), chg_mem.2 ⟨?_, ?_⟩, rfl⟩
  ·have := mem_blk (S := mapS (ldG fr tt) S) (r := r) (p := (ldG fr tt (headsA S r)[i], (rowA S r)[i].map (ldG fr tt))) (by rw [List.length_map]; omega) (by
    rw [headsU, rowU]
    exact List.mem_iff_getElem.2 ⟨i, by rw [List.length_zip, List.length_map, List.length_map]; omega, by rw [List.getElem_zip, List.getElem_map, List.getElem_map]⟩)
   have h2 : (ldG fr tt (headsA S r)[i]).phys = tt := by rw [ldG_phys, if_pos hxf]
   dsimp only at this;rwa [h2] at this
  ·intro k
   have := findC_of k;exact ht ((blocks_nums hT.good.well).mem_iff.1 (List.mem_map.2 ⟨_, this.1, this.2⟩))
end
open Go.RowKit
theorem nums_small {S : Shp} (h : TreeOk S) : (numsA S).length ≤ 100000 := by
 have : SeenOk (numsA S) := ⟨h.good.nd, fun b hb => by have := tree_phys h b hb; omega⟩;have := this.len;omega
theorem root_fit {S : Shp} (h : TreeOk S) : fitE (rootA S) := by
 have hr := h.root;unfold RootedA at hr;rw [ok_kindN (by show (1 : Int) ≠ 0; decide)] at hr;unfold Full at hr;have hr : RowOk (decide (((S.length - 1 : Nat) : Int) = 0)) (rootA S) := hr.2.2.2.2.2.1;intro e he;obtain ⟨i, hi, rfl⟩ := List.mem_iff_getElem.1 he;have := ent_small hr hi;rw [eat_eq hi] at this;exact ⟨⟨by omega, by omega⟩, ⟨by omega, by omega⟩, ⟨by omega, by omega⟩⟩
theorem deep_fit {S : Shp} (h : TreeOk S) : I64 ((S.length - 1 : Nat) : Int) := by
 have hr := h.root;unfold RootedA at hr;rw [ok_kindN (by show (1 : Int) ≠ 0; decide)] at hr;unfold Full at hr;have : ((S.length - 1 : Nat) : Int) ≤ 4 := hr.2.2.2.1.2;exact ⟨by omega, by omega⟩
theorem set_map {row : List Ent} {lg n tt : Int} (h1 : ∀ i j, i < row.length → j < row.length → mvP lg n (eat row i) = true → mvP lg n (eat row j) = true → i = j) {i : Nat} (hi : i < row.length) (hp : mvP lg n (eat row i) = true) :
 row.map (mvG lg n tt) = row.set i ⟨(eat row i).log, tt, (eat row i).len⟩ := by
 apply List.ext_getElem (by rw [List.length_map, List.length_set])
 intro j h2 h3;rw [List.length_map] at h2;rw [List.getElem_map, List.getElem_set];by_cases e : i = j
 ·subst e
  rw [if_pos rfl, eat_eq hi];rw [eat_eq hi] at hp;unfold mvG;rw [if_pos hp]
 ·rw [if_neg e]
  unfold mvG;rw [if_neg];intro k;exact e (h1 i j hi h2 hp (by rw [eat_eq h2]; exact k))
def MvBad (N : List Int) (n tt : Int) : Prop := tt < 1 ∨ 4096 - n < tt ∨ ∃ b ∈ N, tt ≤ b ∧ b < tt + n
structure GoodR (F : Nat → ByteArray) (N : List Int) (row : List Ent) (R : RpR) (fresh : List Int) : Prop where
 ec : ecR R = 0
 ex : ∃ T, dpR R = ((T.length - 1 : Nat) : Int) ∧ rtR R = rootA T ∧ HoldsOk F N row (chR R) T (frR R) fresh ∧ fitE (rootA T) ∧ (numsA T).length ≤ 100000 ∧ I64 ((T.length - 1 : Nat) : Int)
structure MovedOk (F : Nat → ByteArray) (N : List Int) (row : List Ent) (dp : Int) (root : List Ent) (R : RpR) (lg n tt : Int) : Prop where
 none : (∀ k, k < row.length → mvP lg n (eat row k) = false) → ecR R = 4
 big : ∀ i, i < row.length → mvP lg n (eat row i) = true → 1 ≤ n ∧ n ≤ 2048
 bad : ∀ i, i < row.length → mvP lg n (eat row i) = true → MvBad N n tt → ecR R = 2
 good : ∀ i, i < row.length → mvP lg n (eat row i) = true → ¬ MvBad N n tt → GoodR F N (row.set i ⟨(eat row i).log, tt, (eat row i).len⟩) R [] ∧ (chR R).length ≤ 1 ∧ dpR R = dp ∧ (rtR R).length = root.length ∧ (dp = 0 ∨ rtR R = root)
theorem moved_ok {F : Nat → ByteArray} {bad dp : Int} {root : List Ent} {S : Shp} (h : loadA (rdOf F bad) false dp root = .ok S) (lg n tt : Int) : MovedOk F (sortI (numsA S)) (listA S) dp root (moveA (rdOf F bad) dp root lg n tt) lg n tt := by
 obtain ⟨hs, hS, hlen, hroot⟩ := load_stands h
 have hR : moveA (rdOf F bad) dp root lg n tt = if (listA S).any (mvP lg n) = false then .error 4
  else if RowOk true [⟨lg, tt, n⟩] ∧ hitA [⟨lg, tt, n⟩] (numsA S) = false then .ok (S, (chgS (mvF lg n tt) () S).2) else .error 2 := by unfold moveA; rw [h]
 have hany : ∀ i, i < (listA S).length → mvP lg n (eat (listA S) i) = true → ¬ (listA S).any (mvP lg n) = false := fun i hi hp k => by
  rw [List.any_eq_false] at k;have := k _ (List.getElem_mem hi);rw [eat_eq hi] at hp;exact this hp
 have hent : ∀ i, i < (listA S).length → mvP lg n (eat (listA S) i) = true → 1 ≤ n ∧ n ≤ 2048 ∧ 0 ≤ lg ∧ lg + n ≤ 2048 := fun i hi hp => by
  have h1 := (entT _).1 (hS.good.rise i hi).1;obtain ⟨p1, p2⟩ := mvP_iff.1 hp;rw [p1, p2] at h1;omega
 have huni : ∀ i j, i < (listA S).length → j < (listA S).length → mvP lg n (eat (listA S) i) = true → mvP lg n (eat (listA S) j) = true → i = j := fun i j hi hj h1 h2 => by
  have hnd := logs_nd hS.good.rise;have e1 := (mvP_iff.1 h1).1;have e2 := (mvP_iff.1 h2).1;rw [eat_eq hi] at e1;rw [eat_eq hj] at e2;have := (List.nodup_iff_pairwise_ne.1 hnd);rw [List.pairwise_iff_getElem] at this;rcases Nat.lt_trichotomy i j with k | k | k
  ·exact absurd (by rw [List.getElem_map, List.getElem_map, e1, e2]) (this i j (by rw [List.length_map]; exact hi) (by rw [List.length_map]; exact hj) k)
  ·exact k
  ·exact absurd (by rw [List.getElem_map, List.getElem_map, e1, e2]) (this j i (by rw [List.length_map]; exact hj) (by rw [List.length_map]; exact hi) k)
 refine ⟨fun hno => ?_, fun i hi hp => ⟨(hent i hi hp).1, (hent i hi hp).2.1⟩, fun i hi hp hbad => ?_, fun i hi hp hgood => ?_⟩
 ·rw [hR, if_pos]
  ·rfl
  ·rw [List.any_eq_false]
   intro e he k;obtain ⟨j, hj, rfl⟩ := List.mem_iff_getElem.1 he;have := hno j hj;rw [eat_eq hj, k] at this
   cases this
 ·rw [hR, if_neg (hany i hi hp), if_neg]
  ·rfl
  ·rintro ⟨k1, k2⟩
   have h1 := (entT _).1 (k1 0 (by simp)).1;have h1 : 1 ≤ n ∧ 0 ≤ lg ∧ lg + n ≤ 2048 ∧ 1 ≤ tt ∧ tt + n ≤ 4096 := h1;rcases hbad with hb | hb | ⟨b, hb, hb2⟩
   ·omega
   ·omega
   ·exact hit_iff.1 k2 b ((sortI_mem _ _).1 hb) ⟨lg, tt, n⟩ (by simp) hb2
 ·have hE := hent i hi hp
  have h1 : 1 ≤ tt := by
   by_cases q : tt < 1
   ·exact absurd (Or.inl q) hgood
   ·omega
  have h2 : tt ≤ 4096 - n := by
   by_cases q : 4096 - n < tt
   ·exact absurd (Or.inr (Or.inl q)) hgood
   ·omega
  have hx : RowOk true [⟨lg, tt, n⟩] := by
   rw [row_rise];exact ⟨by show (0 : Int) ≤ lg; omega, (entT _).2 ⟨by show 1 ≤ n; omega, by show 0 ≤ lg; omega, by show lg + n ≤ 2048; omega, h1, by show tt + n ≤ 4096; omega⟩, trivial⟩
  have hh : hitA [⟨lg, tt, n⟩] (numsA S) = false := by
   rw [hit_iff];intro b hb e he k;rw [List.mem_singleton] at he;subst he;exact hgood (.inr (.inr ⟨b, (sortI_mem _ _).2 hb, k⟩))
  obtain ⟨hT, hnum⟩ := move_tree h hx hh
  have hRT : moveA (rdOf F bad) dp root lg n tt = .ok (S, mapS (mvG lg n tt) S) := by rw [hR, if_neg (hany i hi hp), if_pos ⟨hx, hh⟩, mv_map]
  have hdp : ((S.length - 1 : Nat) : Int) = dp := by have := hS.good.well.pos; omega
  have hrt : rootA S = root := by
   have := root_row hS.good.well;rw [hroot] at this
   injection this with this _
   exact this.symm
  have hempty : ((sortI (numsA (mapS (mvG lg n tt) S))).filter fun b => decide (b ∉ sortI (numsA S))) = [] := by
   rw [hnum, List.filter_eq_nil_iff];intro b hb;rw [decide_eq_true_eq];exact fun k => k hb
  have hH := holds_of hs hS hT (fresh := []) (fun f hf => by cases hf) (by rw [hempty]);rw [listU, set_map huni hi hp] at hH;rw [hRT];refine ⟨⟨rfl, mapS (mvG lg n tt) S, rfl, rfl, hH, root_fit hT, nums_small hT, deep_fit hT⟩, move_one h hE.1 hT, ?_, ?_, ?_⟩
  ·show (((mapS (mvG lg n tt) S).length - 1 : Nat) : Int) = dp
   rw [List.length_map]; exact hdp
  ·show (rootA (mapS (mvG lg n tt) S)).length = _
   rw [rootU, List.length_map, hrt]
  ·by_cases q : dp = 0
   ·exact .inl q
   ·refine .inr ?_
    show rootA (mapS (mvG lg n tt) S) = root
    rw [rootU, ← hrt];refine (List.map_congr_left fun x hx => ?_).trans (List.map_id _)
    have hx2 : x ∈ headsA S (S.length - 2) := by
     unfold headsA;rw [show S.length - 2 + 1 = S.length - 1 by omega, root_row hS.good.well]
     simpa using hx
    exact mvG_head hE.1 (load_heads h _ x hx2)
def LdBad (row : List Ent) (N : List Int) (fr tt : Int) : Prop := tt < 1 ∨ 4096 ≤ tt ∨ takenA row tt = true ∨ (tt ≠ fr ∧ tt ∈ N)
structure LedOk (F : Nat → ByteArray) (N : List Int) (row : List Ent) (dp : Int) (root : List Ent) (R : RpR) (fr tt : Int) : Prop where
 none : fr ∉ N → ecR R = 4
 bad : fr ∈ N → LdBad row N fr tt → ecR R = 2
 same : fr ∈ N → ¬ LdBad row N fr tt → tt = fr → ecR R = 0 ∧ (chR R) = [] ∧ (frR R) = [] ∧ dpR R = dp ∧ rtR R = root
 good : fr ∈ N → ¬ LdBad row N fr tt → tt ≠ fr → GoodR F N row R [tt] ∧ (chR R).length ≤ 2 ∧ dpR R = dp ∧ (rtR R).length = root.length ∧ (0 ≤ fr ∧ fr < 4096) ∧ (∀ c ∈ chR R, c.1 = tt → c.2 = F fr.toNat) ∧ (∃ c ∈ chR R, c.1 = tt) ∧ frR R = [fr]
theorem chg_self {S : Shp} (h : GoodS S) : chgA (blocksA S) (blocksA S) = [] := by
 unfold chgA;rw [List.filter_eq_nil_iff];intro c hc;rw [decide_eq_true_eq];exact fun k => k (findC_mem (blocks_nd h) hc)
theorem free_self {S : Shp} (h : GoodS S) : freeA (blocksA S) (blocksA S) = [] := by
 rw [free_is h.well h.well, List.filter_eq_nil_iff];intro b hb;rw [decide_eq_true_eq];exact fun k => k hb
theorem elem_blocks {l : List Ent} (h : RowOk true l) (b : Int) : elemR (blocksV l) b ↔ takenA l b = true := by
 unfold blocksV;rw [if_pos h];unfold blocksX takenA;rw [norm_elem, physR_elem h, List.any_eq_true];exact ⟨fun ⟨e, he, k⟩ => ⟨e, he, decide_eq_true k⟩, fun ⟨e, he, k⟩ => ⟨e, he, of_decide_eq_true k⟩⟩
theorem led_ok {F : Nat → ByteArray} {bad dp : Int} {root : List Ent} {S : Shp} (h : loadA (rdOf F bad) false dp root = .ok S) (fr tt : Int) : LedOk F (sortI (numsA S)) (listA S) dp root (leadA (rdOf F bad) dp root fr tt) fr tt := by
 obtain ⟨hs, hS, hlen, hroot⟩ := load_stands h
 have hR : leadA (rdOf F bad) dp root fr tt = if decide (fr ∈ numsA S) = false then .error 4
  else if leadBad S fr tt then .error 2 else .ok (S, (chgS (ldF fr tt) () S).2) := by unfold leadA; rw [h]
 have hmem : fr ∈ sortI (numsA S) ↔ fr ∈ numsA S := sortI_mem _ _
 have hbad : leadBad S fr tt ↔ LdBad (listA S) (sortI (numsA S)) fr tt := by
  unfold leadBad LdBad;rw [elem_blocks hS.good.rise, sortI_mem];unfold usableA;rw [Bool.and_eq_false_iff, decide_eq_false_iff_not, decide_eq_false_iff_not];constructor
  ·rintro ((k | k) | k | k)
   ·exact .inl (by omega)
   ·exact .inr (.inl (by omega))
   ·exact .inr (.inr (.inl k))
   ·exact .inr (.inr (.inr k))
  ·rintro (k | k | k | k)
   ·exact .inl (.inl (by omega))
   ·exact .inl (.inr (by omega))
   ·exact .inr (.inl k)
   ·exact .inr (.inr k)
 have hdp : ((S.length - 1 : Nat) : Int) = dp := by have := hS.good.well.pos; omega
 have hrt : rootA S = root := by
  have := root_row hS.good.well;rw [hroot] at this
  injection this with this _
  exact this.symm
 refine ⟨fun hno => ?_, fun hf hb => ?_, fun hf hb he => ?_, fun hf hb hne => ?_⟩
 ·rw [hR, if_pos (decide_eq_false fun k => hno (hmem.2 k))]; rfl
 ·rw [hR, if_neg (by rw [decide_eq_true (hmem.1 hf)]; simp), if_pos (hbad.2 hb)]; rfl
 ·have hRT : leadA (rdOf F bad) dp root fr tt = .ok (S, S) := by
   rw [hR, if_neg (by rw [decide_eq_true (hmem.1 hf)]; simp), if_neg (fun k => hb (hbad.1 k)), ld_map, he, ldG_id]
  rw [hRT];exact ⟨rfl, chg_self hS.good, free_self hS.good, hdp, hrt⟩
 ·have hf2 := hmem.1 hf
  have h1 : 1 ≤ tt ∧ tt < 4096 := by
   constructor
   ·by_cases q : tt < 1
    ·exact absurd (Or.inl q) hb
    ·omega
   ·by_cases q : 4096 ≤ tt
    ·exact absurd (Or.inr (Or.inl q)) hb
    ·omega
  have h2 : ∀ e ∈ listA S, ¬ (e.phys ≤ tt ∧ tt < e.phys + e.len) := fun e he k => hb (.inr (.inr (.inl (by
   unfold takenA; exact List.any_eq_true.2 ⟨e, he, decide_eq_true k⟩))))
  have h3 : tt ∉ numsA S := fun k => hb (.inr (.inr (.inr ⟨hne, (sortI_mem _ _).2 k⟩)));have hT := lead_tree h hf2 h1 h2 (.inr h3)
  have hRT : leadA (rdOf F bad) dp root fr tt = .ok (S, mapS (ldG fr tt) S) := by
   rw [hR, if_neg (by rw [decide_eq_true hf2]; simp), if_neg (fun k => hb (hbad.1 k)), ld_map]
  obtain ⟨g1, g2⟩ := lead_gone hS hf2 h3 hT;have hH := holds_of hs hS hT (fresh := [tt]) (fun f hf => by rw [g2]; exact hf) (by rw [g2]);rw [lead_list hS hf2] at hH;obtain ⟨k1, k2⟩ := lead_data hs hS hf2 h3;have hp := tree_phys hS fr hf2;rw [hRT];refine ⟨⟨rfl, mapS (ldG fr tt) S, rfl, rfl, hH, root_fit hT, nums_small hT, deep_fit hT⟩, lead_two h hf2 hT, ?_, ?_, ⟨by omega, hp.2⟩, k1, k2, ?_⟩
  ·show (((mapS (ldG fr tt) S).length - 1 : Nat) : Int) = dp
   rw [List.length_map]; exact hdp
  ·show (rootA (mapS (ldG fr tt) S)).length = _
   rw [rootU, List.length_map, hrt]
  ·show freeA (blocksA S) (blocksA (mapS (ldG fr tt) S)) = [fr]
   rw [free_is hS.good.well hT.good.well, g1]
open Go.RowKit
theorem lin_any (l : List Int) (b : Int) (v : Value) (w : World) (hv : IntsR v l w) :
 Calls Tryz.prog 69 #[v, .int .i64 b] w fun e w' => e = .returned (.bool (decide (b ∈ l))) ∧ Below w.heap.size w w' := by
 obtain ⟨ad, cap, rfl, c1, c2, c3⟩ := intsR_cells hv;have H3 := Lib.hid c3;have HY : Hid (∀ k, l[k]? = some b → decide (b ∈ l) = true) := Lib.hid fun k h => decide_eq_true (List.mem_of_getElem? h);have HN : Hid (b ∉ l.take l.length → decide (b ∈ l) = false) := Lib.hid fun h => decide_eq_false (by rwa [List.take_length] at h);clear hv c3;generalize decide (b ∈ l) = R at *
 go_enter Tryz.func69, Tryz.ntmps69
 go_wp2
 go_loopw [5] (fun q wr => ∃ k : Nat, q = .int .i64 k ∧ k ≤ l.length ∧ Hid (b ∉ l.take k) ∧ Below w.heap.size w wr) (fun q _ => l.length - (intOf q).toNat)
 case atStart => exact ⟨0, rfl, Nat.zero_le _, Lib.hid (by simp), Below.refl _ _⟩
 case round =>
  obtain ⟨k, rfl, hk, HK, hb⟩ := hrel;by_cases hkl : k < l.length
  ·obtain ⟨g, o, x, rfl, hx, hc⟩ := H3.out wr hb k hkl
   by_cases e : x = b
   ·subst e
    have d1 : (x == x) = true := by simp
    have HE := Lib.hid (HY.out k hx);clear hx H3 HK HN HY;go_wp2;go_ret;exact ⟨ret_bool HE.out.symm, hb⟩
   ·have d1 : (x == b) = false := by rw [beq_eq_false_iff_ne]; exact e
    have HM : Hid (b ∉ l.take (k + 1)) := Lib.hid (by
     have h1 := List.getElem?_eq_some_iff.1 hx;rw [List.take_succ_eq_append_getElem h1.1, List.mem_append, h1.2, List.mem_singleton]
     exact fun h => h.elim HK.out (fun q => e q.symm))
    clear hx H3 e HK HN HY;go_wp2;exact ⟨⟨k + 1, by go_num, by omega, HM, hb⟩, by simp [intOf]; omega⟩
  ·obtain rfl : k = l.length := by omega
   have HE := Lib.hid (HN.out HK.out);clear HK HY HN H3;go_wp2;go_ret;exact ⟨ret_bool HE.out.symm, hb⟩
open Go.RowKit
def DocEnd (a : Except Int (List Ent × List Int)) (w : World) (e : Ending) (w' : World) : Prop :=
 Below w.heap.size w w' ∧ match a with
 | .ok (r, n) => ∃ vl vn, e = .returned (.tuple #[vl, vn, .int .i64 0]) ∧ ExtsAt w.heap.size vl r w' ∧ IntsFk w.heap.size vn n w'
 | .error c => e = .returned (.tuple #[.slice none 0 0, .slice none 0 0, .int .i64 c]) ∧ c ≠ 0
theorem rfdoc_any {cb : Nat} (F : Nat → ByteArray) (hF : ∀ k, (F k).size ≤ 1000) (bad : Int) (g : Nat) (depth : Int) (hdi : I64 depth) (root : List Ent) (hf : fitE root) (v : Value) (w : World) (hv : EntsIn v root w) (hd : DskAt g F w) :
 Calls Tryz.prog 21 #[.int .i64 depth, v, .agg #[.slice (some ⟨g, 0, none⟩) 4096 cb, .int .i64 bad]] w (DocEnd (docA (rdOf F bad) depth root) w) := by
 have mixed : Tryz.prog.follows .mixedOrders = true := by kernel_rfl
 obtain ⟨ad, cap, rfl, -⟩ := entsIn_cells hv;have b0 := balloc1 w (.cells #[.slice (some ⟨g, 0, none⟩) 4096 cb, .int .i64 bad] 50);have k0 := Blk.new #[.slice (some ⟨g, 0, none⟩) 4096 cb, .int .i64 bad] 50 w;have RO := Lib.hid (rfroot_any depth root hf _ _ (hv.kept b0));generalize hw1 : w.alloc (.cells #[.slice (some ⟨g, 0, none⟩) 4096 cb, .int .i64 bad] 50) = w1 at *;have HW1 := Lib.hid hw1;have HK0 := Lib.hid k0;have HB0 := Lib.hid b0;have HV := Lib.hid hv;have HDK := Lib.hid hd;clear hw1 k0 b0 hv hd;by_cases hok : RootedA depth root
 ·rw [decide_eq_true hok] at RO
  have hr := (rooted_iff depth root).1 hok;obtain ⟨D, hD0⟩ : ∃ D : Nat, depth = (D : Int) := ⟨depth.toNat, by have := hr.1; omega⟩;have HDD := Lib.hid hD0;clear hD0
  go_enter Tryz.func21, Tryz.ntmps21
  go_upto_region 1 with fail
  rw [HW1.out];go_wp2_with fail
  refine RO.out.mono ?_; rintro e w2 ⟨rfl, b2⟩;have HK2 := Lib.hid (HK0.out.kept1 b2);have HB2 := Lib.hid (bnext HB0.out b2);have q0 := HK2.out.cell 0;have q1 := HK2.out.cell 1;simp only [List.getElem?_toArray, List.getElem?_cons_zero, List.getElem?_cons_succ] at q0 q1;clear b2 RO HW1
  have hwk0 : WkAt cb w.heap.size w2.heap.size g bad (.slice none 0 0) (.slice none 0 0) [] [] (w2.alloc (.cells #[.slice (some ⟨g, 0, none⟩) 4096 cb, .int .i64 bad, .slice none 0 0, .slice none 0 0] 111)) :=
   ⟨Blk.new _ _ _, HB2.out.size, World.ownsRow_nil _ _ _ _, World.ownsRow_nil _ _ _ _⟩
  have b3 := bnext HB2.out (balloc1 w2 (.cells #[.slice (some ⟨g, 0, none⟩) 4096 cb, .int .i64 bad, .slice none 0 0, .slice none 0 0] 111));obtain ⟨R, hR⟩ : ∃ R, w2.heap.size = R := ⟨_, rfl⟩;obtain ⟨w3, hw3⟩ : ∃ w3, w2.alloc (.cells #[.slice (some ⟨g, 0, none⟩) 4096 cb, .int .i64 bad, .slice none 0 0, .slice none 0 0] 111) = w3 := ⟨_, rfl⟩;rw [hR, hw3] at hwk0;rw [hw3] at b3;have HW3 := Lib.hid hw3;have HRR3 := Lib.hid hR;have HWK0 := Lib.hid hwk0;have HB3 := Lib.hid b3;have HEK : Hid (EntsK w.heap.size (.slice ad root.length cap) root w3) := Lib.hid (EntsK.old HV.out (Nat.le_refl _) b3 b3.size);have HD3 := Lib.hid (HDK.out.kept1 b3);have hgB := HDK.out.c.1;clear hwk0 b3 hw3 hR;by_cases h0 : depth = 0
  ·have t0 : (depth == 0) = true := by rw [beq_iff_eq]; exact h0
   have ADD := Lib.hid (rfadd_any HB3.out.size HWK0.out root (by have := hr.2.1; simp; omega) _ HEK.out);have HST : Hid (startA (rdOf F bad) depth root = .ok ([], root)) := Lib.hid (by unfold startA; rw [if_pos h0]);have hrl := hr.2.1;clear h0 HDD
   go_upto_region 5 with fail
   rw [HW3.out, HRR3.out];clear q0 q1;go_wp2_with fail
   refine ADD.out.mono ?_; rintro e w5 ⟨rfl, ⟨vr5, hw5⟩, k5⟩;rw [List.nil_append] at hw5;obtain ⟨n, hn⟩ : ∃ n : List Int, n = [] := ⟨_, rfl⟩;obtain ⟨r, hr9⟩ : ∃ r, r = root := ⟨_, rfl⟩;obtain ⟨vn9, hvn⟩ : ∃ v, v = Value.slice none 0 0 := ⟨_, rfl⟩;have HEND : Hid (WkAt cb w.heap.size R g bad vn9 vr5 n r w5 ∧ (r.length ≤ 50000 ∧ fitE r ∧ n.length ≤ 4096) ∧ Below w.heap.size w w5) := Lib.hid ⟨by rw [hr9, hn, hvn]; exact hw5, ⟨by rw [hr9]; omega, by rw [hr9]; exact hf, by rw [hn]; exact Nat.zero_le _⟩, HB3.out.trans (k5.below HB3.out.size)⟩;have HST : Hid (startA (rdOf F bad) depth root = .ok (n, r)) := Lib.hid (by rw [hn, hr9]; exact HST.out);clear hn hr9 hvn hw5 k5 ADD HWK0 hrl hr;obtain ⟨hwk, hinv, hkb⟩ := HEND.out;have HWK := Lib.hid hwk;have HINV := Lib.hid hinv;have HKB := Lib.hid hkb;obtain ⟨an, cn, rfl, -, -, sn⟩ := shape_of hwk.n;obtain ⟨ar, cr, rfl, -⟩ := shape_of hwk.r;have CK := Lib.hid (xrcheck_long r hinv.2.1 (by have := hinv.1; omega) _ _ (rowE_in hwk.r));have z2 := hwk.blk.cell 2;have z3 := hwk.blk.cell 3;simp only [List.getElem?_toArray, List.getElem?_cons_zero, List.getElem?_cons_succ] at z2 z3;have hn1 : n.length ≤ 4096 := hinv.2.2;clear hwk hinv hkb sn HEND;by_cases hro : RowOk true r
   ·rw [decide_eq_true hro] at CK
    go_wp2_with fail
    refine CK.out.mono ?_; rintro e w4 ⟨rfl, b4⟩;have HKB := Lib.hid (HKB.out.trans (b4.mono HKB.out.size));have HWK := Lib.hid (HWK.out.kept1 b4);clear b4 CK z2 z3;go_wp2
    go_loopw [11] (fun p wr => ∃ j : Nat, p = .int .i64 (j : Int) ∧ j ≤ n.length ∧ Hid (∀ i, (hi : i < n.length) → i < j → takenA r n[i] = false) ∧ Hid (Below w4.heap.size w4 wr)) (fun p _ => n.length - (intOf p).toNat)
    case atStart => exact ⟨0, rfl, Nat.zero_le _, Lib.hid fun i hi h => by omega, Lib.hid (Below.refl _ _)⟩
    case round =>
     obtain ⟨j, rfl, hj, HJ, HB⟩ := hrel;have HWR := Lib.hid (HWK.out.kept1 HB.out);have HKR := Lib.hid (HKB.out.trans (HB.out.mono HKB.out.size));have z2 := HWR.out.blk.cell 2;simp only [List.getElem?_toArray, List.getElem?_cons_zero, List.getElem?_cons_succ] at z2;by_cases hjl : j < n.length
     ·obtain ⟨gn, rfl, -, -⟩ := (shape_of HWR.out.n).elim fun _ q => by
       obtain ⟨cq, e1, -, -, e2⟩ := q
       cases e1
       exact e2 (by omega)
      have y2 : ∀ q : BelowP wr, q.to.cell? ⟨R, 2, none⟩ = some (.slice (some ⟨gn, 0, none⟩) n.length cn) := fun q => (HWR.out.kept1 q.h).blk.cell 2;have y3 : ∀ q : BelowP wr, q.to.cell? ⟨R, 3, none⟩ = some (.slice ar r.length cr) := fun q => (HWR.out.kept1 q.h).blk.cell 3;obtain ⟨b, hb⟩ : ∃ b, n[j] = b := ⟨_, rfl⟩
      have y4 : ∀ q : BelowP wr, q.to.cell? ⟨gn, j, none⟩ = some (.int .i64 b) := fun q => by rw [← hb]; exact fkint_cell (HWR.out.kept1 q.h).n j hjl
      have TK := Lib.hid fun q : BelowP wr => rftaken_any r hro b _ q.to (rowE_in (HWR.out.kept1 q.h).r);obtain ⟨T, hT⟩ : ∃ T, takenA r b = T := ⟨_, rfl⟩;rw [hT] at TK;have HT := Lib.hid hT;have HBJ := Lib.hid hb;clear hT hb
      cases T with
      | true =>
        have HE : Hid (docA (rdOf F bad) depth root = .error 80) := Lib.hid (by
         unfold docA;rw [if_pos hok, HST.out]
         show (if _ then _ else _) = _
         rw [if_neg fun q => by
          have := hit_yes hjl (by rw [HBJ.out]; exact HT.out)
          rw [this] at q; cases q.2])
        clear HT HBJ HJ HST;go_wp2;refine wp_region_quiet_below mixed (by kernel_rfl) ?_
        repeat (go_big_quiet_step (refine calls_below (TK.out _)))
        refine wpQuiet_nil ?_;intro w0q hw';obtain ⟨⟨wq, bq⟩, hw''⟩ := hw';have hw2 : wq = w0q := hw''.symm;clear hw'';subst hw2;have HQ := Lib.hid (HKR.out.trans (bq.mono HKR.out.size));clear y2 y3 y4 TK bq;go_wp2;go_ret3;unfold DocEnd;rw [HE.out];exact ⟨HQ.out, rfl, by decide⟩
      | false =>
        have HJN : Hid (∀ i, (hi : i < n.length) → i < j + 1 → takenA r n[i] = false) := Lib.hid fun i hi h => by
         by_cases e : i = j
         ·subst e; rw [HBJ.out]; exact HT.out
         ·exact HJ.out i hi (by omega)
        clear HT HBJ HJ;go_wp2;refine wp_region_quiet_below mixed (by kernel_rfl) ?_
        repeat (go_big_quiet_step (refine calls_below (TK.out _)))
        refine wpQuiet_nil ?_;intro w0q hw';obtain ⟨⟨wq, bq⟩, hw''⟩ := hw';have hw2 : wq = w0q := hw''.symm;clear hw'';subst hw2;clear y2 y3 y4 TK;go_wp2;exact ⟨⟨j + 1, by go_num, by omega, HJN, Lib.hid (HB.out.trans (bq.mono HB.out.size))⟩, by simp [intOf]; omega⟩
     ·obtain rfl : j = n.length := by omega
      have HE : Hid (docA (rdOf F bad) depth root = .ok (r, riseTo n 4096)) := Lib.hid (by
       unfold docA;rw [if_pos hok, HST.out]
       show (if _ then _ else _) = _
       rw [if_pos ⟨hro, hit_no fun i hi => HJ.out i hi hi⟩])
      have RS := Lib.hid fun W (hW : Below wr.heap.size wr W) => rfrise_any n _ W (intsFk_in (HWR.out.kept1 hW).n);have HSS : Hid (∀ w9, Below wr.heap.size wr w9 → w9.cell? ⟨R, 2, none⟩ = some (.slice an n.length cn) ∧ w9.cell? ⟨R, 3, none⟩ = some (.slice ar r.length cr)) := Lib.hid fun w9 hb => ⟨(HWR.out.kept1 hb).blk.cell 2, (HWR.out.kept1 hb).blk.cell 3⟩;have HRR := Lib.hid HWR.out.r;have hq : Below wr.heap.size wr wr.drew := (Below.refl _ _).drew;have HRR := Lib.hid (row_kept HRR.out hq);clear HJ HST HWK HB HKB;obtain ⟨wq, hwq⟩ : ∃ x, x = wr := ⟨_, rfl⟩;subst hwq
      go_upto_region 16 with fail
      refine wp_region_held_drew (S := fun w9 => w9.cell? ⟨R, 2, none⟩ = some (.slice an n.length cn) ∧ w9.cell? ⟨R, 3, none⟩ = some (.slice ar r.length cr)) mixed (HSS.out _ hq) (fun hHeld => ?_);generalize wq.drew = wd at *;refine tk 0 _ rfl (by intro w9 hSw; clear hSw; go_simp; try with_reducible rfl) hHeld ?_
      try simp only [Act.put, za, zb, zc, zd, ze, zf]
      refine tk 1 _ rfl (by intro w9 hSw; clear hSw; go_simp; try with_reducible rfl) hHeld ?_
      try simp only [Act.put, za, zb, zc, zd, ze, zf]
      refine tk 2 _ rfl (by intro w9 hSw; clear hSw; go_simp; try with_reducible rfl) hHeld ?_
      try simp only [Act.put, za, zb, zc, zd, ze, zf]
      refine tk 3 _ rfl (by intro w9 hSw; obtain ⟨e1, e2⟩ := hSw; go_simp; try with_reducible rfl) hHeld ?_
      try simp only [Act.put, za, zb, zc, zd, ze, zf]
      refine tk 4 _ rfl (by intro w9 hSw; clear hSw; go_simp; try with_reducible rfl) hHeld ?_
      try simp only [Act.put, za, zb, zc, zd, ze, zf]
      refine tk 5 _ rfl (by intro w9 hSw; clear hSw; go_simp; try with_reducible rfl) hHeld ?_
      try simp only [Act.put, za, zb, zc, zd, ze, zf]
      refine tk 6 _ rfl (by intro w9 hSw; clear hSw; go_simp; try with_reducible rfl) hHeld ?_
      try simp only [Act.put, za, zb, zc, zd, ze, zf]
      refine tk 7 _ rfl (by intro w9 hSw; obtain ⟨e1, e2⟩ := hSw; go_simp; try with_reducible rfl) hHeld ?_
      try simp only [Act.put, za, zb, zc, zd, ze, zf]
      refine wpAnyH_ready (rs := [8]) (by kernel_rfl) (by simp) ?_;refine AllReadyH.cons (o := _) rfl (fun K hK => ?_) ?_
      ·go_simp
       refine (RS.out wd hq).mono ?_; rintro e w83 ⟨u83, rfl, hu83, b83⟩;dsimp only;have q83 := bnext hq b83;have HRR := Lib.hid (row_kept HRR.out b83);have HU := Lib.hid hu83;clear hu83;clear hHeld;refine hK.out _ _ (HSS.out _ (q83)) (fun hHeld => ?_);clear hK K
       try simp only [Act.put, za, zb, zc, zd, ze, zf]
       refine tk 9 _ rfl (by intro w9 hSw; clear hSw; go_simp; try with_reducible rfl) hHeld ?_
       try simp only [Act.put, za, zb, zc, zd, ze, zf]
       refine tk 10 _ rfl (by intro w9 hSw; clear hSw; go_simp; try with_reducible rfl) hHeld ?_
       try simp only [Act.put, za, zb, zc, zd, ze, zf]
       refine tk 11 _ rfl (by intro w9 hSw; clear hSw; go_simp; try with_reducible rfl) hHeld ?_
       try simp only [Act.put, za, zb, zc, zd, ze, zf]
       refine ⟨by kernel_rfl, ?_⟩;clear hHeld;have HQ := Lib.hid (HKR.out.trans ((q83).mono HKR.out.size));have HRQ := Lib.hid HKR.out.size;have HQQ := Lib.hid hq;go_wp2;go_ret3;unfold DocEnd;rw [HE.out];exact ⟨HQ.out, _, _, rfl, HRR.out, row_down (Nat.le_trans HRQ.out HQQ.out.size) HU.out⟩
      exact AllReadyH.nil
   ·rw [decide_eq_false hro] at CK
    have HE : Hid (docA (rdOf F bad) depth root = .error 80) := Lib.hid (by
     unfold docA;rw [if_pos hok, HST.out]
     show (if _ then _ else _) = _
     rw [if_neg fun q => hro q.1])
    go_wp2_with fail
    refine CK.out.mono ?_; rintro e w4 ⟨rfl, b4⟩;have HQ := Lib.hid (HKB.out.trans (b4.mono HKB.out.size));clear b4 CK z2 z3 HST HWK;go_wp2;go_ret3;unfold DocEnd;rw [HE.out];exact ⟨HQ.out, rfl, by decide⟩
  ·have t0 : (depth == 0) = false := by rw [beq_eq_false_iff_ne]; exact h0
   have HST0 : Hid (startA (rdOf F bad) depth root = walkA (rdOf F bad) D root ([], [])) := Lib.hid (by unfold startA; rw [if_neg h0, HDD.out, Int.toNat_natCast]);obtain ⟨h, rfl⟩ : ∃ h, D = h + 1 := ⟨D - 1, by have := HDD.out; omega⟩;have hph : ∀ x ∈ root, 0 ≤ x.phys ∧ x.phys < 4096 := (rooted_phys hok).resolve_left (by have := hr.1; omega);have WK := Lib.hid (rfwalk_all cb w.heap.size R g F hF bad hgB h (by have := hr.1.2; have := HDD.out; omega) root _ [] [] _ _ w3 HB3.out.size HD3.out HWK0.out HEK.out ⟨⟨List.nodup_nil, fun b hb => by cases hb⟩, Nat.zero_le _, fun x hx => by cases hx⟩ ⟨hf, hph⟩);rw [← HDD.out] at WK;clear h0 HDD
   go_upto_region 6 with fail
   rw [HW3.out, HRR3.out];clear q0 q1 hph;go_wp2_with fail
   refine WK.out.mono ?_; rintro e w5 ⟨k5, h5⟩;have HB5 := Lib.hid (HB3.out.trans (k5.below HB3.out.size));clear WK k5 HWK0
   cases hta : walkA (rdOf F bad) (h + 1) root ([], []) with
   | error c =>
     rw [hta] at h5;obtain ⟨rfl, n2⟩ := h5;have HE : Hid (docA (rdOf F bad) depth root = .error c) := Lib.hid (by unfold docA; rw [if_pos hok, HST0.out, hta])
     have te : (c == 0) = false := by rw [beq_eq_false_iff_ne]; exact n2
     clear hta;go_wp2;go_ret3;unfold DocEnd;rw [HE.out];exact ⟨HB5.out, rfl, n2⟩
   | ok q =>
     obtain ⟨n, r⟩ := q;rw [hta] at h5;obtain ⟨rfl, ⟨vn5, vr5, hw5⟩, hin⟩ := h5;have HST : Hid (startA (rdOf F bad) depth root = .ok (n, r)) := Lib.hid (by rw [HST0.out, hta]);have HEND : Hid (WkAt cb w.heap.size R g bad vn5 vr5 n r w5 ∧ (r.length ≤ 50000 ∧ fitE r ∧ n.length ≤ 4096) ∧ Below w.heap.size w w5) := Lib.hid ⟨hw5, ⟨by have := hin.2.1; have := hin.1.len; omega, hin.2.2, hin.1.len⟩, HB5.out⟩;clear hta hw5 hin HST0 hr;obtain ⟨hwk, hinv, hkb⟩ := HEND.out;have HWK := Lib.hid hwk;have HINV := Lib.hid hinv;have HKB := Lib.hid hkb;obtain ⟨an, cn, rfl, -, -, sn⟩ := shape_of hwk.n;obtain ⟨ar, cr, rfl, -⟩ := shape_of hwk.r;have CK := Lib.hid (xrcheck_long r hinv.2.1 (by have := hinv.1; omega) _ _ (rowE_in hwk.r));have z2 := hwk.blk.cell 2;have z3 := hwk.blk.cell 3;simp only [List.getElem?_toArray, List.getElem?_cons_zero, List.getElem?_cons_succ] at z2 z3;have hn1 : n.length ≤ 4096 := hinv.2.2;clear hwk hinv hkb sn HEND;by_cases hro : RowOk true r
     ·rw [decide_eq_true hro] at CK
      go_wp2_with fail
      refine CK.out.mono ?_; rintro e w4 ⟨rfl, b4⟩;have HKB := Lib.hid (HKB.out.trans (b4.mono HKB.out.size));have HWK := Lib.hid (HWK.out.kept1 b4);clear b4 CK z2 z3;go_wp2
      go_loopw [11] (fun p wr => ∃ j : Nat, p = .int .i64 (j : Int) ∧ j ≤ n.length ∧ Hid (∀ i, (hi : i < n.length) → i < j → takenA r n[i] = false) ∧ Hid (Below w4.heap.size w4 wr)) (fun p _ => n.length - (intOf p).toNat)
      case atStart => exact ⟨0, rfl, Nat.zero_le _, Lib.hid fun i hi h => by omega, Lib.hid (Below.refl _ _)⟩
      case round =>
       obtain ⟨j, rfl, hj, HJ, HB⟩ := hrel;have HWR := Lib.hid (HWK.out.kept1 HB.out);have HKR := Lib.hid (HKB.out.trans (HB.out.mono HKB.out.size));have z2 := HWR.out.blk.cell 2;simp only [List.getElem?_toArray, List.getElem?_cons_zero, List.getElem?_cons_succ] at z2;by_cases hjl : j < n.length
       ·obtain ⟨gn, rfl, -, -⟩ := (shape_of HWR.out.n).elim fun _ q => by
         obtain ⟨cq, e1, -, -, e2⟩ := q
         cases e1
         exact e2 (by omega)
        have y2 : ∀ q : BelowP wr, q.to.cell? ⟨R, 2, none⟩ = some (.slice (some ⟨gn, 0, none⟩) n.length cn) := fun q => (HWR.out.kept1 q.h).blk.cell 2;have y3 : ∀ q : BelowP wr, q.to.cell? ⟨R, 3, none⟩ = some (.slice ar r.length cr) := fun q => (HWR.out.kept1 q.h).blk.cell 3;obtain ⟨b, hb⟩ : ∃ b, n[j] = b := ⟨_, rfl⟩
        have y4 : ∀ q : BelowP wr, q.to.cell? ⟨gn, j, none⟩ = some (.int .i64 b) := fun q => by rw [← hb]; exact fkint_cell (HWR.out.kept1 q.h).n j hjl
        have TK := Lib.hid fun q : BelowP wr => rftaken_any r hro b _ q.to (rowE_in (HWR.out.kept1 q.h).r);obtain ⟨T, hT⟩ : ∃ T, takenA r b = T := ⟨_, rfl⟩;rw [hT] at TK;have HT := Lib.hid hT;have HBJ := Lib.hid hb;clear hT hb
        cases T with
        | true =>
          have HE : Hid (docA (rdOf F bad) depth root = .error 80) := Lib.hid (by
           unfold docA;rw [if_pos hok, HST.out]
           show (if _ then _ else _) = _
           rw [if_neg fun q => by
            have := hit_yes hjl (by rw [HBJ.out]; exact HT.out)
            rw [this] at q; cases q.2])
          clear HT HBJ HJ HST;go_wp2;refine wp_region_quiet_below mixed (by kernel_rfl) ?_
          repeat (go_big_quiet_step (refine calls_below (TK.out _)))
          refine wpQuiet_nil ?_;intro w0q hw';obtain ⟨⟨wq, bq⟩, hw''⟩ := hw';have hw2 : wq = w0q := hw''.symm;clear hw'';subst hw2;have HQ := Lib.hid (HKR.out.trans (bq.mono HKR.out.size));clear y2 y3 y4 TK bq;go_wp2;go_ret3;unfold DocEnd;rw [HE.out];exact ⟨HQ.out, rfl, by decide⟩
        | false =>
          have HJN : Hid (∀ i, (hi : i < n.length) → i < j + 1 → takenA r n[i] = false) := Lib.hid fun i hi h => by
           by_cases e : i = j
           ·subst e; rw [HBJ.out]; exact HT.out
           ·exact HJ.out i hi (by omega)
          clear HT HBJ HJ;go_wp2;refine wp_region_quiet_below mixed (by kernel_rfl) ?_
          repeat (go_big_quiet_step (refine calls_below (TK.out _)))
          refine wpQuiet_nil ?_;intro w0q hw';obtain ⟨⟨wq, bq⟩, hw''⟩ := hw';have hw2 : wq = w0q := hw''.symm;clear hw'';subst hw2;clear y2 y3 y4 TK;go_wp2;exact ⟨⟨j + 1, by go_num, by omega, HJN, Lib.hid (HB.out.trans (bq.mono HB.out.size))⟩, by simp [intOf]; omega⟩
       ·obtain rfl : j = n.length := by omega
        have HE : Hid (docA (rdOf F bad) depth root = .ok (r, riseTo n 4096)) := Lib.hid (by
         unfold docA;rw [if_pos hok, HST.out]
         show (if _ then _ else _) = _
         rw [if_pos ⟨hro, hit_no fun i hi => HJ.out i hi hi⟩])
        have RS := Lib.hid fun W (hW : Below wr.heap.size wr W) => rfrise_any n _ W (intsFk_in (HWR.out.kept1 hW).n);have HSS : Hid (∀ w9, Below wr.heap.size wr w9 → w9.cell? ⟨R, 2, none⟩ = some (.slice an n.length cn) ∧ w9.cell? ⟨R, 3, none⟩ = some (.slice ar r.length cr)) := Lib.hid fun w9 hb => ⟨(HWR.out.kept1 hb).blk.cell 2, (HWR.out.kept1 hb).blk.cell 3⟩;have HRR := Lib.hid HWR.out.r;have hq : Below wr.heap.size wr wr.drew := (Below.refl _ _).drew;have HRR := Lib.hid (row_kept HRR.out hq);clear HJ HST HWK HB HKB;obtain ⟨wq, hwq⟩ : ∃ x, x = wr := ⟨_, rfl⟩;subst hwq
        go_upto_region 16 with fail
        refine wp_region_held_drew (S := fun w9 => w9.cell? ⟨R, 2, none⟩ = some (.slice an n.length cn) ∧ w9.cell? ⟨R, 3, none⟩ = some (.slice ar r.length cr)) mixed (HSS.out _ hq) (fun hHeld => ?_);generalize wq.drew = wd at *;refine tk 0 _ rfl (by intro w9 hSw; clear hSw; go_simp; try with_reducible rfl) hHeld ?_
        try simp only [Act.put, za, zb, zc, zd, ze, zf]
        refine tk 1 _ rfl (by intro w9 hSw; clear hSw; go_simp; try with_reducible rfl) hHeld ?_
        try simp only [Act.put, za, zb, zc, zd, ze, zf]
        refine tk 2 _ rfl (by intro w9 hSw; clear hSw; go_simp; try with_reducible rfl) hHeld ?_
        try simp only [Act.put, za, zb, zc, zd, ze, zf]
        refine tk 3 _ rfl (by intro w9 hSw; obtain ⟨e1, e2⟩ := hSw; go_simp; try with_reducible rfl) hHeld ?_
        try simp only [Act.put, za, zb, zc, zd, ze, zf]
        refine tk 4 _ rfl (by intro w9 hSw; clear hSw; go_simp; try with_reducible rfl) hHeld ?_
        try simp only [Act.put, za, zb, zc, zd, ze, zf]
        refine tk 5 _ rfl (by intro w9 hSw; clear hSw; go_simp; try with_reducible rfl) hHeld ?_
        try simp only [Act.put, za, zb, zc, zd, ze, zf]
        refine tk 6 _ rfl (by intro w9 hSw; clear hSw; go_simp; try with_reducible rfl) hHeld ?_
        try simp only [Act.put, za, zb, zc, zd, ze, zf]
        refine tk 7 _ rfl (by intro w9 hSw; obtain ⟨e1, e2⟩ := hSw; go_simp; try with_reducible rfl) hHeld ?_
        try simp only [Act.put, za, zb, zc, zd, ze, zf]
        refine wpAnyH_ready (rs := [8]) (by kernel_rfl) (by simp) ?_;refine AllReadyH.cons (o := _) rfl (fun K hK => ?_) ?_
        ·go_simp
         refine (RS.out wd hq).mono ?_; rintro e w95 ⟨u95, rfl, hu95, b95⟩;dsimp only;have q95 := bnext hq b95;have HRR := Lib.hid (row_kept HRR.out b95);have HU := Lib.hid hu95;clear hu95;clear hHeld;refine hK.out _ _ (HSS.out _ (q95)) (fun hHeld => ?_);clear hK K
         try simp only [Act.put, za, zb, zc, zd, ze, zf]
         refine tk 9 _ rfl (by intro w9 hSw; clear hSw; go_simp; try with_reducible rfl) hHeld ?_
         try simp only [Act.put, za, zb, zc, zd, ze, zf]
         refine tk 10 _ rfl (by intro w9 hSw; clear hSw; go_simp; try with_reducible rfl) hHeld ?_
         try simp only [Act.put, za, zb, zc, zd, ze, zf]
         refine tk 11 _ rfl (by intro w9 hSw; clear hSw; go_simp; try with_reducible rfl) hHeld ?_
         try simp only [Act.put, za, zb, zc, zd, ze, zf]
         refine ⟨by kernel_rfl, ?_⟩;clear hHeld;have HQ := Lib.hid (HKR.out.trans ((q95).mono HKR.out.size));have HRQ := Lib.hid HKR.out.size;have HQQ := Lib.hid hq;go_wp2;go_ret3;unfold DocEnd;rw [HE.out];exact ⟨HQ.out, _, _, rfl, HRR.out, row_down (Nat.le_trans HRQ.out HQQ.out.size) HU.out⟩
        exact AllReadyH.nil
     ·rw [decide_eq_false hro] at CK
      have HE : Hid (docA (rdOf F bad) depth root = .error 80) := Lib.hid (by
       unfold docA;rw [if_pos hok, HST.out]
       show (if _ then _ else _) = _
       rw [if_neg fun q => hro q.1])
      go_wp2_with fail
      refine CK.out.mono ?_; rintro e w4 ⟨rfl, b4⟩;have HQ := Lib.hid (HKB.out.trans (b4.mono HKB.out.size));clear b4 CK z2 z3 HST HWK;go_wp2;go_ret3;unfold DocEnd;rw [HE.out];exact ⟨HQ.out, rfl, by decide⟩
 ·rw [decide_eq_false hok] at RO
  have HE : Hid (docA (rdOf F bad) depth root = .error 80) := Lib.hid (by unfold docA; rw [if_neg hok])
  go_enter Tryz.func21, Tryz.ntmps21
  go_upto_region 1 with fail
  rw [HW1.out];go_wp2_with fail
  refine RO.out.mono ?_; rintro e w2 ⟨rfl, b2⟩;have HQ := Lib.hid (bnext HB0.out b2);clear b2 RO;go_wp2;go_ret3;unfold DocEnd;rw [HE.out];exact ⟨HQ.out, rfl, by decide⟩
open Go.RowKit
theorem rfdoc_load {cb : Nat} (F : Nat → ByteArray) (hF : ∀ k, (F k).size ≤ 1000) (bad : Int) (g : Nat) (depth : Int) (hdi : I64 depth) (root : List Ent) (hf : fitE root) (v : Value) (w : World) (hv : EntsIn v root w) (hd : DskAt g F w) :
 Calls Tryz.prog 21 #[.int .i64 depth, v, .agg #[.slice (some ⟨g, 0, none⟩) 4096 cb, .int .i64 bad]] w (DocEnd (saysA (loadA (rdOf F bad) false depth root)) w) := by
 rw [← doc_load];exact rfdoc_any F hF bad g depth hdi root hf v w hv hd
open Go.RowKit
theorem tree_sz : (Tryz.prog.info? 35).map (·.size) = some 2 := by kernel_rfl
def lsA : Except Int Shp → List Ent | .ok S => listA S | .error _ => []
def nsA : Except Int Shp → List Int | .ok S => sortI (numsA S) | .error _ => []
def ecA : Except Int Shp → Int | .ok _ => 0 | .error c => c
def WkSay (a : Except Int Shp) (w : World) (e : Ending) (w' : World) : Prop :=
 ∃ vl vn, e = .returned (.tuple #[vl, vn, .int .i64 (ecA a)]) ∧ ExtsAt w.heap.size vl (lsA a) w' ∧ IntsFk w.heap.size vn (nsA a) w' ∧ Below w.heap.size w w'
theorem WalkEnd.say {a : Except Int Shp} {w : World} {e : Ending} {w' : World} (h : WalkEnd a w e w') : WkSay a w e w' := by
 unfold WalkEnd at h;obtain ⟨b, h⟩ := h
 cases a with
 | ok S => obtain ⟨vl, vn, h1, h2, h3⟩ := h; exact ⟨vl, vn, h1, h2, h3, b⟩
 | error c => exact ⟨_, _, h.1, World.ownsRow_nil _ _ _ _, World.ownsRow_nil _ _ _ _, b⟩
theorem DocEnd.say {a : Except Int Shp} {w : World} {e : Ending} {w' : World} (h : DocEnd (saysA a) w e w') : WkSay a w e w' := by
 unfold DocEnd at h;obtain ⟨b, h⟩ := h
 cases a with
 | ok S => obtain ⟨vl, vn, h1, h2, h3⟩ := h; exact ⟨vl, vn, h1, h2, h3, b⟩
 | error c => exact ⟨_, _, h.1, World.ownsRow_nil _ _ _ _, World.ownsRow_nil _ _ _ _, b⟩
theorem TwinF.kept1 {B : Nat} {v : Value} {l : List Ent} {w w' : World} (h : TwinF B v l w) (hb : Below w.heap.size w w') : TwinF B v l w' := twinF_kept h hb
theorem TwinF.grown {B X : Nat} {T : TypeId} {v : Value} {l : List Ent} {w w' : World} (h : TwinF B v l w) (g : w.grownBy w' (some X)) (hX : TyAt X T w) (hne : T ≠ 31) : TwinF B v l w' := by
 obtain ⟨p, cap, e, hp, r⟩ := h;exact ⟨p, cap, e, Nat.lt_of_lt_of_le hp g.size, row_grown r g fun q hq k => by cases k; exact hne (ty_one hX (own_ty r hq).1)⟩
open Go.RowKit
theorem lchg_sz : (Tryz.prog.info? 72).map (·.size) = some 2 := by kernel_rfl
theorem lstr_info : (Tryz.prog.info? 9).map (fun i => (i.zero, i.size, i.bytes)) = some (some (.string ⟨#[]⟩), 1, 16) := by kernel_rfl
def strsF (F : Nat → ByteArray) : List Value := (List.range 4096).map (strF F)
theorem strsF_len (F : Nat → ByteArray) : (strsF F).length = 4096 := by unfold strsF; rw [List.length_map, List.length_range]
theorem strsF_at (F : Nat → ByteArray) {j : Nat} (h : j < 4096) : (strsF F)[j]? = some (strF F j) := by
 unfold strsF; rw [List.getElem?_map, List.getElem?_range h]; rfl
theorem strsF_one (F : Nat → ByteArray) : ∀ y ∈ strsF F, y.oneCell' = true := by
 intro y hy;unfold strsF at hy;obtain ⟨j, -, rfl⟩ := List.mem_map.1 hy;rfl
theorem dsk_row {g : Nat} {F : Nat → ByteArray} {w : World} (h : DskAt g F w) : RowIn 1 (.slice (some ⟨g, 0, none⟩) 4096 4096) 4096 (strsF F) w :=
 ⟨by rw [strsF_len], _, _, rfl, Nat.le_refl _, by unfold maxLen; omega, fun _ => ⟨g, 0, rfl, h.c.1, fun k u hk => by
  have hl := (List.getElem?_eq_some_iff.1 hk).1;rw [strsF_len] at hl;rw [strsF_at F hl] at hk
  rw [Nat.zero_add, (h.c.2 k hl).1, hk]⟩, fun e => by cases e⟩
theorem row_dsk {B : Nat} {v : Value} {F : Nat → ByteArray} {w : World} (h : w.ownsRow B 9 1 v 4096 (strsF F)) : ∃ g cap, v = .slice (some ⟨g, 0, none⟩) 4096 cap ∧ 4096 ≤ cap ∧ cap ≤ 9223372036854775807 ∧ B ≤ g ∧ DskAt g F w := by
 obtain ⟨ad, cap, rfl, h1, h2, h3⟩ := shape_of h;obtain ⟨g, rfl, hg, hl⟩ := h3 (by omega);have ht : TyAt g 9 w := (own_ty h rfl).1;exact ⟨g, cap, rfl, h1, h2, hg, ⟨hl, fun j hj => ⟨(h.cellAt j (by omega)).trans (strsF_at F hj), h.frozenAt j⟩⟩, ht⟩
def takeP (p : Int → Bool) (l : List Int) (k : Nat) : List Int := (l.take k).filter p
theorem takeP_zero (p : Int → Bool) (l : List Int) : takeP p l 0 = [] := by unfold takeP; simp
theorem takeP_succ (p : Int → Bool) {l : List Int} {k : Nat} {x : Int} (h : l[k]? = some x) : takeP p l (k + 1) = if p x = true then takeP p l k ++ [x] else takeP p l k := by
 unfold takeP;obtain ⟨hk, e⟩ := List.getElem?_eq_some_iff.1 h;rw [List.take_succ_eq_append_getElem hk, List.filter_append, e];by_cases q : p x = true
 ·rw [if_pos q, List.filter_cons, if_pos q]; rfl
 ·rw [if_neg q, List.filter_cons, if_neg q]; simp
theorem takeP_all (p : Int → Bool) (l : List Int) : takeP p l l.length = l.filter p := by unfold takeP; rw [List.take_length]
theorem takeP_le (p : Int → Bool) (l : List Int) (k : Nat) : (takeP p l k).length ≤ l.length := by
 unfold takeP;refine Nat.le_trans (List.length_filter_le _ _) ?_;rw [List.length_take]; omega
theorem lholds_any (g : Nat) (F : Nat → ByteArray) (hF : ∀ k, (F k).size ≤ 1000) (N : List Int) (row : List Ent) (C : List Ch) (T : Shp) (FR fresh : List Int) (H : HoldsOk F N row C T FR fresh)
 (hD : I64 ((T.length - 1 : Nat) : Int)) (hrf : fitE (rootA T)) (hNl : N.length ≤ 100000) (hMl : (numsA T).length ≤ 100000) (vN vRow vr vc vf vs : Value) (w : World)
 (hd : DskAt g F w) (hvN : IntsR vN N w) (hrow : EntsIn vRow row w) (hvr : EntsIn vr (rootA T) w) (hvc : ChgsIn vc C w) (hvf : IntsR vf FR w) (hvs : IntsR vs fresh w) :
 Calls Tryz.prog 68 #[.slice (some ⟨g, 0, none⟩) 4096 4096, vN, vRow, setV ((T.length - 1 : Nat) : Int) vr vc vf, vs] w fun e w' => e = .returned (.bool true) ∧ Below w.heap.size w w' := by
 have mixed : Tryz.prog.follows .mixedOrders = true := by kernel_rfl
 have gc : Tryz.prog.stoodInHeld 72 = false := by kernel_rfl
 have hnd : (C.map (·.1)).Nodup := by
  rw [List.nodup_iff_pairwise_ne, List.pairwise_map]
  exact H.rise.imp fun h => by omega
 have HRNG : Hid (∀ i (hi : i < C.length), 0 ≤ C[i].1 ∧ C[i].1 < 4096) := Lib.hid fun i hi => H.rng _ (List.getElem_mem hi);have HRISE : Hid (∀ i (hi : i + 1 < C.length), C[i].1 < C[i + 1].1) := Lib.hid fun i hi => List.pairwise_iff_getElem.1 H.rise i (i + 1) (by omega) hi (by omega);have HNEW : Hid (∀ i (hi : i < C.length), C[i].2 = F C[i].1.toNat → decide (C[i].1 ∈ N) = false) := Lib.hid fun i hi e => decide_eq_false fun h => H.new _ (List.getElem_mem hi) h e;have HLAY : Hid (∀ i (hi : i < C.length), layF F (C.take (i + 1)) = upd (layF F (C.take i)) C[i].1.toNat C[i].2) := Lib.hid fun i hi => layF_take hnd hi (H.rng _ (List.getElem_mem hi)).1;have HNODE : Hid (∀ i (hi : i < C.length), decide (C[i].1 ∈ sortI (numsA T)) = true) := Lib.hid fun i hi => decide_eq_true (H.node _ (List.getElem_mem hi));have HL0 : Hid (layF F (C.take 0) = F) := Lib.hid rfl;have hload := H.load
 have HDOC : Hid (∀ W g' cb, DskAt g' (layF F (C.take C.length)) W → EntsIn vr (rootA T) W → Calls Tryz.prog 21 #[.int .i64 ((T.length - 1 : Nat) : Int), vr, .agg #[.slice (some ⟨g', 0, none⟩) 4096 cb, .int .i64 (-1)]] W fun e W' =>
  ∃ vl vn, e = .returned (.tuple #[vl, vn, .int .i64 0]) ∧ ExtsAt W.heap.size vl row W' ∧ IntsFk W.heap.size vn (sortI (numsA T)) W' ∧ Below W.heap.size W W') := Lib.hid fun W g' cb h1 h2 => by
  rw [List.take_length] at h1;have := rfdoc_load (cb := cb) (layF F C) (layF_size hF H.size) (-1) g' _ hD (rootA T) hrf vr W h2 h1;rw [hload] at this
  exact this.mono fun e w' h => by
   obtain ⟨vl, vn, k1, k2, k3, k4⟩ := h.say;have k2 : ExtsAt W.heap.size vl (listA T) w' := k2;rw [H.row] at k2;exact ⟨vl, vn, k1, k2, k3, k4⟩
 have hgone := H.gone;have hcome := H.come;have hmany := H.many
 have hml : (sortI (numsA T)).length ≤ 100000 := by rw [sortI_len]; exact hMl
 obtain ⟨M, hM⟩ : ∃ M, sortI (numsA T) = M := ⟨_, rfl⟩;rw [hM] at HNODE HDOC hgone hcome hmany hml;obtain ⟨RT, hRT⟩ : ∃ R, rootA T = R := ⟨_, rfl⟩;obtain ⟨D, hDD⟩ : ∃ D, ((T.length - 1 : Nat) : Int) = D := ⟨_, rfl⟩;rw [hRT] at hvr HDOC;rw [hDD] at HDOC ⊢;have HGONE : Hid (FR = takeP (fun b => decide (b ∉ M)) N N.length) := Lib.hid (by rw [takeP_all]; exact hgone);have HCOME : Hid (∀ f ∈ fresh, f ∈ takeP (fun b => decide (b ∉ N)) M M.length) := Lib.hid (by rw [takeP_all]; exact hcome);have HMANY : Hid ((takeP (fun b => decide (b ∉ N)) M M.length).length = fresh.length) := Lib.hid (by rw [takeP_all]; exact hmany);clear hM hRT hDD hload H hD hrf hMl hnd hgone hcome hmany;have HVR := Lib.hid hvr;have HVN := Lib.hid hvN;have HVF := Lib.hid hvf;have HVS := Lib.hid hvs;have HVC := Lib.hid hvc;have HROW := Lib.hid hrow;have HDK := Lib.hid hd;obtain ⟨na, nc, rfl, -⟩ := hvN.shape;obtain ⟨wa, wc9, rfl, -⟩ := entsIn_cells hrow;obtain ⟨ra, rc, rfl, -⟩ := entsIn_cells hvr;obtain ⟨ca, cc, rfl, hcc1, hcc2, hcell⟩ := hvc.open;obtain ⟨fa, fc, rfl, -⟩ := hvf.shape;obtain ⟨sa, sc, rfl, hsc1, hsc2, -⟩ := hvs.shape;have HC := Lib.hid hcell;have hb0 := balloc1 w (.cells #[.int .i64 D, .slice ra RT.length rc, .slice ca C.length cc, .slice fa FR.length fc] 58);have hk0 := Blk.new #[.int .i64 D, .slice ra RT.length rc, .slice ca C.length cc, .slice fa FR.length fc] 58 w;have hz0 := size_alloc w (.cells #[.int .i64 D, .slice ra RT.length rc, .slice ca C.length cc, .slice fa FR.length fc] 58);obtain ⟨w1, hw1⟩ : ∃ x, w.alloc (.cells #[.int .i64 D, .slice ra RT.length rc, .slice ca C.length cc, .slice fa FR.length fc] 58) = x := ⟨_, rfl⟩;rw [hw1] at hb0 hk0 hz0;have HW1 := Lib.hid hw1;have HB1 := Lib.hid hb0;have HX1 := Lib.hid hk0;have HZ1 := Lib.hid hz0;clear hvr hvN hvf hvs hvc hrow hd hcell hw1 hb0 hk0 hz0;have hd1 := Lib.hid (dsk_row (HDK.out.eq_block (HB1.out.size) (HB1.out.block g HDK.out.c.1)));have a1 := balloc1 w1 (.cells #[] 9);have k0 := lit0 w1 9 1;have K0 := Lib.hid k0;have A1 := Lib.hid a1;have hu1 := Lib.hid (hd1.out.kept a1);have HST1 := Lib.hid (strsF_one F);clear k0 a1
 go_enter Tryz.func68, Tryz.ntmps68
 go_upto_region 1 with fail
 rw [HW1.out]
 go_wp2_with (at_builtin; refine wpList_appG rfl _ _ 40 9 rfl Tryz.underlying40 _ 1 16 lstr_info rfl (by decide) (by decide) w1.heap.size _ 0 [] rfl K0.out _ 4096 _ rfl hu1.out HST1.out (by omega) A1.out.size ?_)
 intro vk w2 hk2 hg2;have b2 : Below w1.heap.size w1 w2 := A1.out.trans (below_of_row K0.out hg2 A1.out.size);have hk2 : w2.ownsRow w1.heap.size 9 1 vk 4096 (strsF F) := hk2;obtain ⟨g', cb, rfl, hcb1, hcb2, hg', hdk2⟩ := row_dsk hk2;have HD2 : Hid (DskAt g' (layF F (C.take 0)) w2) := Lib.hid hdk2;have HB2 := Lib.hid b2;clear hk2 hg2 b2 hdk2 hd1 hu1 K0 A1 HST1;go_wp2
 go_loopw [12, 13] (fun p q13 wr => ∃ (i : Nat), p = .int .i64 i ∧ i ≤ C.length ∧ Hid (DskAt g' (layF F (C.take i)) wr) ∧ Hid (Below w1.heap.size w1 wr)) (fun p _ _ => C.length - (intOf p).toNat)
 case atStart => exact ⟨0, rfl, Nat.zero_le _, HD2, HB2⟩
 case round =>
  obtain ⟨i, rfl, hi, HDI, HBI⟩ := hrel;have x2 := (HX1.out.kept1 HBI.out).cell 2;simp only [List.getElem?_toArray, List.getElem?_cons_zero, List.getElem?_cons_succ] at x2;by_cases hlt : i < C.length
  ·obtain ⟨gcb, ocb, rfl, hgc, hcl⟩ := HC.out (by omega)
   have HCEL : Hid (∀ W, Below w1.heap.size w1 W → ∀ k (hk : k < C.length), W.cell? ⟨gcb, ocb + k * 2, none⟩ = some (.int .i64 C[k].1) ∧ W.cell? ⟨gcb, ocb + k * 2 + 1, none⟩ = some (.string C[k].2)) := Lib.hid fun W b k hk => by
    have bb := HB1.out.trans (b.mono HB1.out.size);exact ⟨(bb.cell (p := ⟨gcb, ocb + k * 2, none⟩) hgc).trans (hcl k hk).1, (bb.cell (p := ⟨gcb, ocb + k * 2 + 1, none⟩) hgc).trans (hcl k hk).2⟩
   have HLI := Lib.hid (HLAY.out i hlt);have HRI := Lib.hid (HRNG.out i hlt);have HNI := Lib.hid (HNEW.out i hlt)
   have HPI : Hid (∀ j, i = j + 1 → ∃ hj : j < C.length, C[j].1 < C[i].1) := Lib.hid fun j e => by subst e; exact ⟨by omega, HRISE.out j hlt⟩
   obtain ⟨y0, y1⟩ := HCEL.out wr HBI.out i hlt;obtain ⟨bk, hbk⟩ : ∃ x, C[i].1 = x := ⟨_, rfl⟩;obtain ⟨sk, hsk⟩ : ∃ x, C[i].2 = x := ⟨_, rfl⟩;rw [hbk] at y0 HLI HRI HNI HPI;rw [hsk] at y1 HLI HNI;obtain ⟨n, rfl⟩ := Int.eq_ofNat_of_zero_le HRI.out.1
   have hn : n < 4096 := by have := HRI.out.2; omega
   rw [Int.toNat_natCast] at HLI HNI;obtain ⟨Y, hY⟩ : ∃ x, wr.heap.size = x := ⟨_, rfl⟩;obtain ⟨w3, hw3⟩ : ∃ x, wr.alloc (.cells #[.int .i64 0, .string ⟨#[]⟩] 72) = x := ⟨_, rfl⟩;have hb3 := balloc1 wr (.cells #[.int .i64 0, .string ⟨#[]⟩] 72);have hk3 := Blk.new #[.int .i64 0, .string ⟨#[]⟩] 72 wr;rw [hw3] at hb3 hk3;rw [hY] at hk3;obtain ⟨w4, hw4⟩ : ∃ x, w3.setRow Y #[.int .i64 (n : Int), .string sk] = x := ⟨_, rfl⟩
   have hk4 : Blk Y #[.int .i64 (n : Int), .string sk] 72 w4 := by rw [← hw4]; exact setRow_blk hk3 _
   have hb4 : Below wr.heap.size wr w4 := hb3.trans (by rw [← hw4]; exact setRow_below (by omega) _);have HY0 := Lib.hid hY;have HW3 := Lib.hid hw3;have HW4 := Lib.hid hw4;have HY3 := Lib.hid hk3;have HY4 := Lib.hid hk4;have HB4 := Lib.hid (bnext HBI.out hb4);have HD4 := Lib.hid (HDI.out.kept1 hb4);clear hY hw3 hw4 hb3 hk3 hk4 hb4 hcl hbk hsk HDI
   go_upto_region 6 with (rw [HW3.out, HY0.out]; refine wpList_store_row rfl _ _ _ rfl Y #[.int .i64 (n : Int), .string sk] rfl rfl _ _ HY3.out lchg_sz rfl (by simp [Value.oneCell']) ?_; rw [HW4.out])
   try simp only [Act.put]
   have d1 : decide ((n : Int) < 0) = false := decide_eq_false (by omega);have d2 : decide ((4096 : Int) ≤ (n : Int)) = false := decide_eq_false (by omega);have q1 := fun p : BelowP w4 => (HY4.out.kept1 p.h).cell 0;have q2 := fun p : BelowP w4 => (HX1.out.kept1 (bnext HB4.out p.h)).cell 2;simp only [List.getElem?_toArray, List.getElem?_cons_zero, List.getElem?_cons_succ] at q1 q2;clear x2 y0 y1 HW3 HY3 HW4 HBI
   go_cut [63] (fun u1 wx => u1 = .bool false ∧ Hid (Below w4.heap.size w4 wx))
   case first =>
    by_cases hpos : 0 < i
    ·obtain ⟨j, hj, hlt2, hij⟩ : ∃ j, ∃ hj : j < C.length, C[j].1 < (n : Int) ∧ i = j + 1 := by
      obtain ⟨hj, h2⟩ := HPI.out (i - 1) (by omega);exact ⟨i - 1, hj, h2, by omega⟩
     have d3 : decide ((0 : Int) < (i : Int)) = true := decide_eq_true (by omega);obtain ⟨pk, hpk⟩ : ∃ x, C[j].1 = x := ⟨_, rfl⟩;rw [hpk] at hlt2
     have q3 : ∀ p : BelowP w4, p.to.cell? ⟨gcb, ocb + j * 2, none⟩ = some (.int .i64 pk) := fun p => by rw [← hpk]; exact (HCEL.out p.to (bnext HB4.out p.h) j hj).1
     have d4 : decide ((n : Int) ≤ pk) = false := decide_eq_false (by omega)
     have hwj : IntKind.i64.wrap ((i : Int) - 1) = (j : Int) := by rw [show (i : Int) - 1 = (j : Int) by omega]; exact IntWalk.i64_in _ (by omega)
     clear hpk hij;refine wp_region_quiet_below mixed (by kernel_rfl) ?_
     repeat (go_big_quiet_step (fail))
     refine wpQuiet_nil ?_;intro w0q hw';obtain ⟨⟨wq, bq⟩, hw''⟩ := hw';have hw2 : wq = w0q := hw''.symm;clear hw'';subst hw2;go_wp2;go_meet
     case rel => exact ⟨rfl, Lib.hid bq⟩
    ·have d3 : decide ((0 : Int) < (i : Int)) = false := decide_eq_false (by omega)
     refine wp_region_quiet_below mixed (by kernel_rfl) ?_
     repeat (go_big_quiet_step (fail))
     refine wpQuiet_nil ?_;intro w0q hw';obtain ⟨⟨wq, bq⟩, hw''⟩ := hw';have hw2 : wq = w0q := hw''.symm;clear hw'';subst hw2;go_wp2;go_meet
     case rel => exact ⟨rfl, Lib.hid bq⟩
   case rest =>
    as_aux_lemma =>
     obtain ⟨rfl, HBQ⟩ := hcut;obtain ⟨w5, hw5⟩ : ∃ x, x = wc := ⟨_, rfl⟩;subst hw5;have HB5 := Lib.hid (bnext HB4.out HBQ.out);have HY5 := Lib.hid (HY4.out.kept1 HBQ.out);have HD5 := Lib.hid (HD4.out.kept1 HBQ.out);clear q1 q2 d1 d2 HBQ HY4 HD4 HB4
     go_upto_region 8 with fail
     go_cut [77] (fun u1 wx => u1 = .bool false ∧ Hid (Below w5.heap.size w5 wx))
     case first =>
      have q1 := fun p : BelowP w5 => (HY5.out.kept1 p.h).cell 0;have q2 := fun p : BelowP w5 => (HY5.out.kept1 p.h).cell 1;have q4 := fun p : BelowP w5 => (((HDK.out.eq_block HB1.out.size (HB1.out.block g HDK.out.c.1)).kept1 (bnext HB5.out p.h)).c.2 n hn).1;simp only [List.getElem?_toArray, List.getElem?_cons_zero, List.getElem?_cons_succ] at q1 q2;have IN := Lib.hid fun p : BelowP w5 => lin_any N (n : Int) _ p.to (HVN.out.kept (HB1.out.trans ((bnext HB5.out p.h).mono HB1.out.size)));by_cases hsame : sk = F n
      ·have d5 : (sk.toList == (F n).toList) = true := by rw [hsame]; simp
       have d6 := HNI.out hsame;rw [d6] at IN;clear hsame;refine wp_region_quiet_below mixed (by kernel_rfl) ?_
       repeat (go_big_quiet_step (first | (go_at_call 69; refine calls_below (IN.out _))))
       refine wpQuiet_nil ?_;intro w0q hw';obtain ⟨⟨wq, bq⟩, hw''⟩ := hw';have hw2 : wq = w0q := hw''.symm;clear hw'';subst hw2;go_wp2;go_meet
       case rel => exact ⟨rfl, Lib.hid bq⟩
      ·have d5 : (sk.toList == (F n).toList) = false := by rw [str_beq, decide_eq_false hsame]
       clear hsame;refine wp_region_quiet_below mixed (by kernel_rfl) ?_
       repeat (go_big_quiet_step (fail))
       refine wpQuiet_nil ?_;intro w0q hw';obtain ⟨⟨wq, bq⟩, hw''⟩ := hw';have hw2 : wq = w0q := hw''.symm;clear hw'';subst hw2;go_wp2;go_meet
       case rel => exact ⟨rfl, Lib.hid bq⟩
     case rest =>
      obtain ⟨rfl, HBQ⟩ := hcut;obtain ⟨w6, hw6⟩ : ∃ x, x = wc := ⟨_, rfl⟩;subst hw6;have HB6 := Lib.hid (bnext HB5.out HBQ.out);have HD6 := Lib.hid (HD5.out.kept1 HBQ.out);have q1 := (HY5.out.kept1 HBQ.out).cell 0;have q2 := (HY5.out.kept1 HBQ.out).cell 1;simp only [List.getElem?_toArray, List.getElem?_cons_zero, List.getElem?_cons_succ] at q1 q2;clear HBQ HY5 HD5 HB5;obtain ⟨r1, r2⟩ := HD6.out.c.2 n hn;have HDN := Lib.hid (HD6.out.set hn sk);have HBN := Lib.hid (HB6.out.setCell (p := ⟨g', n, none⟩) hg' (.string sk));rw [← HLI.out] at HDN;go_wp2;exact ⟨⟨i + 1, by go_num, by omega, HDN, HBN⟩, by simp [intOf]; omega⟩
  ·as_aux_lemma =>
   obtain rfl : i = C.length := by omega
   obtain ⟨w5, hw5⟩ : ∃ x, x = wr := ⟨_, rfl⟩;subst hw5;have x0 := (HX1.out.kept1 HBI.out).cell 0;have x1 := (HX1.out.kept1 HBI.out).cell 1;simp only [List.getElem?_toArray, List.getElem?_cons_zero, List.getElem?_cons_succ] at x0 x1;have DC := Lib.hid (HDOC.out w5 g' cb HDI.out (HVR.out.kept (HB1.out.trans (HBI.out.mono HB1.out.size))));clear HDI HDOC HLAY HRNG HRISE HNEW HL0 HDK HD2;go_wp2_with fail
   refine DC.out.mono ?_; rintro e w6 ⟨vl, vm, rfl, hl, hm, b6⟩;obtain ⟨la, lc, rfl, -⟩ := shape_of hl;obtain ⟨ma, mc, rfl, -⟩ := shape_of hm;have HB6 := Lib.hid (bnext HBI.out b6);have SX := Lib.hid (samex_yes row _ _ w6 (row_of_own hl) (HROW.out.kept (HB1.out.trans (HB6.out.mono HB1.out.size))));have HM6 := Lib.hid hm;clear hl hm b6 DC HBI x0 x1 x2;go_wp2_with fail
   refine SX.out.mono ?_; rintro e w7 ⟨rfl, b7⟩;have HM7 := Lib.hid (row_kept HM6.out b7);have HB7 := Lib.hid (bnext HB6.out b7);clear SX HM6 HB6 b7 HROW HVR;go_wp2
   go_loopw [17] (fun p wr => ∃ (i : Nat), p = .int .i64 i ∧ i ≤ C.length ∧ Hid (Below w7.heap.size w7 wr)) (fun p _ => C.length - (intOf p).toNat)
   case atStart => exact ⟨0, rfl, Nat.zero_le _, Lib.hid (Below.refl _ _)⟩
   case round =>
    obtain ⟨i, rfl, hi, HBI⟩ := hrel;have x2 := (HX1.out.kept1 (bnext HB7.out HBI.out)).cell 2;simp only [List.getElem?_toArray, List.getElem?_cons_zero, List.getElem?_cons_succ] at x2;by_cases hlt : i < C.length
    ·obtain ⟨gcb, ocb, rfl, hgc, hcl⟩ := HC.out (by omega)
     have y0 := ((HB1.out.trans ((bnext HB7.out HBI.out).mono HB1.out.size)).cell (p := ⟨gcb, ocb + i * 2, none⟩) hgc).trans (hcl i hlt).1;have IN := Lib.hid (lin_any M C[i].1 _ wr (row_of_own (row_kept HM7.out HBI.out)));rw [HNODE.out i hlt] at IN;clear hcl HNODE;generalize C[i].1 = bk at *;go_wp2_with fail
     refine IN.out.mono ?_; rintro e w8 ⟨rfl, b8⟩;have HB8 := Lib.hid (bnext HBI.out b8);clear IN b8 HBI;go_wp2;exact ⟨⟨i + 1, by go_num, by omega, HB8⟩, by simp [intOf]; omega⟩
    ·as_aux_lemma =>
     obtain rfl : i = C.length := by omega
     obtain ⟨w8, hw8⟩ : ∃ x, x = wr := ⟨_, rfl⟩;subst hw8;have HM8 := Lib.hid (row_kept HM7.out HBI.out);have HB8 := Lib.hid (bnext HB7.out HBI.out);obtain ⟨GN, hGN⟩ : ∃ G, takeP (fun b => decide (b ∉ M)) N = G := ⟨_, rfl⟩;have HG0 : Hid (GN 0 = []) := Lib.hid (by rw [← hGN]; exact takeP_zero _ _)
     have HGS : Hid (∀ (k : Nat) (x : Int), N[k]? = some x → GN (k + 1) = if decide (x ∈ M) = false then GN k ++ [x] else GN k) := Lib.hid fun k x h => by
      rw [← hGN, takeP_succ _ h];by_cases q : x ∈ M
      ·rw [if_neg (by simp [q]), if_neg (by simp [q])]
      ·rw [if_pos (by simp [q]), if_pos (by simp [q])]
     have HGL : Hid (∀ k, (GN k).length ≤ 100000) := Lib.hid fun k => by rw [← hGN]; exact Nat.le_trans (takeP_le _ _ _) hNl
     rw [hGN] at HGONE;obtain ⟨CM, hCM⟩ : ∃ G, takeP (fun b => decide (b ∉ N)) M = G := ⟨_, rfl⟩;have HC0 : Hid (CM 0 = []) := Lib.hid (by rw [← hCM]; exact takeP_zero _ _)
     have HCS : Hid (∀ (k : Nat) (x : Int), M[k]? = some x → CM (k + 1) = if decide (x ∈ N) = false then CM k ++ [x] else CM k) := Lib.hid fun k x h => by
      rw [← hCM, takeP_succ _ h];by_cases q : x ∈ N
      ·rw [if_neg (by simp [q]), if_neg (by simp [q])]
      ·rw [if_pos (by simp [q]), if_pos (by simp [q])]
     have HCL : Hid (∀ k, (CM k).length ≤ 100000) := Lib.hid fun k => by rw [← hCM]; exact Nat.le_trans (takeP_le _ _ _) hml
     rw [hCM] at HCOME HMANY;have HNC := Lib.hid (intsR_cells (HVN.out.kept (HB1.out.trans (HB8.out.mono HB1.out.size))));have HMC := Lib.hid (intsR_cells (row_of_own HM8.out));have HVN8 := Lib.hid (HVN.out.kept (HB1.out.trans (HB8.out.mono HB1.out.size)));clear hGN hCM hlt hi HBI HM7 HB7 HNODE HC HVN;go_wp2
     go_loopw [18, 20] (fun vg p wr => ∃ (k : Nat), p = .int .i64 k ∧ k ≤ N.length ∧ Hid (IntsFk w8.heap.size vg (GN k) wr) ∧ Hid (Below w8.heap.size w8 wr)) (fun _ p _ => N.length - (intOf p).toNat)
     case atStart => exact ⟨0, rfl, Nat.zero_le _, Lib.hid (by rw [HG0.out]; exact World.ownsRow_nil _ _ _ _), Lib.hid (Below.refl _ _)⟩
     case round =>
      obtain ⟨k, rfl, hk, HO, HBK⟩ := hrel;obtain ⟨ga9, gc9, rfl, -⟩ := shape_of HO.out;by_cases hkl : k < N.length
      ·obtain ⟨ad9, cp9, eqv, -, -, hcn⟩ := HNC.out
       injection eqv with z1 z2 z3
       obtain ⟨gn, on, x, z4, hx, hcx⟩ := hcn wr HBK.out k hkl;rw [z4] at z1;subst z1;have IN := Lib.hid (lin_any M x _ wr (row_of_own (row_kept HM8.out HBK.out)));have HST := Lib.hid (HGS.out k x hx);have hgl := HGL.out k;clear hcn z4 hx z2 z3 HNC HMC HGS HGL HCS HCL HC0 HG0;obtain ⟨r, hr⟩ : ∃ r, decide (x ∈ M) = r := ⟨_, rfl⟩;rw [hr] at IN HST;clear hr;go_wp2_with fail
       refine IN.out.mono ?_; rintro e w9 ⟨rfl, b9⟩;have HO9 := Lib.hid (row_kept HO.out b9);have HB9 := Lib.hid (bnext HBK.out b9);have hs9 := HB9.out.size;have e9 := (b9.cell (p := ⟨gn, on + k, none⟩) (cell_flat hcx).2).trans hcx;clear IN b9 HO HBK hcx
       cases r with
       | true =>
         have HE : Hid (GN (k + 1) = GN k) := Lib.hid (by rw [HST.out, if_neg (by simp)]);clear HST;go_wp2;exact ⟨⟨k + 1, by go_num, by omega, Lib.hid (by rw [HE.out]; exact HO9.out), HB9⟩, by simp [intOf]; omega⟩
       | false =>
         have HE : Hid (GN (k + 1) = GN k ++ [x]) := Lib.hid (by rw [HST.out, if_pos rfl]);clear HST;generalize GN k = G0 at *
         go_wp2_with (at_builtin; refine wpList_int rfl _ _ rfl w8.heap.size _ G0 rfl (HO9.out.alloc _) ⟨w9.heap.size, 0, none⟩ 1 x rfl (fknew_int _ _) (by omega) (by rw [size_alloc]; omega) ?_)
         intro v' w' h1 h2;have HN1 := Lib.hid h1;have HBN := Lib.hid ((balloc HB9.out (.cells #[.int .i64 x] 3)).trans (below_of_row (HO9.out.alloc (.cells #[.int .i64 x] 3)) h2 (balloc HB9.out (.cells #[.int .i64 x] 3)).size));obtain ⟨ad', cap', rfl, -⟩ := shape_of h1;clear h1 h2;go_wp2;exact ⟨⟨k + 1, by go_num, by omega, Lib.hid (by rw [HE.out]; exact HN1.out), HBN⟩, by simp [intOf]; omega⟩
      ·as_aux_lemma =>
       obtain rfl : k = N.length := by omega
       obtain ⟨wA, hwA⟩ : ∃ x, x = wr := ⟨_, rfl⟩;subst hwA;have HGA := Lib.hid HO.out;have HMA := Lib.hid (row_kept HM8.out HBK.out);have HVNA := Lib.hid (HVN8.out.kept HBK.out);have HBA := Lib.hid (bnext HB8.out HBK.out);have HBA8 := Lib.hid HBK.out;clear HO HBK hkl hk HNC HGS HGL HG0 HM8 HVN8;go_wp2
       go_loopw [19, 21] (fun vg p wr => ∃ (k : Nat), p = .int .i64 k ∧ k ≤ M.length ∧ Hid (IntsFk wA.heap.size vg (CM k) wr) ∧ Hid (Below wA.heap.size wA wr)) (fun _ p _ => M.length - (intOf p).toNat)
       case atStart => exact ⟨0, rfl, Nat.zero_le _, Lib.hid (by rw [HC0.out]; exact World.ownsRow_nil _ _ _ _), Lib.hid (Below.refl _ _)⟩
       case round =>
        obtain ⟨k, rfl, hk, HO, HBK⟩ := hrel;obtain ⟨ca9, cc9, rfl, -⟩ := shape_of HO.out;by_cases hkl : k < M.length
        ·obtain ⟨ad9, cp9, eqv, -, -, hcn⟩ := HMC.out
         injection eqv with z1 z2 z3
         obtain ⟨gn, on, x, z4, hx, hcx⟩ := hcn wr (HBA8.out.trans (HBK.out.mono HBA8.out.size)) k hkl;rw [z4] at z1;subst z1;have IN := Lib.hid (lin_any N x _ wr (HVNA.out.kept HBK.out));have HST := Lib.hid (HCS.out k x hx);have hgl := HCL.out k;clear hcn z4 hx z2 z3 HMC HCS HCL HC0;obtain ⟨r, hr⟩ : ∃ r, decide (x ∈ N) = r := ⟨_, rfl⟩;rw [hr] at IN HST;clear hr;go_wp2_with fail
         refine IN.out.mono ?_; rintro e w9 ⟨rfl, b9⟩;have HO9 := Lib.hid (row_kept HO.out b9);have HB9 := Lib.hid (bnext HBK.out b9);have hs9 := HB9.out.size;have e9 := (b9.cell (p := ⟨gn, on + k, none⟩) (cell_flat hcx).2).trans hcx;clear IN b9 HO HBK hcx
         cases r with
         | true =>
           have HE : Hid (CM (k + 1) = CM k) := Lib.hid (by rw [HST.out, if_neg (by simp)]);clear HST;go_wp2;exact ⟨⟨k + 1, by go_num, by omega, Lib.hid (by rw [HE.out]; exact HO9.out), HB9⟩, by simp [intOf]; omega⟩
         | false =>
           have HE : Hid (CM (k + 1) = CM k ++ [x]) := Lib.hid (by rw [HST.out, if_pos rfl]);clear HST;generalize CM k = G0 at *
           go_wp2_with (at_builtin; refine wpList_int rfl _ _ rfl wA.heap.size _ G0 rfl (HO9.out.alloc _) ⟨w9.heap.size, 0, none⟩ 1 x rfl (fknew_int _ _) (by omega) (by rw [size_alloc]; omega) ?_)
           intro v' w' h1 h2;have HN1 := Lib.hid h1;have HBN := Lib.hid ((balloc HB9.out (.cells #[.int .i64 x] 3)).trans (below_of_row (HO9.out.alloc (.cells #[.int .i64 x] 3)) h2 (balloc HB9.out (.cells #[.int .i64 x] 3)).size));obtain ⟨ad', cap', rfl, -⟩ := shape_of h1;clear h1 h2;go_wp2;exact ⟨⟨k + 1, by go_num, by omega, Lib.hid (by rw [HE.out]; exact HN1.out), HBN⟩, by simp [intOf]; omega⟩
        ·as_aux_lemma =>
         obtain rfl : k = M.length := by omega
         obtain ⟨wB, hwB⟩ : ∃ x, x = wr := ⟨_, rfl⟩;subst hwB;have HGB := Lib.hid (row_kept HGA.out HBK.out);have HCB := Lib.hid HO.out;have HBB := Lib.hid (bnext HBA.out HBK.out);have HSC := Lib.hid (intsR_cells (HVS.out.kept (HB1.out.trans (HBB.out.mono HB1.out.size))));have HVSB := Lib.hid (HVS.out.kept (HB1.out.trans (HBB.out.mono HB1.out.size)));obtain ⟨Z, hZ⟩ : ∃ Z, CM M.length = Z := ⟨_, rfl⟩;rw [hZ] at HCB HCOME HMANY;clear HO HBK hkl hk HMC HCS HCL HC0 HMA HVNA HGA HBA HVS;rw [hZ];clear hZ;go_wp2
         go_loopw [22] (fun p wr => ∃ (k : Nat), p = .int .i64 k ∧ k ≤ fresh.length ∧ Hid (Below wB.heap.size wB wr)) (fun p _ => fresh.length - (intOf p).toNat)
         case atStart => exact ⟨0, rfl, Nat.zero_le _, Lib.hid (Below.refl _ _)⟩
         case round =>
          obtain ⟨k, rfl, hk, HBK⟩ := hrel;by_cases hkl : k < fresh.length
          ·obtain ⟨ad9, cp9, eqv, -, -, hcn⟩ := HSC.out
           injection eqv with z1 z2 z3
           obtain ⟨gn, on, x, z4, hx, hcx⟩ := hcn wr HBK.out k hkl;rw [z4] at z1;subst z1;have IN := Lib.hid (lin_any Z x _ wr (row_of_own (row_kept HCB.out HBK.out)));rw [decide_eq_true (HCOME.out x (List.mem_of_getElem? hx))] at IN;clear hcn z4 hx z2 z3 HSC;go_wp2_with fail
           refine IN.out.mono ?_; rintro e w9 ⟨rfl, b9⟩;have HB9 := Lib.hid (bnext HBK.out b9);clear IN b9 HBK hcx;go_wp2;exact ⟨⟨k + 1, by go_num, by omega, HB9⟩, by simp [intOf]; omega⟩
          ·obtain rfl : k = fresh.length := by omega
           have HBE := Lib.hid (bnext HBB.out HBK.out);have x3 := (HX1.out.kept1 HBE.out).cell 3;simp only [List.getElem?_toArray, List.getElem?_cons_zero, List.getElem?_cons_succ] at x3
           have SI := Lib.hid (lints_same _ _ FR wr (HVF.out.kept (HB1.out.trans (HBE.out.mono HB1.out.size))) (by
            rw [HGONE.out]; exact row_of_own (row_kept HGB.out HBK.out)))
           have d1 : (((Z.length : Nat) : Int) == (fresh.length : Int)) = true := by rw [HMANY.out]; simp
           have HEND := Lib.hid (HB1.out.trans (HBE.out.mono HB1.out.size));clear HBK hkl hk HSC;go_wp2_with fail
           refine SI.out.mono ?_; rintro e w9 ⟨rfl, b9⟩;have HEN := Lib.hid (bnext HEND.out b9);clear SI b9 x3;go_wp2;go_ret;exact ⟨rfl, HEN.out⟩
open Go.RowKit
theorem three_box (w : World) (A B C : Array Value) (ta tb tc : TypeId) : ∃ W, ((w.alloc (.cells A ta)).alloc (.cells B tb)).alloc (.cells C tc) = W ∧
 Below w.heap.size w W ∧ Blk w.heap.size A ta W ∧ Blk (w.heap.size + 1) B tb W ∧ Blk (w.heap.size + 1 + 1) C tc W := by
 have b1 := balloc1 w (.cells A ta);have k1 := Blk.new A ta w;have z1 := size_alloc w (.cells A ta);generalize w.alloc (.cells A ta) = w1 at *;have b2 := balloc1 w1 (.cells B tb);have k2 := Blk.new B tb w1;have z2 := size_alloc w1 (.cells B tb);generalize w1.alloc (.cells B tb) = w2 at *;have b3 := balloc1 w2 (.cells C tc);have k3 := Blk.new C tc w2;generalize w2.alloc (.cells C tc) = w3 at *;rw [z1] at k2; rw [z2, z1] at k3;exact ⟨w3, rfl, bnext (bnext b1 b2) b3, k1.kept1 (bnext b2 b3), k2.kept1 b3, k3⟩
theorem cellsE_set {l : List Ent} {i : Nat} (hi : i < l.length) (t : Int) : (cellsE l).set (i * 3 + 1) (.int .i64 t) = cellsE (l.set i ⟨(eat l i).log, t, (eat l i).len⟩) := by
 apply List.ext_getElem?
 intro j;rw [List.getElem?_set];have hlen := cellsE_length l
 have hat : ∀ k, k < l.length → eat (l.set i ⟨(eat l i).log, t, (eat l i).len⟩) k = if k = i then ⟨(eat l i).log, t, (eat l i).len⟩ else eat l k := fun k hk => by
  rw [eat_eq (by rw [List.length_set]; exact hk), List.getElem_set];by_cases e : i = k
  ·subst e; rw [if_pos rfl, if_pos rfl]
  ·rw [if_neg e, if_neg fun q => e q.symm, eat_eq hk]
 by_cases hj : j < l.length * 3
 ·obtain ⟨a1, a2, a3⟩ := cellsE_at l (j / 3) (by omega)
  obtain ⟨b1, b2, b3⟩ := cellsE_at (l.set i ⟨(eat l i).log, t, (eat l i).len⟩) (j / 3) (by rw [List.length_set]; omega);rw [hat (j / 3) (by omega)] at b1 b2 b3
  have hm : j = j / 3 * 3 ∨ j = j / 3 * 3 + 1 ∨ j = j / 3 * 3 + 2 := by omega
  by_cases e : j / 3 = i
  ·rw [if_pos e] at b1 b2 b3
   rcases hm with hm | hm | hm
   ·rw [if_neg (by omega), hm, a1, b1, e]
   ·rw [if_pos (by omega), if_pos (by rw [hlen]; omega), hm, b2]
   ·rw [if_neg (by omega), hm, a3, b3, e]
  ·rw [if_neg e] at b1 b2 b3
   rw [if_neg (by omega)];rcases hm with hm | hm | hm
   ·rw [hm, a1, b1]
   ·rw [hm, a2, b2]
   ·rw [hm, a3, b3]
 ·rw [if_neg (by omega), List.getElem?_eq_none (by omega), List.getElem?_eq_none (by rw [cellsE_length, List.length_set]; omega)]
theorem lmoved_any (g : Nat) (F : Nat → ByteArray) (hF : ∀ k, (F k).size ≤ 1000) (N : List Int) (row : List Ent) (dp : Int) (root : List Ent) (R : RpR) (lg n tt fr nd : Int) (H : MovedOk F N row dp root R lg n tt) (htt : I64 tt) (hn : I64 n)
 (hNl : N.length ≤ 100000) (hrl : row.length ≤ 100000) (vRow vN vt vr vc vf : Value) (w : World)
 (hd : DskAt g F w) (hvN : IntsR vN N w) (hrow : EntsIn vRow row w) (hvt : EntsIn vt root w) (hvr : EntsIn vr (rtR R) w) (hvc : ChgsIn vc (chR R) w) (hvf : IntsR vf (frR R) w) :
 Calls Tryz.prog 26 #[.slice (some ⟨g, 0, none⟩) 4096 4096, vRow, vN, .agg #[.int .i64 dp, vt], setV (dpR R) vr vc vf, .int .i64 (ecR R), .agg #[.int .i64 lg, .int .i64 n, .int .i64 tt, .int .i64 fr, .int .i64 nd]] w
  fun e w' => e = .returned (.bool true) ∧ Below w.heap.size w w' := by
 have mixed : Tryz.prog.follows .mixedOrders = true := by kernel_rfl
 have HNONE := Lib.hid H.none;have HBIG := Lib.hid H.big;have HBAD := Lib.hid H.bad;have HGOOD := Lib.hid H.good;clear H;obtain ⟨EC, hEC⟩ : ∃ x, ecR R = x := ⟨_, rfl⟩;obtain ⟨DR, hDR⟩ : ∃ x, dpR R = x := ⟨_, rfl⟩;obtain ⟨RT, hRT⟩ : ∃ x, rtR R = x := ⟨_, rfl⟩;obtain ⟨CH, hCH⟩ : ∃ x, chR R = x := ⟨_, rfl⟩;obtain ⟨FR, hFR⟩ : ∃ x, frR R = x := ⟨_, rfl⟩
 have HG2 : Hid (∀ i, i < row.length → mvP lg n (eat row i) = true → ¬ MvBad N n tt → (EC = 0 ∧ ∃ T, DR = ((T.length - 1 : Nat) : Int) ∧ RT = rootA T ∧ HoldsOk F N (row.set i ⟨(eat row i).log, tt, (eat row i).len⟩) CH T FR [] ∧ fitE (rootA T) ∧ (numsA T).length ≤ 100000 ∧ I64 ((T.length - 1 : Nat) : Int)) ∧ CH.length ≤ 1 ∧ DR = dp ∧ RT.length = root.length ∧ (dp = 0 ∨ RT = root)) := Lib.hid fun i hi hp hb => by
  rw [← hEC, ← hDR, ← hRT, ← hCH, ← hFR];obtain ⟨⟨k1, k2⟩, k3⟩ := HGOOD.out i hi hp hb;exact ⟨⟨k1, k2⟩, k3⟩
 rw [hEC] at HNONE HBAD ⊢;rw [hDR];rw [hRT] at hvr;rw [hCH] at hvc;rw [hFR] at hvf;clear HGOOD hEC hDR hRT hCH hFR R;obtain ⟨ta, tc, rfl, -⟩ := entsIn_cells hvt;obtain ⟨ra, rc, rfl, -⟩ := entsIn_cells hvr;obtain ⟨ca, cc, rfl, -⟩ := hvc.open;obtain ⟨fa, fc, rfl, -⟩ := hvf.shape;obtain ⟨wa, wc9, rfl, hwc1, hwc2, hrc, -⟩ := entsIn_cells hrow;obtain ⟨na, nc, rfl, hnc1, hnc2, hnc⟩ := intsR_cells hvN;obtain ⟨w1, hw1, hb1, k1, k2, k3⟩ := three_box w #[.int .i64 dp, .slice ta root.length tc] #[.int .i64 DR, .slice ra RT.length rc, .slice ca CH.length cc, .slice fa FR.length fc] #[.int .i64 lg, .int .i64 n, .int .i64 tt, .int .i64 fr, .int .i64 nd] 35 58 56;have HW1 := Lib.hid hw1;have HB1 := Lib.hid hb1;have HT1 := Lib.hid k1;have HX1 := Lib.hid k2;have HO1 := Lib.hid k3;have HVT := Lib.hid hvt;have HVR := Lib.hid hvr;have HVC := Lib.hid hvc;have HVF := Lib.hid hvf;have HVN := Lib.hid hvN;have HROW := Lib.hid hrow;have HRC := Lib.hid hrc;have HNC := Lib.hid hnc;have HDK := Lib.hid hd;clear hw1 hb1 k1 k2 k3 hvt hvr hvc hvf hvN hrow hrc hnc hd
 go_enter Tryz.func26, Tryz.ntmps26
 go_upto_region 1 with fail
 rw [HW1.out];go_wp2
 go_loopw [15, 16] (fun pa p wr => ∃ (a : Int) (k : Nat), pa = .int .i64 a ∧ p = .int .i64 k ∧ k ≤ row.length ∧ Hid ((a = -1 ∧ ∀ j, j < k → mvP lg n (eat row j) = false) ∨ ∃ j : Nat, a = (j : Int) ∧ j < row.length ∧ mvP lg n (eat row j) = true) ∧ Hid (Below w1.heap.size w1 wr)) (fun _ p _ => row.length - (intOf p).toNat)
 case atStart => exact ⟨-1, 0, rfl, rfl, Nat.zero_le _, Lib.hid (.inl ⟨rfl, fun j hj => by omega⟩), Lib.hid (Below.refl _ _)⟩
 case round =>
  obtain ⟨a, k, rfl, rfl, hk, HA, HB⟩ := hrel;by_cases hlt : k < row.length
  ·obtain ⟨gr, or', rfl, hgr, hcr⟩ := HRC.out (by omega)
   have q1 := fun p : BelowP wr => (hcr p.to (HB1.out.trans ((bnext HB.out p.h).mono HB1.out.size)) k hlt).1;have q2 := fun p : BelowP wr => (hcr p.to (HB1.out.trans ((bnext HB.out p.h).mono HB1.out.size)) k hlt).2.2;have q3 := fun p : BelowP wr => (HO1.out.kept1 (bnext HB.out p.h)).cell 0;have q4 := fun p : BelowP wr => (HO1.out.kept1 (bnext HB.out p.h)).cell 1;simp only [List.getElem?_toArray, List.getElem?_cons_zero, List.getElem?_cons_succ] at q3 q4;have HYES : Hid (mvP lg n (eat row k) = true → (((k : Int) = -1 ∧ ∀ j, j < k + 1 → mvP lg n (eat row j) = false) ∨ ∃ j : Nat, (k : Int) = (j : Int) ∧ j < row.length ∧ mvP lg n (eat row j) = true)) := Lib.hid fun h => .inr ⟨k, rfl, hlt, h⟩
   have HNO : Hid (mvP lg n (eat row k) = false → ((a = -1 ∧ ∀ j, j < k + 1 → mvP lg n (eat row j) = false) ∨ ∃ j : Nat, a = (j : Int) ∧ j < row.length ∧ mvP lg n (eat row j) = true)) := Lib.hid fun h => by
    rcases HA.out with ⟨h1, h2⟩ | h1
    ·refine .inl ⟨h1, fun j hj => ?_⟩
     by_cases e : j = k
     ·subst e; exact h
     ·exact h2 j (by omega)
    ·exact .inr h1
   have hmv : mvP lg n (eat row k) = (decide ((eat row k).log = lg) && decide ((eat row k).len = n)) := rfl;rw [hmv] at HYES HNO;clear HRC hcr HA HNC HNONE HBIG HBAD HG2 hmv;generalize eat row k = yk at *;obtain ⟨ea, ep, ez⟩ := yk;dsimp only at *
   go_upto_region 5 with fail
   by_cases t1 : ea = lg
   ·have d1 : (ea == lg) = true := by rw [t1]; simp
    by_cases t2 : ez = n
    ·have d2 : (ez == n) = true := by rw [t2]; simp
     have HK := Lib.hid (HYES.out (by rw [decide_eq_true t1, decide_eq_true t2]; rfl));clear HYES HNO t1 t2;refine wp_region_quiet_below mixed (by kernel_rfl) ?_
     repeat (go_big_quiet_step (fail))
     refine wpQuiet_nil ?_;intro w0q hw';obtain ⟨⟨wq, bq⟩, hw''⟩ := hw';have hw2 : wq = w0q := hw''.symm;clear hw'';subst hw2;go_wp2;exact ⟨⟨_, k + 1, rfl, by go_num, by omega, HK, Lib.hid (bnext HB.out bq)⟩, by simp [intOf]; omega⟩
    ·have d2 : (ez == n) = false := by rw [beq_eq_false_iff_ne]; exact t2
     have HK := Lib.hid (HNO.out (by rw [decide_eq_false t2, Bool.and_false]));clear HYES HNO t1 t2;refine wp_region_quiet_below mixed (by kernel_rfl) ?_
     repeat (go_big_quiet_step (fail))
     refine wpQuiet_nil ?_;intro w0q hw';obtain ⟨⟨wq, bq⟩, hw''⟩ := hw';have hw2 : wq = w0q := hw''.symm;clear hw'';subst hw2;go_wp2;exact ⟨⟨_, k + 1, rfl, by go_num, by omega, HK, Lib.hid (bnext HB.out bq)⟩, by simp [intOf]; omega⟩
   ·have d1 : (ea == lg) = false := by rw [beq_eq_false_iff_ne]; exact t1
    have HK := Lib.hid (HNO.out (by rw [decide_eq_false t1, Bool.false_and]));clear HYES HNO t1;refine wp_region_quiet_below mixed (by kernel_rfl) ?_
    repeat (go_big_quiet_step (fail))
    refine wpQuiet_nil ?_;intro w0q hw';obtain ⟨⟨wq, bq⟩, hw''⟩ := hw';have hw2 : wq = w0q := hw''.symm;clear hw'';subst hw2;go_wp2;exact ⟨⟨_, k + 1, rfl, by go_num, by omega, HK, Lib.hid (bnext HB.out bq)⟩, by simp [intOf]; omega⟩
  ·obtain rfl : k = row.length := by omega
   obtain ⟨w2, hw2⟩ : ∃ x, x = wr := ⟨_, rfl⟩;subst hw2;rcases HA.out with ⟨rfl, h2⟩ | ⟨at', rfl, hat, hp⟩
   ·have HE := Lib.hid (HNONE.out h2)
    clear HA h2 HBIG HBAD HG2 HRC HNC
    have d1 : (EC == (4 : Int)) = true := by rw [HE.out]; simp
    clear HE HNONE;go_wp2;go_ret;exact ⟨rfl, bnext HB1.out HB.out⟩
   ·as_aux_lemma =>
    obtain ⟨hn1, hn2⟩ := HBIG.out at' hat hp;have HBAD2 := Lib.hid (HBAD.out at' hat hp);have HG3 := Lib.hid (HG2.out at' hat hp);have z1 := (HO1.out.kept1 HB.out).cell 1;have z2 := (HO1.out.kept1 HB.out).cell 2;simp only [List.getElem?_toArray, List.getElem?_cons_zero, List.getElem?_cons_succ] at z1 z2;have hw : IntKind.i64.wrap (4096 - n) = 4096 - n := IntWalk.i64_in _ (by omega);have da : decide ((at' : Int) < 0) = false := decide_eq_false (by omega);clear HA hp HBIG HBAD HG2 HRC HNONE
    go_upto_region 9 with fail
    go_cut [17] (fun u1 wx => ∃ b : Bool, u1 = .bool b ∧ Hid (b = true → MvBad N n tt) ∧ Hid (b = false → 1 ≤ tt ∧ tt ≤ 4096 - n) ∧ wx = w2)
    case first =>
     by_cases t1 : tt < 1
     ·have d1 : decide (tt < 1) = true := decide_eq_true t1
      go_wp2;go_meet
      case rel => exact ⟨true, rfl, Lib.hid fun _ => .inl t1, Lib.hid (fun h => by cases h), rfl⟩
     ·have d1 : decide (tt < 1) = false := decide_eq_false t1
      by_cases t2 : 4096 - n < tt
      ·have d2 : decide (4096 - n < tt) = true := decide_eq_true t2
       go_wp2;go_meet
       case rel => exact ⟨true, rfl, Lib.hid fun _ => .inr (.inl t2), Lib.hid (fun h => by cases h), rfl⟩
      ·have d2 : decide (4096 - n < tt) = false := decide_eq_false t2
       go_wp2;go_meet
       case rel => exact ⟨false, rfl, Lib.hid (fun h => by cases h), Lib.hid fun _ => ⟨by omega, by omega⟩, rfl⟩
    case rest =>
     obtain ⟨b0, rfl, HB0, HB0', rfl⟩ := hcut;obtain ⟨w2, hww2⟩ : ∃ x, x = wc := ⟨_, rfl⟩;subst hww2;clear z1 z2 hw;go_wp2
     go_loopw [17, 18] (fun ub p wr => ∃ (b : Bool) (k : Nat), ub = .bool b ∧ p = .int .i64 k ∧ k ≤ N.length ∧ Hid (b = true → MvBad N n tt) ∧ Hid (b = false → (1 ≤ tt ∧ tt ≤ 4096 - n) ∧ ∀ j, j < k → ∀ x, N[j]? = some x → ¬ (tt ≤ x ∧ x < tt + n)) ∧ Hid (Below w2.heap.size w2 wr)) (fun _ p _ => N.length - (intOf p).toNat)
     case atStart => exact ⟨b0, 0, rfl, rfl, Nat.zero_le _, HB0, Lib.hid fun h => ⟨HB0'.out h, fun j hj => by omega⟩, Lib.hid (Below.refl _ _)⟩
     case round =>
      obtain ⟨b, k, rfl, rfl, hk, HT, HF', HBK⟩ := hrel
      cases b with
      | true =>
        have HE := Lib.hid (HBAD2.out (HT.out rfl))
        have d1 : (EC == (2 : Int)) = true := by rw [HE.out]; simp
        clear HE HBAD2 HG3 HT HF' HB0 HB0';by_cases hkl : k < N.length
        ·go_wp2
         go_ret;exact ⟨rfl, bnext (bnext HB1.out HB.out) HBK.out⟩
        ·go_wp2
         go_ret;exact ⟨rfl, bnext (bnext HB1.out HB.out) HBK.out⟩
      | false =>
        by_cases hkl : k < N.length
        ·obtain ⟨gn, on, x, rfl, hx, hcx⟩ := HNC.out wr (HB1.out.trans ((bnext HB.out HBK.out).mono HB1.out.size)) k hkl
         obtain ⟨⟨h1, h2⟩, h3⟩ := HF'.out rfl;have hw2 : IntKind.i64.wrap (tt + n) = tt + n := IntWalk.i64_in _ (by omega);have q1 := fun p : BelowP wr => (p.h.cell (p := ⟨gn, on + k, none⟩) (cell_flat hcx).2).trans hcx;have q2 := fun p : BelowP wr => (HO1.out.kept1 (bnext (bnext HB.out HBK.out) p.h)).cell 1;have q3 := fun p : BelowP wr => (HO1.out.kept1 (bnext (bnext HB.out HBK.out) p.h)).cell 2;simp only [List.getElem?_toArray, List.getElem?_cons_zero, List.getElem?_cons_succ] at q2 q3;have HYES : Hid (tt ≤ x ∧ x < tt + n → MvBad N n tt) := Lib.hid fun h => .inr (.inr ⟨x, List.mem_of_getElem? hx, h⟩)
         have HNO : Hid (¬ (tt ≤ x ∧ x < tt + n) → ((1 ≤ tt ∧ tt ≤ 4096 - n) ∧ ∀ j, j < k + 1 → ∀ x, N[j]? = some x → ¬ (tt ≤ x ∧ x < tt + n))) := Lib.hid fun h => ⟨⟨h1, h2⟩, fun j hj y hy => by
          by_cases e : j = k
          ·subst e
           rw [hx] at hy
           injection hy with hy
           subst hy; exact h
          ·exact h3 j (by omega) y hy⟩
         clear HT HF' HBAD2 HG3 HB0 HB0' HNC h3 hcx hx
         go_upto_region 13 with fail
         by_cases t1 : tt ≤ x
         ·have d1 : decide (tt ≤ x) = true := decide_eq_true t1
          by_cases t2 : x < tt + n
          ·have d2 : decide (x < tt + n) = true := decide_eq_true t2
           have HY2 := Lib.hid (HYES.out ⟨t1, t2⟩);clear HYES HNO;refine wp_region_quiet_below mixed (by kernel_rfl) ?_
           repeat (go_big_quiet_step (fail))
           refine wpQuiet_nil ?_;intro w0q hw';obtain ⟨⟨wq, bq⟩, hw''⟩ := hw';have hw2 : wq = w0q := hw''.symm;clear hw'';subst hw2;go_wp2;exact ⟨⟨true, k + 1, rfl, by go_num, by omega, Lib.hid fun _ => HY2.out, Lib.hid (fun h => by cases h), Lib.hid (bnext HBK.out bq)⟩, by simp [intOf]; omega⟩
          ·have d2 : decide (x < tt + n) = false := decide_eq_false t2
           have HN2 := Lib.hid (HNO.out fun h => t2 h.2);clear HYES HNO;refine wp_region_quiet_below mixed (by kernel_rfl) ?_
           repeat (go_big_quiet_step (fail))
           refine wpQuiet_nil ?_;intro w0q hw';obtain ⟨⟨wq, bq⟩, hw''⟩ := hw';have hw2 : wq = w0q := hw''.symm;clear hw'';subst hw2;go_wp2;exact ⟨⟨false, k + 1, rfl, by go_num, by omega, Lib.hid (fun h => by cases h), Lib.hid fun _ => HN2.out, Lib.hid (bnext HBK.out bq)⟩, by simp [intOf]; omega⟩
         ·have d1 : decide (tt ≤ x) = false := decide_eq_false t1
          have HN2 := Lib.hid (HNO.out fun h => t1 h.1);clear HYES HNO;refine wp_region_quiet_below mixed (by kernel_rfl) ?_
          repeat (go_big_quiet_step (fail))
          refine wpQuiet_nil ?_;intro w0q hw';obtain ⟨⟨wq, bq⟩, hw''⟩ := hw';have hw2 : wq = w0q := hw''.symm;clear hw'';subst hw2;go_wp2;exact ⟨⟨false, k + 1, rfl, by go_num, by omega, Lib.hid (fun h => by cases h), Lib.hid fun _ => HN2.out, Lib.hid (bnext HBK.out bq)⟩, by simp [intOf]; omega⟩
        ·obtain rfl : k = N.length := by omega
         obtain ⟨⟨h1, h2⟩, h3⟩ := HF'.out rfl
         have hgood : ¬ MvBad N n tt := by
          rintro (q | q | ⟨b, hb, q⟩)
          ·omega
          ·omega
          ·obtain ⟨j, hj, e⟩ := List.mem_iff_getElem.1 hb
           exact h3 j hj b (by rw [List.getElem?_eq_getElem hj, e]) q
         obtain ⟨⟨hec, T, hdr, hrt, hH, hfr, hml, hdi⟩, hc1, hdd, hrl2, hrr⟩ := HG3.out hgood;have HW3 := Lib.hid (bnext HB.out HBK.out);clear HT HF' HBAD2 HG3 HB0 HB0' HNC h3 hgood HBK;obtain ⟨w3, hw3⟩ : ∃ x, x = wr := ⟨_, rfl⟩;subst hw3;subst hec;subst hdd
         have HHO : Hid (∀ W vw, Below w1.heap.size w1 W → ExtsAt 0 vw (row.set at' ⟨(eat row at').log, tt, (eat row at').len⟩) W → Calls Tryz.prog 68 #[.slice (some ⟨g, 0, none⟩) 4096 4096, .slice na N.length nc, vw, setV DR (.slice ra RT.length rc) (.slice ca CH.length cc) (.slice fa FR.length fc), .slice none 0 0] W fun e w' => e = .returned (.bool true) ∧ Below W.heap.size W w') := Lib.hid fun W vw b hvw => by
          have bb := HB1.out.trans (b.mono HB1.out.size);have hvr2 := HVR.out.kept bb;rw [hrt] at hvr2;have := lholds_any g F hF N _ CH T FR [] hH hdi hfr hNl hml (.slice na N.length nc) vw (.slice ra (rootA T).length rc) (.slice ca CH.length cc) (.slice fa FR.length fc) (.slice none 0 0) W (HDK.out.eq_block bb.size (bb.block g HDK.out.c.1)) (HVN.out.kept bb) (row_of_own hvw) hvr2 (HVC.out.kept bb) (HVF.out.kept bb) (RowIn.nil 1 W);rw [← hdr, ← hrt] at this;exact this
         clear hH hfr hml hdi hdr hrt;have d1 : decide ((CH.length : Int) ≤ 1) = true := decide_eq_true (by omega)
         have d2 : ((RT.length : Int) == (root.length : Int)) = true := by rw [hrl2]; simp
         have HRR := Lib.hid hrr;clear hrr hrl2 hc1;have a3 := balloc1 w3 (.cells #[] 53);have K0 : Hid ((w3.alloc (.cells #[] 53)).ownsRow w3.heap.size 53 3 (.slice (some ⟨w3.heap.size, 0, none⟩) 0 0) ([] : List Ent).length (cellsE [])) := Lib.hid (lit0 w3 53 3);have A3 := Lib.hid a3;have hu := Lib.hid ((HROW.out.kept (HB1.out.trans (HW3.out.mono HB1.out.size))).kept a3);clear a3
         go_wp2_with (at_builtin; refine wpList_appE rfl _ _ 42 53 rfl Tryz.underlying42 ext_info w3.heap.size _ [] rfl K0.out _ row rfl hu.out (by simp; omega) A3.out.size ?_)
         intro vk w4 hk4 hg4;have b4 : Below w3.heap.size w3 w4 := A3.out.trans (below_of_row K0.out hg4 A3.out.size);have hk4 : ExtsAt w3.heap.size vk row w4 := hk4;obtain ⟨ka, kc, rfl, s2, s3, s4⟩ := shape_of hk4;have s3 : kc ≤ 9223372036854775807 := s3;obtain ⟨gk, rfl, hgk, -⟩ := s4 (by omega);have hxl := hk4.1;have e1 : w4.cell? ⟨gk, at' * 3 + 1, none⟩ = some ((cellsE row)[at' * 3 + 1]'(by omega)) := (hk4.cellAt _ (by omega)).trans (List.getElem?_eq_getElem _);have f1 := hk4.frozenAt (at' * 3 + 1);have s1' := (hk4.stored (at' * 3 + 1) (.int .i64 tt)).1;rw [cellsE_set hat] at s1';have z2 := (HO1.out.kept1 (bnext HW3.out b4)).cell 2;simp only [List.getElem?_toArray, List.getElem?_cons_zero, List.getElem?_cons_succ] at z2;have HB5 := Lib.hid ((bnext HW3.out b4).setCell (p := ⟨gk, at' * 3 + 1, none⟩) (by show w1.heap.size ≤ gk; have := HW3.out.size; omega) (.int .i64 tt));generalize (cellsE row)[at' * 3 + 1]'(by omega) = y1 at *
         have HK5 : Hid (ExtsAt 0 (.slice (some ⟨gk, 0, none⟩) row.length kc) (row.set at' ⟨(eat row at').log, tt, (eat row at').len⟩) (w4.setCell ⟨gk, at' * 3 + 1, none⟩ (.int .i64 tt))) := Lib.hid (by
          have := row_down (Nat.zero_le _) s1';unfold ExtsAt;rw [List.length_set]
          exact this)
         clear hk4 hg4 b4 s4 s1' hxl K0 A3 hu
         go_upto_region 18 with fail
         have q0 := HB5.out;generalize w4.setCell ⟨gk, at' * 3 + 1, none⟩ (.int .i64 tt) = w5 at *;have x0 := (HX1.out.kept1 q0).cell 0;have x1 := (HX1.out.kept1 q0).cell 1;have x2 := (HX1.out.kept1 q0).cell 2;have x3 := (HX1.out.kept1 q0).cell 3;have y0 := (HT1.out.kept1 q0).cell 0;have y2 := (HT1.out.kept1 q0).cell 1;simp only [List.getElem?_toArray, List.getElem?_cons_zero, List.getElem?_cons_succ] at x0 x1 x2 x3 y0 y2;have HEND := Lib.hid (HB1.out.trans (q0.mono HB1.out.size));clear q0 e1 f1 z2;by_cases hz : DR = 0
         ·have d3 : (DR == (0 : Int)) = true := by rw [hz]; simp
          clear hz HRR;have HC := Lib.hid (HHO.out w5 _ HB5.out HK5.out);go_wp2_with fail
          refine HC.out.mono ?_; rintro e w6 ⟨rfl, b6⟩;have HE6 := Lib.hid (bnext HEND.out b6);clear HC b6;go_wp2;go_ret;exact ⟨rfl, HE6.out⟩
         ·have d3 : (DR == (0 : Int)) = false := by rw [beq_eq_false_iff_ne]; exact hz
          have SE := Lib.hid (by have := sameEnts_any RT root (.slice ra RT.length rc) (.slice ta root.length tc) w5 (HVR.out.kept HEND.out) (HVT.out.kept HEND.out); rw [decide_eq_true (HRR.out.resolve_left hz)] at this; exact this : Calls Tryz.prog 14 #[.slice ra RT.length rc, .slice ta root.length tc] w5 fun e w' => e = .returned (.bool true) ∧ Below w5.heap.size w5 w');clear hz HRR;go_wp2_with fail
          refine SE.out.mono ?_; rintro e w6 ⟨rfl, b6⟩;have q6 := bnext HB5.out b6;have HC := Lib.hid (HHO.out w6 _ q6 (row_kept HK5.out b6));have HE6 := Lib.hid (bnext HEND.out b6);clear x0 x1 x2 x3 y0 y2;have x0 := (HX1.out.kept1 q6).cell 0;have x1 := (HX1.out.kept1 q6).cell 1;have x2 := (HX1.out.kept1 q6).cell 2;have x3 := (HX1.out.kept1 q6).cell 3;simp only [List.getElem?_toArray, List.getElem?_cons_zero, List.getElem?_cons_succ] at x0 x1 x2 x3;clear SE b6 q6;go_wp2_with fail
          refine HC.out.mono ?_; rintro e w7 ⟨rfl, b7⟩;have HE7 := Lib.hid (bnext HE6.out b7);clear HC b7;go_wp2;go_ret;exact ⟨rfl, HE7.out⟩
end Go.Proofs.YtknefoemgifbfaaGreat
