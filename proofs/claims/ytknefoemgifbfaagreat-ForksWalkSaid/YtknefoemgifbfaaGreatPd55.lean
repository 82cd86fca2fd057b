import Derived.Test.YtknefoemgifbfaaGreatPd53
import Derived.Test.YtknefoemgifbfaaGreatPd25
import Derived.Test.YtknefoemgifbfaaGreatPd54
import Derived.Test.YtknefoemgifbfaaGreatPd32
import Derived.Test.YtknefoemgifbfaaGreatPd36
import Derived.Test.YtknefoemgifbfaaGreatPd40
import Derived.Test.YtknefoemgifbfaaGreatPd51
import Derived.Test.YtknefoemgifbfaaGreatPd22
import Derived.Test.YtknefoemgifbfaaGreatPd49
import Derived.Test.YtknefoemgifbfaaGreatPd23
import Derived.Deep.CutBlock
import Derived.Deep.DeepCutAuto
set_option linter.unusedVariables false
set_option linter.unusedSimpArgs false
set_option linter.constructorNameAsVariable false
namespace Go.Proofs.YtknefoemgifbfaaGreat
open Go.RowKit
def walkA (rd : Rd) : Nat → List Ent → List Int × List Ent → Except Int (List Int × List Ent)
  | 0, _, st => .ok st
  | h + 1, l, st => l.foldlM (fun st x => match nodeA rd x (h == 0) st.1 with
    | .error e => .error e
    | .ok (m, _) => if h = 0 then .ok (st.1 ++ [x.phys], st.2 ++ m) else walkA rd h m (st.1 ++ [x.phys], st.2)) st
abbrev walkF (rd : Rd) (h : Nat) : List Int × List Ent → Ent → Except Int (List Int × List Ent) := fun st x => match nodeA rd x (h == 0) st.1 with
    | .error e => .error e
    | .ok (m, _) => if h = 0 then .ok (st.1 ++ [x.phys], st.2 ++ m) else walkA rd h m (st.1 ++ [x.phys], st.2)
theorem walkA_succ (rd : Rd) (h : Nat) (l : List Ent) (st : List Int × List Ent) : walkA rd (h + 1) l st = l.foldlM (walkF rd h) st := by rw [walkA]
theorem wfold_next {f : List Int × List Ent → Ent → Except Int (List Int × List Ent)} {l : List Ent} {s0 s : List Int × List Ent} {k : Nat} (h : k < l.length) (hf : (l.take k).foldlM f s0 = Except.ok s) : (l.take (k + 1)).foldlM f s0 = f s (eat l k) := by
  rw [List.take_succ_eq_append_getElem h, List.foldlM_append, hf, eat_eq h]
  show (List.foldlM f s [l[k]] : Except Int _) = _
  rw [List.foldlM_cons]
  cases f s l[k] <;> rfl
theorem wfold_stop {f : List Int × List Ent → Ent → Except Int (List Int × List Ent)} {l : List Ent} {s0 : List Int × List Ent} {k : Nat} {c : Int} (hf : (l.take k).foldlM f s0 = Except.error c) : l.foldlM f s0 = Except.error c := by
  have h : l.foldlM f s0 = (l.take k ++ l.drop k).foldlM f s0 := by rw [List.take_append_drop]
  rw [h, List.foldlM_append, hf]; rfl
theorem seen_snoc {n : List Int} {b : Int} (h : SeenOk n) (hx : b ∉ n) (hb : 0 ≤ b ∧ b < 4096) : SeenOk (n ++ [b]) :=
  ⟨(List.perm_append_singleton b n).nodup_iff.2 (List.nodup_cons.2 ⟨hx, h.1⟩), fun c hc => by
    rcases List.mem_append.1 hc with hc | hc
    · exact h.2 c hc
    · rw [List.mem_singleton.1 hc]; exact hb⟩
def InvW (n : List Int) (r : List Ent) : Prop := SeenOk n ∧ r.length ≤ 10 * n.length ∧ fitE r
def WEnd (cb B R g : Nat) (bad : Int) (a : Except Int (List Int × List Ent)) (w : World) (e : Ending) (w' : World) : Prop :=
  KeepE B w w' ∧ match a with
  | .ok (n, r) => e = .returned (.int .i64 0) ∧ (∃ vn vr, WkAt cb B R g bad vn vr n r w') ∧ InvW n r
  | .error c => e = .returned (.int .i64 c) ∧ c ≠ 0
def Walks (cb B R g : Nat) (F : Nat → ByteArray) (bad : Int) (h : Nat) : Prop :=
  ∀ (l : List Ent) (lv : Value) (n : List Int) (r : List Ent) (vn vr : Value) (w : World), B ≤ w.heap.size → DskAt g F w → WkAt cb B R g bad vn vr n r w → EntsK B lv l w → InvW n r →
    (fitE l ∧ ∀ x ∈ l, 0 ≤ x.phys ∧ x.phys < 4096) →
    Calls Tryz.prog 52 #[.pointer (some ⟨R, 0, none⟩), lv, .int .i64 (h : Int)] w (WEnd cb B R g bad (walkA (rdOf F bad) h l (n, r)) w)
set_option maxRecDepth 100000 in
set_option maxHeartbeats 16000000 in
theorem rfwalk_step (cb B R g : Nat) (F : Nat → ByteArray) (hF : ∀ k, (F k).size ≤ 1000) (bad : Int) (hg : g < B) (h : Nat) (hh : h ≤ 1000) (IH : h = 0 ∨ Walks cb B R g F bad h) : Walks cb B R g F bad (h + 1) := by
  intro l lv n r vn vr w hBw hd hwk hl hinv ⟨hfl, hph⟩
  have mixed : Tryz.prog.follows .mixedOrders = true := by kernel_rfl
  obtain ⟨ad, cap, rfl, c1, c2, c3⟩ := entsK_cells hl
  have H3 := Lib.hid c3
  have HD := Lib.hid hd
  have HIH := Lib.hid IH
  have HW0 := Lib.hid hwk
  have HINV := Lib.hid hinv
  have HPH := Lib.hid hph
  have HWA := Lib.hid (walkA_succ (rdOf F bad) h l (n, r))
  obtain ⟨lf, hlf⟩ : ∃ lf : Bool, (((h + 1 : Nat) : Int) == 1) = lf := ⟨_, rfl⟩
  have HLF : Hid ((h == 0) = lf) := Lib.hid (by rw [← hlf, Bool.eq_iff_iff, beq_iff_eq, beq_iff_eq]; omega)
  have hw1 : IntKind.i64.wrap (((h + 1 : Nat) : Int) - 1) = (h : Int) := by rw [IntWalk.i64_in _ (by omega)]; omega
  have hlf2 : (((h : Int) + 1) == 1) = lf := by rw [← hlf, Bool.eq_iff_iff, beq_iff_eq, beq_iff_eq]; omega
  have hw2 : IntKind.i64.wrap ((h : Int) + 1 - 1) = (h : Int) := by rw [IntWalk.i64_in _ (by omega)]; omega
  have hw3 : (h : Int) + 1 - 1 = (h : Int) := by omega
  have HRS : Hid (∀ b, (rdOf F bad b).1.size ≤ maxLen) := Lib.hid fun b => by
    unfold rdOf maxLen
    split
    · show (0 : Nat) ≤ _; omega
    · exact Nat.le_trans (hF _) (by omega)
  clear c3 hd hwk hl hinv IH hph hfl
  go_enter Tryz.func52, Tryz.ntmps52
  go_wp2
  go_loopw [7, 8, 9, 10, 11, 12] (fun p q8 q9 q10 q11 q12 wr => ∃ (k : Nat) (n1 : List Int) (r1 : List Ent) (vn1 vr1 : Value), p = .int .i64 (k : Int) ∧ k ≤ l.length ∧ Hid ((l.take k).foldlM (walkF (rdOf F bad) h) (n, r) = .ok (n1, r1)) ∧ Hid (WkAt cb B R g bad vn1 vr1 n1 r1 wr) ∧ Hid (InvW n1 r1) ∧ Hid (KeepE B w wr)) (fun p _ _ _ _ _ _ => l.length - (intOf p).toNat)
  case atStart => exact ⟨0, _, _, _, _, rfl, Nat.zero_le _, Lib.hid rfl, HW0, HINV, Lib.hid (KeepE.refl _ _)⟩
  case round =>
    clear HW0 HINV
    obtain ⟨k, n1, r1, vn1, vr1, rfl, hk, HF, HWK, HINV, HKE⟩ := hrel
    by_cases hlt : k < l.length
    · obtain ⟨gl, o, rfl, hc⟩ := H3.out (by omega)
      have HCC := Lib.hid (fun (w' : World) (hx : KeepE B w w') => hc w' hx k hlt)
      have HX := HPH.out _ (List.getElem_mem hlt)
      rw [← eat_eq hlt] at HX
      have HNX := Lib.hid (wfold_next hlt HF.out)
      have HER : Hid (∀ c, walkF (rdOf F bad) h (n1, r1) (eat l k) = .error c → walkA (rdOf F bad) (h + 1) l (n, r) = .error c) := Lib.hid fun c hc => by rw [HWA.out]; exact wfold_stop (k := k + 1) (by rw [HNX.out]; exact hc)
      obtain ⟨an, cn, rfl, -, -, sn⟩ := shape_of HWK.out.n
      have HBW := Lib.hid (HKE.out.below hBw)
      have hn1 : n1.length ≤ 4096 := HINV.out.1.len
      have HBS := Lib.hid (Nat.le_trans hBw HKE.out.size)
      clear hc H3 HPH HF HWA sn
      obtain ⟨y, hy⟩ : ∃ y, eat l k = y := ⟨_, rfl⟩
      rw [hy] at HX HNX HER HCC
      clear hy
      obtain ⟨ya, yp, yz⟩ := y
      dsimp only at HX HCC
      obtain ⟨wA, hA⟩ : ∃ x, x = wr := ⟨_, rfl⟩
      subst hA
      go_wp2
      go_loopw [8] (fun q wr => ∃ j : Nat, q = .int .i64 (j : Int) ∧ j ≤ n1.length ∧ Hid (yp ∉ n1.take j) ∧ Hid (Below wA.heap.size wA wr)) (fun q _ => n1.length - (intOf q).toNat)
      case atStart => exact ⟨0, rfl, Nat.zero_le _, Lib.hid (by simp), Lib.hid (Below.refl _ _)⟩
      case round =>
        obtain ⟨j, rfl, hj, HJ, HB⟩ := hrel
        have HWR := Lib.hid (HWK.out.kept1 HB.out)
        have z2 := HWR.out.blk.cell 2
        simp only [List.getElem?_toArray, List.getElem?_cons_zero, List.getElem?_cons_succ] at z2
        by_cases hjl : j < n1.length
        · obtain ⟨gn, rfl, -, -⟩ := (shape_of HWR.out.n).elim fun _ q => by
            obtain ⟨cq, e1, -, -, e2⟩ := q
            cases e1
            exact e2 (by omega)
          have y2 : ∀ q : BelowP wr, q.to.cell? ⟨R, 2, none⟩ = some (.slice (some ⟨gn, 0, none⟩) n1.length cn) := fun q => (HWR.out.kept1 q.h).blk.cell 2
          obtain ⟨b, hb⟩ : ∃ b, n1[j] = b := ⟨_, rfl⟩
          have y3 : ∀ q : BelowP wr, q.to.cell? ⟨gn, j, none⟩ = some (.int .i64 b) := fun q => by rw [← hb]; exact fkint_cell (HWR.out.kept1 q.h).n j hjl
          have y4 : ∀ q : BelowP wr, q.to.cell? ⟨gl, o + k * 3 + 1, none⟩ = some (.int .i64 yp) := fun q => (HCC.out q.to (HKE.out.trans (KeepE.of_below (HB.out.trans (q.h.mono HB.out.size))))).2.1
          by_cases e : b = yp
          · subst e
            have d1 : (b == b) = true := by simp
            have HE : Hid (walkA (rdOf F bad) (h + 1) l (n, r) = .error 80) := Lib.hid (HER.out 80 (by
              have : b ∈ n1 := by rw [← hb]; exact List.getElem_mem hjl
              show (match nodeA (rdOf F bad) ⟨ya, b, yz⟩ (h == 0) n1 with | .error e => Except.error e | .ok (m, _) => if h = 0 then .ok (n1 ++ [b], r1 ++ m) else walkA (rdOf F bad) h m (n1 ++ [b], r1)) = _
              unfold nodeA
              rw [if_pos this]))
            clear hb HER HNX
            go_wp2
            refine wp_region_quiet_below mixed (by kernel_rfl) ?_
            repeat (go_big_quiet_step (fail))
            refine wpQuiet_nil ?_
            intro w0q hw'
            obtain ⟨⟨wq, bq⟩, hw''⟩ := hw'
            have hw2 : wq = w0q := hw''.symm
            clear hw''
            subst hw2
            have HKQ := Lib.hid (HKE.out.trans (KeepE.of_below (B := B) (HB.out.trans (bq.mono HB.out.size))))
            go_wp2
            go_ret
            unfold WEnd
            rw [HE.out]
            exact ⟨HKQ.out, rfl, by decide⟩
          · have d1 : (b == yp) = false := by rw [beq_eq_false_iff_ne]; exact e
            have HM : Hid (yp ∉ n1.take (j + 1)) := Lib.hid (by
              rw [List.take_succ_eq_append_getElem hjl, List.mem_append, hb, List.mem_singleton]
              exact fun q => q.elim HJ.out (fun q => e q.symm))
            clear hb e
            go_wp2
            refine wp_region_quiet_below mixed (by kernel_rfl) ?_
            repeat (go_big_quiet_step (fail))
            refine wpQuiet_nil ?_
            intro w0q hw'
            obtain ⟨⟨wq, bq⟩, hw''⟩ := hw'
            have hw2 : wq = w0q := hw''.symm
            clear hw''
            subst hw2
            go_wp2
            exact ⟨⟨j + 1, by go_num, by omega, HM, Lib.hid (HB.out.trans (bq.mono HB.out.size))⟩, by simp [intOf]; omega⟩
        · obtain rfl : j = n1.length := by omega
          have HNS : Hid (yp ∉ n1) := Lib.hid (by have := HJ.out; rwa [List.take_length] at this)
          have HKE := Lib.hid (HKE.out.trans (KeepE.of_below HB.out))
          have HBS := Lib.hid (Nat.le_trans HBS.out HB.out.size)
          clear HJ HWK HB HBW
          have HWK := HWR
          clear HWR
          obtain ⟨w5, hw5⟩ : ∃ x, x = wr := ⟨_, rfl⟩
          subst hw5
          have x0 : ∀ q : BelowP w5, q.to.cell? ⟨R, 0, none⟩ = some (.slice (some ⟨g, 0, none⟩) 4096 cb) := fun q => (HWK.out.kept1 q.h).blk.cell 0
          have x1 : ∀ q : BelowP w5, q.to.cell? ⟨R, 1, none⟩ = some (.int .i64 bad) := fun q => (HWK.out.kept1 q.h).blk.cell 1
          have x2 : ∀ q : BelowP w5, q.to.cell? ⟨gl, o + k * 3 + 1, none⟩ = some (.int .i64 yp) := fun q => (HCC.out q.to (HKE.out.trans (KeepE.of_below q.h))).2.1
          have RD := Lib.hid fun q : BelowP w5 => rfread_any (cb := cb) F bad g yp q.to (HD.out.eq_block (Nat.le_trans HKE.out.size q.h.size) (((HKE.out.trans (KeepE.of_below q.h)).below hBw).block g hg))
          have HSZ := HRS.out yp
          obtain ⟨s, E, hse⟩ : ∃ s E, rdOf F bad yp = (s, E) := ⟨_, _, rfl⟩
          rw [hse] at RD HSZ
          have HSE := Lib.hid hse
          clear hse
          dsimp only at HSZ
          go_wp2
          refine wp_region_quiet_below mixed (by kernel_rfl) ?_
          repeat (go_big_quiet_step (refine calls_below (RD.out _)))
          refine wpQuiet_nil ?_
          intro w0q hw'
          obtain ⟨⟨wq, bq⟩, hw''⟩ := hw'
          have hw2 : wq = w0q := hw''.symm
          clear hw''
          subst hw2
          have HKE := Lib.hid (HKE.out.trans (KeepE.of_below bq))
          have HWK := Lib.hid (HWK.out.kept1 bq)
          have HBS := Lib.hid (Nat.le_trans HBS.out bq.size)
          clear x0 x1 x2 bq RD
          have HNE : Hid (∀ c, nodeA (rdOf F bad) ⟨ya, yp, yz⟩ lf n1 = .error c → walkA (rdOf F bad) (h + 1) l (n, r) = .error c) := Lib.hid fun c hc => HER.out c (by
            show (match nodeA (rdOf F bad) ⟨ya, yp, yz⟩ (h == 0) n1 with | .error e => Except.error e | .ok (m, _) => if h = 0 then .ok (n1 ++ [yp], r1 ++ m) else walkA (rdOf F bad) h m (n1 ++ [yp], r1)) = _
            rw [HLF.out, hc])
          have HNO : Hid (∀ m q, nodeA (rdOf F bad) ⟨ya, yp, yz⟩ lf n1 = .ok (m, q) → (l.take (k + 1)).foldlM (walkF (rdOf F bad) h) (n, r) = if h = 0 then .ok (n1 ++ [yp], r1 ++ m) else walkA (rdOf F bad) h m (n1 ++ [yp], r1)) := Lib.hid fun m q hc => by
            rw [HNX.out]
            show (match nodeA (rdOf F bad) ⟨ya, yp, yz⟩ (h == 0) n1 with | .error e => Except.error e | .ok (m, _) => if h = 0 then .ok (n1 ++ [yp], r1 ++ m) else walkA (rdOf F bad) h m (n1 ++ [yp], r1)) = _
            rw [HLF.out, hc]
          have HCR : Hid (∀ c, (l.take (k + 1)).foldlM (walkF (rdOf F bad) h) (n, r) = .error c → walkA (rdOf F bad) (h + 1) l (n, r) = .error c) := Lib.hid fun c hc => by rw [HNX.out] at hc; exact HER.out c hc
          clear HER HNX
          by_cases hE : E = 0
          · subst hE
            have DC := Lib.hid (rfdec_any s HSZ wq)
            have FE : decE s = 0 ∨ decE s = 80 := by
              unfold decE
              split
              · exact .inl rfl
              · exact .inr rfl
            have FNO : Hid (decE s ≠ 0 ∨ decF s ≠ lf ∨ (eat (decL s) 0).log ≠ ya → nodeA (rdOf F bad) ⟨ya, yp, yz⟩ lf n1 = .error 80) := Lib.hid fun q => by
              have := nodeA_no (rd := rdOf F bad) (x := ⟨ya, yp, yz⟩) (leaf := lf) HNS.out (by show (rdOf F bad yp).2 = 0; rw [HSE.out]) (by show decE (rdOf F bad yp).1 ≠ 0 ∨ decF (rdOf F bad yp).1 ≠ lf ∨ (eat (decL (rdOf F bad yp).1) 0).log ≠ ya; rw [HSE.out]; exact q)
              exact this
            have FOK : Hid (decE s = 0 → decF s = lf → (eat (decL s) 0).log = ya → nodeA (rdOf F bad) ⟨ya, yp, yz⟩ lf n1 = .ok (decL s, yp :: n1)) := Lib.hid fun q1 q2 q3 => by
              have := nodeA_ok (rd := rdOf F bad) (x := ⟨ya, yp, yz⟩) (leaf := lf) HNS.out (by show (rdOf F bad yp).2 = 0; rw [HSE.out]) (by show decE (rdOf F bad yp).1 = 0; rw [HSE.out]; exact q1) (by show decF (rdOf F bad yp).1 = lf; rw [HSE.out]; exact q2) (by show (eat (decL (rdOf F bad yp).1) 0).log = ya; rw [HSE.out]; exact q3)
              rw [this]
              show Except.ok (decL (rdOf F bad yp).1, yp :: n1) = _
              rw [HSE.out]
            have FL : Hid (decE s = 0 → 0 < (decL s).length) := Lib.hid fun h => by
              unfold decE at h
              unfold decL
              cases hd : decN s with
              | none => rw [hd] at h; simp at h
              | some q => obtain ⟨m, is⟩ := q; exact (decN_some hd).1.1
            obtain ⟨fl, hfl⟩ : ∃ fl, decF s = fl := ⟨_, rfl⟩
            rw [hfl] at FNO FOK DC
            clear hfl
            generalize decL s = m at *
            rcases FE with hD | hD
            · rw [hD] at FNO FOK FL DC
              clear hD HSE HRS
              go_wp2_with fail
              refine DC.out.mono ?_; rintro e w7 ⟨mv, rfl, hmv, b7⟩
              have HWK := Lib.hid (HWK.out.kept1 b7)
              have HKE := Lib.hid (HKE.out.trans (KeepE.of_below b7))
              have HBS := Lib.hid (Nat.le_trans HBS.out b7.size)
              have hpos := FL.out (by trivial)
              obtain ⟨am, cm, rfl, v1, v2, v3, -⟩ := entsIn_cells (entsAt_in hmv)
              obtain ⟨gm, om, rfl, hgm, hcm⟩ := v3 hpos
              have l0 : ∀ q : BelowP w7, q.to.cell? ⟨gm, om, none⟩ = some (.int .i64 (eat m 0).log) := fun q => by
                have := (hcm q.to q.h 0 hpos).1
                rwa [Nat.zero_mul, Nat.add_zero] at this
              have x0 : ∀ q : BelowP w7, q.to.cell? ⟨gl, o + k * 3, none⟩ = some (.int .i64 ya) := fun q => (HCC.out q.to (HKE.out.trans (KeepE.of_below q.h))).1
              have HMK : Hid (EntsK B (.slice (some ⟨gm, om, none⟩) m.length cm) m w7) := Lib.hid (EntsK.own hmv)
              obtain ⟨ml, hmm⟩ : ∃ ml, m.length = ml := ⟨_, rfl⟩
              clear b7 DC FL hmv v3 hcm
              generalize hll : (eat m 0).log = la at *
              rw [hmm] at v1 hpos HMK ⊢
              have HMM := Lib.hid hmm
              clear hll hmm
              by_cases hfl : fl = lf
              · subst hfl
                by_cases hla : la = ya
                · have tl : (la == ya) = true := by rw [beq_iff_eq]; exact hla
                  have hna := FOK.out (by trivial) (by trivial) hla
                  have n6 := (nodeA_yes hna).2.2.2.2.2
                  have HNA := Lib.hid (HNO.out _ _ hna)
                  have HN6 := Lib.hid n6
                  clear hna FOK FNO HNE HNO n6
                  by_cases h0 : h = 0
                  · have e1 : fl = true := by rw [← HLF.out, h0]; rfl
                    subst e1
                    rw [if_pos h0] at HNA
                    clear h0
                    go_upto_region 13 with fail
                    refine wp_region_quiet_below mixed (by kernel_rfl) ?_
                    repeat (go_big_quiet_step (fail))
                    refine wpQuiet_nil ?_
                    intro w0q hw'
                    obtain ⟨⟨wq, bq⟩, hw''⟩ := hw'
                    have hw2 : wq = w0q := hw''.symm
                    clear hw''
                    subst hw2
                    have HKE := Lib.hid (HKE.out.trans (KeepE.of_below (B := B) bq))
                    have HWK := Lib.hid (HWK.out.kept1 bq)
                    have HBS := Lib.hid (Nat.le_trans HBS.out bq.size)
                    have HMK := Lib.hid (HMK.out.kept (KeepE.of_below (B := B) bq))
                    clear bq l0 x0
                    obtain ⟨v', w2, hrun, K0, K1, K2, K3, r0, r1', r2, f2, wk3⟩ := node_facts HBS.out HWK.out yp (by omega)
                    have HSN := Lib.hid (seen_snoc HINV.out.1 HNS.out HX)
                    have HN2L : Hid ((n1 ++ [yp]).length = n1.length + 1) := Lib.hid (by simp)
                    generalize n1 ++ [yp] = N2 at *
                    obtain ⟨a2, c2', rfl, -⟩ := shape_of wk3.n
                    have HRUN := Lib.hid hrun
                    have HS0 := Lib.hid (HCC.out _ (HKE.out.trans K0)).2.1
                    have HS1 := Lib.hid (HCC.out _ (HKE.out.trans K1)).2.1
                    have HS2 := Lib.hid (HCC.out _ (HKE.out.trans K2)).2.1
                    have HS3 := Lib.hid (HCC.out _ (HKE.out.trans K3)).2.1
                    have RD0 := Lib.hid r0
                    have RD1 := Lib.hid r1'
                    have RD2 := Lib.hid r2
                    have FR2 := Lib.hid f2
                    have HKE := Lib.hid (HKE.out.trans K3)
                    have HBS := Lib.hid (Nat.le_trans HBS.out K3.size)
                    have HMK := Lib.hid (HMK.out.kept K3)
                    have HWK := Lib.hid wk3
                    clear hrun K0 K1 K2 K3 r0 r1' r2 f2 wk3
                    have HF2 := HNA
                    have HINV2 : Hid (InvW N2 (r1 ++ m)) := Lib.hid ⟨HSN.out, by rw [List.length_append, HN2L.out]; have := HINV.out.2.1; have := HN6.out.2.1; omega, fun x hx => (List.mem_append.1 hx).elim (HINV.out.2.2 x) (node_fit HN6.out x)⟩
                    have ADD := Lib.hid (rfadd_any HBS.out HWK.out m (by have := HINV.out.2.1; have := HN6.out.2.1; omega) _ HMK.out)
                    go_upto_region 15 with fail
                    refine wp_region_held_drew (S := fun w9 => w9.cell? ⟨gl, o + k * 3 + 1, none⟩ = some (.int .i64 yp)) mixed HS0.out (fun hHeld => ?_)
                    generalize wq.drew = wd at *
                    refine wpAnyH_take (i := 0) (oi := _) (v := ?vregn033) rfl (by kernel_rfl) (by kernel_rfl) (by kernel_rfl) (fun _ _ _ h => h) (Or.inl ⟨by kernel_rfl, ?hyregn033⟩) hHeld ?restregn033
                    case hyregn033 => (intro w9 hSw; clear hSw; go_simp; try with_reducible rfl)
                    try simp only [Act.put, za, zb, zc, zd, ze, zf]
                    refine wpAnyH_take (i := 1) (oi := _) (v := ?vregn034) rfl (by kernel_rfl) (by kernel_rfl) (by kernel_rfl) (fun _ _ _ h => h) (Or.inl ⟨by kernel_rfl, ?hyregn034⟩) hHeld ?restregn034
                    case hyregn034 => (intro w9 hSw; clear hSw; go_simp; try with_reducible rfl)
                    try simp only [Act.put, za, zb, zc, zd, ze, zf]
                    refine wpAnyH_take (i := 2) (oi := _) (v := ?vregn035) rfl (by kernel_rfl) (by kernel_rfl) (by kernel_rfl) (fun _ _ _ h => h) (Or.inl ⟨by kernel_rfl, ?hyregn035⟩) hHeld ?restregn035
                    case hyregn035 => (intro w9 hSw; clear hSw; go_simp; try with_reducible rfl)
                    try simp only [Act.put, za, zb, zc, zd, ze, zf]
                    refine wpAnyH_take (i := 3) (oi := _) (v := ?vregn036) rfl (by kernel_rfl) (by kernel_rfl) (by kernel_rfl) (fun _ _ _ h => h) (Or.inl ⟨by kernel_rfl, ?hyregn036⟩) hHeld ?restregn036
                    case hyregn036 => (intro w9 hSw; clear hSw; go_simp; try with_reducible rfl)
                    try simp only [Act.put, za, zb, zc, zd, ze, zf]
                    refine wpAnyH_take (i := 5) (oi := _) (v := ?vregn037) rfl (by kernel_rfl) (by kernel_rfl) (by kernel_rfl) (fun _ _ _ h => h) (Or.inl ⟨by kernel_rfl, ?hyregn037⟩) hHeld ?restregn037
                    case hyregn037 => (intro w9 hSw; clear hSw; go_simp; try with_reducible rfl)
                    try simp only [Act.put, za, zb, zc, zd, ze, zf]
                    refine wpAnyH_take (i := 6) (oi := _) (v := ?vregn038) rfl (by kernel_rfl) (by kernel_rfl) (by kernel_rfl) (fun _ _ _ h => h) (Or.inl ⟨by kernel_rfl, ?hyregn038⟩) hHeld ?restregn038
                    case hyregn038 => (intro w9 hSw; clear hSw; go_simp; try with_reducible rfl)
                    try simp only [Act.put, za, zb, zc, zd, ze, zf]
                    refine wpAnyH_take (i := 7) (oi := _) (v := ?vregn039) rfl (by kernel_rfl) (by kernel_rfl) (by kernel_rfl) (fun _ _ _ h => h) (Or.inl ⟨by kernel_rfl, ?hyregn039⟩) hHeld ?restregn039
                    case hyregn039 => (intro w9 hSw; clear hSw; go_simp; try with_reducible rfl)
                    try simp only [Act.put, za, zb, zc, zd, ze, zf]
                    refine wpAnyH_take (i := 8) (oi := _) (v := ?vregn040) rfl (by kernel_rfl) (by kernel_rfl) (by kernel_rfl) (fun _ _ _ h => h) (Or.inl ⟨by kernel_rfl, ?hyregn040⟩) hHeld ?restregn040
                    case hyregn040 => (intro w9 hSw; clear hSw; go_simp; try with_reducible rfl)
                    try simp only [Act.put, za, zb, zc, zd, ze, zf]
                    refine wpAnyH_take (i := 9) (oi := _) (v := ?vregn041) rfl (by kernel_rfl) (by kernel_rfl) (by kernel_rfl) (fun _ _ _ h => h) (Or.inl ⟨by kernel_rfl, ?hyregn041⟩) hHeld ?restregn041
                    case hyregn041 => (intro w9 hSw; have e9 := hSw; go_simp; try with_reducible rfl)
                    try simp only [Act.put, za, zb, zc, zd, ze, zf]
                    refine wpAnyH_ready (rs := [4, 10]) (by kernel_rfl) (by simp) ?_
                    refine AllReadyH.cons (o := _) rfl (fun K hK => ?_) ?_
                    · have cr := RD0.out
                      go_simp
                      clear cr
                      refine hK.out _ _ (HS0.out) (fun hHeld3 => ?_)
                      clear hK K hHeld
                      have hHeld := hHeld3
                      clear hHeld3
                      try simp only [Act.put, za, zb, zc, zd, ze, zf]
                      refine wpAnyH_ready (rs := [10]) (by kernel_rfl) (by simp) ?_
                      refine AllReadyH.cons (o := _) rfl (fun K hK => ?_) ?_
                      · go_simp
                        refine hK.out _ _ (HS1.out) (fun hHeld3 => ?_)
                        clear hK K hHeld
                        have hHeld := hHeld3
                        clear hHeld3
                        try simp only [Act.put, za, zb, zc, zd, ze, zf]
                        refine wpAnyH_ready (rs := [11]) (by kernel_rfl) (by simp) ?_
                        refine AllReadyH.cons (o := _) rfl (fun K hK => ?_) ?_
                        · refine step_append rfl _ _ _ rfl rfl rfl HRUN.out ?_
                          try go_simp
                          refine hK.out _ _ (HS2.out) (fun hHeld3 => ?_)
                          clear hK K hHeld
                          have hHeld := hHeld3
                          clear hHeld3
                          try simp only [Act.put, za, zb, zc, zd, ze, zf]
                          refine wpAnyH_take (i := 12) (oi := _) (v := ?vregn045) rfl (by kernel_rfl) (by kernel_rfl) (by kernel_rfl) (fun _ _ _ h => h) (Or.inl ⟨by kernel_rfl, ?hyregn045⟩) hHeld ?restregn045
                          case hyregn045 => (intro w9 hSw; clear hSw; go_simp; try with_reducible rfl)
                          try simp only [Act.put, za, zb, zc, zd, ze, zf]
                          refine wpAnyH_take (i := 13) (oi := _) (v := ?vregn046) rfl (by kernel_rfl) (by kernel_rfl) (by kernel_rfl) (fun _ _ _ h => h) (Or.inl ⟨by kernel_rfl, ?hyregn046⟩) hHeld ?restregn046
                          case hyregn046 => (intro w9 hSw; clear hSw; go_simp; try with_reducible rfl)
                          try simp only [Act.put, za, zb, zc, zd, ze, zf]
                          refine wpAnyH_ready (rs := [14]) (by kernel_rfl) (by simp) ?_
                          refine AllReadyH.cons (o := _) rfl (fun K hK => ?_) ?_
                          · have cr := RD2.out
                            have fr := FR2.out
                            go_simp
                            clear cr fr
                            refine hK.out _ _ (HS3.out) (fun hHeld3 => ?_)
                            clear hK K hHeld
                            have hHeld := hHeld3
                            clear hHeld3
                            try simp only [Act.put, za, zb, zc, zd, ze, zf]
                            refine ⟨by kernel_rfl, ?_⟩
                            clear hHeld
                            clear HS0 HS1 HS2 HS3 RD0 RD1 RD2 FR2 HRUN
                            go_wp2_with fail
                            refine ADD.out.mono ?_; rintro e w9 ⟨rfl, ⟨vr9, hw9⟩, k9⟩
                            have HWK := Lib.hid hw9
                            have HKE := Lib.hid (HKE.out.trans k9)
                            clear hw9 k9 ADD
                            go_wp2
                            refine ⟨?_, by simp [intOf]; omega⟩
                            repeat apply Exists.intro
                            exact ⟨⟨k + 1, _, _, _, _, by go_num, by omega, HF2, HWK, HINV2, HKE⟩, rfl⟩
                          exact AllReadyH.nil
                        exact AllReadyH.nil
                      exact AllReadyH.nil
                    refine AllReadyH.cons (o := _) rfl (fun K hK => ?_) ?_
                    · go_simp
                      refine hK.out _ _ (HS1.out) (fun hHeld3 => ?_)
                      clear hK K hHeld
                      have hHeld := hHeld3
                      clear hHeld3
                      try simp only [Act.put, za, zb, zc, zd, ze, zf]
                      refine wpAnyH_ready (rs := [4]) (by kernel_rfl) (by simp) ?_
                      refine AllReadyH.cons (o := _) rfl (fun K hK => ?_) ?_
                      · have cr := RD1.out
                        go_simp
                        clear cr
                        refine hK.out _ _ (HS1.out) (fun hHeld3 => ?_)
                        clear hK K hHeld
                        have hHeld := hHeld3
                        clear hHeld3
                        try simp only [Act.put, za, zb, zc, zd, ze, zf]
                        refine wpAnyH_ready (rs := [11]) (by kernel_rfl) (by simp) ?_
                        refine AllReadyH.cons (o := _) rfl (fun K hK => ?_) ?_
                        · refine step_append rfl _ _ _ rfl rfl rfl HRUN.out ?_
                          try go_simp
                          refine hK.out _ _ (HS2.out) (fun hHeld3 => ?_)
                          clear hK K hHeld
                          have hHeld := hHeld3
                          clear hHeld3
                          try simp only [Act.put, za, zb, zc, zd, ze, zf]
                          refine wpAnyH_take (i := 12) (oi := _) (v := ?vregn051) rfl (by kernel_rfl) (by kernel_rfl) (by kernel_rfl) (fun _ _ _ h => h) (Or.inl ⟨by kernel_rfl, ?hyregn051⟩) hHeld ?restregn051
                          case hyregn051 => (intro w9 hSw; clear hSw; go_simp; try with_reducible rfl)
                          try simp only [Act.put, za, zb, zc, zd, ze, zf]
                          refine wpAnyH_take (i := 13) (oi := _) (v := ?vregn052) rfl (by kernel_rfl) (by kernel_rfl) (by kernel_rfl) (fun _ _ _ h => h) (Or.inl ⟨by kernel_rfl, ?hyregn052⟩) hHeld ?restregn052
                          case hyregn052 => (intro w9 hSw; clear hSw; go_simp; try with_reducible rfl)
                          try simp only [Act.put, za, zb, zc, zd, ze, zf]
                          refine wpAnyH_ready (rs := [14]) (by kernel_rfl) (by simp) ?_
                          refine AllReadyH.cons (o := _) rfl (fun K hK => ?_) ?_
                          · have cr := RD2.out
                            have fr := FR2.out
                            go_simp
                            clear cr fr
                            refine hK.out _ _ (HS3.out) (fun hHeld3 => ?_)
                            clear hK K hHeld
                            have hHeld := hHeld3
                            clear hHeld3
                            try simp only [Act.put, za, zb, zc, zd, ze, zf]
                            refine ⟨by kernel_rfl, ?_⟩
                            clear hHeld
                            clear HS0 HS1 HS2 HS3 RD0 RD1 RD2 FR2 HRUN
                            go_wp2_with fail
                            refine ADD.out.mono ?_; rintro e w9 ⟨rfl, ⟨vr9, hw9⟩, k9⟩
                            have HWK := Lib.hid hw9
                            have HKE := Lib.hid (HKE.out.trans k9)
                            clear hw9 k9 ADD
                            go_wp2
                            refine ⟨?_, by simp [intOf]; omega⟩
                            repeat apply Exists.intro
                            exact ⟨⟨k + 1, _, _, _, _, by go_num, by omega, HF2, HWK, HINV2, HKE⟩, rfl⟩
                          exact AllReadyH.nil
                        exact AllReadyH.nil
                      exact AllReadyH.nil
                    exact AllReadyH.nil
                  · have e1 : fl = false := by rw [← HLF.out]; simpa using h0
                    subst e1
                    rw [if_neg h0] at HNA
                    have HIH := Lib.hid (HIH.out.resolve_left h0)
                    clear h0
                    go_upto_region 13 with fail
                    refine wp_region_quiet_below mixed (by kernel_rfl) ?_
                    repeat (go_big_quiet_step (fail))
                    refine wpQuiet_nil ?_
                    intro w0q hw'
                    obtain ⟨⟨wq, bq⟩, hw''⟩ := hw'
                    have hw2 : wq = w0q := hw''.symm
                    clear hw''
                    subst hw2
                    have HKE := Lib.hid (HKE.out.trans (KeepE.of_below (B := B) bq))
                    have HWK := Lib.hid (HWK.out.kept1 bq)
                    have HBS := Lib.hid (Nat.le_trans HBS.out bq.size)
                    have HMK := Lib.hid (HMK.out.kept (KeepE.of_below (B := B) bq))
                    clear bq l0 x0
                    obtain ⟨v', w2, hrun, K0, K1, K2, K3, r0, r1', r2, f2, wk3⟩ := node_facts HBS.out HWK.out yp (by omega)
                    have HSN := Lib.hid (seen_snoc HINV.out.1 HNS.out HX)
                    have HN2L : Hid ((n1 ++ [yp]).length = n1.length + 1) := Lib.hid (by simp)
                    generalize n1 ++ [yp] = N2 at *
                    obtain ⟨a2, c2', rfl, -⟩ := shape_of wk3.n
                    have HRUN := Lib.hid hrun
                    have HS0 := Lib.hid (HCC.out _ (HKE.out.trans K0)).2.1
                    have HS1 := Lib.hid (HCC.out _ (HKE.out.trans K1)).2.1
                    have HS2 := Lib.hid (HCC.out _ (HKE.out.trans K2)).2.1
                    have HS3 := Lib.hid (HCC.out _ (HKE.out.trans K3)).2.1
                    have RD0 := Lib.hid r0
                    have RD1 := Lib.hid r1'
                    have RD2 := Lib.hid r2
                    have FR2 := Lib.hid f2
                    have HKE := Lib.hid (HKE.out.trans K3)
                    have HBS := Lib.hid (Nat.le_trans HBS.out K3.size)
                    have HMK := Lib.hid (HMK.out.kept K3)
                    have HWK := Lib.hid wk3
                    clear hrun K0 K1 K2 K3 r0 r1' r2 f2 wk3
                    have HDW := Lib.hid (HD.out.eq_block HKE.out.size ((HKE.out.below hBw).block g hg))
                    have REC := Lib.hid (HIH.out m _ N2 r1 _ _ _ HBS.out HDW.out HWK.out HMK.out ⟨HSN.out, by rw [HN2L.out]; have := HINV.out.2.1; omega, HINV.out.2.2⟩ ⟨node_fit HN6.out, node_phys HN6.out⟩)
                    go_upto_region 15 with fail
                    refine wp_region_held_drew (S := fun w9 => w9.cell? ⟨gl, o + k * 3 + 1, none⟩ = some (.int .i64 yp)) mixed HS0.out (fun hHeld => ?_)
                    generalize wq.drew = wd at *
                    refine wpAnyH_take (i := 0) (oi := _) (v := ?vregn154) rfl (by kernel_rfl) (by kernel_rfl) (by kernel_rfl) (fun _ _ _ h => h) (Or.inl ⟨by kernel_rfl, ?hyregn154⟩) hHeld ?restregn154
                    case hyregn154 => (intro w9 hSw; clear hSw; go_simp; try with_reducible rfl)
                    try simp only [Act.put, za, zb, zc, zd, ze, zf]
                    refine wpAnyH_take (i := 1) (oi := _) (v := ?vregn155) rfl (by kernel_rfl) (by kernel_rfl) (by kernel_rfl) (fun _ _ _ h => h) (Or.inl ⟨by kernel_rfl, ?hyregn155⟩) hHeld ?restregn155
                    case hyregn155 => (intro w9 hSw; clear hSw; go_simp; try with_reducible rfl)
                    try simp only [Act.put, za, zb, zc, zd, ze, zf]
                    refine wpAnyH_take (i := 2) (oi := _) (v := ?vregn156) rfl (by kernel_rfl) (by kernel_rfl) (by kernel_rfl) (fun _ _ _ h => h) (Or.inl ⟨by kernel_rfl, ?hyregn156⟩) hHeld ?restregn156
                    case hyregn156 => (intro w9 hSw; clear hSw; go_simp; try with_reducible rfl)
                    try simp only [Act.put, za, zb, zc, zd, ze, zf]
                    refine wpAnyH_take (i := 3) (oi := _) (v := ?vregn157) rfl (by kernel_rfl) (by kernel_rfl) (by kernel_rfl) (fun _ _ _ h => h) (Or.inl ⟨by kernel_rfl, ?hyregn157⟩) hHeld ?restregn157
                    case hyregn157 => (intro w9 hSw; clear hSw; go_simp; try with_reducible rfl)
                    try simp only [Act.put, za, zb, zc, zd, ze, zf]
                    refine wpAnyH_take (i := 5) (oi := _) (v := ?vregn158) rfl (by kernel_rfl) (by kernel_rfl) (by kernel_rfl) (fun _ _ _ h => h) (Or.inl ⟨by kernel_rfl, ?hyregn158⟩) hHeld ?restregn158
                    case hyregn158 => (intro w9 hSw; clear hSw; go_simp; try with_reducible rfl)
                    try simp only [Act.put, za, zb, zc, zd, ze, zf]
                    refine wpAnyH_take (i := 6) (oi := _) (v := ?vregn159) rfl (by kernel_rfl) (by kernel_rfl) (by kernel_rfl) (fun _ _ _ h => h) (Or.inl ⟨by kernel_rfl, ?hyregn159⟩) hHeld ?restregn159
                    case hyregn159 => (intro w9 hSw; clear hSw; go_simp; try with_reducible rfl)
                    try simp only [Act.put, za, zb, zc, zd, ze, zf]
                    refine wpAnyH_take (i := 7) (oi := _) (v := ?vregn160) rfl (by kernel_rfl) (by kernel_rfl) (by kernel_rfl) (fun _ _ _ h => h) (Or.inl ⟨by kernel_rfl, ?hyregn160⟩) hHeld ?restregn160
                    case hyregn160 => (intro w9 hSw; clear hSw; go_simp; try with_reducible rfl)
                    try simp only [Act.put, za, zb, zc, zd, ze, zf]
                    refine wpAnyH_take (i := 8) (oi := _) (v := ?vregn161) rfl (by kernel_rfl) (by kernel_rfl) (by kernel_rfl) (fun _ _ _ h => h) (Or.inl ⟨by kernel_rfl, ?hyregn161⟩) hHeld ?restregn161
                    case hyregn161 => (intro w9 hSw; clear hSw; go_simp; try with_reducible rfl)
                    try simp only [Act.put, za, zb, zc, zd, ze, zf]
                    refine wpAnyH_take (i := 9) (oi := _) (v := ?vregn162) rfl (by kernel_rfl) (by kernel_rfl) (by kernel_rfl) (fun _ _ _ h => h) (Or.inl ⟨by kernel_rfl, ?hyregn162⟩) hHeld ?restregn162
                    case hyregn162 => (intro w9 hSw; have e9 := hSw; go_simp; try with_reducible rfl)
                    try simp only [Act.put, za, zb, zc, zd, ze, zf]
                    refine wpAnyH_ready (rs := [4, 10]) (by kernel_rfl) (by simp) ?_
                    refine AllReadyH.cons (o := _) rfl (fun K hK => ?_) ?_
                    · have cr := RD0.out
                      go_simp
                      clear cr
                      refine hK.out _ _ (HS0.out) (fun hHeld3 => ?_)
                      clear hK K hHeld
                      have hHeld := hHeld3
                      clear hHeld3
                      try simp only [Act.put, za, zb, zc, zd, ze, zf]
                      refine wpAnyH_ready (rs := [10]) (by kernel_rfl) (by simp) ?_
                      refine AllReadyH.cons (o := _) rfl (fun K hK => ?_) ?_
                      · go_simp
                        refine hK.out _ _ (HS1.out) (fun hHeld3 => ?_)
                        clear hK K hHeld
                        have hHeld := hHeld3
                        clear hHeld3
                        try simp only [Act.put, za, zb, zc, zd, ze, zf]
                        refine wpAnyH_ready (rs := [11]) (by kernel_rfl) (by simp) ?_
                        refine AllReadyH.cons (o := _) rfl (fun K hK => ?_) ?_
                        · refine step_append rfl _ _ _ rfl rfl rfl HRUN.out ?_
                          try go_simp
                          refine hK.out _ _ (HS2.out) (fun hHeld3 => ?_)
                          clear hK K hHeld
                          have hHeld := hHeld3
                          clear hHeld3
                          try simp only [Act.put, za, zb, zc, zd, ze, zf]
                          refine wpAnyH_take (i := 12) (oi := _) (v := ?vregn166) rfl (by kernel_rfl) (by kernel_rfl) (by kernel_rfl) (fun _ _ _ h => h) (Or.inl ⟨by kernel_rfl, ?hyregn166⟩) hHeld ?restregn166
                          case hyregn166 => (intro w9 hSw; clear hSw; go_simp; try with_reducible rfl)
                          try simp only [Act.put, za, zb, zc, zd, ze, zf]
                          refine wpAnyH_take (i := 13) (oi := _) (v := ?vregn167) rfl (by kernel_rfl) (by kernel_rfl) (by kernel_rfl) (fun _ _ _ h => h) (Or.inl ⟨by kernel_rfl, ?hyregn167⟩) hHeld ?restregn167
                          case hyregn167 => (intro w9 hSw; clear hSw; go_simp; try with_reducible rfl)
                          try simp only [Act.put, za, zb, zc, zd, ze, zf]
                          refine wpAnyH_ready (rs := [14]) (by kernel_rfl) (by simp) ?_
                          refine AllReadyH.cons (o := _) rfl (fun K hK => ?_) ?_
                          · have cr := RD2.out
                            have fr := FR2.out
                            go_simp
                            clear cr fr
                            refine hK.out _ _ (HS3.out) (fun hHeld3 => ?_)
                            clear hK K hHeld
                            have hHeld := hHeld3
                            clear hHeld3
                            try simp only [Act.put, za, zb, zc, zd, ze, zf]
                            refine ⟨by kernel_rfl, ?_⟩
                            clear hHeld
                            clear HS0 HS1 HS2 HS3 RD0 RD1 RD2 FR2 HRUN
                            go_wp2_with fail
                            refine REC.out.mono ?_; rintro e w9 ⟨k9, h9⟩
                            have HKE := Lib.hid (HKE.out.trans k9)
                            clear REC k9
                            cases hta : walkA (rdOf F bad) h m (N2, r1) with
                            | error c =>
                              rw [hta] at h9
                              obtain ⟨rfl, n2⟩ := h9
                              have HE : Hid (walkA (rdOf F bad) (h + 1) l (n, r) = .error c) := Lib.hid (HCR.out c (by rw [HNA.out, hta]))
                              have te : (c == 0) = false := by rw [beq_eq_false_iff_ne]; exact n2
                              clear hta
                              go_wp2
                              go_ret
                              unfold WEnd
                              rw [HE.out]
                              exact ⟨HKE.out, rfl, n2⟩
                            | ok q2 =>
                              obtain ⟨n2, r2⟩ := q2
                              rw [hta] at h9
                              obtain ⟨rfl, ⟨vn9, vr9, hw9⟩, hin⟩ := h9
                              have HF2 : Hid ((l.take (k + 1)).foldlM (walkF (rdOf F bad) h) (n, r) = .ok (n2, r2)) := Lib.hid (by rw [HNA.out, hta])
                              have HWK := Lib.hid hw9
                              have HINV2 := Lib.hid hin
                              clear hta hw9 hin
                              go_wp2
                              refine ⟨?_, by simp [intOf]; omega⟩
                              repeat apply Exists.intro
                              exact ⟨⟨k + 1, _, _, _, _, by go_num, by omega, HF2, HWK, HINV2, HKE⟩, rfl⟩
                          exact AllReadyH.nil
                        exact AllReadyH.nil
                      exact AllReadyH.nil
                    refine AllReadyH.cons (o := _) rfl (fun K hK => ?_) ?_
                    · go_simp
                      refine hK.out _ _ (HS1.out) (fun hHeld3 => ?_)
                      clear hK K hHeld
                      have hHeld := hHeld3
                      clear hHeld3
                      try simp only [Act.put, za, zb, zc, zd, ze, zf]
                      refine wpAnyH_ready (rs := [4]) (by kernel_rfl) (by simp) ?_
                      refine AllReadyH.cons (o := _) rfl (fun K hK => ?_) ?_
                      · have cr := RD1.out
                        go_simp
                        clear cr
                        refine hK.out _ _ (HS1.out) (fun hHeld3 => ?_)
                        clear hK K hHeld
                        have hHeld := hHeld3
                        clear hHeld3
                        try simp only [Act.put, za, zb, zc, zd, ze, zf]
                        refine wpAnyH_ready (rs := [11]) (by kernel_rfl) (by simp) ?_
                        refine AllReadyH.cons (o := _) rfl (fun K hK => ?_) ?_
                        · refine step_append rfl _ _ _ rfl rfl rfl HRUN.out ?_
                          try go_simp
                          refine hK.out _ _ (HS2.out) (fun hHeld3 => ?_)
                          clear hK K hHeld
                          have hHeld := hHeld3
                          clear hHeld3
                          try simp only [Act.put, za, zb, zc, zd, ze, zf]
                          refine wpAnyH_take (i := 12) (oi := _) (v := ?vregn172) rfl (by kernel_rfl) (by kernel_rfl) (by kernel_rfl) (fun _ _ _ h => h) (Or.inl ⟨by kernel_rfl, ?hyregn172⟩) hHeld ?restregn172
                          case hyregn172 => (intro w9 hSw; clear hSw; go_simp; try with_reducible rfl)
                          try simp only [Act.put, za, zb, zc, zd, ze, zf]
                          refine wpAnyH_take (i := 13) (oi := _) (v := ?vregn173) rfl (by kernel_rfl) (by kernel_rfl) (by kernel_rfl) (fun _ _ _ h => h) (Or.inl ⟨by kernel_rfl, ?hyregn173⟩) hHeld ?restregn173
                          case hyregn173 => (intro w9 hSw; clear hSw; go_simp; try with_reducible rfl)
                          try simp only [Act.put, za, zb, zc, zd, ze, zf]
                          refine wpAnyH_ready (rs := [14]) (by kernel_rfl) (by simp) ?_
                          refine AllReadyH.cons (o := _) rfl (fun K hK => ?_) ?_
                          · have cr := RD2.out
                            have fr := FR2.out
                            go_simp
                            clear cr fr
                            refine hK.out _ _ (HS3.out) (fun hHeld3 => ?_)
                            clear hK K hHeld
                            have hHeld := hHeld3
                            clear hHeld3
                            try simp only [Act.put, za, zb, zc, zd, ze, zf]
                            refine ⟨by kernel_rfl, ?_⟩
                            clear hHeld
                            clear HS0 HS1 HS2 HS3 RD0 RD1 RD2 FR2 HRUN
                            go_wp2_with fail
                            refine REC.out.mono ?_; rintro e w9 ⟨k9, h9⟩
                            have HKE := Lib.hid (HKE.out.trans k9)
                            clear REC k9
                            cases hta : walkA (rdOf F bad) h m (N2, r1) with
                            | error c =>
                              rw [hta] at h9
                              obtain ⟨rfl, n2⟩ := h9
                              have HE : Hid (walkA (rdOf F bad) (h + 1) l (n, r) = .error c) := Lib.hid (HCR.out c (by rw [HNA.out, hta]))
                              have te : (c == 0) = false := by rw [beq_eq_false_iff_ne]; exact n2
                              clear hta
                              go_wp2
                              go_ret
                              unfold WEnd
                              rw [HE.out]
                              exact ⟨HKE.out, rfl, n2⟩
                            | ok q2 =>
                              obtain ⟨n2, r2⟩ := q2
                              rw [hta] at h9
                              obtain ⟨rfl, ⟨vn9, vr9, hw9⟩, hin⟩ := h9
                              have HF2 : Hid ((l.take (k + 1)).foldlM (walkF (rdOf F bad) h) (n, r) = .ok (n2, r2)) := Lib.hid (by rw [HNA.out, hta])
                              have HWK := Lib.hid hw9
                              have HINV2 := Lib.hid hin
                              clear hta hw9 hin
                              go_wp2
                              refine ⟨?_, by simp [intOf]; omega⟩
                              repeat apply Exists.intro
                              exact ⟨⟨k + 1, _, _, _, _, by go_num, by omega, HF2, HWK, HINV2, HKE⟩, rfl⟩
                          exact AllReadyH.nil
                        exact AllReadyH.nil
                      exact AllReadyH.nil
                    exact AllReadyH.nil
                · have tl : (la == ya) = false := by rw [beq_eq_false_iff_ne]; exact hla
                  have HE := Lib.hid (HNE.out _ (FNO.out (.inr (.inr hla))))
                  clear FOK FNO HNE HNO
                  cases fl
                  all_goals
                    go_upto_region 13 with fail
                    refine wp_region_quiet_below mixed (by kernel_rfl) ?_
                    repeat (go_big_quiet_step (fail))
                    refine wpQuiet_nil ?_
                    intro w0q hw'
                    obtain ⟨⟨wq, bq⟩, hw''⟩ := hw'
                    have hw2 : wq = w0q := hw''.symm
                    clear hw''
                    subst hw2
                    have HKQ := Lib.hid (HKE.out.trans (KeepE.of_below (B := B) bq))
                    go_wp2
                    go_ret
                    unfold WEnd
                    rw [HE.out]
                    exact ⟨HKQ.out, rfl, by decide⟩
              · have HE := Lib.hid (HNE.out _ (FNO.out (.inr (.inl hfl))))
                clear FOK FNO HNE HNO
                cases fl <;> cases lf
                case false.false => exact absurd rfl hfl
                case true.true => exact absurd rfl hfl
                all_goals
                  clear hfl
                  go_upto_region 13 with fail
                  refine wp_region_quiet_below mixed (by kernel_rfl) ?_
                  repeat (go_big_quiet_step (fail))
                  refine wpQuiet_nil ?_
                  intro w0q hw'
                  obtain ⟨⟨wq, bq⟩, hw''⟩ := hw'
                  have hw2 : wq = w0q := hw''.symm
                  clear hw''
                  subst hw2
                  have HKQ := Lib.hid (HKE.out.trans (KeepE.of_below (B := B) bq))
                  go_wp2
                  go_ret
                  unfold WEnd
                  rw [HE.out]
                  exact ⟨HKQ.out, rfl, by decide⟩
            · rw [hD] at FNO FOK FL DC
              have HE := Lib.hid (HNE.out _ (FNO.out (.inl (by decide))))
              clear hD FNO FOK FL HNE HNO HSE HRS
              go_wp2_with fail
              refine DC.out.mono ?_; rintro e w7 ⟨mv, rfl, hmv, b7⟩
              have HKE := Lib.hid (HKE.out.trans (KeepE.of_below b7))
              clear b7 DC hmv
              go_upto_region 13 with fail
              refine wp_region_quiet_below mixed (by kernel_rfl) ?_
              repeat (go_big_quiet_step (fail))
              refine wpQuiet_nil ?_
              intro w0q hw'
              obtain ⟨⟨wq, bq⟩, hw''⟩ := hw'
              have hw2 : wq = w0q := hw''.symm
              clear hw''
              subst hw2
              have HKQ := Lib.hid (HKE.out.trans (KeepE.of_below (B := B) bq))
              go_wp2
              go_ret
              unfold WEnd
              rw [HE.out]
              exact ⟨HKQ.out, rfl, by decide⟩
          · have tE : (E == 0) = false := by rw [beq_eq_false_iff_ne]; exact hE
            have HE : Hid (walkA (rdOf F bad) (h + 1) l (n, r) = .error E) := Lib.hid (HNE.out _ (by
              unfold nodeA
              rw [if_neg HNS.out, if_pos (by show (rdOf F bad yp).2 ≠ 0; rw [HSE.out]; exact hE)]
              show Except.error (rdOf F bad yp).2 = _
              rw [HSE.out]))
            clear HNE HNO HSE HRS
            go_wp2
            go_ret
            unfold WEnd
            rw [HE.out]
            exact ⟨HKE.out, rfl, hE⟩
    · obtain rfl : k = l.length := by omega
      have HE : Hid (walkA (rdOf F bad) (h + 1) l (n, r) = .ok (n1, r1)) := Lib.hid (by rw [HWA.out, ← HF.out, List.take_length])
      clear HF
      go_wp2
      go_ret
      unfold WEnd
      rw [HE.out]
      exact ⟨HKE.out, rfl, ⟨_, _, HWK.out⟩, HINV.out⟩
end Go.Proofs.YtknefoemgifbfaaGreat
namespace Go.Proofs.YtknefoemgifbfaaGreat
open Go.RowKit
theorem rfwalk_all (cb B R g : Nat) (F : Nat → ByteArray) (hF : ∀ k, (F k).size ≤ 1000) (bad : Int) (hg : g < B) : ∀ h : Nat, h ≤ 1000 → Walks cb B R g F bad (h + 1)
  | 0, hh => rfwalk_step cb B R g F hF bad hg 0 hh (.inl rfl)
  | h + 1, hh => rfwalk_step cb B R g F hF bad hg (h + 1) hh (.inr (rfwalk_all cb B R g F hF bad hg h (by omega)))
set_option maxRecDepth 100000 in
set_option maxHeartbeats 4000000 in
theorem xrcheck_long (l : List Ent) (hf : fitE l) (hl : l.length ≤ 100000) (v : Value) (w : World) (hv : EntsIn v l w) :
    Calls Tryz.prog 53 #[v] w fun e w' => e = .returned (.bool (decide (RowOk true l))) ∧ Below w.heap.size w w' := by
  obtain ⟨ad, cap, rfl, c1, c2, c3, -⟩ := entsIn_cells hv
  have mixed : Tryz.prog.follows .mixedOrders = true := by kernel_rfl
  have H3 := Lib.hid c3
  have V := Lib.hid fun v w hv => rrow_any true l hf v w hv
  have HT : Hid (∀ k, k < l.length → l.take (k + 1) = l.take k ++ [eat l k]) := Lib.hid fun k hk => by rw [List.take_succ_eq_append_getElem hk, eat_eq hk]
  have HF : Hid (l.take l.length = l) := Lib.hid (List.take_length)
  clear c3 hv
  go_enter Tryz.func53, Tryz.ntmps53
  go_wp2
  go_loopw [3, 4] (fun vo p wr => ∃ (k : Nat) (out : List Ent), p = .int .i64 k ∧ k ≤ l.length ∧ out.length ≤ k ∧ Hid (out = l.take k) ∧ EntsAt w.heap.size vo out wr ∧ Below w.heap.size w wr) (fun _ p _ => l.length - (intOf p).toNat)
  case atStart => exact ⟨0, [], rfl, Nat.zero_le _, Nat.le_refl _, Lib.hid rfl, World.ownsRow_nil _ _ _ _, Below.refl _ _⟩
  case round =>
    obtain ⟨k, out, rfl, hk, hol, HR, hown, hb⟩ := hrel
    by_cases hlt : k < l.length
    · obtain ⟨g, o, rfl, hg, hc⟩ := H3.out (by omega)
      have k0 := fun p : BelowP wr => (hc p.to (hb.trans (p.h.mono hb.size)) k hlt).1
      have k1 := fun p : BelowP wr => (hc p.to (hb.trans (p.h.mono hb.size)) k hlt).2.1
      have k2 := fun p : BelowP wr => (hc p.to (hb.trans (p.h.mono hb.size)) k hlt).2.2
      have HR2 : Hid (out ++ [eat l k] = l.take (k + 1)) := Lib.hid (by rw [HT.out k hlt, HR.out])
      clear hc
      generalize eat l k = yk at *
      obtain ⟨ea, ep, ez⟩ := yk
      dsimp only at *
      clear V HT H3 HR
      go_wp2
      refine wp_region_mix 17 mixed (by kernel_rfl) (v := ?vmix1) rfl (fun _ _ _ h => h) (Or.inl ⟨by kernel_rfl, ?hymix1⟩) ?restmix1
      case hymix1 => (intro w9 _; go_simp; try with_reducible rfl)
      simp only [List.take_succ_cons, List.take_zero, List.drop_succ_cons, List.drop_zero]
      try simp only [Act.put, List.setIfInBounds_toArray, List.set_cons_zero, List.set_cons_succ]
      repeat (go_big_quiet_step (fail))
      refine wpQuiet_nil ?_
      intro w0q hw'
      obtain ⟨⟨wq, bq⟩, hw''⟩ := hw'
      have hw2 : wq = w0q := hw''.symm
      clear hw''
      subst hw2
      have hb2 := bnext hb bq
      have hown2 := row_kept hown bq
      have hs2 := hb2.size
      have hI : EntsIn (.slice (some ⟨wq.heap.size, 0, none⟩) 1 1) [⟨ea, ep, ez⟩] (wq.alloc (.cells #[.int .i64 ea, .int .i64 ep, .int .i64 ez] 31)) := lit_inE wq [⟨ea, ep, ez⟩] _ (by simp) rfl
      clear hb hown k0 k1 k2
      go_wp2_with (at_builtin; refine wpList_appE rfl _ _ 22 31 rfl Tryz.underlying22 entry_info w.heap.size _ out rfl (hown2.alloc _) _ [⟨ea, ep, ez⟩] rfl hI (by simp; omega) (by rw [size_alloc]; omega) ?_)
      intro v' w4 h4 g4
      have hb4 := (balloc hb2 _).trans (below_of_row (hown2.alloc _) g4 (by rw [size_alloc]; omega))
      clear hown2 g4 hb2 hI
      go_wp2
      exact ⟨⟨k + 1, _, by go_num, by omega, by simp; omega, HR2, ents_snoc h4, hb4⟩, by simp [intOf]; omega⟩
    · obtain rfl : k = l.length := by omega
      rw [HR.out, HF.out] at hown
      have hI := Lib.hid (entsAt_in hown)
      obtain ⟨ad2, cap2, rfl, -⟩ := shape_of hown
      clear hown
      go_wp2_with fail
      refine (V.out _ _ hI.out).mono ?_; rintro e w1 ⟨rfl, b1⟩
      go_wp2
      go_ret
      exact ⟨rfl, bnext hb b1⟩
end Go.Proofs.YtknefoemgifbfaaGreat
namespace Go.Proofs.YtknefoemgifbfaaGreat
open Go.RowKit
def startA (rd : Rd) (depth : Int) (root : List Ent) : Except Int (List Int × List Ent) := if depth = 0 then .ok ([], root) else walkA rd depth.toNat root ([], [])
def docA (rd : Rd) (depth : Int) (root : List Ent) : Except Int (List Ent × List Int) :=
  if RootedA depth root then
    match startA rd depth root with
    | .error c => .error c
    | .ok (n, r) => if RowOk true r ∧ hitA r n = false then .ok (r, riseTo n 4096) else .error 80
  else .error 80
theorem hit_no {r : List Ent} {n : List Int} (h : ∀ j, (hj : j < n.length) → takenA r n[j] = false) : hitA r n = false := by
  rw [hit_taken, List.any_eq_false]
  intro b hb
  obtain ⟨j, hj, rfl⟩ := List.mem_iff_getElem.1 hb
  rw [h j hj]; simp
theorem hit_yes {r : List Ent} {n : List Int} {j : Nat} (hj : j < n.length) (h : takenA r n[j] = true) : hitA r n = true := by
  rw [hit_taken, List.any_eq_true]
  exact ⟨_, List.getElem_mem hj, h⟩
end Go.Proofs.YtknefoemgifbfaaGreat
namespace Go.Proofs.YtknefoemgifbfaaGreat
open Go.RowKit
def DocEnd (a : Except Int (List Ent × List Int)) (w : World) (e : Ending) (w' : World) : Prop :=
  Below w.heap.size w w' ∧ match a with
  | .ok (r, n) => ∃ vl vn, e = .returned (.tuple #[vl, vn, .int .i64 0]) ∧ ExtsAt w.heap.size vl r w' ∧ IntsFk w.heap.size vn n w'
  | .error c => e = .returned (.tuple #[.slice none 0 0, .slice none 0 0, .int .i64 c]) ∧ c ≠ 0
set_option maxRecDepth 100000 in
set_option maxHeartbeats 16000000 in
theorem rfdoc_any {cb : Nat} (F : Nat → ByteArray) (hF : ∀ k, (F k).size ≤ 1000) (bad : Int) (g : Nat) (depth : Int) (hdi : I64 depth) (root : List Ent) (hf : fitE root) (v : Value) (w : World) (hv : EntsIn v root w) (hd : DskAt g F w) :
    Calls Tryz.prog 21 #[.int .i64 depth, v, .agg #[.slice (some ⟨g, 0, none⟩) 4096 cb, .int .i64 bad]] w (DocEnd (docA (rdOf F bad) depth root) w) := by
  have mixed : Tryz.prog.follows .mixedOrders = true := by kernel_rfl
  obtain ⟨ad, cap, rfl, -⟩ := entsIn_cells hv
  have b0 := balloc1 w (.cells #[.slice (some ⟨g, 0, none⟩) 4096 cb, .int .i64 bad] 50)
  have k0 := Blk.new #[.slice (some ⟨g, 0, none⟩) 4096 cb, .int .i64 bad] 50 w
  have RO := Lib.hid (rfroot_any depth root hf _ _ (hv.kept b0))
  generalize hw1 : w.alloc (.cells #[.slice (some ⟨g, 0, none⟩) 4096 cb, .int .i64 bad] 50) = w1 at *
  have HW1 := Lib.hid hw1
  have HK0 := Lib.hid k0
  have HB0 := Lib.hid b0
  have HV := Lib.hid hv
  have HDK := Lib.hid hd
  clear hw1 k0 b0 hv hd
  by_cases hok : RootedA depth root
  · rw [decide_eq_true hok] at RO
    have hr := (rooted_iff depth root).1 hok
    obtain ⟨D, hD0⟩ : ∃ D : Nat, depth = (D : Int) := ⟨depth.toNat, by have := hr.1; omega⟩
    have HDD := Lib.hid hD0
    clear hD0
    go_enter Tryz.func21, Tryz.ntmps21
    go_upto_region 1 with fail
    rw [HW1.out]
    go_wp2_with fail
    refine RO.out.mono ?_; rintro e w2 ⟨rfl, b2⟩
    have HK2 := Lib.hid (HK0.out.kept1 b2)
    have HB2 := Lib.hid (bnext HB0.out b2)
    have q0 := HK2.out.cell 0
    have q1 := HK2.out.cell 1
    simp only [List.getElem?_toArray, List.getElem?_cons_zero, List.getElem?_cons_succ] at q0 q1
    clear b2 RO HW1
    have hwk0 : WkAt cb w.heap.size w2.heap.size g bad (.slice none 0 0) (.slice none 0 0) [] [] (w2.alloc (.cells #[.slice (some ⟨g, 0, none⟩) 4096 cb, .int .i64 bad, .slice none 0 0, .slice none 0 0] 111)) :=
      ⟨Blk.new _ _ _, HB2.out.size, World.ownsRow_nil _ _ _ _, World.ownsRow_nil _ _ _ _⟩
    have b3 := bnext HB2.out (balloc1 w2 (.cells #[.slice (some ⟨g, 0, none⟩) 4096 cb, .int .i64 bad, .slice none 0 0, .slice none 0 0] 111))
    obtain ⟨R, hR⟩ : ∃ R, w2.heap.size = R := ⟨_, rfl⟩
    obtain ⟨w3, hw3⟩ : ∃ w3, w2.alloc (.cells #[.slice (some ⟨g, 0, none⟩) 4096 cb, .int .i64 bad, .slice none 0 0, .slice none 0 0] 111) = w3 := ⟨_, rfl⟩
    rw [hR, hw3] at hwk0
    rw [hw3] at b3
    have HW3 := Lib.hid hw3
    have HRR3 := Lib.hid hR
    have HWK0 := Lib.hid hwk0
    have HB3 := Lib.hid b3
    have HEK : Hid (EntsK w.heap.size (.slice ad root.length cap) root w3) := Lib.hid (EntsK.old HV.out (Nat.le_refl _) b3 b3.size)
    have HD3 := Lib.hid (HDK.out.kept1 b3)
    have hgB := HDK.out.c.1
    clear hwk0 b3 hw3 hR
    by_cases h0 : depth = 0
    · have t0 : (depth == 0) = true := by rw [beq_iff_eq]; exact h0
      have ADD := Lib.hid (rfadd_any HB3.out.size HWK0.out root (by have := hr.2.1; simp; omega) _ HEK.out)
      have HST : Hid (startA (rdOf F bad) depth root = .ok ([], root)) := Lib.hid (by unfold startA; rw [if_pos h0])
      have hrl := hr.2.1
      clear h0 HDD
      go_upto_region 5 with fail
      rw [HW3.out, HRR3.out]
      clear q0 q1
      go_wp2_with fail
      refine ADD.out.mono ?_; rintro e w5 ⟨rfl, ⟨vr5, hw5⟩, k5⟩
      rw [List.nil_append] at hw5
      obtain ⟨n, hn⟩ : ∃ n : List Int, n = [] := ⟨_, rfl⟩
      obtain ⟨r, hr9⟩ : ∃ r, r = root := ⟨_, rfl⟩
      obtain ⟨vn9, hvn⟩ : ∃ v, v = Value.slice none 0 0 := ⟨_, rfl⟩
      have HEND : Hid (WkAt cb w.heap.size R g bad vn9 vr5 n r w5 ∧ (r.length ≤ 50000 ∧ fitE r ∧ n.length ≤ 4096) ∧ Below w.heap.size w w5) := Lib.hid ⟨by rw [hr9, hn, hvn]; exact hw5, ⟨by rw [hr9]; omega, by rw [hr9]; exact hf, by rw [hn]; exact Nat.zero_le _⟩, HB3.out.trans (k5.below HB3.out.size)⟩
      have HST : Hid (startA (rdOf F bad) depth root = .ok (n, r)) := Lib.hid (by rw [hn, hr9]; exact HST.out)
      clear hn hr9 hvn hw5 k5 ADD HWK0 hrl hr
      obtain ⟨hwk, hinv, hkb⟩ := HEND.out
      have HWK := Lib.hid hwk
      have HINV := Lib.hid hinv
      have HKB := Lib.hid hkb
      obtain ⟨an, cn, rfl, -, -, sn⟩ := shape_of hwk.n
      obtain ⟨ar, cr, rfl, -⟩ := shape_of hwk.r
      have CK := Lib.hid (xrcheck_long r hinv.2.1 (by have := hinv.1; omega) _ _ (rowE_in hwk.r))
      have z2 := hwk.blk.cell 2
      have z3 := hwk.blk.cell 3
      simp only [List.getElem?_toArray, List.getElem?_cons_zero, List.getElem?_cons_succ] at z2 z3
      have hn1 : n.length ≤ 4096 := hinv.2.2
      clear hwk hinv hkb sn HEND
      by_cases hro : RowOk true r
      · rw [decide_eq_true hro] at CK
        go_wp2_with fail
        refine CK.out.mono ?_; rintro e w4 ⟨rfl, b4⟩
        have HKB := Lib.hid (HKB.out.trans (b4.mono HKB.out.size))
        have HWK := Lib.hid (HWK.out.kept1 b4)
        clear b4 CK z2 z3
        go_wp2
        go_loopw [11] (fun p wr => ∃ j : Nat, p = .int .i64 (j : Int) ∧ j ≤ n.length ∧ Hid (∀ i, (hi : i < n.length) → i < j → takenA r n[i] = false) ∧ Hid (Below w4.heap.size w4 wr)) (fun p _ => n.length - (intOf p).toNat)
        case atStart => exact ⟨0, rfl, Nat.zero_le _, Lib.hid fun i hi h => by omega, Lib.hid (Below.refl _ _)⟩
        case round =>
          obtain ⟨j, rfl, hj, HJ, HB⟩ := hrel
          have HWR := Lib.hid (HWK.out.kept1 HB.out)
          have HKR := Lib.hid (HKB.out.trans (HB.out.mono HKB.out.size))
          have z2 := HWR.out.blk.cell 2
          simp only [List.getElem?_toArray, List.getElem?_cons_zero, List.getElem?_cons_succ] at z2
          by_cases hjl : j < n.length
          · obtain ⟨gn, rfl, -, -⟩ := (shape_of HWR.out.n).elim fun _ q => by
              obtain ⟨cq, e1, -, -, e2⟩ := q
              cases e1
              exact e2 (by omega)
            have y2 : ∀ q : BelowP wr, q.to.cell? ⟨R, 2, none⟩ = some (.slice (some ⟨gn, 0, none⟩) n.length cn) := fun q => (HWR.out.kept1 q.h).blk.cell 2
            have y3 : ∀ q : BelowP wr, q.to.cell? ⟨R, 3, none⟩ = some (.slice ar r.length cr) := fun q => (HWR.out.kept1 q.h).blk.cell 3
            obtain ⟨b, hb⟩ : ∃ b, n[j] = b := ⟨_, rfl⟩
            have y4 : ∀ q : BelowP wr, q.to.cell? ⟨gn, j, none⟩ = some (.int .i64 b) := fun q => by rw [← hb]; exact fkint_cell (HWR.out.kept1 q.h).n j hjl
            have TK := Lib.hid fun q : BelowP wr => rftaken_any r hro b _ q.to (rowE_in (HWR.out.kept1 q.h).r)
            obtain ⟨T, hT⟩ : ∃ T, takenA r b = T := ⟨_, rfl⟩
            rw [hT] at TK
            have HT := Lib.hid hT
            have HBJ := Lib.hid hb
            clear hT hb
            cases T with
            | true =>
              have HE : Hid (docA (rdOf F bad) depth root = .error 80) := Lib.hid (by
                unfold docA
                rw [if_pos hok, HST.out]
                show (if _ then _ else _) = _
                rw [if_neg fun q => by
                  have := hit_yes hjl (by rw [HBJ.out]; exact HT.out)
                  rw [this] at q; cases q.2])
              clear HT HBJ HJ HST
              go_wp2
              refine wp_region_quiet_below mixed (by kernel_rfl) ?_
              repeat (go_big_quiet_step (refine calls_below (TK.out _)))
              refine wpQuiet_nil ?_
              intro w0q hw'
              obtain ⟨⟨wq, bq⟩, hw''⟩ := hw'
              have hw2 : wq = w0q := hw''.symm
              clear hw''
              subst hw2
              have HQ := Lib.hid (HKR.out.trans (bq.mono HKR.out.size))
              clear y2 y3 y4 TK bq
              go_wp2
              go_ret3
              unfold DocEnd
              rw [HE.out]
              exact ⟨HQ.out, rfl, by decide⟩
            | false =>
              have HJN : Hid (∀ i, (hi : i < n.length) → i < j + 1 → takenA r n[i] = false) := Lib.hid fun i hi h => by
                by_cases e : i = j
                · subst e; rw [HBJ.out]; exact HT.out
                · exact HJ.out i hi (by omega)
              clear HT HBJ HJ
              go_wp2
              refine wp_region_quiet_below mixed (by kernel_rfl) ?_
              repeat (go_big_quiet_step (refine calls_below (TK.out _)))
              refine wpQuiet_nil ?_
              intro w0q hw'
              obtain ⟨⟨wq, bq⟩, hw''⟩ := hw'
              have hw2 : wq = w0q := hw''.symm
              clear hw''
              subst hw2
              clear y2 y3 y4 TK
              go_wp2
              exact ⟨⟨j + 1, by go_num, by omega, HJN, Lib.hid (HB.out.trans (bq.mono HB.out.size))⟩, by simp [intOf]; omega⟩
          · obtain rfl : j = n.length := by omega
            have HE : Hid (docA (rdOf F bad) depth root = .ok (r, riseTo n 4096)) := Lib.hid (by
              unfold docA
              rw [if_pos hok, HST.out]
              show (if _ then _ else _) = _
              rw [if_pos ⟨hro, hit_no fun i hi => HJ.out i hi hi⟩])
            have RS := Lib.hid fun W (hW : Below wr.heap.size wr W) => rfrise_any n _ W (intsFk_in (HWR.out.kept1 hW).n)
            have HSS : Hid (∀ w9, Below wr.heap.size wr w9 → w9.cell? ⟨R, 2, none⟩ = some (.slice an n.length cn) ∧ w9.cell? ⟨R, 3, none⟩ = some (.slice ar r.length cr)) := Lib.hid fun w9 hb => ⟨(HWR.out.kept1 hb).blk.cell 2, (HWR.out.kept1 hb).blk.cell 3⟩
            have HRR := Lib.hid HWR.out.r
            have hq : Below wr.heap.size wr wr.drew := (Below.refl _ _).drew
            have HRR := Lib.hid (row_kept HRR.out hq)
            clear HJ HST HWK HB HKB
            obtain ⟨wq, hwq⟩ : ∃ x, x = wr := ⟨_, rfl⟩
            subst hwq
            go_upto_region 16 with fail
            refine wp_region_held_drew (S := fun w9 => w9.cell? ⟨R, 2, none⟩ = some (.slice an n.length cn) ∧ w9.cell? ⟨R, 3, none⟩ = some (.slice ar r.length cr)) mixed (HSS.out _ hq) (fun hHeld => ?_)
            generalize wq.drew = wd at *
            refine wpAnyH_take (i := 0) (oi := _) (v := ?vrr75) rfl (by kernel_rfl) (by kernel_rfl) (by kernel_rfl) (fun _ _ _ h => h) (Or.inl ⟨by kernel_rfl, ?hyrr75⟩) hHeld ?restrr75
            case hyrr75 => (intro w9 hSw; clear hSw; go_simp; try with_reducible rfl)
            try simp only [Act.put, za, zb, zc, zd, ze, zf]
            refine wpAnyH_take (i := 1) (oi := _) (v := ?vrr76) rfl (by kernel_rfl) (by kernel_rfl) (by kernel_rfl) (fun _ _ _ h => h) (Or.inl ⟨by kernel_rfl, ?hyrr76⟩) hHeld ?restrr76
            case hyrr76 => (intro w9 hSw; clear hSw; go_simp; try with_reducible rfl)
            try simp only [Act.put, za, zb, zc, zd, ze, zf]
            refine wpAnyH_take (i := 2) (oi := _) (v := ?vrr77) rfl (by kernel_rfl) (by kernel_rfl) (by kernel_rfl) (fun _ _ _ h => h) (Or.inl ⟨by kernel_rfl, ?hyrr77⟩) hHeld ?restrr77
            case hyrr77 => (intro w9 hSw; clear hSw; go_simp; try with_reducible rfl)
            try simp only [Act.put, za, zb, zc, zd, ze, zf]
            refine wpAnyH_take (i := 3) (oi := _) (v := ?vrr78) rfl (by kernel_rfl) (by kernel_rfl) (by kernel_rfl) (fun _ _ _ h => h) (Or.inl ⟨by kernel_rfl, ?hyrr78⟩) hHeld ?restrr78
            case hyrr78 => (intro w9 hSw; obtain ⟨e1, e2⟩ := hSw; go_simp; try with_reducible rfl)
            try simp only [Act.put, za, zb, zc, zd, ze, zf]
            refine wpAnyH_take (i := 4) (oi := _) (v := ?vrr79) rfl (by kernel_rfl) (by kernel_rfl) (by kernel_rfl) (fun _ _ _ h => h) (Or.inl ⟨by kernel_rfl, ?hyrr79⟩) hHeld ?restrr79
            case hyrr79 => (intro w9 hSw; clear hSw; go_simp; try with_reducible rfl)
            try simp only [Act.put, za, zb, zc, zd, ze, zf]
            refine wpAnyH_take (i := 5) (oi := _) (v := ?vrr80) rfl (by kernel_rfl) (by kernel_rfl) (by kernel_rfl) (fun _ _ _ h => h) (Or.inl ⟨by kernel_rfl, ?hyrr80⟩) hHeld ?restrr80
            case hyrr80 => (intro w9 hSw; clear hSw; go_simp; try with_reducible rfl)
            try simp only [Act.put, za, zb, zc, zd, ze, zf]
            refine wpAnyH_take (i := 6) (oi := _) (v := ?vrr81) rfl (by kernel_rfl) (by kernel_rfl) (by kernel_rfl) (fun _ _ _ h => h) (Or.inl ⟨by kernel_rfl, ?hyrr81⟩) hHeld ?restrr81
            case hyrr81 => (intro w9 hSw; clear hSw; go_simp; try with_reducible rfl)
            try simp only [Act.put, za, zb, zc, zd, ze, zf]
            refine wpAnyH_take (i := 7) (oi := _) (v := ?vrr82) rfl (by kernel_rfl) (by kernel_rfl) (by kernel_rfl) (fun _ _ _ h => h) (Or.inl ⟨by kernel_rfl, ?hyrr82⟩) hHeld ?restrr82
            case hyrr82 => (intro w9 hSw; obtain ⟨e1, e2⟩ := hSw; go_simp; try with_reducible rfl)
            try simp only [Act.put, za, zb, zc, zd, ze, zf]
            refine wpAnyH_ready (rs := [8]) (by kernel_rfl) (by simp) ?_
            refine AllReadyH.cons (o := _) rfl (fun K hK => ?_) ?_
            · go_simp
              refine (RS.out wd hq).mono ?_; rintro e w83 ⟨u83, rfl, hu83, b83⟩
              dsimp only
              have q83 := bnext hq b83
              have HRR := Lib.hid (row_kept HRR.out b83)
              have HU := Lib.hid hu83
              clear hu83
              refine hK.out _ _ (HSS.out _ (q83)) (fun hHeld3 => ?_)
              clear hK K hHeld
              have hHeld := hHeld3
              clear hHeld3
              try simp only [Act.put, za, zb, zc, zd, ze, zf]
              refine wpAnyH_take (i := 9) (oi := _) (v := ?vrr84) rfl (by kernel_rfl) (by kernel_rfl) (by kernel_rfl) (fun _ _ _ h => h) (Or.inl ⟨by kernel_rfl, ?hyrr84⟩) hHeld ?restrr84
              case hyrr84 => (intro w9 hSw; clear hSw; go_simp; try with_reducible rfl)
              try simp only [Act.put, za, zb, zc, zd, ze, zf]
              refine wpAnyH_take (i := 10) (oi := _) (v := ?vrr85) rfl (by kernel_rfl) (by kernel_rfl) (by kernel_rfl) (fun _ _ _ h => h) (Or.inl ⟨by kernel_rfl, ?hyrr85⟩) hHeld ?restrr85
              case hyrr85 => (intro w9 hSw; clear hSw; go_simp; try with_reducible rfl)
              try simp only [Act.put, za, zb, zc, zd, ze, zf]
              refine wpAnyH_take (i := 11) (oi := _) (v := ?vrr86) rfl (by kernel_rfl) (by kernel_rfl) (by kernel_rfl) (fun _ _ _ h => h) (Or.inl ⟨by kernel_rfl, ?hyrr86⟩) hHeld ?restrr86
              case hyrr86 => (intro w9 hSw; clear hSw; go_simp; try with_reducible rfl)
              try simp only [Act.put, za, zb, zc, zd, ze, zf]
              refine ⟨by kernel_rfl, ?_⟩
              clear hHeld
              have HQ := Lib.hid (HKR.out.trans ((q83).mono HKR.out.size))
              have HRQ := Lib.hid HKR.out.size
              have HQQ := Lib.hid hq
              go_wp2
              go_ret3
              unfold DocEnd
              rw [HE.out]
              exact ⟨HQ.out, _, _, rfl, HRR.out, row_down (Nat.le_trans HRQ.out HQQ.out.size) HU.out⟩
            exact AllReadyH.nil
      · rw [decide_eq_false hro] at CK
        have HE : Hid (docA (rdOf F bad) depth root = .error 80) := Lib.hid (by
          unfold docA
          rw [if_pos hok, HST.out]
          show (if _ then _ else _) = _
          rw [if_neg fun q => hro q.1])
        go_wp2_with fail
        refine CK.out.mono ?_; rintro e w4 ⟨rfl, b4⟩
        have HQ := Lib.hid (HKB.out.trans (b4.mono HKB.out.size))
        clear b4 CK z2 z3 HST HWK
        go_wp2
        go_ret3
        unfold DocEnd
        rw [HE.out]
        exact ⟨HQ.out, rfl, by decide⟩
    · have t0 : (depth == 0) = false := by rw [beq_eq_false_iff_ne]; exact h0
      have HST0 : Hid (startA (rdOf F bad) depth root = walkA (rdOf F bad) D root ([], [])) := Lib.hid (by unfold startA; rw [if_neg h0, HDD.out, Int.toNat_natCast])
      obtain ⟨h, rfl⟩ : ∃ h, D = h + 1 := ⟨D - 1, by have := HDD.out; omega⟩
      have hph : ∀ x ∈ root, 0 ≤ x.phys ∧ x.phys < 4096 := (rooted_phys hok).resolve_left (by have := hr.1; omega)
      have WK := Lib.hid (rfwalk_all cb w.heap.size R g F hF bad hgB h (by have := hr.1.2; have := HDD.out; omega) root _ [] [] _ _ w3 HB3.out.size HD3.out HWK0.out HEK.out ⟨⟨List.nodup_nil, fun b hb => by cases hb⟩, Nat.zero_le _, fun x hx => by cases hx⟩ ⟨hf, hph⟩)
      rw [← HDD.out] at WK
      clear h0 HDD
      go_upto_region 6 with fail
      rw [HW3.out, HRR3.out]
      clear q0 q1 hph
      go_wp2_with fail
      refine WK.out.mono ?_; rintro e w5 ⟨k5, h5⟩
      have HB5 := Lib.hid (HB3.out.trans (k5.below HB3.out.size))
      clear WK k5 HWK0
      cases hta : walkA (rdOf F bad) (h + 1) root ([], []) with
      | error c =>
        rw [hta] at h5
        obtain ⟨rfl, n2⟩ := h5
        have HE : Hid (docA (rdOf F bad) depth root = .error c) := Lib.hid (by unfold docA; rw [if_pos hok, HST0.out, hta])
        have te : (c == 0) = false := by rw [beq_eq_false_iff_ne]; exact n2
        clear hta
        go_wp2
        go_ret3
        unfold DocEnd
        rw [HE.out]
        exact ⟨HB5.out, rfl, n2⟩
      | ok q =>
        obtain ⟨n, r⟩ := q
        rw [hta] at h5
        obtain ⟨rfl, ⟨vn5, vr5, hw5⟩, hin⟩ := h5
        have HST : Hid (startA (rdOf F bad) depth root = .ok (n, r)) := Lib.hid (by rw [HST0.out, hta])
        have HEND : Hid (WkAt cb w.heap.size R g bad vn5 vr5 n r w5 ∧ (r.length ≤ 50000 ∧ fitE r ∧ n.length ≤ 4096) ∧ Below w.heap.size w w5) := Lib.hid ⟨hw5, ⟨by have := hin.2.1; have := hin.1.len; omega, hin.2.2, hin.1.len⟩, HB5.out⟩
        clear hta hw5 hin HST0 hr
        obtain ⟨hwk, hinv, hkb⟩ := HEND.out
        have HWK := Lib.hid hwk
        have HINV := Lib.hid hinv
        have HKB := Lib.hid hkb
        obtain ⟨an, cn, rfl, -, -, sn⟩ := shape_of hwk.n
        obtain ⟨ar, cr, rfl, -⟩ := shape_of hwk.r
        have CK := Lib.hid (xrcheck_long r hinv.2.1 (by have := hinv.1; omega) _ _ (rowE_in hwk.r))
        have z2 := hwk.blk.cell 2
        have z3 := hwk.blk.cell 3
        simp only [List.getElem?_toArray, List.getElem?_cons_zero, List.getElem?_cons_succ] at z2 z3
        have hn1 : n.length ≤ 4096 := hinv.2.2
        clear hwk hinv hkb sn HEND
        by_cases hro : RowOk true r
        · rw [decide_eq_true hro] at CK
          go_wp2_with fail
          refine CK.out.mono ?_; rintro e w4 ⟨rfl, b4⟩
          have HKB := Lib.hid (HKB.out.trans (b4.mono HKB.out.size))
          have HWK := Lib.hid (HWK.out.kept1 b4)
          clear b4 CK z2 z3
          go_wp2
          go_loopw [11] (fun p wr => ∃ j : Nat, p = .int .i64 (j : Int) ∧ j ≤ n.length ∧ Hid (∀ i, (hi : i < n.length) → i < j → takenA r n[i] = false) ∧ Hid (Below w4.heap.size w4 wr)) (fun p _ => n.length - (intOf p).toNat)
          case atStart => exact ⟨0, rfl, Nat.zero_le _, Lib.hid fun i hi h => by omega, Lib.hid (Below.refl _ _)⟩
          case round =>
            obtain ⟨j, rfl, hj, HJ, HB⟩ := hrel
            have HWR := Lib.hid (HWK.out.kept1 HB.out)
            have HKR := Lib.hid (HKB.out.trans (HB.out.mono HKB.out.size))
            have z2 := HWR.out.blk.cell 2
            simp only [List.getElem?_toArray, List.getElem?_cons_zero, List.getElem?_cons_succ] at z2
            by_cases hjl : j < n.length
            · obtain ⟨gn, rfl, -, -⟩ := (shape_of HWR.out.n).elim fun _ q => by
                obtain ⟨cq, e1, -, -, e2⟩ := q
                cases e1
                exact e2 (by omega)
              have y2 : ∀ q : BelowP wr, q.to.cell? ⟨R, 2, none⟩ = some (.slice (some ⟨gn, 0, none⟩) n.length cn) := fun q => (HWR.out.kept1 q.h).blk.cell 2
              have y3 : ∀ q : BelowP wr, q.to.cell? ⟨R, 3, none⟩ = some (.slice ar r.length cr) := fun q => (HWR.out.kept1 q.h).blk.cell 3
              obtain ⟨b, hb⟩ : ∃ b, n[j] = b := ⟨_, rfl⟩
              have y4 : ∀ q : BelowP wr, q.to.cell? ⟨gn, j, none⟩ = some (.int .i64 b) := fun q => by rw [← hb]; exact fkint_cell (HWR.out.kept1 q.h).n j hjl
              have TK := Lib.hid fun q : BelowP wr => rftaken_any r hro b _ q.to (rowE_in (HWR.out.kept1 q.h).r)
              obtain ⟨T, hT⟩ : ∃ T, takenA r b = T := ⟨_, rfl⟩
              rw [hT] at TK
              have HT := Lib.hid hT
              have HBJ := Lib.hid hb
              clear hT hb
              cases T with
              | true =>
                have HE : Hid (docA (rdOf F bad) depth root = .error 80) := Lib.hid (by
                  unfold docA
                  rw [if_pos hok, HST.out]
                  show (if _ then _ else _) = _
                  rw [if_neg fun q => by
                    have := hit_yes hjl (by rw [HBJ.out]; exact HT.out)
                    rw [this] at q; cases q.2])
                clear HT HBJ HJ HST
                go_wp2
                refine wp_region_quiet_below mixed (by kernel_rfl) ?_
                repeat (go_big_quiet_step (refine calls_below (TK.out _)))
                refine wpQuiet_nil ?_
                intro w0q hw'
                obtain ⟨⟨wq, bq⟩, hw''⟩ := hw'
                have hw2 : wq = w0q := hw''.symm
                clear hw''
                subst hw2
                have HQ := Lib.hid (HKR.out.trans (bq.mono HKR.out.size))
                clear y2 y3 y4 TK bq
                go_wp2
                go_ret3
                unfold DocEnd
                rw [HE.out]
                exact ⟨HQ.out, rfl, by decide⟩
              | false =>
                have HJN : Hid (∀ i, (hi : i < n.length) → i < j + 1 → takenA r n[i] = false) := Lib.hid fun i hi h => by
                  by_cases e : i = j
                  · subst e; rw [HBJ.out]; exact HT.out
                  · exact HJ.out i hi (by omega)
                clear HT HBJ HJ
                go_wp2
                refine wp_region_quiet_below mixed (by kernel_rfl) ?_
                repeat (go_big_quiet_step (refine calls_below (TK.out _)))
                refine wpQuiet_nil ?_
                intro w0q hw'
                obtain ⟨⟨wq, bq⟩, hw''⟩ := hw'
                have hw2 : wq = w0q := hw''.symm
                clear hw''
                subst hw2
                clear y2 y3 y4 TK
                go_wp2
                exact ⟨⟨j + 1, by go_num, by omega, HJN, Lib.hid (HB.out.trans (bq.mono HB.out.size))⟩, by simp [intOf]; omega⟩
            · obtain rfl : j = n.length := by omega
              have HE : Hid (docA (rdOf F bad) depth root = .ok (r, riseTo n 4096)) := Lib.hid (by
                unfold docA
                rw [if_pos hok, HST.out]
                show (if _ then _ else _) = _
                rw [if_pos ⟨hro, hit_no fun i hi => HJ.out i hi hi⟩])
              have RS := Lib.hid fun W (hW : Below wr.heap.size wr W) => rfrise_any n _ W (intsFk_in (HWR.out.kept1 hW).n)
              have HSS : Hid (∀ w9, Below wr.heap.size wr w9 → w9.cell? ⟨R, 2, none⟩ = some (.slice an n.length cn) ∧ w9.cell? ⟨R, 3, none⟩ = some (.slice ar r.length cr)) := Lib.hid fun w9 hb => ⟨(HWR.out.kept1 hb).blk.cell 2, (HWR.out.kept1 hb).blk.cell 3⟩
              have HRR := Lib.hid HWR.out.r
              have hq : Below wr.heap.size wr wr.drew := (Below.refl _ _).drew
              have HRR := Lib.hid (row_kept HRR.out hq)
              clear HJ HST HWK HB HKB
              obtain ⟨wq, hwq⟩ : ∃ x, x = wr := ⟨_, rfl⟩
              subst hwq
              go_upto_region 16 with fail
              refine wp_region_held_drew (S := fun w9 => w9.cell? ⟨R, 2, none⟩ = some (.slice an n.length cn) ∧ w9.cell? ⟨R, 3, none⟩ = some (.slice ar r.length cr)) mixed (HSS.out _ hq) (fun hHeld => ?_)
              generalize wq.drew = wd at *
              refine wpAnyH_take (i := 0) (oi := _) (v := ?vrr87) rfl (by kernel_rfl) (by kernel_rfl) (by kernel_rfl) (fun _ _ _ h => h) (Or.inl ⟨by kernel_rfl, ?hyrr87⟩) hHeld ?restrr87
              case hyrr87 => (intro w9 hSw; clear hSw; go_simp; try with_reducible rfl)
              try simp only [Act.put, za, zb, zc, zd, ze, zf]
              refine wpAnyH_take (i := 1) (oi := _) (v := ?vrr88) rfl (by kernel_rfl) (by kernel_rfl) (by kernel_rfl) (fun _ _ _ h => h) (Or.inl ⟨by kernel_rfl, ?hyrr88⟩) hHeld ?restrr88
              case hyrr88 => (intro w9 hSw; clear hSw; go_simp; try with_reducible rfl)
              try simp only [Act.put, za, zb, zc, zd, ze, zf]
              refine wpAnyH_take (i := 2) (oi := _) (v := ?vrr89) rfl (by kernel_rfl) (by kernel_rfl) (by kernel_rfl) (fun _ _ _ h => h) (Or.inl ⟨by kernel_rfl, ?hyrr89⟩) hHeld ?restrr89
              case hyrr89 => (intro w9 hSw; clear hSw; go_simp; try with_reducible rfl)
              try simp only [Act.put, za, zb, zc, zd, ze, zf]
              refine wpAnyH_take (i := 3) (oi := _) (v := ?vrr90) rfl (by kernel_rfl) (by kernel_rfl) (by kernel_rfl) (fun _ _ _ h => h) (Or.inl ⟨by kernel_rfl, ?hyrr90⟩) hHeld ?restrr90
              case hyrr90 => (intro w9 hSw; obtain ⟨e1, e2⟩ := hSw; go_simp; try with_reducible rfl)
              try simp only [Act.put, za, zb, zc, zd, ze, zf]
              refine wpAnyH_take (i := 4) (oi := _) (v := ?vrr91) rfl (by kernel_rfl) (by kernel_rfl) (by kernel_rfl) (fun _ _ _ h => h) (Or.inl ⟨by kernel_rfl, ?hyrr91⟩) hHeld ?restrr91
              case hyrr91 => (intro w9 hSw; clear hSw; go_simp; try with_reducible rfl)
              try simp only [Act.put, za, zb, zc, zd, ze, zf]
              refine wpAnyH_take (i := 5) (oi := _) (v := ?vrr92) rfl (by kernel_rfl) (by kernel_rfl) (by kernel_rfl) (fun _ _ _ h => h) (Or.inl ⟨by kernel_rfl, ?hyrr92⟩) hHeld ?restrr92
              case hyrr92 => (intro w9 hSw; clear hSw; go_simp; try with_reducible rfl)
              try simp only [Act.put, za, zb, zc, zd, ze, zf]
              refine wpAnyH_take (i := 6) (oi := _) (v := ?vrr93) rfl (by kernel_rfl) (by kernel_rfl) (by kernel_rfl) (fun _ _ _ h => h) (Or.inl ⟨by kernel_rfl, ?hyrr93⟩) hHeld ?restrr93
              case hyrr93 => (intro w9 hSw; clear hSw; go_simp; try with_reducible rfl)
              try simp only [Act.put, za, zb, zc, zd, ze, zf]
              refine wpAnyH_take (i := 7) (oi := _) (v := ?vrr94) rfl (by kernel_rfl) (by kernel_rfl) (by kernel_rfl) (fun _ _ _ h => h) (Or.inl ⟨by kernel_rfl, ?hyrr94⟩) hHeld ?restrr94
              case hyrr94 => (intro w9 hSw; obtain ⟨e1, e2⟩ := hSw; go_simp; try with_reducible rfl)
              try simp only [Act.put, za, zb, zc, zd, ze, zf]
              refine wpAnyH_ready (rs := [8]) (by kernel_rfl) (by simp) ?_
              refine AllReadyH.cons (o := _) rfl (fun K hK => ?_) ?_
              · go_simp
                refine (RS.out wd hq).mono ?_; rintro e w95 ⟨u95, rfl, hu95, b95⟩
                dsimp only
                have q95 := bnext hq b95
                have HRR := Lib.hid (row_kept HRR.out b95)
                have HU := Lib.hid hu95
                clear hu95
                refine hK.out _ _ (HSS.out _ (q95)) (fun hHeld3 => ?_)
                clear hK K hHeld
                have hHeld := hHeld3
                clear hHeld3
                try simp only [Act.put, za, zb, zc, zd, ze, zf]
                refine wpAnyH_take (i := 9) (oi := _) (v := ?vrr96) rfl (by kernel_rfl) (by kernel_rfl) (by kernel_rfl) (fun _ _ _ h => h) (Or.inl ⟨by kernel_rfl, ?hyrr96⟩) hHeld ?restrr96
                case hyrr96 => (intro w9 hSw; clear hSw; go_simp; try with_reducible rfl)
                try simp only [Act.put, za, zb, zc, zd, ze, zf]
                refine wpAnyH_take (i := 10) (oi := _) (v := ?vrr97) rfl (by kernel_rfl) (by kernel_rfl) (by kernel_rfl) (fun _ _ _ h => h) (Or.inl ⟨by kernel_rfl, ?hyrr97⟩) hHeld ?restrr97
                case hyrr97 => (intro w9 hSw; clear hSw; go_simp; try with_reducible rfl)
                try simp only [Act.put, za, zb, zc, zd, ze, zf]
                refine wpAnyH_take (i := 11) (oi := _) (v := ?vrr98) rfl (by kernel_rfl) (by kernel_rfl) (by kernel_rfl) (fun _ _ _ h => h) (Or.inl ⟨by kernel_rfl, ?hyrr98⟩) hHeld ?restrr98
                case hyrr98 => (intro w9 hSw; clear hSw; go_simp; try with_reducible rfl)
                try simp only [Act.put, za, zb, zc, zd, ze, zf]
                refine ⟨by kernel_rfl, ?_⟩
                clear hHeld
                have HQ := Lib.hid (HKR.out.trans ((q95).mono HKR.out.size))
                have HRQ := Lib.hid HKR.out.size
                have HQQ := Lib.hid hq
                go_wp2
                go_ret3
                unfold DocEnd
                rw [HE.out]
                exact ⟨HQ.out, _, _, rfl, HRR.out, row_down (Nat.le_trans HRQ.out HQQ.out.size) HU.out⟩
              exact AllReadyH.nil
        · rw [decide_eq_false hro] at CK
          have HE : Hid (docA (rdOf F bad) depth root = .error 80) := Lib.hid (by
            unfold docA
            rw [if_pos hok, HST.out]
            show (if _ then _ else _) = _
            rw [if_neg fun q => hro q.1])
          go_wp2_with fail
          refine CK.out.mono ?_; rintro e w4 ⟨rfl, b4⟩
          have HQ := Lib.hid (HKB.out.trans (b4.mono HKB.out.size))
          clear b4 CK z2 z3 HST HWK
          go_wp2
          go_ret3
          unfold DocEnd
          rw [HE.out]
          exact ⟨HQ.out, rfl, by decide⟩
  · rw [decide_eq_false hok] at RO
    have HE : Hid (docA (rdOf F bad) depth root = .error 80) := Lib.hid (by unfold docA; rw [if_neg hok])
    go_enter Tryz.func21, Tryz.ntmps21
    go_upto_region 1 with fail
    rw [HW1.out]
    go_wp2_with fail
    refine RO.out.mono ?_; rintro e w2 ⟨rfl, b2⟩
    have HQ := Lib.hid (bnext HB0.out b2)
    clear b2 RO
    go_wp2
    go_ret3
    unfold DocEnd
    rw [HE.out]
    exact ⟨HQ.out, rfl, by decide⟩
end Go.Proofs.YtknefoemgifbfaaGreat
namespace Go.Proofs.YtknefoemgifbfaaGreat
open Go.RowKit Go.Shelf
theorem nums_push0 (S : Shp) (m : List Ent) : numsA (pushA S 0 m) = numsA S := by
  have h : ∀ k, numsTo (pushA S 0 m) k = numsTo S k := fun k => by
    induction k with
    | zero => rfl
    | succ k ih => rw [numsTo_succ, numsTo_succ, ih]; unfold headsA; rw [rowA_push_ne S (by omega)]
  rw [← numsTo_all, ← numsTo_all, pushA_len]; exact h _
theorem nums_push (S : Shp) (r : Nat) (hr : r + 1 < S.length) (m : List Ent) : (numsA (pushA S (r + 1) m)).Perm (numsA S ++ m.map Ent.phys) := by
  have h : ∀ k, (numsTo (pushA S (r + 1) m) k).Perm (numsTo S k ++ if r < k then m.map Ent.phys else []) := fun k => by
    induction k with
    | zero => simp [numsTo]
    | succ k ih =>
      rw [numsTo_succ, numsTo_succ]
      by_cases e : k = r
      · subst e
        have e1 : headsA (pushA S (k + 1) m) k = headsA S k ++ m := by unfold headsA; rw [rowA_push hr, List.flatten_append]; simp
        rw [e1, List.map_append, if_pos (Nat.lt_succ_self k)]
        rw [if_neg (Nat.lt_irrefl k), List.append_nil] at ih
        rw [← List.append_assoc]
        exact (ih.append_right _).append_right _
      · have e1 : headsA (pushA S (r + 1) m) k = headsA S k := by unfold headsA; rw [rowA_push_ne S (by omega)]
        rw [e1]
        by_cases q : r < k
        · rw [if_pos q] at ih
          rw [if_pos (by omega)]
          refine (ih.append_right _).trans ?_
          rw [List.append_assoc, List.append_assoc]
          exact List.Perm.append_left _ List.perm_append_comm
        · rw [if_neg q, List.append_nil] at ih
          rw [if_neg (by omega), List.append_nil]
          exact ih.append_right _
  rw [← numsTo_all, ← numsTo_all, pushA_len]
  have := h S.length
  rwa [if_pos (by omega)] at this
structure Side (D : Nat) (p : List Int) (S : Shp) (seen n : List Int) (row : List Ent) : Prop where
  len : S.length = D
  list : listA S = row
  seen : ∀ b, b ∈ seen ↔ b ∈ n
  nums : (numsA S).Perm (n ++ p)
def Sides (D : Nat) (p : List Int) : Except Int (Shp × List Int) → Except Int (List Int × List Ent) → Prop
  | .error a, .error b => a = b
  | .ok (S, seen), .ok (n, row) => Side D p S seen n row
  | _, _ => False
theorem nodeA_side {rd : Rd} {x : Ent} {leaf : Bool} {s t : List Int} (h : ∀ b, b ∈ s ↔ b ∈ t) : (∃ c, nodeA rd x leaf s = .error c ∧ nodeA rd x leaf t = .error c) ∨ (∃ m, nodeA rd x leaf s = .ok (m, x.phys :: s) ∧ nodeA rd x leaf t = .ok (m, x.phys :: t)) := by
  unfold nodeA
  by_cases h1 : x.phys ∈ s
  · rw [if_pos h1, if_pos ((h _).1 h1)]; exact .inl ⟨_, rfl, rfl⟩
  · rw [if_neg h1, if_neg fun q => h1 ((h _).2 q)]
    by_cases h2 : (rd x.phys).2 ≠ 0
    · rw [if_pos h2, if_pos h2]; exact .inl ⟨_, rfl, rfl⟩
    · rw [if_neg h2, if_neg h2]
      cases decN (rd x.phys).1 with
      | none => exact .inl ⟨_, rfl, rfl⟩
      | some q =>
        obtain ⟨m, is⟩ := q
        by_cases h3 : is = leaf ∧ (eat m 0).log = x.log
        · exact .inr ⟨m, if_pos h3, if_pos h3⟩
        · exact .inl ⟨80, if_neg h3, if_neg h3⟩
theorem list_push0 {S : Shp} (h : 0 < S.length) (m : List Ent) : listA (pushA S 0 m) = listA S ++ m := by
  unfold listA; rw [rowA_push h, List.flatten_append]; simp
theorem list_push (S : Shp) (r : Nat) (m : List Ent) : listA (pushA S (r + 1) m) = listA S := by
  unfold listA; rw [rowA_push_ne S (by omega)]
theorem side_take (rd : Rd) (D : Nat) : ∀ (r : Nat), r < D → ∀ (m : List Ent) (p : List Int) (S : Shp) (seen n : List Int) (row : List Ent), Side D p S seen n row → Sides D p (takeA rd r m (S, seen)) (if r = 0 then .ok (n, row ++ m) else walkA rd r m (n, row))
  | 0, hr, m, p, S, seen, n, row, h => by
    rw [if_pos rfl]
    show Side D p (pushA S 0 m) seen n (row ++ m)
    exact ⟨by rw [pushA_len]; exact h.len, by rw [list_push0 (by rw [h.len]; exact hr), h.list], h.seen, by rw [nums_push0]; exact h.nums⟩
  | r + 1, hr, m, p, S, seen, n, row, h => by
    rw [if_neg (by omega), takeA_succ, walkA_succ]
    have key : ∀ (l : List Ent) (S : Shp) (seen n : List Int) (row : List Ent), Side D (l.map Ent.phys ++ p) S seen n row → Sides D p (l.foldlM (takeF rd r) (S, seen)) (l.foldlM (walkF rd r) (n, row)) := by
      intro l
      induction l with
      | nil => intro S seen n row h; exact h
      | cons x l ih =>
        intro S seen n row h
        rw [List.foldlM_cons, List.foldlM_cons]
        rcases nodeA_side (rd := rd) (x := x) (leaf := r == 0) h.seen with ⟨c, e1, e2⟩ | ⟨y, e1, e2⟩
        · have f1 : takeF rd r (S, seen) x = .error c := by show (match nodeA rd x (r == 0) seen with | .error e => Except.error e | .ok (m, seen) => takeA rd r m (S, seen)) = _; rw [e1]
          have f2 : walkF rd r (n, row) x = .error c := by show (match nodeA rd x (r == 0) n with | .error e => Except.error e | .ok (m, _) => if r = 0 then .ok (n ++ [x.phys], row ++ m) else walkA rd r m (n ++ [x.phys], row)) = _; rw [e2]
          rw [f1, f2]; exact rfl
        · have f1 : takeF rd r (S, seen) x = takeA rd r y (S, x.phys :: seen) := by show (match nodeA rd x (r == 0) seen with | .error e => Except.error e | .ok (m, seen) => takeA rd r m (S, seen)) = _; rw [e1]
          have f2 : walkF rd r (n, row) x = if r = 0 then .ok (n ++ [x.phys], row ++ y) else walkA rd r y (n ++ [x.phys], row) := by show (match nodeA rd x (r == 0) n with | .error e => Except.error e | .ok (m, _) => if r = 0 then .ok (n ++ [x.phys], row ++ m) else walkA rd r m (n ++ [x.phys], row)) = _; rw [e2]
          have hs : Side D (l.map Ent.phys ++ p) S (x.phys :: seen) (n ++ [x.phys]) row := ⟨h.len, h.list, fun b => by rw [List.mem_cons, List.mem_append, List.mem_singleton, h.seen b]; exact Or.comm, by
            have := h.nums
            rw [List.map_cons, List.cons_append] at this
            rw [List.append_assoc]; exact this⟩
          have k := side_take rd D r (by omega) y _ S (x.phys :: seen) (n ++ [x.phys]) row hs
          rw [f1, f2]
          revert k
          cases takeA rd r y (S, x.phys :: seen) with
          | error a =>
            cases (if r = 0 then Except.ok (n ++ [x.phys], row ++ y) else walkA rd r y (n ++ [x.phys], row) : Except Int (List Int × List Ent)) with
            | error b => intro k; exact k
            | ok q => intro k; exact k.elim
          | ok q1 =>
            cases (if r = 0 then Except.ok (n ++ [x.phys], row ++ y) else walkA rd r y (n ++ [x.phys], row) : Except Int (List Int × List Ent)) with
            | error b => intro k; exact k.elim
            | ok q2 => intro k; exact ih _ _ _ _ k
    exact key m _ _ _ _ ⟨by rw [pushA_len]; exact h.len, by rw [list_push]; exact h.list, h.seen, by
      refine (nums_push S r (by rw [h.len]; exact hr) m).trans ?_
      refine (h.nums.append_right _).trans ?_
      rw [List.append_assoc]
      exact List.Perm.append_left _ List.perm_append_comm⟩
end Go.Proofs.YtknefoemgifbfaaGreat
namespace Go.Proofs.YtknefoemgifbfaaGreat
open Go.RowKit Go.Shelf
theorem nums_repl (D : Nat) : numsA (List.replicate D ([] : List (List Ent))) = [] := by
  have h : ∀ k, numsTo (List.replicate D ([] : List (List Ent))) k = [] := fun k => by
    induction k with
    | zero => rfl
    | succ k ih => rw [numsTo_succ, ih]; unfold headsA; rw [rowA_repl]; rfl
  rw [← numsTo_all]; exact h _
theorem walk_seen (rd : Rd) : ∀ (h : Nat) (m : List Ent) (n : List Int) (row : List Ent) (n' : List Int) (row' : List Ent), SeenOk n → (∀ x ∈ m, 0 ≤ x.phys ∧ x.phys < 4096) → walkA rd h m (n, row) = .ok (n', row') → SeenOk n'
  | 0, m, n, row, n', row', hs, hp, h => by
    rw [walkA] at h
    injection h with h
    injection h with h1 h2
    rw [← h1]; exact hs
  | h + 1, m, n, row, n', row', hs, hp, hw => by
    rw [walkA_succ] at hw
    induction m generalizing n row with
    | nil =>
      have hw : (Except.ok (n, row) : Except Int (List Int × List Ent)) = .ok (n', row') := hw
      injection hw with hw
      injection hw with h1 h2
      rw [← h1]; exact hs
    | cons x m ih =>
      rw [List.foldlM_cons] at hw
      cases e : nodeA rd x (h == 0) n with
      | error c =>
        have f : walkF rd h (n, row) x = .error c := by show (match nodeA rd x (h == 0) n with | .error e => Except.error e | .ok (m, _) => if h = 0 then .ok (n ++ [x.phys], row ++ m) else walkA rd h m (n ++ [x.phys], row)) = _; rw [e]
        rw [f] at hw
        cases hw
      | ok q =>
        obtain ⟨y, sn⟩ := q
        obtain ⟨-, -, -, n4, -, n6⟩ := nodeA_yes e
        have f : walkF rd h (n, row) x = if h = 0 then .ok (n ++ [x.phys], row ++ y) else walkA rd h y (n ++ [x.phys], row) := by show (match nodeA rd x (h == 0) n with | .error e => Except.error e | .ok (m, _) => if h = 0 then .ok (n ++ [x.phys], row ++ m) else walkA rd h m (n ++ [x.phys], row)) = _; rw [e]
        have hs2 := seen_snoc hs n4 (hp x (List.mem_cons_self ..))
        rw [f] at hw
        by_cases h0 : h = 0
        · rw [if_pos h0] at hw
          exact ih _ _ hs2 (fun z hz => hp z (List.mem_cons_of_mem _ hz)) hw
        · rw [if_neg h0] at hw
          cases e2 : walkA rd h y (n ++ [x.phys], row) with
          | error c => rw [e2] at hw; cases hw
          | ok q =>
            obtain ⟨n2, row2⟩ := q
            rw [e2] at hw
            have hb : (h == 0) = false := by simpa using h0
            rw [hb] at n6
            exact ih _ _ (walk_seen rd h y _ _ _ _ hs2 (node_phys n6) e2) (fun z hz => hp z (List.mem_cons_of_mem _ hz)) hw
theorem hit_perm {l : List Ent} {a b : List Int} (h : a.Perm b) : hitA l a = hitA l b := by
  unfold hitA
  rw [Bool.eq_iff_iff, List.any_eq_true, List.any_eq_true]
  exact ⟨fun ⟨x, hx, k⟩ => ⟨x, h.mem_iff.1 hx, k⟩, fun ⟨x, hx, k⟩ => ⟨x, h.mem_iff.2 hx, k⟩⟩
def saysA (a : Except Int Shp) : Except Int (List Ent × List Int) := match a with
  | .error c => .error c
  | .ok S => .ok (listA S, sortI (numsA S))
theorem doc_load (rd : Rd) (depth : Int) (root : List Ent) : docA rd depth root = saysA (loadA rd false depth root) := by
  unfold docA loadA
  by_cases hok : RootedA depth root
  · rw [if_pos hok, if_pos ⟨hok, .inr rfl⟩]
    have hd := (rooted_iff depth root).1 hok
    have h0 : Side (depth.toNat + 1) [] (List.replicate (depth.toNat + 1) []) [] [] [] := ⟨List.length_replicate, by unfold listA; rw [rowA_repl]; rfl, fun b => Iff.rfl, by rw [nums_repl]; exact List.Perm.refl _⟩
    have hside := side_take rd (depth.toNat + 1) depth.toNat (Nat.lt_succ_self _) root [] _ _ _ _ h0
    have hst : (if depth.toNat = 0 then Except.ok ([], [] ++ root) else walkA rd depth.toNat root ([], []) : Except Int (List Int × List Ent)) = startA rd depth root := by
      unfold startA
      by_cases e : depth = 0
      · rw [if_pos e, if_pos (by omega)]; rfl
      · rw [if_neg e, if_neg (by have := hd.1; omega)]
    rw [hst] at hside
    have hseen : ∀ n r, startA rd depth root = .ok (n, r) → SeenOk n := fun n r h => by
      unfold startA at h
      by_cases e : depth = 0
      · rw [if_pos e] at h
        injection h with h
        injection h with h1 h2
        rw [← h1]; exact ⟨List.nodup_nil, fun b hb => by cases hb⟩
      · rw [if_neg e] at h
        exact walk_seen rd _ _ _ _ _ _ ⟨List.nodup_nil, fun b hb => by cases hb⟩ ((rooted_phys hok).resolve_left (by have := hd.1; omega)) h
    revert hside hseen
    cases takeA rd depth.toNat root (List.replicate (depth.toNat + 1) [], []) with
    | error a =>
      cases startA rd depth root with
      | error b => intro k _; have k : a = b := k; rw [k]; rfl
      | ok q => intro k; exact k.elim
    | ok q1 =>
      obtain ⟨S, sn⟩ := q1
      cases startA rd depth root with
      | error b => intro k; exact k.elim
      | ok q2 =>
        obtain ⟨n, r⟩ := q2
        intro k hseen
        have k : Side (depth.toNat + 1) [] S sn n r := k
        have hp := k.nums
        rw [List.append_nil] at hp
        have hsn := hseen n r rfl
        show (if RowOk true r ∧ hitA r n = false then Except.ok (r, riseTo n 4096) else .error 80) = saysA (if RowOk true (listA S) ∧ hitA (listA S) (numsA S) = false then .ok S else .error 80)
        rw [k.list, hit_perm hp]
        by_cases c : RowOk true r ∧ hitA r n = false
        · rw [if_pos c, if_pos c]
          show _ = Except.ok (listA S, sortI (numsA S))
          rw [k.list, sort_rise (hp.nodup_iff.2 hsn.1) (fun b hb => hsn.2 b (hp.mem_iff.1 hb)) (fun x => hp.mem_iff)]
        · rw [if_neg c, if_neg c]; rfl
  · rw [if_neg hok, if_neg (fun h => hok h.1)]; rfl
end Go.Proofs.YtknefoemgifbfaaGreat
namespace Go.Proofs.YtknefoemgifbfaaGreat
open Go.RowKit
theorem rfdoc_load {cb : Nat} (F : Nat → ByteArray) (hF : ∀ k, (F k).size ≤ 1000) (bad : Int) (g : Nat) (depth : Int) (hdi : I64 depth) (root : List Ent) (hf : fitE root) (v : Value) (w : World) (hv : EntsIn v root w) (hd : DskAt g F w) :
    Calls Tryz.prog 21 #[.int .i64 depth, v, .agg #[.slice (some ⟨g, 0, none⟩) 4096 cb, .int .i64 bad]] w (DocEnd (saysA (loadA (rdOf F bad) false depth root)) w) := by
  rw [← doc_load]
  exact rfdoc_any F hF bad g depth hdi root hf v w hv hd
end Go.Proofs.YtknefoemgifbfaaGreat
namespace Go.Proofs.YtknefoemgifbfaaGreat
open Go.RowKit
theorem tree_sz : (Tryz.prog.info? 35).map (·.size) = some 2 := by kernel_rfl
def lsA : Except Int Shp → List Ent | .ok S => listA S | .error _ => []
def nsA : Except Int Shp → List Int | .ok S => sortI (numsA S) | .error _ => []
def ecA : Except Int Shp → Int | .ok _ => 0 | .error c => c
def WkSay (a : Except Int Shp) (w : World) (e : Ending) (w' : World) : Prop :=
  ∃ vl vn, e = .returned (.tuple #[vl, vn, .int .i64 (ecA a)]) ∧ ExtsAt w.heap.size vl (lsA a) w' ∧ IntsFk w.heap.size vn (nsA a) w' ∧ Below w.heap.size w w'
theorem WalkEnd.say {a : Except Int Shp} {w : World} {e : Ending} {w' : World} (h : WalkEnd a w e w') : WkSay a w e w' := by
  unfold WalkEnd at h
  obtain ⟨b, h⟩ := h
  cases a with
  | ok S => obtain ⟨vl, vn, h1, h2, h3⟩ := h; exact ⟨vl, vn, h1, h2, h3, b⟩
  | error c => exact ⟨_, _, h.1, World.ownsRow_nil _ _ _ _, World.ownsRow_nil _ _ _ _, b⟩
theorem DocEnd.say {a : Except Int Shp} {w : World} {e : Ending} {w' : World} (h : DocEnd (saysA a) w e w') : WkSay a w e w' := by
  unfold DocEnd at h
  obtain ⟨b, h⟩ := h
  cases a with
  | ok S => obtain ⟨vl, vn, h1, h2, h3⟩ := h; exact ⟨vl, vn, h1, h2, h3, b⟩
  | error c => exact ⟨_, _, h.1, World.ownsRow_nil _ _ _ _, World.ownsRow_nil _ _ _ _, b⟩
theorem TwinF.kept1 {B : Nat} {v : Value} {l : List Ent} {w w' : World} (h : TwinF B v l w) (hb : Below w.heap.size w w') : TwinF B v l w' := twinF_kept h hb
theorem TwinF.grown {B X : Nat} {T : TypeId} {v : Value} {l : List Ent} {w w' : World} (h : TwinF B v l w) (g : w.grownBy w' (some X)) (hX : TyAt X T w) (hne : T ≠ 31) : TwinF B v l w' := by
  obtain ⟨p, cap, e, hp, r⟩ := h
  exact ⟨p, cap, e, Nat.lt_of_lt_of_le hp g.size, row_grown r g fun q hq k => by cases k; exact hne (ty_one hX (own_ty r hq).1)⟩
theorem two_start (w : World) (A B : Array Value) (ta tb : TypeId) : ∃ W, (w.alloc (.cells A ta)).alloc (.cells B tb) = W ∧
    Below w.heap.size w W ∧ W.heap.size = w.heap.size + 2 ∧ Blk w.heap.size A ta W ∧ Blk (w.heap.size + 1) B tb W := by
  have b1 := balloc1 w (.cells A ta)
  have k1 := Blk.new A ta w
  have z1 := size_alloc w (.cells A ta)
  generalize w.alloc (.cells A ta) = w1 at *
  have b2 := balloc1 w1 (.cells B tb)
  have k2 := Blk.new B tb w1
  have z2 := size_alloc w1 (.cells B tb)
  generalize w1.alloc (.cells B tb) = w2 at *
  rw [z1] at k2
  exact ⟨w2, rfl, bnext b1 b2, by omega, k1.kept1 b2, k2⟩
set_option maxRecDepth 100000 in
set_option maxHeartbeats 16000000 in
theorem fwalk_walk (dp : Int) (hdp : I64 dp) (root : List Ent) (hfr : fitE root) (vt : Value) (d : List Ch) (hfd : ∀ c ∈ d, I64 c.1 ∧ c.2.size ≤ maxLen) (bad : Int) (vd : Value) (w : World)
    (hvt : EntsIn vt root w) (hvd : ChgsIn vd d w) :
    Calls Tryz.prog 4 #[.agg #[.int .i64 dp, vt], .agg #[vd, .int .i64 bad]] w fun e w' => e = .returned (.bool true) ∧ Below w.heap.size w w' := by
  have mixed : Tryz.prog.follows .mixedOrders = true := by kernel_rfl
  obtain ⟨at', ct, rfl, -⟩ := entsIn_cells hvt
  obtain ⟨ad, cd, rfl, -⟩ := hvd.open
  obtain ⟨W3, hW3, hb3, hz3, kt, kd⟩ := two_start w #[.int .i64 dp, .slice at' root.length ct] #[.slice ad d.length cd, .int .i64 bad] 35 38
  have GR := Lib.hid (lgreat_any d (fun c hc => (hfd c hc).2) bad root _ _ W3 (hvd.kept hb3) (hvt.kept hb3))
  have HB3 := Lib.hid hb3
  have HT := Lib.hid kt
  have HD := Lib.hid kd
  have HVT := Lib.hid hvt
  have HVD := Lib.hid hvd
  have HW3 := Lib.hid hW3
  have x0 := kt.cell 0
  have x1 := kt.cell 1
  have y0 := kd.cell 0
  have y1 := kd.cell 1
  simp only [List.getElem?_toArray, List.getElem?_cons_zero, List.getElem?_cons_succ] at x0 x1 y0 y1
  clear hb3 kt kd hvt hvd hW3 hz3
  go_enter Tryz.func4, Tryz.ntmps4
  go_upto_region 1 with fail
  rw [HW3.out]
  go_wp2_with fail
  refine GR.out.mono ?_; rintro e w4 ⟨rfl, b4⟩
  have HB4 := Lib.hid (bnext HB3.out b4)
  have HC4 := Lib.hid b4
  cases hgb : greatB d root with
  | true =>
    clear b4 hgb
    go_wp2
    go_ret
    exact ⟨rfl, HB4.out⟩
  | false =>
    obtain ⟨hd3, hr1, hd1⟩ := great_no hgb
    have BL := Lib.hid (lblocks_any d (by omega) (fun c hc => (hfd c hc).1) bad _ w4 (HVD.out.kept HB4.out))
    have HSZ := Lib.hid (dskF_size hd1)
    have y0 := (HD.out.kept1 b4).cell 0
    have y1 := (HD.out.kept1 b4).cell 1
    simp only [List.getElem?_toArray, List.getElem?_cons_zero, List.getElem?_cons_succ] at y0 y1
    clear b4 hgb hd1 x0 x1
    go_wp2_with fail
    refine BL.out.mono ?_; rintro e w5 ⟨g, rfl, hg, hdk, b5⟩
    have HG := Lib.hid hdk
    have HB5 := Lib.hid (bnext HB4.out b5)
    have HC5 := Lib.hid (bnext HC4.out b5)
    clear hdk b5 y0 y1 BL GR
    go_upto_region 4 with fail
    go_cut [6] (fun u1 wx => ∃ (X gt ct9 B : Nat), u1 = .pointer (some ⟨X, 0, none⟩) ∧ Hid (Blk X #[.int .i64 dp, .slice (some ⟨gt, 0, none⟩) root.length ct9] 35 wx ∧ TwinF B (.slice (some ⟨gt, 0, none⟩) root.length ct9) root wx ∧ Below w5.heap.size w5 wx))
    case first =>
      obtain ⟨wq, hwq⟩ : ∃ x, x = w5 := ⟨_, rfl⟩
      subst hwq
      have HK : Hid (∀ w9, Below wq.heap.size wq w9 → w9.cell? ⟨w.heap.size, 0, none⟩ = some (.int .i64 dp) ∧ w9.cell? ⟨w.heap.size, 1, none⟩ = some (.slice at' root.length ct)) := Lib.hid fun w9 hb => ⟨(HT.out.kept1 (bnext HC5.out hb)).cell 0, (HT.out.kept1 (bnext HC5.out hb)).cell 1⟩
      have TW := Lib.hid fun W (b : Below wq.heap.size wq W) => twinf_any root (by omega) _ W (HVT.out.kept (bnext HB5.out b))
      have hq : Below wq.heap.size wq wq.drew := (Below.refl _ _).drew
      refine wp_region_held_drew (S := fun w9 => w9.cell? ⟨w.heap.size, 0, none⟩ = some (.int .i64 dp) ∧ w9.cell? ⟨w.heap.size, 1, none⟩ = some (.slice at' root.length ct)) mixed (HK.out _ hq) (fun hHeld => ?_)
      generalize wq.drew = wd at *
      refine wpAnyH_take (i := 0) (oi := _) (v := ?vf41) rfl (by kernel_rfl) (by kernel_rfl) (by kernel_rfl) (fun _ _ _ h => h) (Or.inl ⟨by kernel_rfl, ?hyf41⟩) hHeld ?restf41
      case hyf41 => (intro w9 hSw; clear hSw; go_simp; try with_reducible rfl)
      try simp only [Act.put, za, zb, zc, zd, ze, zf]
      refine wpAnyH_take (i := 1) (oi := _) (v := ?vf42) rfl (by kernel_rfl) (by kernel_rfl) (by kernel_rfl) (fun _ _ _ h => h) (Or.inl ⟨by kernel_rfl, ?hyf42⟩) hHeld ?restf42
      case hyf42 => (intro w9 hSw; obtain ⟨e1, e2⟩ := hSw; go_simp; try with_reducible rfl)
      try simp only [Act.put, za, zb, zc, zd, ze, zf]
      refine wpAnyH_take (i := 2) (oi := _) (v := ?vf43) rfl (by kernel_rfl) (by kernel_rfl) (by kernel_rfl) (fun _ _ _ h => h) (Or.inl ⟨by kernel_rfl, ?hyf43⟩) hHeld ?restf43
      case hyf43 => (intro w9 hSw; clear hSw; go_simp; try with_reducible rfl)
      try simp only [Act.put, za, zb, zc, zd, ze, zf]
      refine wpAnyH_take (i := 3) (oi := _) (v := ?vf44) rfl (by kernel_rfl) (by kernel_rfl) (by kernel_rfl) (fun _ _ _ h => h) (Or.inl ⟨by kernel_rfl, ?hyf44⟩) hHeld ?restf44
      case hyf44 => (intro w9 hSw; obtain ⟨e1, e2⟩ := hSw; go_simp; try with_reducible rfl)
      try simp only [Act.put, za, zb, zc, zd, ze, zf]
      refine wpAnyH_ready (rs := [4, 6]) (by kernel_rfl) (by simp) ?_
      refine AllReadyH.cons (o := _) rfl (fun K hK => ?_) ?_
      · go_simp
        refine (TW.out wd (hq)).mono ?_; rintro e w5 ⟨vtw, rfl, ht5, b5⟩
        dsimp only
        have q5 := bnext hq b5
        obtain ⟨gt, ct9, rfl, -⟩ := id ht5
        have HTW := Lib.hid ht5
        clear ht5
        refine hK.out _ _ (HK.out _ (q5)) (fun hHeld3 => ?_)
        clear hK K hHeld
        have hHeld := hHeld3
        clear hHeld3
        try simp only [Act.put, za, zb, zc, zd, ze, zf]
        refine wpAnyH_take (i := 5) (oi := _) (v := ?vf46) rfl (by kernel_rfl) (by kernel_rfl) (by kernel_rfl) (fun _ _ _ h => h) (Or.inl ⟨by kernel_rfl, ?hyf46⟩) hHeld ?restf46
        case hyf46 => (intro w9 hSw; clear hSw; go_simp; try with_reducible rfl)
        try simp only [Act.put, za, zb, zc, zd, ze, zf]
        refine wpAnyH_ready (rs := [6]) (by kernel_rfl) (by simp) ?_
        refine AllReadyH.cons (o := _) rfl (fun K hK => ?_) ?_
        · obtain ⟨w7, hw7⟩ : ∃ w9, w5.alloc (.cells #[.int .i64 0, .slice none 0 0] 35) = w9 := ⟨_, rfl⟩
          have b7 : Below w5.heap.size w5 w7 := by rw [← hw7]; exact balloc1 _ _
          have q7 := bnext q5 b7
          have hz7 : w7.heap.size = w5.heap.size + 1 := by rw [← hw7]; exact size_alloc _ _
          have hB7 : Blk w5.heap.size #[.int .i64 0, .slice none 0 0] 35 w7 := by rw [← hw7]; exact Blk.new _ _ _
          have HTW := Lib.hid (HTW.out.kept1 b7)
          have HX := Lib.hid hB7
          have HZ7 := Lib.hid hz7
          have HW7 := Lib.hid hw7
          clear hB7 hz7 hw7
          go_simp
          try rw [HW7.out]
          refine hK.out _ _ (HK.out _ (q7)) (fun hHeld3 => ?_)
          clear hK K hHeld
          have hHeld := hHeld3
          clear hHeld3
          try simp only [Act.put, za, zb, zc, zd, ze, zf]
          refine wpAnyH_ready (rs := [7]) (by kernel_rfl) (by simp) ?_
          refine AllReadyH.cons (o := _) rfl (fun K hK => ?_) ?_
          · obtain ⟨w8, hw8⟩ : ∃ w9, w7.setRow w5.heap.size #[.int .i64 dp, .slice (some ⟨gt, 0, none⟩) root.length ct9] = w9 := ⟨_, rfl⟩
            have hB8 : Blk w5.heap.size #[.int .i64 dp, .slice (some ⟨gt, 0, none⟩) root.length ct9] 35 w8 := by rw [← hw8]; exact setRow_blk HX.out _
            have g8 : World.grownBy w7 w8 (some w5.heap.size) := by rw [← hw8]; exact ⟨rfl, rfl, rfl, by simp, fun k hk hne => setRow_other _ _ k _ (fun e => hne (by rw [e]))⟩
            have b8 : Below wq.heap.size w7 w8 := by rw [← hw8]; exact setRow_below q5.size _
            have q8 := (q7).trans b8
            have HTW := Lib.hid (HTW.out.grown g8 ⟨_, _, HX.out⟩ (by decide))
            have HW8 := Lib.hid hw8
            clear hw8 g8 b8
            rw [if_pos (by kernel_rfl)]
            refine wp_store_row 35 _ _ rfl w5.heap.size #[.int .i64 dp, .slice (some ⟨gt, 0, none⟩) root.length ct9] rfl rfl _ _ HX.out tree_sz rfl (by simp [Value.oneCell']) ?_
            rw [HW8.out]
            have HX := Lib.hid hB8
            clear hB8
            refine hK.out _ _ (HK.out _ (q8)) (fun hHeld3 => ?_)
            clear hK K hHeld
            have hHeld := hHeld3
            clear hHeld3
            try simp only [Act.put, za, zb, zc, zd, ze, zf]
            refine ⟨by kernel_rfl, ?_⟩
            clear hHeld
            have HQ := Lib.hid (q8)
            go_wp2
            go_meet
            case rel => exact ⟨w5.heap.size, _, _, _, rfl, Lib.hid ⟨HX.out, HTW.out, HQ.out⟩⟩
          exact AllReadyH.nil
        exact AllReadyH.nil
      refine AllReadyH.cons (o := _) rfl (fun K hK => ?_) ?_
      · obtain ⟨w9, hw9⟩ : ∃ w9, wd.alloc (.cells #[.int .i64 0, .slice none 0 0] 35) = w9 := ⟨_, rfl⟩
        have b9 : Below wd.heap.size wd w9 := by rw [← hw9]; exact balloc1 _ _
        have q9 := bnext hq b9
        have hz9 : w9.heap.size = wd.heap.size + 1 := by rw [← hw9]; exact size_alloc _ _
        have hB9 : Blk wd.heap.size #[.int .i64 0, .slice none 0 0] 35 w9 := by rw [← hw9]; exact Blk.new _ _ _
        have HX := Lib.hid hB9
        have HZ9 := Lib.hid hz9
        have HW9 := Lib.hid hw9
        clear hB9 hz9 hw9
        go_simp
        try rw [HW9.out]
        refine hK.out _ _ (HK.out _ (q9)) (fun hHeld3 => ?_)
        clear hK K hHeld
        have hHeld := hHeld3
        clear hHeld3
        try simp only [Act.put, za, zb, zc, zd, ze, zf]
        refine wpAnyH_ready (rs := [4]) (by kernel_rfl) (by simp) ?_
        refine AllReadyH.cons (o := _) rfl (fun K hK => ?_) ?_
        · go_simp
          refine (TW.out w9 (q9)).mono ?_; rintro e w10 ⟨vtw, rfl, ht10, b10⟩
          dsimp only
          have q10 := bnext q9 b10
          have HX := Lib.hid (HX.out.kept1 b10)
          obtain ⟨gt, ct9, rfl, -⟩ := id ht10
          have HTW := Lib.hid ht10
          clear ht10
          refine hK.out _ _ (HK.out _ (q10)) (fun hHeld3 => ?_)
          clear hK K hHeld
          have hHeld := hHeld3
          clear hHeld3
          try simp only [Act.put, za, zb, zc, zd, ze, zf]
          refine wpAnyH_take (i := 5) (oi := _) (v := ?vf411) rfl (by kernel_rfl) (by kernel_rfl) (by kernel_rfl) (fun _ _ _ h => h) (Or.inl ⟨by kernel_rfl, ?hyf411⟩) hHeld ?restf411
          case hyf411 => (intro w9 hSw; clear hSw; go_simp; try with_reducible rfl)
          try simp only [Act.put, za, zb, zc, zd, ze, zf]
          refine wpAnyH_ready (rs := [7]) (by kernel_rfl) (by simp) ?_
          refine AllReadyH.cons (o := _) rfl (fun K hK => ?_) ?_
          · obtain ⟨w12, hw12⟩ : ∃ w9, w10.setRow wd.heap.size #[.int .i64 dp, .slice (some ⟨gt, 0, none⟩) root.length ct9] = w9 := ⟨_, rfl⟩
            have hB12 : Blk wd.heap.size #[.int .i64 dp, .slice (some ⟨gt, 0, none⟩) root.length ct9] 35 w12 := by rw [← hw12]; exact setRow_blk HX.out _
            have g12 : World.grownBy w10 w12 (some wd.heap.size) := by rw [← hw12]; exact ⟨rfl, rfl, rfl, by simp, fun k hk hne => setRow_other _ _ k _ (fun e => hne (by rw [e]))⟩
            have b12 : Below wq.heap.size w10 w12 := by rw [← hw12]; exact setRow_below hq.size _
            have q12 := (q10).trans b12
            have HTW := Lib.hid (HTW.out.grown g12 ⟨_, _, HX.out⟩ (by decide))
            have HW12 := Lib.hid hw12
            clear hw12 g12 b12
            rw [if_pos (by kernel_rfl)]
            refine wp_store_row 35 _ _ rfl wd.heap.size #[.int .i64 dp, .slice (some ⟨gt, 0, none⟩) root.length ct9] rfl rfl _ _ HX.out tree_sz rfl (by simp [Value.oneCell']) ?_
            rw [HW12.out]
            have HX := Lib.hid hB12
            clear hB12
            refine hK.out _ _ (HK.out _ (q12)) (fun hHeld3 => ?_)
            clear hK K hHeld
            have hHeld := hHeld3
            clear hHeld3
            try simp only [Act.put, za, zb, zc, zd, ze, zf]
            refine ⟨by kernel_rfl, ?_⟩
            clear hHeld
            have HQ := Lib.hid (q12)
            go_wp2
            go_meet
            case rel => exact ⟨wd.heap.size, _, _, _, rfl, Lib.hid ⟨HX.out, HTW.out, HQ.out⟩⟩
          exact AllReadyH.nil
        exact AllReadyH.nil
      exact AllReadyH.nil
    case rest =>
      obtain ⟨X, gt, ct9, B0, rfl, HX⟩ := hcut
      obtain ⟨w6, hw6⟩ : ∃ x, x = wc := ⟨_, rfl⟩
      subst hw6
      obtain ⟨hX1, hX2, hX3⟩ := HX.out
      have HXB := Lib.hid hX1
      have HTW := Lib.hid hX2
      have HB6 := Lib.hid (bnext HB5.out hX3)
      have HC6 := Lib.hid (bnext HC5.out hX3)
      have HG6 := Lib.hid (HG.out.kept1 hX3)
      have hw56 := hX3.size
      clear hX1 hX2 hX3 HX
      obtain ⟨AA, hAA⟩ : ∃ A, loadA (rdOf (dskF d) bad) false dp root = A := ⟨_, rfl⟩
      have RDG := Lib.hid fun W (b : Below w6.heap.size w6 W) => lreading_any (dskF d) bad g W (HG6.out.kept1 b)
      have WLK : Hid (∀ p q W, Below w6.heap.size w6 W → RdrAt p q g (dskF d) bad W → Calls Tryz.prog 19 #[.agg #[.int .i64 dp, .slice (some ⟨gt, 0, none⟩) root.length ct9], .func (.func 49) #[] (rdrC p q)] W (WkSay AA W)) := Lib.hid fun p q W b hr => by
        have := fkwalk_any _ _ _ W (hr.reads HSZ.out) dp hdp root hfr _ (twinF_in (twinF_kept HTW.out b))
        rw [hAA] at this
        exact this.mono fun e w' h => h.say
      have DOC : Hid (∀ W, Below w6.heap.size w6 W → Calls Tryz.prog 21 #[.int .i64 dp, .slice at' root.length ct, .agg #[.slice (some ⟨g, 0, none⟩) 4096 4096, .int .i64 bad]] W (WkSay AA W)) := Lib.hid fun W b => by
        have := rfdoc_load (cb := 4096) (dskF d) HSZ.out bad g dp hdp root hfr _ W (HVT.out.kept (bnext HB6.out b)) (HG6.out.kept1 b)
        rw [hAA] at this
        exact this.mono fun e w' h => h.say
      obtain ⟨EC, hEC⟩ : ∃ E, ecA AA = E := ⟨_, rfl⟩
      obtain ⟨LS, hLS⟩ : ∃ E, lsA AA = E := ⟨_, rfl⟩
      obtain ⟨NS, hNS⟩ : ∃ E, nsA AA = E := ⟨_, rfl⟩
      unfold WkSay at WLK DOC
      rw [hEC, hLS, hNS] at WLK DOC
      clear hAA hEC hLS hNS AA
      have HK5 : Hid (∀ w9, Below w6.heap.size w6 w9 → w9.cell? ⟨X, 0, none⟩ = some (.int .i64 dp) ∧ w9.cell? ⟨X, 1, none⟩ = some (.slice (some ⟨gt, 0, none⟩) root.length ct9) ∧ w9.cell? ⟨w.heap.size + 1, 1, none⟩ = some (.int .i64 bad) ∧ w9.cell? ⟨w.heap.size, 0, none⟩ = some (.int .i64 dp) ∧ w9.cell? ⟨w.heap.size, 1, none⟩ = some (.slice at' root.length ct)) := Lib.hid fun w9 hb =>
        ⟨(HXB.out.kept1 hb).cell 0, (HXB.out.kept1 hb).cell 1, (HD.out.kept1 (bnext HC6.out hb)).cell 1, (HT.out.kept1 (bnext HC6.out hb)).cell 0, (HT.out.kept1 (bnext HC6.out hb)).cell 1⟩
      have LF := Lib.hid fun W (b : Below w6.heap.size w6 W) => leftf_any root (by omega) _ _ _ W (twinF_kept HTW.out b) (HVT.out.kept (bnext HB6.out b))
      have AL := Lib.hid fun W => lalive_any W
      have s1 : (EC != EC) = false := by simp
      have s2 : (EC == EC) = true := by simp
      go_upto_region 5 with fail
      go_cut [7, 8, 9] (fun u1 u2 u3 wx => ∃ (vl vn : Value), u1 = vl ∧ u2 = vn ∧ u3 = .int .i64 EC ∧ Hid (ExtsAt w6.heap.size vl LS wx ∧ IntsFk w6.heap.size vn NS wx ∧ Below w6.heap.size w6 wx))
      case first =>
        obtain ⟨wq, hwq⟩ : ∃ x, x = w6 := ⟨_, rfl⟩
        subst hwq
        have hq : Below wq.heap.size wq wq.drew := (Below.refl _ _).drew
        have HWD : Hid (wq.heap.size ≤ wq.drew.heap.size) := Lib.hid (Nat.le_refl _)
        refine wp_region_held_drew (S := fun w9 => w9.cell? ⟨X, 0, none⟩ = some (.int .i64 dp) ∧ w9.cell? ⟨X, 1, none⟩ = some (.slice (some ⟨gt, 0, none⟩) root.length ct9) ∧ w9.cell? ⟨w.heap.size + 1, 1, none⟩ = some (.int .i64 bad) ∧ w9.cell? ⟨w.heap.size, 0, none⟩ = some (.int .i64 dp) ∧ w9.cell? ⟨w.heap.size, 1, none⟩ = some (.slice at' root.length ct)) mixed (HK5.out _ (hq)) (fun hHeld => ?_)
        generalize wq.drew = wd at *
        refine wpAnyH_take (i := 0) (oi := _) (v := ?vf513) rfl (by kernel_rfl) (by kernel_rfl) (by kernel_rfl) (fun _ _ _ h => h) (Or.inl ⟨by kernel_rfl, ?hyf513⟩) hHeld ?restf513
        case hyf513 => (intro w9 hSw; obtain ⟨e1, e2, e3, e4, e5⟩ := hSw; go_simp; try with_reducible rfl)
        try simp only [Act.put, za, zb, zc, zd, ze, zf]
        refine wpAnyH_take (i := 1) (oi := _) (v := ?vf514) rfl (by kernel_rfl) (by kernel_rfl) (by kernel_rfl) (fun _ _ _ h => h) (Or.inl ⟨by kernel_rfl, ?hyf514⟩) hHeld ?restf514
        case hyf514 => (intro w9 hSw; clear hSw; go_simp; try with_reducible rfl)
        try simp only [Act.put, za, zb, zc, zd, ze, zf]
        refine wpAnyH_take (i := 2) (oi := _) (v := ?vf515) rfl (by kernel_rfl) (by kernel_rfl) (by kernel_rfl) (fun _ _ _ h => h) (Or.inl ⟨by kernel_rfl, ?hyf515⟩) hHeld ?restf515
        case hyf515 => (intro w9 hSw; clear hSw; go_simp; try with_reducible rfl)
        try simp only [Act.put, za, zb, zc, zd, ze, zf]
        refine wpAnyH_take (i := 3) (oi := _) (v := ?vf516) rfl (by kernel_rfl) (by kernel_rfl) (by kernel_rfl) (fun _ _ _ h => h) (Or.inl ⟨by kernel_rfl, ?hyf516⟩) hHeld ?restf516
        case hyf516 => (intro w9 hSw; obtain ⟨e1, e2, e3, e4, e5⟩ := hSw; go_simp; try with_reducible rfl)
        try simp only [Act.put, za, zb, zc, zd, ze, zf]
        refine wpAnyH_ready (rs := [4]) (by kernel_rfl) (by simp) ?_
        refine AllReadyH.cons (o := _) rfl (fun K hK => ?_) ?_
        · go_simp
          refine (RDG.out wd (hq)).mono ?_; rintro e w17 ⟨rfl, hr17, b17⟩
          dsimp only
          have q17 := bnext hq b17
          have HRR := Lib.hid hr17
          clear hr17
          have HWD := Lib.hid (Nat.le_trans HWD.out b17.size)
          refine hK.out _ _ (HK5.out _ (q17)) (fun hHeld3 => ?_)
          clear hK K hHeld
          have hHeld := hHeld3
          clear hHeld3
          try simp only [Act.put, za, zb, zc, zd, ze, zf]
          refine wpAnyH_ready (rs := [5]) (by kernel_rfl) (by simp) ?_
          refine AllReadyH.cons (o := _) rfl (fun K hK => ?_) ?_
          · go_simp
            refine (WLK.out _ _ w17 (q17) HRR.out).mono ?_; rintro e w18 ⟨vl, vn, rfl, hl18, hn18, b18⟩
            dsimp only
            have q18 := bnext q17 b18
            have HRR := Lib.hid (HRR.out.kept1 b18)
            obtain ⟨la9, lc9, rfl, -⟩ := shape_of hl18
            obtain ⟨na9, nc9, rfl, -⟩ := shape_of hn18
            have HL := Lib.hid (row_down HWD.out hl18)
            have HN := Lib.hid (row_down HWD.out hn18)
            clear hl18 hn18
            refine hK.out _ _ (HK5.out _ (q18)) (fun hHeld3 => ?_)
            clear hK K hHeld
            have hHeld := hHeld3
            clear hHeld3
            try simp only [Act.put, za, zb, zc, zd, ze, zf]
            refine wpAnyH_take (i := 6) (oi := _) (v := ?vf519) rfl (by kernel_rfl) (by kernel_rfl) (by kernel_rfl) (fun _ _ _ h => h) (Or.inl ⟨by kernel_rfl, ?hyf519⟩) hHeld ?restf519
            case hyf519 => (intro w9 hSw; clear hSw; go_simp; try with_reducible rfl)
            try simp only [Act.put, za, zb, zc, zd, ze, zf]
            refine wpAnyH_take (i := 7) (oi := _) (v := ?vf520) rfl (by kernel_rfl) (by kernel_rfl) (by kernel_rfl) (fun _ _ _ h => h) (Or.inl ⟨by kernel_rfl, ?hyf520⟩) hHeld ?restf520
            case hyf520 => (intro w9 hSw; clear hSw; go_simp; try with_reducible rfl)
            try simp only [Act.put, za, zb, zc, zd, ze, zf]
            refine wpAnyH_take (i := 8) (oi := _) (v := ?vf521) rfl (by kernel_rfl) (by kernel_rfl) (by kernel_rfl) (fun _ _ _ h => h) (Or.inl ⟨by kernel_rfl, ?hyf521⟩) hHeld ?restf521
            case hyf521 => (intro w9 hSw; clear hSw; go_simp; try with_reducible rfl)
            try simp only [Act.put, za, zb, zc, zd, ze, zf]
            refine wpAnyH_take (i := 9) (oi := _) (v := ?vf522) rfl (by kernel_rfl) (by kernel_rfl) (by kernel_rfl) (fun _ _ _ h => h) (Or.inl ⟨by kernel_rfl, ?hyf522⟩) hHeld ?restf522
            case hyf522 => (intro w9 hSw; clear hSw; go_simp; try with_reducible rfl)
            try simp only [Act.put, za, zb, zc, zd, ze, zf]
            refine wpAnyH_take (i := 10) (oi := _) (v := ?vf523) rfl (by kernel_rfl) (by kernel_rfl) (by kernel_rfl) (fun _ _ _ h => h) (Or.inl ⟨by kernel_rfl, ?hyf523⟩) hHeld ?restf523
            case hyf523 => (intro w9 hSw; clear hSw; go_simp; try with_reducible rfl)
            try simp only [Act.put, za, zb, zc, zd, ze, zf]
            refine wpAnyH_take (i := 11) (oi := _) (v := ?vf524) rfl (by kernel_rfl) (by kernel_rfl) (by kernel_rfl) (fun _ _ _ h => h) (Or.inl ⟨by kernel_rfl, ?hyf524⟩) hHeld ?restf524
            case hyf524 => (intro w9 hSw; clear hSw; go_simp; try with_reducible rfl)
            try simp only [Act.put, za, zb, zc, zd, ze, zf]
            refine wpAnyH_take (i := 12) (oi := _) (v := ?vf525) rfl (by kernel_rfl) (by kernel_rfl) (by kernel_rfl) (fun _ _ _ h => h) (Or.inl ⟨by kernel_rfl, ?hyf525⟩) hHeld ?restf525
            case hyf525 => (intro w9 hSw; clear hSw; go_simp; try with_reducible rfl)
            try simp only [Act.put, za, zb, zc, zd, ze, zf]
            refine ⟨by kernel_rfl, ?_⟩
            clear hHeld
            have HQ := Lib.hid (q18)
            go_wp2
            go_meet
            case rel => exact ⟨_, _, rfl, rfl, rfl, Lib.hid ⟨HL.out, HN.out, HQ.out⟩⟩
          exact AllReadyH.nil
        exact AllReadyH.nil
      case rest =>
        obtain ⟨vl, vn, rfl, rfl, rfl, HX⟩ := hcut
        obtain ⟨w7, hw7⟩ : ∃ x, x = wc := ⟨_, rfl⟩
        subst hw7
        obtain ⟨hl, hn, b7⟩ := HX.out
        obtain ⟨la, lc, rfl, hl2, hl3, hl4⟩ := shape_of hl
        obtain ⟨na, nc, rfl, hn2, hn3, hn4⟩ := shape_of hn
        have hl3 : lc ≤ 9223372036854775807 := hl3
        have hn3 : nc ≤ 9223372036854775807 := hn3
        have HL7 := Lib.hid hl
        have HN7 := Lib.hid hn
        have HL4 := Lib.hid hl4
        have HN4 := Lib.hid hn4
        have HQ7 := Lib.hid b7
        obtain ⟨-, -, e3, e4, e5⟩ := HK5.out _ b7
        clear hl hn b7 hl4 hn4 HX
        go_wp2_with fail
        refine (DOC.out _ HQ7.out).mono ?_; rintro e w8 ⟨vw, vm, rfl, hw, hm, b8⟩
        obtain ⟨wa, wc', rfl, -⟩ := shape_of hw
        obtain ⟨ma, mc, rfl, -⟩ := shape_of hm
        have HL8 := Lib.hid (row_kept HL7.out b8)
        have HN8 := Lib.hid (row_kept HN7.out b8)
        have HW8 := Lib.hid hw
        have HM8 := Lib.hid hm
        have HQ8 := Lib.hid (bnext HQ7.out b8)
        have hs78 := b8.size
        clear hw hm b8 e3 e4 e5
        have SX := Lib.hid (samex_yes LS _ _ w8 (row_of_own HL8.out) (row_of_own HW8.out))
        go_wp2_with fail
        refine SX.out.mono ?_; rintro e wa ⟨rfl, ba⟩
        have HLa := Lib.hid (row_kept HL8.out ba)
        have HNa := Lib.hid (row_kept HN8.out ba)
        have HWa := Lib.hid (row_kept HW8.out ba)
        have HMa := Lib.hid (row_kept HM8.out ba)
        have HQa := Lib.hid (bnext HQ8.out ba)
        have hs8a := ba.size
        have SI := Lib.hid (lints_same _ _ NS wa (row_of_own HNa.out) (row_of_own HMa.out))
        clear SX ba HL8 HN8 HW8 HM8
        go_wp2_with fail
        refine SI.out.mono ?_; rintro e wb ⟨rfl, bb⟩
        have HLb := Lib.hid (row_kept HLa.out bb)
        have HNb := Lib.hid (row_kept HNa.out bb)
        have HWb := Lib.hid (row_kept HWa.out bb)
        have HMb := Lib.hid (row_kept HMa.out bb)
        have HQb := Lib.hid (bnext HQa.out bb)
        have hsab := bb.size
        obtain ⟨-, z1, -, -, z2⟩ := HK5.out _ HQb.out
        clear SI bb HLa HNa HWa HMa
        go_wp2_with fail
        refine (LF.out _ HQb.out).mono ?_; rintro e w9 ⟨rfl, b9⟩
        have HL9 := Lib.hid (row_kept HLb.out b9)
        have HN9 := Lib.hid (row_kept HNb.out b9)
        have HW9 := Lib.hid (row_kept HWb.out b9)
        have HM9 := Lib.hid (row_kept HMb.out b9)
        have HQ9 := Lib.hid (bnext HQb.out b9)
        have hs89 := b9.size
        clear b9 HLb HNb HWb HMb z1 z2
        have HLQ : Hid (∀ q, (Value.slice la LS.length lc).ownBlock = some q → w6.heap.size ≤ q) := Lib.hid fun q hq => (own_ty HL9.out hq).2.2
        have HNQ : Hid (∀ q, (Value.slice na NS.length nc).ownBlock = some q → w6.heap.size ≤ q) := Lib.hid fun q hq => (own_ty HN9.out hq).2.2
        go_wp2
        go_loopw [13] (fun p wr => ∃ (k : Nat) (xs : List Value), p = .int .i64 k ∧ k ≤ LS.length ∧ wr.ownsRow w6.heap.size 53 3 (.slice la LS.length lc) LS.length xs ∧ w9.grownBy wr (Value.ownBlock (.slice la LS.length lc))) (fun p _ => LS.length - (intOf p).toNat)
        case atStart => exact ⟨0, _, rfl, Nat.zero_le _, HL9.out, grown_refl' _ _⟩
        case round =>
          obtain ⟨k, xs, rfl, hk, hx, hg⟩ := hrel
          by_cases hlt : k < LS.length
          · obtain ⟨g', rfl, hgB, hgl⟩ := HL4.out (by omega)
            have hxl := hx.1
            have e0 : wr.cell? ⟨g', k * 3, none⟩ = some (xs[k * 3]'(by omega)) := (hx.cellAt _ (by omega)).trans (List.getElem?_eq_getElem _)
            have f0 := hx.frozenAt (k * 3)
            have e1 : wr.cell? ⟨g', k * 3 + 1, none⟩ = some (xs[k * 3 + 1]'(by omega)) := (hx.cellAt _ (by omega)).trans (List.getElem?_eq_getElem _)
            have f1 := hx.frozenAt (k * 3 + 1)
            have e2 : wr.cell? ⟨g', k * 3 + 2, none⟩ = some (xs[k * 3 + 2]'(by omega)) := (hx.cellAt _ (by omega)).trans (List.getElem?_eq_getElem _)
            have f2 := hx.frozenAt (k * 3 + 2)
            have s0' := (hx.stored (k * 3) (.int .i64 0)).1
            have s1' := (s0'.stored (k * 3 + 1) (.int .i64 0)).1
            have s2' := (s1'.stored (k * 3 + 2) (.int .i64 (-9))).1
            have hg3 := grown_set' (grown_set' (grown_set' hg (k * 3) (.int .i64 0)) (k * 3 + 1) (.int .i64 0)) (k * 3 + 2) (.int .i64 (-9))
            generalize xs[k * 3]'(by omega) = y0 at *
            generalize xs[k * 3 + 1]'(by omega) = y1 at *
            generalize xs[k * 3 + 2]'(by omega) = y2 at *
            have HS3 := Lib.hid s2'
            have HG3 := Lib.hid hg3
            clear hx s0' s1' s2' hg hg3
            go_wp2
            exact ⟨⟨k + 1, _, by go_num, by omega, HS3.out, HG3.out⟩, by simp [intOf]; omega⟩
          · obtain rfl : k = LS.length := by omega
            obtain ⟨w10, hww10⟩ : ∃ x, x = wr := ⟨_, rfl⟩
            subst hww10
            have HN10 := Lib.hid (row_grown HN9.out hg (rows_ne HN9.out HL9.out (by decide)))
            have HW10 := Lib.hid (row_grown HW9.out hg (rows_later HW9.out HL7.out (Nat.le_refl _)))
            have HM10 := Lib.hid (row_grown HM9.out hg (rows_ne HM9.out HL9.out (by decide)))
            have HQ10 := Lib.hid (HQ9.out.trans (grown_below hg (by have := HQ9.out.size; omega) HLQ.out))
            clear hx hg hlt hk
            go_wp2
            go_loopw [14] (fun p wr => ∃ (k : Nat) (xs : List Value), p = .int .i64 k ∧ k ≤ NS.length ∧ wr.ownsRow w6.heap.size 3 1 (.slice na NS.length nc) NS.length xs ∧ w10.grownBy wr (Value.ownBlock (.slice na NS.length nc))) (fun p _ => NS.length - (intOf p).toNat)
            case atStart => exact ⟨0, _, rfl, Nat.zero_le _, HN10.out, grown_refl' _ _⟩
            case round =>
              obtain ⟨k, xs, rfl, hk, hx, hg⟩ := hrel
              by_cases hlt : k < NS.length
              · obtain ⟨g', rfl, hgB, hgl⟩ := HN4.out (by omega)
                have hxl := hx.1
                have e0 : wr.cell? ⟨g', k, none⟩ = some (xs[k]'(by omega)) := (hx.cellAt _ (by omega)).trans (List.getElem?_eq_getElem _)
                have f0 := hx.frozenAt (k)
                have s0' := (hx.stored (k) (.int .i64 (-9))).1
                have hg3 := grown_set' hg (k) (.int .i64 (-9))
                generalize xs[k]'(by omega) = y0 at *
                have HS3 := Lib.hid s0'
                have HG3 := Lib.hid hg3
                clear hx s0' hg hg3
                go_wp2
                exact ⟨⟨k + 1, _, by go_num, by omega, HS3.out, HG3.out⟩, by simp [intOf]; omega⟩
              · obtain rfl : k = NS.length := by omega
                obtain ⟨w11, hww11⟩ : ∃ x, x = wr := ⟨_, rfl⟩
                subst hww11
                have HW11 := Lib.hid (row_grown HW10.out hg (rows_ne HW10.out HN10.out (by decide)))
                have HM11 := Lib.hid (row_grown HM10.out hg (rows_later HM10.out HN7.out (Nat.le_refl _)))
                have HQ11 := Lib.hid (HQ10.out.trans (grown_below hg (by have := HQ10.out.size; omega) HNQ.out))
                clear hx hg hlt hk
                go_upto_region 17 with fail
                go_cut [15, 16, 17] (fun u1 u2 u3 wx => ∃ (vl vn : Value), u1 = vl ∧ u2 = vn ∧ u3 = .int .i64 EC ∧ Hid (ExtsAt w11.heap.size vl LS wx ∧ IntsFk w11.heap.size vn NS wx ∧ Below w11.heap.size w11 wx))
                case first =>
                  obtain ⟨wq, hwq⟩ : ∃ x, x = w11 := ⟨_, rfl⟩
                  subst hwq
                  have hq : Below wq.heap.size wq wq.drew := (Below.refl _ _).drew
                  have HWD : Hid (wq.heap.size ≤ wq.drew.heap.size) := Lib.hid (Nat.le_refl _)
                  refine wp_region_held_drew (S := fun w9 => w9.cell? ⟨X, 0, none⟩ = some (.int .i64 dp) ∧ w9.cell? ⟨X, 1, none⟩ = some (.slice (some ⟨gt, 0, none⟩) root.length ct9) ∧ w9.cell? ⟨w.heap.size + 1, 1, none⟩ = some (.int .i64 bad) ∧ w9.cell? ⟨w.heap.size, 0, none⟩ = some (.int .i64 dp) ∧ w9.cell? ⟨w.heap.size, 1, none⟩ = some (.slice at' root.length ct)) mixed (HK5.out _ (HQ11.out.trans ((hq).mono HQ11.out.size))) (fun hHeld => ?_)
                  generalize wq.drew = wd at *
                  refine wpAnyH_take (i := 0) (oi := _) (v := ?vf1726) rfl (by kernel_rfl) (by kernel_rfl) (by kernel_rfl) (fun _ _ _ h => h) (Or.inl ⟨by kernel_rfl, ?hyf1726⟩) hHeld ?restf1726
                  case hyf1726 => (intro w9 hSw; obtain ⟨e1, e2, e3, e4, e5⟩ := hSw; go_simp; try with_reducible rfl)
                  try simp only [Act.put, za, zb, zc, zd, ze, zf]
                  refine wpAnyH_take (i := 1) (oi := _) (v := ?vf1727) rfl (by kernel_rfl) (by kernel_rfl) (by kernel_rfl) (fun _ _ _ h => h) (Or.inl ⟨by kernel_rfl, ?hyf1727⟩) hHeld ?restf1727
                  case hyf1727 => (intro w9 hSw; clear hSw; go_simp; try with_reducible rfl)
                  try simp only [Act.put, za, zb, zc, zd, ze, zf]
                  refine wpAnyH_take (i := 2) (oi := _) (v := ?vf1728) rfl (by kernel_rfl) (by kernel_rfl) (by kernel_rfl) (fun _ _ _ h => h) (Or.inl ⟨by kernel_rfl, ?hyf1728⟩) hHeld ?restf1728
                  case hyf1728 => (intro w9 hSw; clear hSw; go_simp; try with_reducible rfl)
                  try simp only [Act.put, za, zb, zc, zd, ze, zf]
                  refine wpAnyH_take (i := 3) (oi := _) (v := ?vf1729) rfl (by kernel_rfl) (by kernel_rfl) (by kernel_rfl) (fun _ _ _ h => h) (Or.inl ⟨by kernel_rfl, ?hyf1729⟩) hHeld ?restf1729
                  case hyf1729 => (intro w9 hSw; obtain ⟨e1, e2, e3, e4, e5⟩ := hSw; go_simp; try with_reducible rfl)
                  try simp only [Act.put, za, zb, zc, zd, ze, zf]
                  refine wpAnyH_ready (rs := [4]) (by kernel_rfl) (by simp) ?_
                  refine AllReadyH.cons (o := _) rfl (fun K hK => ?_) ?_
                  · go_simp
                    refine (RDG.out wd (HQ11.out.trans ((hq).mono HQ11.out.size))).mono ?_; rintro e w30 ⟨rfl, hr30, b30⟩
                    dsimp only
                    have q30 := bnext hq b30
                    have HRR := Lib.hid hr30
                    clear hr30
                    have HWD := Lib.hid (Nat.le_trans HWD.out b30.size)
                    refine hK.out _ _ (HK5.out _ (HQ11.out.trans ((q30).mono HQ11.out.size))) (fun hHeld3 => ?_)
                    clear hK K hHeld
                    have hHeld := hHeld3
                    clear hHeld3
                    try simp only [Act.put, za, zb, zc, zd, ze, zf]
                    refine wpAnyH_ready (rs := [5]) (by kernel_rfl) (by simp) ?_
                    refine AllReadyH.cons (o := _) rfl (fun K hK => ?_) ?_
                    · go_simp
                      refine (WLK.out _ _ w30 (HQ11.out.trans ((q30).mono HQ11.out.size)) HRR.out).mono ?_; rintro e w31 ⟨vl, vn, rfl, hl31, hn31, b31⟩
                      dsimp only
                      have q31 := bnext q30 b31
                      have HRR := Lib.hid (HRR.out.kept1 b31)
                      obtain ⟨la9, lc9, rfl, -⟩ := shape_of hl31
                      obtain ⟨na9, nc9, rfl, -⟩ := shape_of hn31
                      have HL := Lib.hid (row_down HWD.out hl31)
                      have HN := Lib.hid (row_down HWD.out hn31)
                      clear hl31 hn31
                      refine hK.out _ _ (HK5.out _ (HQ11.out.trans ((q31).mono HQ11.out.size))) (fun hHeld3 => ?_)
                      clear hK K hHeld
                      have hHeld := hHeld3
                      clear hHeld3
                      try simp only [Act.put, za, zb, zc, zd, ze, zf]
                      refine wpAnyH_take (i := 6) (oi := _) (v := ?vf1732) rfl (by kernel_rfl) (by kernel_rfl) (by kernel_rfl) (fun _ _ _ h => h) (Or.inl ⟨by kernel_rfl, ?hyf1732⟩) hHeld ?restf1732
                      case hyf1732 => (intro w9 hSw; clear hSw; go_simp; try with_reducible rfl)
                      try simp only [Act.put, za, zb, zc, zd, ze, zf]
                      refine wpAnyH_take (i := 7) (oi := _) (v := ?vf1733) rfl (by kernel_rfl) (by kernel_rfl) (by kernel_rfl) (fun _ _ _ h => h) (Or.inl ⟨by kernel_rfl, ?hyf1733⟩) hHeld ?restf1733
                      case hyf1733 => (intro w9 hSw; clear hSw; go_simp; try with_reducible rfl)
                      try simp only [Act.put, za, zb, zc, zd, ze, zf]
                      refine wpAnyH_take (i := 8) (oi := _) (v := ?vf1734) rfl (by kernel_rfl) (by kernel_rfl) (by kernel_rfl) (fun _ _ _ h => h) (Or.inl ⟨by kernel_rfl, ?hyf1734⟩) hHeld ?restf1734
                      case hyf1734 => (intro w9 hSw; clear hSw; go_simp; try with_reducible rfl)
                      try simp only [Act.put, za, zb, zc, zd, ze, zf]
                      refine wpAnyH_take (i := 9) (oi := _) (v := ?vf1735) rfl (by kernel_rfl) (by kernel_rfl) (by kernel_rfl) (fun _ _ _ h => h) (Or.inl ⟨by kernel_rfl, ?hyf1735⟩) hHeld ?restf1735
                      case hyf1735 => (intro w9 hSw; clear hSw; go_simp; try with_reducible rfl)
                      try simp only [Act.put, za, zb, zc, zd, ze, zf]
                      refine wpAnyH_take (i := 10) (oi := _) (v := ?vf1736) rfl (by kernel_rfl) (by kernel_rfl) (by kernel_rfl) (fun _ _ _ h => h) (Or.inl ⟨by kernel_rfl, ?hyf1736⟩) hHeld ?restf1736
                      case hyf1736 => (intro w9 hSw; clear hSw; go_simp; try with_reducible rfl)
                      try simp only [Act.put, za, zb, zc, zd, ze, zf]
                      refine wpAnyH_take (i := 11) (oi := _) (v := ?vf1737) rfl (by kernel_rfl) (by kernel_rfl) (by kernel_rfl) (fun _ _ _ h => h) (Or.inl ⟨by kernel_rfl, ?hyf1737⟩) hHeld ?restf1737
                      case hyf1737 => (intro w9 hSw; clear hSw; go_simp; try with_reducible rfl)
                      try simp only [Act.put, za, zb, zc, zd, ze, zf]
                      refine wpAnyH_take (i := 12) (oi := _) (v := ?vf1738) rfl (by kernel_rfl) (by kernel_rfl) (by kernel_rfl) (fun _ _ _ h => h) (Or.inl ⟨by kernel_rfl, ?hyf1738⟩) hHeld ?restf1738
                      case hyf1738 => (intro w9 hSw; clear hSw; go_simp; try with_reducible rfl)
                      try simp only [Act.put, za, zb, zc, zd, ze, zf]
                      refine ⟨by kernel_rfl, ?_⟩
                      clear hHeld
                      have HQ := Lib.hid (q31)
                      go_wp2
                      go_meet
                      case rel => exact ⟨_, _, rfl, rfl, rfl, Lib.hid ⟨HL.out, HN.out, HQ.out⟩⟩
                    exact AllReadyH.nil
                  exact AllReadyH.nil
                case rest =>
                  obtain ⟨vl, vn, rfl, rfl, rfl, HX⟩ := hcut
                  obtain ⟨w12, hw12⟩ : ∃ x, x = wc := ⟨_, rfl⟩
                  subst hw12
                  obtain ⟨hl, hn, b12⟩ := HX.out
                  obtain ⟨la2, lc2, rfl, -⟩ := shape_of hl
                  obtain ⟨na2, nc2, rfl, -⟩ := shape_of hn
                  have HW12 := Lib.hid (row_kept HW11.out b12)
                  have HM12 := Lib.hid (row_kept HM11.out b12)
                  have HQ12 := Lib.hid (bnext HQ11.out b12)
                  have HEND := Lib.hid (HB6.out.trans (HQ12.out.mono HB6.out.size))
                  have SX := Lib.hid (samex_yes LS _ _ w12 (row_of_own hl) (row_of_own HW12.out))
                  have HN12 := Lib.hid hn
                  clear hl hn b12 HX
                  go_wp2_with fail
                  refine SX.out.mono ?_; rintro e wa ⟨rfl, ba⟩
                  have SI := Lib.hid (lints_same _ _ NS wa (row_of_own (row_kept HN12.out ba)) (row_of_own (row_kept HM12.out ba)))
                  have HQa := Lib.hid (bnext HQ12.out ba)
                  have HEa := Lib.hid (bnext HEND.out ba)
                  clear SX ba HN12 HM12 HW12
                  go_wp2_with fail
                  refine SI.out.mono ?_; rintro e wb ⟨rfl, bb⟩
                  have HQb := Lib.hid (bnext HQa.out bb)
                  have HEb := Lib.hid (bnext HEa.out bb)
                  obtain ⟨-, z1, -, -, z2⟩ := HK5.out _ HQb.out
                  clear SI bb
                  go_wp2_with fail
                  refine (LF.out _ HQb.out).mono ?_; rintro e wd ⟨rfl, bd⟩
                  have HEd := Lib.hid (bnext HEb.out bd)
                  clear bd z1 z2
                  go_wp2_with fail
                  refine (AL.out _).mono ?_; rintro e we ⟨rfl, be⟩
                  have HEe := Lib.hid (bnext HEd.out be)
                  clear be
                  go_wp2
                  go_ret
                  exact ⟨rfl, HEe.out⟩
end Go.Proofs.YtknefoemgifbfaaGreat
