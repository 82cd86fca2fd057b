/- The walk of ExtsGone, in part. -/
import Derived.Test.YtgcbfiecgiijkaaTLaw4M
namespace Go.Proofs.Ytgcbfiecgiijkaa
set_option linter.unusedVariables false
set_option linter.unusedSimpArgs false
open Go.RowKit Go.Shelf

set_option maxRecDepth 100000 in
set_option maxHeartbeats 8000000 in
theorem tgone_b1 (l : List Ent) (hf : fitE l) (a n : Int) (ha : I64 a) (hn : I64 n) (p : Int) (hp : I64 p) (v : Value) (w : World) (hv : EntsIn v l w) (hl : l.length ≤ 200) (h1 : ¬ RowOk true l) :
    Calls Try.prog 8 #[v, .agg #[.int .i64 a, .int .i64 n], .int .i64 p] w fun e w' => e = .returned (.bool true) ∧ Below w.heap.size w w' := by
  have mixed : Try.prog.follows .mixedOrders = true := by kernel_rfl
  have hl0 := hl_of hv
  have HB := Lib.hid (balloc1 w (.cells #[.int .i64 a, .int .i64 n] 49))
  have dl : decide ((200 : Int) < (l.length : Int)) = false := decide_eq_false (by omega)
  have AL := Lib.hid talive_any
  have PU := fun v w hv => xpunch_any l hf (by omega) a n ha hn v w hv
  have CU := fun v w hv => xcut_any l hf (by omega) a ha v w hv
  have HV := Lib.hid (hv.kept (balloc1 w (.cells #[.int .i64 a, .int .i64 n] 49)))
  have HX := Lib.hid (Blk.new #[.int .i64 a, .int .i64 n] 49 w)
  have hpn := pun_no (l := l) (a := a) (n := n) fun h => h1 h.1
  have hcn := cut_no (l := l) (f := a) fun h => h1 h.1
  rw [hpn.1, hpn.2.1, hpn.2.2] at PU
  rw [hcn.1, hcn.2.1, hcn.2.2] at CU
  have CL := fun v w hv => xcheck_any l hf v w hv
  rw [decide_eq_false h1] at CL
  have CL := Lib.hid CL
  have PU := Lib.hid PU
  have CU := Lib.hid CU
  obtain ⟨ha1, ha2⟩ := ha
  obtain ⟨hn1, hn2⟩ := hn
  clear hpn hcn h1
  obtain ⟨ad, cap, rfl, -⟩ := entsIn_cells hv
  clear hv hl0
  go_enter Try.func8, Try.ntmps8
  have x0 := HX.out.cell 0
  have x1 := HX.out.cell 1
  simp only [List.getElem?_toArray, List.getElem?_cons_zero, List.getElem?_cons_succ] at x0 x1
  go_wp2_with fail
  refine (PU.out _ _ HV.out).mono ?_; rintro e w2 ⟨vo, vf, rfl, ro, rf, b2⟩
  have HV := Lib.hid (HV.out.kept b2)
  have HX := Lib.hid (HX.out.kept1 b2)
  have HB := Lib.hid (bnext HB.out b2)
  obtain ⟨ado2, cpo2, hso, -⟩ := shape_of ro
  have hso : vo = .slice ado2 0 cpo2 := hso
  subst hso
  obtain ⟨adf2, cpf2, hsf, -⟩ := shape_of rf
  have hsf : vf = .slice adf2 0 cpf2 := hsf
  subst hsf
  clear b2 ro rf x0 x1
  have x0 := HX.out.cell 0
  have x1 := HX.out.cell 1
  simp only [List.getElem?_toArray, List.getElem?_cons_zero, List.getElem?_cons_succ] at x0 x1
  go_wp2_with fail
  refine (CU.out _ _ HV.out).mono ?_; rintro e w3 ⟨vo, vf, rfl, ro, rf, b3⟩
  have HV := Lib.hid (HV.out.kept b3)
  have HX := Lib.hid (HX.out.kept1 b3)
  have HB := Lib.hid (bnext HB.out b3)
  obtain ⟨ado3, cpo3, hso, -⟩ := shape_of ro
  have hso : vo = .slice ado3 0 cpo3 := hso
  subst hso
  obtain ⟨adf3, cpf3, hsf, -⟩ := shape_of rf
  have hsf : vf = .slice adf3 0 cpf3 := hsf
  subst hsf
  clear b3 ro rf x0 x1
  have x0 := HX.out.cell 0
  have x1 := HX.out.cell 1
  simp only [List.getElem?_toArray, List.getElem?_cons_zero, List.getElem?_cons_succ] at x0 x1
  go_wp2_with fail
  refine (CL.out _ _ HV.out).mono ?_; rintro e w4 ⟨rfl, b4⟩
  have HV := Lib.hid (HV.out.kept b4)
  have HX := Lib.hid (HX.out.kept1 b4)
  have HB := Lib.hid (bnext HB.out b4)
  clear b4 x0 x1
  have x0 := HX.out.cell 0
  have x1 := HX.out.cell 1
  simp only [List.getElem?_toArray, List.getElem?_cons_zero, List.getElem?_cons_succ] at x0 x1
  go_wp2_with fail
  refine (AL.out _).mono ?_; rintro e w5 ⟨rfl, b5⟩
  have HV := Lib.hid (HV.out.kept b5)
  have HX := Lib.hid (HX.out.kept1 b5)
  have HB := Lib.hid (bnext HB.out b5)
  clear b5 x0 x1
  go_wp2
  go_ret
  exact ⟨rfl, HB.out⟩
set_option maxRecDepth 100000 in
set_option maxHeartbeats 8000000 in
theorem tgone_b2 (l : List Ent) (hf : fitE l) (a n : Int) (ha : I64 a) (hn : I64 n) (p : Int) (hp : I64 p) (v : Value) (w : World) (hv : EntsIn v l w) (hl : l.length ≤ 200) (h1 : RowOk true l) (h0 : a < 0) :
    Calls Try.prog 8 #[v, .agg #[.int .i64 a, .int .i64 n], .int .i64 p] w fun e w' => e = .returned (.bool true) ∧ Below w.heap.size w w' := by
  have mixed : Try.prog.follows .mixedOrders = true := by kernel_rfl
  have hl0 := hl_of hv
  have HB := Lib.hid (balloc1 w (.cells #[.int .i64 a, .int .i64 n] 49))
  have dl : decide ((200 : Int) < (l.length : Int)) = false := decide_eq_false (by omega)
  have AL := Lib.hid talive_any
  have PU := fun v w hv => xpunch_any l hf (by omega) a n ha hn v w hv
  have CU := fun v w hv => xcut_any l hf (by omega) a ha v w hv
  have HV := Lib.hid (hv.kept (balloc1 w (.cells #[.int .i64 a, .int .i64 n] 49)))
  have HX := Lib.hid (Blk.new #[.int .i64 a, .int .i64 n] 49 w)
  have hpn := pun_no (l := l) (a := a) (n := n) fun h => by have := h.2; omega
  have hcn := cut_no (l := l) (f := a) fun h => by have := h.2; omega
  have d0 : decide (a < 0) = true := decide_eq_true h0
  rw [hpn.1, hpn.2.1, hpn.2.2] at PU
  rw [hcn.1, hcn.2.1, hcn.2.2] at CU
  have CL := fun v w hv => xcheck_any l hf v w hv
  rw [decide_eq_true h1] at CL
  have CL := Lib.hid CL
  have PU := Lib.hid PU
  have CU := Lib.hid CU
  obtain ⟨ha1, ha2⟩ := ha
  obtain ⟨hn1, hn2⟩ := hn
  clear hpn hcn h1
  obtain ⟨ad, cap, rfl, -⟩ := entsIn_cells hv
  clear hv hl0
  go_enter Try.func8, Try.ntmps8
  have x0 := HX.out.cell 0
  have x1 := HX.out.cell 1
  simp only [List.getElem?_toArray, List.getElem?_cons_zero, List.getElem?_cons_succ] at x0 x1
  go_wp2_with fail
  refine (PU.out _ _ HV.out).mono ?_; rintro e w2 ⟨vo, vf, rfl, ro, rf, b2⟩
  have HV := Lib.hid (HV.out.kept b2)
  have HX := Lib.hid (HX.out.kept1 b2)
  have HB := Lib.hid (bnext HB.out b2)
  obtain ⟨ado2, cpo2, hso, -⟩ := shape_of ro
  have hso : vo = .slice ado2 0 cpo2 := hso
  subst hso
  obtain ⟨adf2, cpf2, hsf, -⟩ := shape_of rf
  have hsf : vf = .slice adf2 0 cpf2 := hsf
  subst hsf
  clear b2 ro rf x0 x1
  have x0 := HX.out.cell 0
  have x1 := HX.out.cell 1
  simp only [List.getElem?_toArray, List.getElem?_cons_zero, List.getElem?_cons_succ] at x0 x1
  go_wp2_with fail
  refine (CU.out _ _ HV.out).mono ?_; rintro e w3 ⟨vo, vf, rfl, ro, rf, b3⟩
  have HV := Lib.hid (HV.out.kept b3)
  have HX := Lib.hid (HX.out.kept1 b3)
  have HB := Lib.hid (bnext HB.out b3)
  obtain ⟨ado3, cpo3, hso, -⟩ := shape_of ro
  have hso : vo = .slice ado3 0 cpo3 := hso
  subst hso
  obtain ⟨adf3, cpf3, hsf, -⟩ := shape_of rf
  have hsf : vf = .slice adf3 0 cpf3 := hsf
  subst hsf
  clear b3 ro rf x0 x1
  have x0 := HX.out.cell 0
  have x1 := HX.out.cell 1
  simp only [List.getElem?_toArray, List.getElem?_cons_zero, List.getElem?_cons_succ] at x0 x1
  go_wp2_with fail
  refine (CL.out _ _ HV.out).mono ?_; rintro e w4 ⟨rfl, b4⟩
  have HV := Lib.hid (HV.out.kept b4)
  have HX := Lib.hid (HX.out.kept1 b4)
  have HB := Lib.hid (bnext HB.out b4)
  clear b4 x0 x1
  have x0 := HX.out.cell 0
  have x1 := HX.out.cell 1
  simp only [List.getElem?_toArray, List.getElem?_cons_zero, List.getElem?_cons_succ] at x0 x1
  go_wp2_with fail
  refine (AL.out _).mono ?_; rintro e w5 ⟨rfl, b5⟩
  have HV := Lib.hid (HV.out.kept b5)
  have HX := Lib.hid (HX.out.kept1 b5)
  have HB := Lib.hid (bnext HB.out b5)
  clear b5 x0 x1
  go_wp2
  go_ret
  exact ⟨rfl, HB.out⟩
set_option maxRecDepth 100000 in
set_option maxHeartbeats 8000000 in
theorem tgone_r1 (l : List Ent) (hf : fitE l) (a n : Int) (ha : I64 a) (hn : I64 n) (p : Int) (hp : I64 p) (v : Value) (w : World) (hv : EntsIn v l w) (hl : l.length ≤ 200) (h1 : RowOk true l) (h0 : 0 ≤ a) (hpu : ¬ PunOk l a n) (q1 : a ≤ p) :
    Calls Try.prog 8 #[v, .agg #[.int .i64 a, .int .i64 n], .int .i64 p] w fun e w' => e = .returned (.bool true) ∧ Below w.heap.size w w' := by
  have mixed : Try.prog.follows .mixedOrders = true := by kernel_rfl
  have hl0 := hl_of hv
  have HB := Lib.hid (balloc1 w (.cells #[.int .i64 a, .int .i64 n] 49))
  have dl : decide ((200 : Int) < (l.length : Int)) = false := decide_eq_false (by omega)
  have AL := Lib.hid talive_any
  have PU := fun v w hv => xpunch_any l hf (by omega) a n ha hn v w hv
  have CU := fun v w hv => xcut_any l hf (by omega) a ha v w hv
  have HV := Lib.hid (hv.kept (balloc1 w (.cells #[.int .i64 a, .int .i64 n] 49)))
  have HX := Lib.hid (Blk.new #[.int .i64 a, .int .i64 n] 49 w)
  have hr := (row_rise l).1 h1
  have hcu := cut_yes (l := l) (f := a) ⟨h1, h0⟩
  rw [hcu.1, hcu.2.1, hcu.2.2] at CU
  obtain ⟨k1, k2⟩ := lowC_ok (f := a) h0
  have curise : Rise 0 (cutX l a) := punch_rise hr k1 k2
  have culen : (cutX l a).length ≤ 401 := by have := change_len l (lowC a) 2048 []; simp only [List.length_nil] at this; unfold cutX; omega
  have cumap := cut_map hr h0 (f := a)
  have cusub : ∀ p i, mapX (cutX l a) p = some i → mapX l p = some i := fun p i h => by
    rw [cumap] at h
    by_cases c : a ≤ p
    · rw [if_pos c] at h; cases h
    · rw [if_neg c] at h; exact h
  have cuL : (cutX l a).length ≤ 401 := culen
  have hfo : fitE (cutX l a) := ok_fit fun e he => (curise.mem e he).1
  have hro : RowOk true (cutX l a) := (row_rise _).2 curise
  have F := fun v w hv => xfind_any (cutX l a) hfo (by omega) p hp v w hv
  have CO := fun v w hv => xcheck_any (cutX l a) hfo v w hv
  rw [decide_eq_true hro] at CO
  have BO := fun v w hv => xblocks_any (cutX l a) hfo (by omega) v w hv
  unfold blocksV at BO
  rw [if_pos hro] at BO
  have hbo := blocks_len (l := cutX l a) (by omega)
  have hfl := freed_len l (cutX l a)
  have UO := fun va vb W ha hb => union_any (blocksX (cutX l a)) (freedX l (cutX l a)) (fit_norm _) (fit_freed _ _) (by omega) va vb W ha hb
  rw [less_union hr curise cusub] at UO
  have UO := Lib.hid UO
  have BO := Lib.hid BO
  have CO := Lib.hid CO
  have F2 := fun v w hv => xfind_any l hf (by omega) p hp v w hv
  have BL := fun v w hv => xblocks_any l hf (by omega) v w hv
  unfold blocksV at BL
  rw [if_pos h1] at BL
  have EO := fun v w hv => xendl_any (cutX l a) hfo (by omega) v w hv
  have EL := fun v w hv => xendl_any l hf (by omega) v w hv
  unfold endV at EO EL
  rw [if_pos hro] at EO
  rw [if_pos h1] at EL
  have hce : endX (cutX l a) ≤ min (endX l) a := cut_end' hr h0
  have SR := Lib.hid same_yes
  have EO := Lib.hid EO
  have EL := Lib.hid EL
  have BL := Lib.hid BL
  unfold foundV at F F2
  have hq : fP (cutX l a) p = 0 ∧ fB (cutX l a) p = false := by rw [(f_map hro p).1, (f_map hro p).2, cumap, if_pos q1]; exact ⟨rfl, rfl⟩
  rw [hq.1, hq.2] at F
  have hpn := pun_no hpu
  rw [hpn.1, hpn.2.1, hpn.2.2] at PU
  have F := Lib.hid F
  have F2 := Lib.hid F2
  have PU := Lib.hid PU
  have CU := Lib.hid CU
  have d1 : decide (a ≤ p) = true := decide_eq_true q1
  have i1 : (if a < endX l then a else endX l) = min (endX l) a := by split <;> omega
  have i2 : (if endX l < a then endX l else a) = min (endX l) a := by split <;> omega
  obtain ⟨mn, hmn⟩ : ∃ mn, min (endX l) a = mn := ⟨_, rfl⟩
  rw [hmn] at i1 i2 hce
  generalize endX (cutX l a) = ec at *
  generalize endX l = el at *
  have dle : decide (ec ≤ mn) = true := decide_eq_true hce
  clear hpn
  generalize fL (cutX l a) p = lc at *
  generalize freedX l (cutX l a) = FC at *
  generalize blocksX (cutX l a) = BC at *
  clear hcu cumap curise culen cusub hq hfo hro hbo hfl cuL k1 k2 hce
  generalize cutX l a = OC at *
  generalize fP l p = pl at *
  generalize fL l p = ll at *
  generalize fB l p = bl at *
  generalize blocksX l = BLl at *
  have n1 : (pl == pl) = true := by simp
  have n2 : (bl == bl) = true := by simp
  have n3 : (pl != pl) = false := by simp
  have n4 : (bl != bl) = false := by simp
  obtain ⟨hp1, hp2⟩ := hp
  obtain ⟨ha1, ha2⟩ := ha
  obtain ⟨hn1, hn2⟩ := hn
  clear hr h1 hpu hf hl
  obtain ⟨ad, cap, rfl, -⟩ := entsIn_cells hv
  clear hv hl0
  go_enter Try.func8, Try.ntmps8
  have x0 := HX.out.cell 0
  have x1 := HX.out.cell 1
  simp only [List.getElem?_toArray, List.getElem?_cons_zero, List.getElem?_cons_succ] at x0 x1
  go_wp2_with fail
  refine (PU.out _ _ HV.out).mono ?_; rintro e w2 ⟨vo, vf, rfl, ro, rf, b2⟩
  have HV := Lib.hid (HV.out.kept b2)
  have HX := Lib.hid (HX.out.kept1 b2)
  have HB := Lib.hid (bnext HB.out b2)
  obtain ⟨ado2, cpo2, hso, -⟩ := shape_of ro
  have hso : vo = .slice ado2 0 cpo2 := hso
  subst hso
  obtain ⟨adf2, cpf2, hsf, -⟩ := shape_of rf
  have hsf : vf = .slice adf2 0 cpf2 := hsf
  subst hsf
  clear b2 ro rf PU x0 x1
  have x0 := HX.out.cell 0
  have x1 := HX.out.cell 1
  simp only [List.getElem?_toArray, List.getElem?_cons_zero, List.getElem?_cons_succ] at x0 x1
  go_wp2_with fail
  refine (CU.out _ _ HV.out).mono ?_; rintro e w3 ⟨vo, vf, rfl, ro, rf, b3⟩
  have HV := Lib.hid (HV.out.kept b3)
  have HX := Lib.hid (HX.out.kept1 b3)
  have HB := Lib.hid (bnext HB.out b3)
  obtain ⟨ado3, cpo3, hso, -⟩ := shape_of ro
  subst hso
  obtain ⟨adf3, cpf3, hsf, -⟩ := shape_of rf
  subst hsf
  have HO := Lib.hid (rowE_in ro)
  have HF := Lib.hid (runsAt_in rf)
  clear b3 ro rf CU x0 x1
  have x0 := HX.out.cell 0
  have x1 := HX.out.cell 1
  simp only [List.getElem?_toArray, List.getElem?_cons_zero, List.getElem?_cons_succ] at x0 x1
  go_wp2_with fail
  refine (F.out _ _ HO.out).mono ?_; rintro e w4 ⟨rfl, b4⟩
  have HV := Lib.hid (HV.out.kept b4)
  have HX := Lib.hid (HX.out.kept1 b4)
  have HO := Lib.hid (HO.out.kept b4)
  have HF := Lib.hid (runsIn_kept HF.out b4)
  have HB := Lib.hid (bnext HB.out b4)
  clear b4 F x0 x1
  have x0 := HX.out.cell 0
  have x1 := HX.out.cell 1
  simp only [List.getElem?_toArray, List.getElem?_cons_zero, List.getElem?_cons_succ] at x0 x1
  go_wp2_with fail
  refine (F2.out _ _ HV.out).mono ?_; rintro e w5 ⟨rfl, b5⟩
  have HV := Lib.hid (HV.out.kept b5)
  have HX := Lib.hid (HX.out.kept1 b5)
  have HO := Lib.hid (HO.out.kept b5)
  have HF := Lib.hid (runsIn_kept HF.out b5)
  have HB := Lib.hid (bnext HB.out b5)
  clear b5 F2 x0 x1
  have x0 := HX.out.cell 0
  have x1 := HX.out.cell 1
  simp only [List.getElem?_toArray, List.getElem?_cons_zero, List.getElem?_cons_succ] at x0 x1
  go_wp2
  clear x0 x1
  have HK : Hid (∀ W, Below w5.heap.size w5 W → W.cell? ⟨w.heap.size, 0, none⟩ = some (.int .i64 a) ∧ W.cell? ⟨w.heap.size, 1, none⟩ = some (.int .i64 n)) := Lib.hid fun W b => ⟨(HX.out.kept1 b).cell 0, (HX.out.kept1 b).cell 1⟩
  have hqd : Below w5.heap.size w5 w5.drew := (Below.refl _ _).drew
  have HV := Lib.hid (HV.out.kept hqd)
  have HO := Lib.hid (HO.out.kept hqd)
  have HF := Lib.hid (runsIn_kept HF.out hqd)
  have HX := Lib.hid (HX.out.kept1 hqd)
  refine wp_region_held_drew (S := fun w9 => w9.cell? ⟨w.heap.size, 0, none⟩ = some (.int .i64 a) ∧ w9.cell? ⟨w.heap.size, 1, none⟩ = some (.int .i64 n)) mixed (HK.out _ hqd) (fun hHeld => ?_)
  generalize w5.drew = wd at *
  refine wpAnyH_take (i := 0) (oi := _) (v := ?vtg1) rfl (by kernel_rfl) (by kernel_rfl) (by kernel_rfl) (fun _ _ _ h => h) (Or.inl ⟨by kernel_rfl, ?hytg1⟩) hHeld ?resttg1
  case hytg1 => (intro w9 hSw; clear hSw; go_simp; try with_reducible rfl)
  try simp only [Act.put, List.getElem_toArray, List.getElem_cons_zero, List.getElem_cons_succ, List.setIfInBounds_toArray, List.set_cons_zero, List.set_cons_succ]
  refine wpAnyH_take (i := 1) (oi := _) (v := ?vtg2) rfl (by kernel_rfl) (by kernel_rfl) (by kernel_rfl) (fun _ _ _ h => h) (Or.inl ⟨by kernel_rfl, ?hytg2⟩) hHeld ?resttg2
  case hytg2 => (intro w9 hSw; clear hSw; go_simp; try with_reducible rfl)
  try simp only [Act.put, List.getElem_toArray, List.getElem_cons_zero, List.getElem_cons_succ, List.setIfInBounds_toArray, List.set_cons_zero, List.set_cons_succ]
  refine wpAnyH_take (i := 2) (oi := _) (v := ?vtg3) rfl (by kernel_rfl) (by kernel_rfl) (by kernel_rfl) (fun _ _ _ h => h) (Or.inl ⟨by kernel_rfl, ?hytg3⟩) hHeld ?resttg3
  case hytg3 => (intro w9 hSw; clear hSw; go_simp; try with_reducible rfl)
  try simp only [Act.put, List.getElem_toArray, List.getElem_cons_zero, List.getElem_cons_succ, List.setIfInBounds_toArray, List.set_cons_zero, List.set_cons_succ]
  refine wpAnyH_take (i := 3) (oi := _) (v := ?vtg4) rfl (by kernel_rfl) (by kernel_rfl) (by kernel_rfl) (fun _ _ _ h => h) (Or.inl ⟨by kernel_rfl, ?hytg4⟩) hHeld ?resttg4
  case hytg4 => (intro w9 hSw; clear hSw; go_simp; try with_reducible rfl)
  try simp only [Act.put, List.getElem_toArray, List.getElem_cons_zero, List.getElem_cons_succ, List.setIfInBounds_toArray, List.set_cons_zero, List.set_cons_succ]
  refine wpAnyH_take (i := 4) (oi := _) (v := ?vtg5) rfl (by kernel_rfl) (by kernel_rfl) (by kernel_rfl) (fun _ _ _ h => h) (Or.inl ⟨by kernel_rfl, ?hytg5⟩) hHeld ?resttg5
  case hytg5 => (intro w9 hSw; clear hSw; go_simp; try with_reducible rfl)
  try simp only [Act.put, List.getElem_toArray, List.getElem_cons_zero, List.getElem_cons_succ, List.setIfInBounds_toArray, List.set_cons_zero, List.set_cons_succ]
  refine wpAnyH_take (i := 5) (oi := _) (v := ?vtg6) rfl (by kernel_rfl) (by kernel_rfl) (by kernel_rfl) (fun _ _ _ h => h) (Or.inl ⟨by kernel_rfl, ?hytg6⟩) hHeld ?resttg6
  case hytg6 => (intro w9 hSw; clear hSw; go_simp; try with_reducible rfl)
  try simp only [Act.put, List.getElem_toArray, List.getElem_cons_zero, List.getElem_cons_succ, List.setIfInBounds_toArray, List.set_cons_zero, List.set_cons_succ]
  refine wpAnyH_take (i := 6) (oi := _) (v := ?vtg7) rfl (by kernel_rfl) (by kernel_rfl) (by kernel_rfl) (fun _ _ _ h => h) (Or.inl ⟨by kernel_rfl, ?hytg7⟩) hHeld ?resttg7
  case hytg7 => (intro w9 hSw; clear hSw; go_simp; try with_reducible rfl)
  try simp only [Act.put, List.getElem_toArray, List.getElem_cons_zero, List.getElem_cons_succ, List.setIfInBounds_toArray, List.set_cons_zero, List.set_cons_succ]
  refine wpAnyH_take (i := 7) (oi := _) (v := ?vtg8) rfl (by kernel_rfl) (by kernel_rfl) (by kernel_rfl) (fun _ _ _ h => h) (Or.inl ⟨by kernel_rfl, ?hytg8⟩) hHeld ?resttg8
  case hytg8 => (intro w9 hSw; clear hSw; go_simp; try with_reducible rfl)
  try simp only [Act.put, List.getElem_toArray, List.getElem_cons_zero, List.getElem_cons_succ, List.setIfInBounds_toArray, List.set_cons_zero, List.set_cons_succ]
  refine wpAnyH_take (i := 8) (oi := _) (v := ?vtg9) rfl (by kernel_rfl) (by kernel_rfl) (by kernel_rfl) (fun _ _ _ h => h) (Or.inl ⟨by kernel_rfl, ?hytg9⟩) hHeld ?resttg9
  case hytg9 => (intro w9 hSw; clear hSw; go_simp; try with_reducible rfl)
  try simp only [Act.put, List.getElem_toArray, List.getElem_cons_zero, List.getElem_cons_succ, List.setIfInBounds_toArray, List.set_cons_zero, List.set_cons_succ]
  refine wpAnyH_take (i := 9) (oi := _) (v := ?vtg10) rfl (by kernel_rfl) (by kernel_rfl) (by kernel_rfl) (fun _ _ _ h => h) (Or.inl ⟨by kernel_rfl, ?hytg10⟩) hHeld ?resttg10
  case hytg10 => (intro w9 hSw; clear hSw; go_simp; try with_reducible rfl)
  try simp only [Act.put, List.getElem_toArray, List.getElem_cons_zero, List.getElem_cons_succ, List.setIfInBounds_toArray, List.set_cons_zero, List.set_cons_succ]
  refine wpAnyH_take (i := 11) (oi := _) (v := ?vtg11) rfl (by kernel_rfl) (by kernel_rfl) (by kernel_rfl) (fun _ _ _ h => h) (Or.inl ⟨by kernel_rfl, ?hytg11⟩) hHeld ?resttg11
  case hytg11 => (intro w9 hSw; clear hSw; go_simp; try with_reducible rfl)
  try simp only [Act.put, List.getElem_toArray, List.getElem_cons_zero, List.getElem_cons_succ, List.setIfInBounds_toArray, List.set_cons_zero, List.set_cons_succ]
  refine wpAnyH_take (i := 13) (oi := _) (v := ?vtg12) rfl (by kernel_rfl) (by kernel_rfl) (by kernel_rfl) (fun _ _ _ h => h) (Or.inl ⟨by kernel_rfl, ?hytg12⟩) hHeld ?resttg12
  case hytg12 => (intro w9 hSw; clear hSw; go_simp; try with_reducible rfl)
  try simp only [Act.put, List.getElem_toArray, List.getElem_cons_zero, List.getElem_cons_succ, List.setIfInBounds_toArray, List.set_cons_zero, List.set_cons_succ]
  refine wpAnyH_take (i := 14) (oi := _) (v := ?vtg13) rfl (by kernel_rfl) (by kernel_rfl) (by kernel_rfl) (fun _ _ _ h => h) (Or.inl ⟨by kernel_rfl, ?hytg13⟩) hHeld ?resttg13
  case hytg13 => (intro w9 hSw; obtain ⟨e9, f9⟩ := hSw; go_simp; try with_reducible rfl)
  try simp only [Act.put, List.getElem_toArray, List.getElem_cons_zero, List.getElem_cons_succ, List.setIfInBounds_toArray, List.set_cons_zero, List.set_cons_succ]
  refine wpAnyH_ready (rs := [10]) (by kernel_rfl) (by simp) ?_
  refine AllReadyH.cons (o := _) rfl (fun K hK => ?_) ?_
  · go_simp
    refine (EO.out _ _ HO.out).mono ?_; rintro e w14 ⟨rfl, b14⟩
    dsimp only
    have q14 := bnext hqd b14
    have HV := Lib.hid (HV.out.kept b14)
    have HO := Lib.hid (HO.out.kept b14)
    have HF := Lib.hid (runsIn_kept HF.out b14)
    have HX := Lib.hid (HX.out.kept1 b14)
    refine hK.out _ _ (HK.out _ q14) (fun hHeld3 => ?_)
    clear hK K hHeld
    have hHeld := hHeld3
    clear hHeld3
    try simp only [Act.put, List.getElem_toArray, List.getElem_cons_zero, List.getElem_cons_succ, List.setIfInBounds_toArray, List.set_cons_zero, List.set_cons_succ]
    refine wpAnyH_ready (rs := [12]) (by kernel_rfl) (by simp) ?_
    refine AllReadyH.cons (o := _) rfl (fun K hK => ?_) ?_
    · go_simp
      refine (EL.out _ _ HV.out).mono ?_; rintro e w15 ⟨rfl, b15⟩
      dsimp only
      have q15 := bnext q14 b15
      have HV := Lib.hid (HV.out.kept b15)
      have HO := Lib.hid (HO.out.kept b15)
      have HF := Lib.hid (runsIn_kept HF.out b15)
      have HX := Lib.hid (HX.out.kept1 b15)
      refine hK.out _ _ (HK.out _ q15) (fun hHeld3 => ?_)
      clear hK K hHeld
      have hHeld := hHeld3
      clear hHeld3
      try simp only [Act.put, List.getElem_toArray, List.getElem_cons_zero, List.getElem_cons_succ, List.setIfInBounds_toArray, List.set_cons_zero, List.set_cons_succ]
      refine wpAnyH_take (i := 15) (oi := _) (v := ?vtg16) rfl (by kernel_rfl) (by kernel_rfl) (by kernel_rfl) (fun _ _ _ h => h) (Or.inl ⟨by kernel_rfl, ?hytg16⟩) hHeld ?resttg16
      case hytg16 => (intro w9 hSw; clear hSw; go_simp; try with_reducible rfl)
      try simp only [Act.put, List.getElem_toArray, List.getElem_cons_zero, List.getElem_cons_succ, List.setIfInBounds_toArray, List.set_cons_zero, List.set_cons_succ]
      refine wpAnyH_take (i := 16) (oi := _) (v := ?vtg17) rfl (by kernel_rfl) (by kernel_rfl) (by kernel_rfl) (fun _ _ _ h => h) (Or.inl ⟨by kernel_rfl, ?hytg17⟩) hHeld ?resttg17
      case hytg17 => (intro w9 hSw; clear hSw; go_simp; try with_reducible rfl)
      try simp only [Act.put, List.getElem_toArray, List.getElem_cons_zero, List.getElem_cons_succ, List.setIfInBounds_toArray, List.set_cons_zero, List.set_cons_succ]
      refine wpAnyH_take (i := 17) (oi := _) (v := ?vtg18) rfl (by kernel_rfl) (by kernel_rfl) (by kernel_rfl) (fun _ _ _ h => h) (Or.inl ⟨by kernel_rfl, ?hytg18⟩) hHeld ?resttg18
      case hytg18 => (intro w9 hSw; clear hSw; go_simp; try with_reducible rfl)
      try simp only [Act.put, List.getElem_toArray, List.getElem_cons_zero, List.getElem_cons_succ, List.setIfInBounds_toArray, List.set_cons_zero, List.set_cons_succ]
      refine wpAnyH_take (i := 18) (oi := _) (v := ?vtg19) rfl (by kernel_rfl) (by kernel_rfl) (by kernel_rfl) (fun _ _ _ h => h) (Or.inl ⟨by kernel_rfl, ?hytg19⟩) hHeld ?resttg19
      case hytg19 => (intro w9 hSw; clear hSw; go_simp; try with_reducible rfl)
      try simp only [Act.put, List.getElem_toArray, List.getElem_cons_zero, List.getElem_cons_succ, List.setIfInBounds_toArray, List.set_cons_zero, List.set_cons_succ]
      refine wpAnyH_take (i := 19) (oi := _) (v := ?vtg20) rfl (by kernel_rfl) (by kernel_rfl) (by kernel_rfl) (fun _ _ _ h => h) (Or.inl ⟨by kernel_rfl, ?hytg20⟩) hHeld ?resttg20
      case hytg20 => (intro w9 hSw; clear hSw; go_simp; try with_reducible rfl)
      try simp only [Act.put, List.getElem_toArray, List.getElem_cons_zero, List.getElem_cons_succ, List.setIfInBounds_toArray, List.set_cons_zero, List.set_cons_succ]
      refine wpAnyH_ready (rs := [20]) (by kernel_rfl) (by simp) ?_
      refine AllReadyH.cons (o := _) rfl (fun K hK => ?_) ?_
      · go_simp
        refine (CO.out _ _ HO.out).mono ?_; rintro e w21 ⟨rfl, b21⟩
        dsimp only
        have q21 := bnext q15 b21
        have HV := Lib.hid (HV.out.kept b21)
        have HO := Lib.hid (HO.out.kept b21)
        have HF := Lib.hid (runsIn_kept HF.out b21)
        have HX := Lib.hid (HX.out.kept1 b21)
        refine hK.out _ _ (HK.out _ q21) (fun hHeld3 => ?_)
        clear hK K hHeld
        have hHeld := hHeld3
        clear hHeld3
        try simp only [Act.put, List.getElem_toArray, List.getElem_cons_zero, List.getElem_cons_succ, List.setIfInBounds_toArray, List.set_cons_zero, List.set_cons_succ]
        refine wpAnyH_take (i := 21) (oi := _) (v := ?vtg22) rfl (by kernel_rfl) (by kernel_rfl) (by kernel_rfl) (fun _ _ _ h => h) (Or.inl ⟨by kernel_rfl, ?hytg22⟩) hHeld ?resttg22
        case hytg22 => (intro w9 hSw; clear hSw; go_simp; try with_reducible rfl)
        try simp only [Act.put, List.getElem_toArray, List.getElem_cons_zero, List.getElem_cons_succ, List.setIfInBounds_toArray, List.set_cons_zero, List.set_cons_succ]
        refine wpAnyH_take (i := 22) (oi := _) (v := ?vtg23) rfl (by kernel_rfl) (by kernel_rfl) (by kernel_rfl) (fun _ _ _ h => h) (Or.inl ⟨by kernel_rfl, ?hytg23⟩) hHeld ?resttg23
        case hytg23 => (intro w9 hSw; clear hSw; go_simp; try with_reducible rfl)
        try simp only [Act.put, List.getElem_toArray, List.getElem_cons_zero, List.getElem_cons_succ, List.setIfInBounds_toArray, List.set_cons_zero, List.set_cons_succ]
        refine wpAnyH_take (i := 23) (oi := _) (v := ?vtg24) rfl (by kernel_rfl) (by kernel_rfl) (by kernel_rfl) (fun _ _ _ h => h) (Or.inl ⟨by kernel_rfl, ?hytg24⟩) hHeld ?resttg24
        case hytg24 => (intro w9 hSw; clear hSw; go_simp; try with_reducible rfl)
        try simp only [Act.put, List.getElem_toArray, List.getElem_cons_zero, List.getElem_cons_succ, List.setIfInBounds_toArray, List.set_cons_zero, List.set_cons_succ]
        refine wpAnyH_take (i := 25) (oi := _) (v := ?vtg25) rfl (by kernel_rfl) (by kernel_rfl) (by kernel_rfl) (fun _ _ _ h => h) (Or.inl ⟨by kernel_rfl, ?hytg25⟩) hHeld ?resttg25
        case hytg25 => (intro w9 hSw; clear hSw; go_simp; try with_reducible rfl)
        try simp only [Act.put, List.getElem_toArray, List.getElem_cons_zero, List.getElem_cons_succ, List.setIfInBounds_toArray, List.set_cons_zero, List.set_cons_succ]
        refine wpAnyH_take (i := 27) (oi := _) (v := ?vtg26) rfl (by kernel_rfl) (by kernel_rfl) (by kernel_rfl) (fun _ _ _ h => h) (Or.inl ⟨by kernel_rfl, ?hytg26⟩) hHeld ?resttg26
        case hytg26 => (intro w9 hSw; clear hSw; go_simp; try with_reducible rfl)
        try simp only [Act.put, List.getElem_toArray, List.getElem_cons_zero, List.getElem_cons_succ, List.setIfInBounds_toArray, List.set_cons_zero, List.set_cons_succ]
        refine wpAnyH_ready (rs := [24]) (by kernel_rfl) (by simp) ?_
        refine AllReadyH.cons (o := _) rfl (fun K hK => ?_) ?_
        · go_simp
          refine (BO.out _ _ HO.out).mono ?_; rintro e w27 ⟨v27, rfl, r27, b27⟩
          dsimp only
          have q27 := bnext q21 b27
          have HV := Lib.hid (HV.out.kept b27)
          have HO := Lib.hid (HO.out.kept b27)
          have HF := Lib.hid (runsIn_kept HF.out b27)
          have HX := Lib.hid (HX.out.kept1 b27)
          obtain ⟨ad27, cp27, hs27, -⟩ := shape_of r27
          subst hs27
          have HBo := Lib.hid (runsAt_in r27)
          clear r27
          refine hK.out _ _ (HK.out _ q27) (fun hHeld3 => ?_)
          clear hK K hHeld
          have hHeld := hHeld3
          clear hHeld3
          try simp only [Act.put, List.getElem_toArray, List.getElem_cons_zero, List.getElem_cons_succ, List.setIfInBounds_toArray, List.set_cons_zero, List.set_cons_succ]
          refine wpAnyH_ready (rs := [26]) (by kernel_rfl) (by simp) ?_
          refine AllReadyH.cons (o := _) rfl (fun K hK => ?_) ?_
          · go_simp
            refine (UO.out _ _ _ HBo.out HF.out).mono ?_; rintro e w28 ⟨v28, rfl, r28, b28⟩
            dsimp only
            have q28 := bnext q27 b28
            have HV := Lib.hid (HV.out.kept b28)
            have HO := Lib.hid (HO.out.kept b28)
            have HF := Lib.hid (runsIn_kept HF.out b28)
            have HX := Lib.hid (HX.out.kept1 b28)
            have HBo := Lib.hid (runsIn_kept HBo.out b28)
            obtain ⟨ad28, cp28, hs28, -⟩ := shape_of r28
            subst hs28
            have HU := Lib.hid (runsAt_in r28)
            clear r28
            refine hK.out _ _ (HK.out _ q28) (fun hHeld3 => ?_)
            clear hK K hHeld
            have hHeld := hHeld3
            clear hHeld3
            try simp only [Act.put, List.getElem_toArray, List.getElem_cons_zero, List.getElem_cons_succ, List.setIfInBounds_toArray, List.set_cons_zero, List.set_cons_succ]
            refine wpAnyH_ready (rs := [28]) (by kernel_rfl) (by simp) ?_
            refine AllReadyH.cons (o := _) rfl (fun K hK => ?_) ?_
            · go_simp
              refine (BL.out _ _ HV.out).mono ?_; rintro e w29 ⟨v29, rfl, r29, b29⟩
              dsimp only
              have q29 := bnext q28 b29
              have HV := Lib.hid (HV.out.kept b29)
              have HO := Lib.hid (HO.out.kept b29)
              have HF := Lib.hid (runsIn_kept HF.out b29)
              have HX := Lib.hid (HX.out.kept1 b29)
              have HBo := Lib.hid (runsIn_kept HBo.out b29)
              have HU := Lib.hid (runsIn_kept HU.out b29)
              obtain ⟨ad29, cp29, hs29, -⟩ := shape_of r29
              subst hs29
              have HBl := Lib.hid (runsAt_in r29)
              clear r29
              refine hK.out _ _ (HK.out _ q29) (fun hHeld3 => ?_)
              clear hK K hHeld
              have hHeld := hHeld3
              clear hHeld3
              try simp only [Act.put, List.getElem_toArray, List.getElem_cons_zero, List.getElem_cons_succ, List.setIfInBounds_toArray, List.set_cons_zero, List.set_cons_succ]
              refine wpAnyH_ready (rs := [29]) (by kernel_rfl) (by simp) ?_
              refine AllReadyH.cons (o := _) rfl (fun K hK => ?_) ?_
              · go_simp
                refine (SR.out _ _ _ _ HU.out HBl.out).mono ?_; rintro e w30 ⟨rfl, b30⟩
                dsimp only
                have q30 := bnext q29 b30
                have HV := Lib.hid (HV.out.kept b30)
                have HO := Lib.hid (HO.out.kept b30)
                have HF := Lib.hid (runsIn_kept HF.out b30)
                have HX := Lib.hid (HX.out.kept1 b30)
                have HBo := Lib.hid (runsIn_kept HBo.out b30)
                have HU := Lib.hid (runsIn_kept HU.out b30)
                have HBl := Lib.hid (runsIn_kept HBl.out b30)
                refine hK.out _ _ (HK.out _ q30) (fun hHeld3 => ?_)
                clear hK K hHeld
                have hHeld := hHeld3
                clear hHeld3
                try simp only [Act.put, List.getElem_toArray, List.getElem_cons_zero, List.getElem_cons_succ, List.setIfInBounds_toArray, List.set_cons_zero, List.set_cons_succ]
                refine wpAnyH_take (i := 30) (oi := _) (v := ?vtg31) rfl (by kernel_rfl) (by kernel_rfl) (by kernel_rfl) (fun _ _ _ h => h) (Or.inl ⟨by kernel_rfl, ?hytg31⟩) hHeld ?resttg31
                case hytg31 => (intro w9 hSw; clear hSw; go_simp; try with_reducible rfl)
                try simp only [Act.put, List.getElem_toArray, List.getElem_cons_zero, List.getElem_cons_succ, List.setIfInBounds_toArray, List.set_cons_zero, List.set_cons_succ]
                refine wpAnyH_take (i := 31) (oi := _) (v := ?vtg32) rfl (by kernel_rfl) (by kernel_rfl) (by kernel_rfl) (fun _ _ _ h => h) (Or.inl ⟨by kernel_rfl, ?hytg32⟩) hHeld ?resttg32
                case hytg32 => (intro w9 hSw; clear hSw; go_simp; try with_reducible rfl)
                try simp only [Act.put, List.getElem_toArray, List.getElem_cons_zero, List.getElem_cons_succ, List.setIfInBounds_toArray, List.set_cons_zero, List.set_cons_succ]
                refine wpAnyH_ready (rs := [32]) (by kernel_rfl) (by simp) ?_
                refine AllReadyH.cons (o := _) rfl (fun K hK => ?_) ?_
                · go_simp
                  refine (AL.out _).mono ?_; rintro e w33 ⟨rfl, b33⟩
                  dsimp only
                  have q33 := bnext q30 b33
                  have HV := Lib.hid (HV.out.kept b33)
                  have HO := Lib.hid (HO.out.kept b33)
                  have HF := Lib.hid (runsIn_kept HF.out b33)
                  have HX := Lib.hid (HX.out.kept1 b33)
                  have HBo := Lib.hid (runsIn_kept HBo.out b33)
                  have HU := Lib.hid (runsIn_kept HU.out b33)
                  have HBl := Lib.hid (runsIn_kept HBl.out b33)
                  refine hK.out _ _ (HK.out _ q33) (fun hHeld3 => ?_)
                  clear hK K hHeld
                  have hHeld := hHeld3
                  clear hHeld3
                  try simp only [Act.put, List.getElem_toArray, List.getElem_cons_zero, List.getElem_cons_succ, List.setIfInBounds_toArray, List.set_cons_zero, List.set_cons_succ]
                  refine wpAnyH_take (i := 33) (oi := _) (v := ?vtg34) rfl (by kernel_rfl) (by kernel_rfl) (by kernel_rfl) (fun _ _ _ h => h) (Or.inl ⟨by kernel_rfl, ?hytg34⟩) hHeld ?resttg34
                  case hytg34 => (intro w9 hSw; clear hSw; go_simp; try with_reducible rfl)
                  try simp only [Act.put, List.getElem_toArray, List.getElem_cons_zero, List.getElem_cons_succ, List.setIfInBounds_toArray, List.set_cons_zero, List.set_cons_succ]
                  refine wpAnyH_take (i := 34) (oi := _) (v := ?vtg35) rfl (by kernel_rfl) (by kernel_rfl) (by kernel_rfl) (fun _ _ _ h => h) (Or.inl ⟨by kernel_rfl, ?hytg35⟩) hHeld ?resttg35
                  case hytg35 => (intro w9 hSw; clear hSw; go_simp; try with_reducible rfl)
                  try simp only [Act.put, List.getElem_toArray, List.getElem_cons_zero, List.getElem_cons_succ, List.setIfInBounds_toArray, List.set_cons_zero, List.set_cons_succ]
                  refine ⟨by kernel_rfl, ?_⟩
                  clear hHeld
                  have HB := Lib.hid (bnext HB.out q33)
                  go_wp2
                  go_ret
                  exact ⟨rfl, HB.out⟩
                exact AllReadyH.nil
              exact AllReadyH.nil
            exact AllReadyH.nil
          exact AllReadyH.nil
        exact AllReadyH.nil
      exact AllReadyH.nil
    exact AllReadyH.nil
  exact AllReadyH.nil
end Go.Proofs.Ytgcbfiecgiijkaa
