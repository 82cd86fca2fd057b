/- The walk of ExtsPlaces. -/
import Derived.Test.YtgcbfiecgiijkaaTLaw3M
namespace Go.Proofs.Ytgcbfiecgiijkaa
set_option linter.unusedVariables false
set_option linter.unusedSimpArgs false
open Go.RowKit Go.Shelf

set_option maxRecDepth 100000 in
set_option maxHeartbeats 8000000 in
theorem tplaces_lo (l : List Ent) (hf : fitE l) (x : Ent) (hx : I64 x.log ∧ I64 x.phys ∧ I64 x.len) (p : Int) (hp : I64 p) (v : Value) (w : World) (hv : EntsIn v l w) (hl : l.length ≤ 200) (hok : PutOk l x) (c1 : ¬ x.log ≤ p) :
    Calls Try.prog 7 #[v, entV x, .int .i64 p] w fun e w' => e = .returned (.bool true) ∧ Below w.heap.size w w' := by
  have mixed : Try.prog.follows .mixedOrders = true := by kernel_rfl
  have hl0 := hl_of hv
  have HB := Lib.hid (balloc1 w (.cells (entC x) 37))
  have dl : decide ((200 : Int) < (l.length : Int)) = false := decide_eq_false (by omega)
  have AL := Lib.hid talive_any
  have PP := fun v w hv => xput_any l hf (by omega) x hx.2.2 v w hv
  have HV := Lib.hid (hv.kept (balloc1 w (.cells (entC x) 37)))
  have HX := Lib.hid (Blk.new (entC x) 37 w)
  obtain ⟨e1, e2, e3⟩ := put_yes hok
  rw [e1, e2, e3] at PP
  have hr := (row_rise l).1 hok.1
  have hk := (entT x).1 hok.2
  have hpr := put_rise hr hok.2
  have hro : RowOk true (putX l x) := (row_rise _).2 hpr
  have hoL : (putX l x).length ≤ 401 := by have := change_len l x.log (x.log + x.len) [x]; simp only [List.length_singleton] at this; unfold putX; omega
  have hfo : fitE (putX l x) := ok_fit fun e he => (hpr.mem e he).1
  have hmap := put_map hr hok.2 p
  have F1 := fun v w hv => xfind_any (putX l x) hfo (by omega) p hp v w hv
  have F2 := fun v w hv => xfind_any l hf (by omega) p hp v w hv
  have HIN : inE x p → fP (putX l x) p = x.phys + p - x.log ∧ fB (putX l x) p = true := fun h => by
    rw [(f_map hro p).1, (f_map hro p).2, hmap, if_pos h]; exact ⟨rfl, rfl⟩
  have HOUT : ¬ inE x p → fP (putX l x) p = fP l p ∧ fB (putX l x) p = fB l p := fun h => f_same hro hok.1 (by rw [hmap, if_neg h])
  have CO := fun v w hv => xcheck_any (putX l x) hfo v w hv
  rw [decide_eq_true hro] at CO
  have BO := fun v w hv => xblocks_any (putX l x) hfo (by omega) v w hv
  have BL := fun v w hv => xblocks_any l hf (by omega) v w hv
  unfold blocksV at BO BL
  rw [if_pos hro] at BO
  rw [if_pos hok.1] at BL
  have EO := fun v w hv => xendl_any (putX l x) hfo (by omega) v w hv
  have EL := fun v w hv => xendl_any l hf (by omega) v w hv
  unfold endV at EO EL
  rw [if_pos hro] at EO
  rw [if_pos hok.1] at EL
  have hpe := put_end hr hok.2
  have i1 : (if endX l < x.log + x.len then x.log + x.len else endX l) = endX (putX l x) := by rw [hpe]; split <;> omega
  have i2 : max (endX l) (x.log + x.len) = endX (putX l x) := hpe.symm
  have hbl := blocks_len (l := l) (by omega)
  have hbo := blocks_len (l := putX l x) (by omega)
  have hfl := freed_len l (putX l x)
  have hff := fit_freed l (putX l x)
  have UW := fun va vb W ha hb => union_any (blocksX l) [(x.phys, x.len)] (fit_norm _) (fun r hr => by simp at hr; subst hr; exact ⟨⟨by omega, by omega⟩, by omega, by omega⟩) (by simp; omega) va vb W ha hb
  have UO := fun va vb W ha hb => union_any (blocksX (putX l x)) (freedX l (putX l x)) (fit_norm _) hff (by omega) va vb W ha hb
  have hun := put_union hr hok.2
  rw [hun] at UO
  have ME : Hid (∀ va vb W, RunsIn va (blocksX (putX l x)) W → RunsIn vb (freedX l (putX l x)) W → Calls Try.prog 33 #[va, vb] W fun e w' => ∃ ad cp, e = .returned (.slice ad 0 cp) ∧ Below W.heap.size W w') := Lib.hid fun va vb W ha hb => by
    have := meet_any (blocksX (putX l x)) (freedX l (putX l x)) (fit_norm _) hff (by omega) va vb W ha hb
    rw [meet_freed] at this
    refine this.mono fun e w' ⟨v', he, hr, hb⟩ => ?_
    obtain ⟨ad, cp, hs, -⟩ := shape_of hr
    exact ⟨ad, cp, by rw [he, hs]; rfl, hb⟩
  have SR := Lib.hid same_yes
  have PP := Lib.hid PP
  have CO := Lib.hid CO
  have BO := Lib.hid BO
  have BL := Lib.hid BL
  have EO := Lib.hid EO
  have EL := Lib.hid EL
  have UW := Lib.hid UW
  have UO := Lib.hid UO
  have hsum : IntKind.i64.wrap (x.log + x.len) = x.log + x.len := IntWalk.i64_in _ (by omega)
  have hxb : (0 ≤ x.log ∧ x.log + x.len ≤ 2048 ∧ 1 ≤ x.len) ∧ (1 ≤ x.phys ∧ x.phys + x.len ≤ 4096) := by omega
  unfold foundV at F1 F2
  have hel := endX_pos hr
  obtain ⟨hp1, hp2⟩ := hp
  generalize unionR (blocksX l) [(x.phys, x.len)] = WAS at *
  generalize endX (putX l x) = eo at *
  generalize endX l = el at *
  generalize freedX l (putX l x) = FR at *
  generalize blocksX (putX l x) = BOl at *
  generalize blocksX l = BLl at *
  have hin : ¬ inE x p := fun h => c1 h.1
  have d1 : decide (x.log ≤ p) = false := decide_eq_false c1
  obtain ⟨q1, q2⟩ := HOUT hin
  rw [q1, q2] at F1
  have F1 := Lib.hid F1
  have F2 := Lib.hid F2
  generalize fP l p = pl at *
  generalize fL l p = ll at *
  generalize fB l p = bl at *
  generalize fL (putX l x) p = lo at *
  generalize putX l x = O at *
  have nq : (pl == pl) = true := by simp
  have nb : (bl == bl) = true := by simp
  clear hok e1 e2 e3 hr hk hpr hro hoL hfo hmap HIN HOUT hpe hbl hbo hfl hff hun hin q1 q2 hl hf
  obtain ⟨ad, cap, rfl, -⟩ := entsIn_cells hv
  obtain ⟨xa, xp, xz⟩ := x
  try dsimp only at *
  clear hv hl0
  go_enter Try.func7, Try.ntmps7
  have x0 := HX.out.cell 0
  have x1 := HX.out.cell 1
  have x2 := HX.out.cell 2
  simp only [List.getElem?_toArray, List.getElem?_cons_zero, List.getElem?_cons_succ] at x0 x1 x2
  go_wp2_with fail
  refine (PP.out _ _ HV.out).mono ?_; rintro e w2 ⟨vo, vf, rfl, ro, rf, b2⟩
  have HV := Lib.hid (HV.out.kept b2)
  have HX := Lib.hid (HX.out.kept1 b2)
  have HB := Lib.hid (bnext HB.out b2)
  obtain ⟨ado, cpo, hso, -⟩ := shape_of ro
  subst hso
  obtain ⟨adf, cpf, hsf, -⟩ := shape_of rf
  subst hsf
  have HO := Lib.hid (rowE_in ro)
  have HF := Lib.hid (runsAt_in rf)
  clear b2 ro rf x0 x1 x2
  go_wp2_with fail
  refine (F1.out _ _ HO.out).mono ?_; rintro e w3 ⟨rfl, b3⟩
  have HV := Lib.hid (HV.out.kept b3)
  have HX := Lib.hid (HX.out.kept1 b3)
  have HO := Lib.hid (HO.out.kept b3)
  have HF := Lib.hid (runsIn_kept HF.out b3)
  have HB := Lib.hid (bnext HB.out b3)
  clear b3
  go_wp2_with fail
  refine (F2.out _ _ HV.out).mono ?_; rintro e w4 ⟨rfl, b4⟩
  have HV := Lib.hid (HV.out.kept b4)
  have HX := Lib.hid (HX.out.kept1 b4)
  have HO := Lib.hid (HO.out.kept b4)
  have HF := Lib.hid (runsIn_kept HF.out b4)
  have HB := Lib.hid (bnext HB.out b4)
  clear b4
  have x0 := HX.out.cell 0
  have x1 := HX.out.cell 1
  have x2 := HX.out.cell 2
  simp only [List.getElem?_toArray, List.getElem?_cons_zero, List.getElem?_cons_succ] at x0 x1 x2
  clear PP F1 F2
  go_wp2
  clear x0 x1 x2
  have HK : Hid (∀ W, Below w4.heap.size w4 W → W.cell? ⟨w.heap.size, 0, none⟩ = some (.int .i64 xa) ∧ W.cell? ⟨w.heap.size, 1, none⟩ = some (.int .i64 xp) ∧ W.cell? ⟨w.heap.size, 2, none⟩ = some (.int .i64 xz)) := Lib.hid fun W b => ⟨(HX.out.kept1 b).cell 0, (HX.out.kept1 b).cell 1, (HX.out.kept1 b).cell 2⟩
  have hqd : Below w4.heap.size w4 w4.drew := (Below.refl _ _).drew
  have HV := Lib.hid (HV.out.kept hqd)
  have HO := Lib.hid (HO.out.kept hqd)
  have HF := Lib.hid (runsIn_kept HF.out hqd)
  have HX := Lib.hid (HX.out.kept1 hqd)
  refine wp_region_held_drew (S := fun w9 => w9.cell? ⟨w.heap.size, 0, none⟩ = some (.int .i64 xa) ∧ w9.cell? ⟨w.heap.size, 1, none⟩ = some (.int .i64 xp) ∧ w9.cell? ⟨w.heap.size, 2, none⟩ = some (.int .i64 xz)) mixed (HK.out _ hqd) (fun hHeld => ?_)
  generalize w4.drew = wd at *
  refine wpAnyH_take (i := 0) (oi := _) (v := ?vtl1) rfl (by kernel_rfl) (by kernel_rfl) (by kernel_rfl) (fun _ _ _ h => h) (Or.inl ⟨by kernel_rfl, ?hytl1⟩) hHeld ?resttl1
  case hytl1 => (intro w9 hSw; clear hSw; go_simp; try with_reducible rfl)
  try simp only [Act.put, List.getElem_toArray, List.getElem_cons_zero, List.getElem_cons_succ, List.setIfInBounds_toArray, List.set_cons_zero, List.set_cons_succ]
  refine wpAnyH_take (i := 2) (oi := _) (v := ?vtl2) rfl (by kernel_rfl) (by kernel_rfl) (by kernel_rfl) (fun _ _ _ h => h) (Or.inl ⟨by kernel_rfl, ?hytl2⟩) hHeld ?resttl2
  case hytl2 => (intro w9 hSw; clear hSw; go_simp; try with_reducible rfl)
  try simp only [Act.put, List.getElem_toArray, List.getElem_cons_zero, List.getElem_cons_succ, List.setIfInBounds_toArray, List.set_cons_zero, List.set_cons_succ]
  refine wpAnyH_take (i := 3) (oi := _) (v := ?vtl3) rfl (by kernel_rfl) (by kernel_rfl) (by kernel_rfl) (fun _ _ _ h => h) (Or.inl ⟨by kernel_rfl, ?hytl3⟩) hHeld ?resttl3
  case hytl3 => (intro w9 hSw; obtain ⟨e9, f9, g9⟩ := hSw; go_simp; try with_reducible rfl)
  try simp only [Act.put, List.getElem_toArray, List.getElem_cons_zero, List.getElem_cons_succ, List.setIfInBounds_toArray, List.set_cons_zero, List.set_cons_succ]
  refine wpAnyH_take (i := 4) (oi := _) (v := ?vtl4) rfl (by kernel_rfl) (by kernel_rfl) (by kernel_rfl) (fun _ _ _ h => h) (Or.inl ⟨by kernel_rfl, ?hytl4⟩) hHeld ?resttl4
  case hytl4 => (intro w9 hSw; clear hSw; go_simp; try with_reducible rfl)
  try simp only [Act.put, List.getElem_toArray, List.getElem_cons_zero, List.getElem_cons_succ, List.setIfInBounds_toArray, List.set_cons_zero, List.set_cons_succ]
  refine wpAnyH_take (i := 5) (oi := _) (v := ?vtl5) rfl (by kernel_rfl) (by kernel_rfl) (by kernel_rfl) (fun _ _ _ h => h) (Or.inl ⟨by kernel_rfl, ?hytl5⟩) hHeld ?resttl5
  case hytl5 => (intro w9 hSw; obtain ⟨e9, f9, g9⟩ := hSw; go_simp; try with_reducible rfl)
  try simp only [Act.put, List.getElem_toArray, List.getElem_cons_zero, List.getElem_cons_succ, List.setIfInBounds_toArray, List.set_cons_zero, List.set_cons_succ]
  refine wpAnyH_take (i := 6) (oi := _) (v := ?vtl6) rfl (by kernel_rfl) (by kernel_rfl) (by kernel_rfl) (fun _ _ _ h => h) (Or.inl ⟨by kernel_rfl, ?hytl6⟩) hHeld ?resttl6
  case hytl6 => (intro w9 hSw; clear hSw; go_simp; try with_reducible rfl)
  try simp only [Act.put, List.getElem_toArray, List.getElem_cons_zero, List.getElem_cons_succ, List.setIfInBounds_toArray, List.set_cons_zero, List.set_cons_succ]
  refine wpAnyH_ready (rs := [1, 7]) (by kernel_rfl) (by simp) ?_
  refine AllReadyH.cons (o := _) rfl (fun K hK => ?_) ?_
  · go_simp
    refine (BL.out _ _ HV.out).mono ?_; rintro e w7 ⟨v7, rfl, r7, b7⟩
    dsimp only
    have q7 := bnext hqd b7
    have HV := Lib.hid (HV.out.kept b7)
    have HO := Lib.hid (HO.out.kept b7)
    have HF := Lib.hid (runsIn_kept HF.out b7)
    have HX := Lib.hid (HX.out.kept1 b7)
    obtain ⟨ad7, cp7, hs7, -⟩ := shape_of r7
    subst hs7
    have HBL := Lib.hid (runsAt_in r7)
    clear r7
    refine hK.out _ _ (HK.out _ q7) (fun hHeld3 => ?_)
    clear hK K hHeld
    have hHeld := hHeld3
    clear hHeld3
    try simp only [Act.put, List.getElem_toArray, List.getElem_cons_zero, List.getElem_cons_succ, List.setIfInBounds_toArray, List.set_cons_zero, List.set_cons_succ]
    refine wpAnyH_ready (rs := [7]) (by kernel_rfl) (by simp) ?_
    refine AllReadyH.cons (o := _) rfl (fun K hK => ?_) ?_
    · obtain ⟨w8, hw8⟩ : ∃ w9, w7.alloc (.cells #[.int .i64 xp, .int .i64 xz] 32) = w9 := ⟨_, rfl⟩
      have b8 : Below w7.heap.size w7 w8 := by rw [← hw8]; exact balloc1 _ _
      have q8 := bnext q7 b8
      have hz8 : w8.heap.size = w7.heap.size + 1 := by rw [← hw8]; exact size_alloc _ _
      have hB8 : Blk w7.heap.size #[.int .i64 xp, .int .i64 xz] 32 w8 := by rw [← hw8]; exact Blk.new _ _ _
      have HV := Lib.hid (HV.out.kept b8)
      have HO := Lib.hid (HO.out.kept b8)
      have HF := Lib.hid (runsIn_kept HF.out b8)
      have HX := Lib.hid (HX.out.kept1 b8)
      have HBL := Lib.hid (runsIn_kept HBL.out b8)
      have HN := Lib.hid hB8
      have HZ8 := Lib.hid hz8
      have HW8 := Lib.hid hw8
      clear hB8 hz8 hw8
      go_simp
      try rw [HW8.out]
      refine hK.out _ _ (HK.out _ q8) (fun hHeld3 => ?_)
      clear hK K hHeld
      have hHeld := hHeld3
      clear hHeld3
      try simp only [Act.put, List.getElem_toArray, List.getElem_cons_zero, List.getElem_cons_succ, List.setIfInBounds_toArray, List.set_cons_zero, List.set_cons_succ]
      refine wpAnyH_ready (rs := [8]) (by kernel_rfl) (by simp) ?_
      refine AllReadyH.cons (o := _) rfl (fun K hK => ?_) ?_
      · go_simp
        refine (UW.out _ _ _ HBL.out (one_run HN.out)).mono ?_; rintro e w9 ⟨v9, rfl, r9, b9⟩
        dsimp only
        have q9 := bnext q8 b9
        have HV := Lib.hid (HV.out.kept b9)
        have HO := Lib.hid (HO.out.kept b9)
        have HF := Lib.hid (runsIn_kept HF.out b9)
        have HX := Lib.hid (HX.out.kept1 b9)
        have HBL := Lib.hid (runsIn_kept HBL.out b9)
        have HN := Lib.hid (HN.out.kept1 b9)
        obtain ⟨ad9, cp9, hs9, -⟩ := shape_of r9
        subst hs9
        have HW := Lib.hid (runsAt_in r9)
        clear r9
        refine hK.out _ _ (HK.out _ q9) (fun hHeld3 => ?_)
        clear hK K hHeld
        have hHeld := hHeld3
        clear hHeld3
        try simp only [Act.put, List.getElem_toArray, List.getElem_cons_zero, List.getElem_cons_succ, List.setIfInBounds_toArray, List.set_cons_zero, List.set_cons_succ]
        refine wpAnyH_take (i := 9) (oi := _) (v := ?vtl10) rfl (by kernel_rfl) (by kernel_rfl) (by kernel_rfl) (fun _ _ _ h => h) (Or.inl ⟨by kernel_rfl, ?hytl10⟩) hHeld ?resttl10
        case hytl10 => (intro w9 hSw; clear hSw; go_simp; try with_reducible rfl)
        try simp only [Act.put, List.getElem_toArray, List.getElem_cons_zero, List.getElem_cons_succ, List.setIfInBounds_toArray, List.set_cons_zero, List.set_cons_succ]
        refine ⟨by kernel_rfl, ?_⟩
        clear hHeld
        have HB := Lib.hid (bnext HB.out q9)
        clear HBL HN HK
        go_wp2
        have HK2 : Hid (∀ W, Below w9.heap.size w9 W → W.cell? ⟨w.heap.size, 0, none⟩ = some (.int .i64 xa) ∧ W.cell? ⟨w.heap.size, 1, none⟩ = some (.int .i64 xp) ∧ W.cell? ⟨w.heap.size, 2, none⟩ = some (.int .i64 xz)) := Lib.hid fun W b => ⟨(HX.out.kept1 b).cell 0, (HX.out.kept1 b).cell 1, (HX.out.kept1 b).cell 2⟩
        have hqe : Below w9.heap.size w9 w9.drew := (Below.refl _ _).drew
        have HV := Lib.hid (HV.out.kept hqe)
        have HO := Lib.hid (HO.out.kept hqe)
        have HF := Lib.hid (runsIn_kept HF.out hqe)
        have HW := Lib.hid (runsIn_kept HW.out hqe)
        have HX := Lib.hid (HX.out.kept1 hqe)
        refine wp_region_held_drew (S := fun w9 => w9.cell? ⟨w.heap.size, 0, none⟩ = some (.int .i64 xa) ∧ w9.cell? ⟨w.heap.size, 1, none⟩ = some (.int .i64 xp) ∧ w9.cell? ⟨w.heap.size, 2, none⟩ = some (.int .i64 xz)) mixed (HK2.out _ hqe) (fun hHeld => ?_)
        generalize w9.drew = we at *
        refine wpAnyH_take (i := 0) (oi := _) (v := ?vtl11) rfl (by kernel_rfl) (by kernel_rfl) (by kernel_rfl) (fun _ _ _ h => h) (Or.inl ⟨by kernel_rfl, ?hytl11⟩) hHeld ?resttl11
        case hytl11 => (intro w9 hSw; clear hSw; go_simp; try with_reducible rfl)
        try simp only [Act.put, List.getElem_toArray, List.getElem_cons_zero, List.getElem_cons_succ, List.setIfInBounds_toArray, List.set_cons_zero, List.set_cons_succ]
        refine wpAnyH_take (i := 1) (oi := _) (v := ?vtl12) rfl (by kernel_rfl) (by kernel_rfl) (by kernel_rfl) (fun _ _ _ h => h) (Or.inl ⟨by kernel_rfl, ?hytl12⟩) hHeld ?resttl12
        case hytl12 => (intro w9 hSw; clear hSw; go_simp; try with_reducible rfl)
        try simp only [Act.put, List.getElem_toArray, List.getElem_cons_zero, List.getElem_cons_succ, List.setIfInBounds_toArray, List.set_cons_zero, List.set_cons_succ]
        refine wpAnyH_take (i := 2) (oi := _) (v := ?vtl13) rfl (by kernel_rfl) (by kernel_rfl) (by kernel_rfl) (fun _ _ _ h => h) (Or.inl ⟨by kernel_rfl, ?hytl13⟩) hHeld ?resttl13
        case hytl13 => (intro w9 hSw; clear hSw; go_simp; try with_reducible rfl)
        try simp only [Act.put, List.getElem_toArray, List.getElem_cons_zero, List.getElem_cons_succ, List.setIfInBounds_toArray, List.set_cons_zero, List.set_cons_succ]
        refine wpAnyH_take (i := 3) (oi := _) (v := ?vtl14) rfl (by kernel_rfl) (by kernel_rfl) (by kernel_rfl) (fun _ _ _ h => h) (Or.inl ⟨by kernel_rfl, ?hytl14⟩) hHeld ?resttl14
        case hytl14 => (intro w9 hSw; clear hSw; go_simp; try with_reducible rfl)
        try simp only [Act.put, List.getElem_toArray, List.getElem_cons_zero, List.getElem_cons_succ, List.setIfInBounds_toArray, List.set_cons_zero, List.set_cons_succ]
        refine wpAnyH_take (i := 4) (oi := _) (v := ?vtl15) rfl (by kernel_rfl) (by kernel_rfl) (by kernel_rfl) (fun _ _ _ h => h) (Or.inl ⟨by kernel_rfl, ?hytl15⟩) hHeld ?resttl15
        case hytl15 => (intro w9 hSw; clear hSw; go_simp; try with_reducible rfl)
        try simp only [Act.put, List.getElem_toArray, List.getElem_cons_zero, List.getElem_cons_succ, List.setIfInBounds_toArray, List.set_cons_zero, List.set_cons_succ]
        refine wpAnyH_take (i := 5) (oi := _) (v := ?vtl16) rfl (by kernel_rfl) (by kernel_rfl) (by kernel_rfl) (fun _ _ _ h => h) (Or.inl ⟨by kernel_rfl, ?hytl16⟩) hHeld ?resttl16
        case hytl16 => (intro w9 hSw; clear hSw; go_simp; try with_reducible rfl)
        try simp only [Act.put, List.getElem_toArray, List.getElem_cons_zero, List.getElem_cons_succ, List.setIfInBounds_toArray, List.set_cons_zero, List.set_cons_succ]
        refine wpAnyH_take (i := 6) (oi := _) (v := ?vtl17) rfl (by kernel_rfl) (by kernel_rfl) (by kernel_rfl) (fun _ _ _ h => h) (Or.inl ⟨by kernel_rfl, ?hytl17⟩) hHeld ?resttl17
        case hytl17 => (intro w9 hSw; clear hSw; go_simp; try with_reducible rfl)
        try simp only [Act.put, List.getElem_toArray, List.getElem_cons_zero, List.getElem_cons_succ, List.setIfInBounds_toArray, List.set_cons_zero, List.set_cons_succ]
        refine wpAnyH_take (i := 7) (oi := _) (v := ?vtl18) rfl (by kernel_rfl) (by kernel_rfl) (by kernel_rfl) (fun _ _ _ h => h) (Or.inl ⟨by kernel_rfl, ?hytl18⟩) hHeld ?resttl18
        case hytl18 => (intro w9 hSw; clear hSw; go_simp; try with_reducible rfl)
        try simp only [Act.put, List.getElem_toArray, List.getElem_cons_zero, List.getElem_cons_succ, List.setIfInBounds_toArray, List.set_cons_zero, List.set_cons_succ]
        refine wpAnyH_take (i := 8) (oi := _) (v := ?vtl19) rfl (by kernel_rfl) (by kernel_rfl) (by kernel_rfl) (fun _ _ _ h => h) (Or.inl ⟨by kernel_rfl, ?hytl19⟩) hHeld ?resttl19
        case hytl19 => (intro w9 hSw; clear hSw; go_simp; try with_reducible rfl)
        try simp only [Act.put, List.getElem_toArray, List.getElem_cons_zero, List.getElem_cons_succ, List.setIfInBounds_toArray, List.set_cons_zero, List.set_cons_succ]
        refine wpAnyH_take (i := 9) (oi := _) (v := ?vtl20) rfl (by kernel_rfl) (by kernel_rfl) (by kernel_rfl) (fun _ _ _ h => h) (Or.inl ⟨by kernel_rfl, ?hytl20⟩) hHeld ?resttl20
        case hytl20 => (intro w9 hSw; clear hSw; go_simp; try with_reducible rfl)
        try simp only [Act.put, List.getElem_toArray, List.getElem_cons_zero, List.getElem_cons_succ, List.setIfInBounds_toArray, List.set_cons_zero, List.set_cons_succ]
        refine wpAnyH_ready (rs := [10]) (by kernel_rfl) (by simp) ?_
        refine AllReadyH.cons (o := _) rfl (fun K hK => ?_) ?_
        · go_simp
          refine (CO.out _ _ HO.out).mono ?_; rintro e w21 ⟨rfl, b21⟩
          dsimp only
          have q21 := bnext hqe b21
          have HV := Lib.hid (HV.out.kept b21)
          have HO := Lib.hid (HO.out.kept b21)
          have HF := Lib.hid (runsIn_kept HF.out b21)
          have HW := Lib.hid (runsIn_kept HW.out b21)
          have HX := Lib.hid (HX.out.kept1 b21)
          refine hK.out _ _ (HK2.out _ q21) (fun hHeld3 => ?_)
          clear hK K hHeld
          have hHeld := hHeld3
          clear hHeld3
          try simp only [Act.put, List.getElem_toArray, List.getElem_cons_zero, List.getElem_cons_succ, List.setIfInBounds_toArray, List.set_cons_zero, List.set_cons_succ]
          refine wpAnyH_take (i := 11) (oi := _) (v := ?vtl22) rfl (by kernel_rfl) (by kernel_rfl) (by kernel_rfl) (fun _ _ _ h => h) (Or.inl ⟨by kernel_rfl, ?hytl22⟩) hHeld ?resttl22
          case hytl22 => (intro w9 hSw; clear hSw; go_simp; try with_reducible rfl)
          try simp only [Act.put, List.getElem_toArray, List.getElem_cons_zero, List.getElem_cons_succ, List.setIfInBounds_toArray, List.set_cons_zero, List.set_cons_succ]
          refine wpAnyH_take (i := 12) (oi := _) (v := ?vtl23) rfl (by kernel_rfl) (by kernel_rfl) (by kernel_rfl) (fun _ _ _ h => h) (Or.inl ⟨by kernel_rfl, ?hytl23⟩) hHeld ?resttl23
          case hytl23 => (intro w9 hSw; clear hSw; go_simp; try with_reducible rfl)
          try simp only [Act.put, List.getElem_toArray, List.getElem_cons_zero, List.getElem_cons_succ, List.setIfInBounds_toArray, List.set_cons_zero, List.set_cons_succ]
          refine wpAnyH_take (i := 13) (oi := _) (v := ?vtl24) rfl (by kernel_rfl) (by kernel_rfl) (by kernel_rfl) (fun _ _ _ h => h) (Or.inl ⟨by kernel_rfl, ?hytl24⟩) hHeld ?resttl24
          case hytl24 => (intro w9 hSw; clear hSw; go_simp; try with_reducible rfl)
          try simp only [Act.put, List.getElem_toArray, List.getElem_cons_zero, List.getElem_cons_succ, List.setIfInBounds_toArray, List.set_cons_zero, List.set_cons_succ]
          refine wpAnyH_take (i := 15) (oi := _) (v := ?vtl25) rfl (by kernel_rfl) (by kernel_rfl) (by kernel_rfl) (fun _ _ _ h => h) (Or.inl ⟨by kernel_rfl, ?hytl25⟩) hHeld ?resttl25
          case hytl25 => (intro w9 hSw; clear hSw; go_simp; try with_reducible rfl)
          try simp only [Act.put, List.getElem_toArray, List.getElem_cons_zero, List.getElem_cons_succ, List.setIfInBounds_toArray, List.set_cons_zero, List.set_cons_succ]
          refine wpAnyH_take (i := 17) (oi := _) (v := ?vtl26) rfl (by kernel_rfl) (by kernel_rfl) (by kernel_rfl) (fun _ _ _ h => h) (Or.inl ⟨by kernel_rfl, ?hytl26⟩) hHeld ?resttl26
          case hytl26 => (intro w9 hSw; clear hSw; go_simp; try with_reducible rfl)
          try simp only [Act.put, List.getElem_toArray, List.getElem_cons_zero, List.getElem_cons_succ, List.setIfInBounds_toArray, List.set_cons_zero, List.set_cons_succ]
          refine wpAnyH_ready (rs := [14]) (by kernel_rfl) (by simp) ?_
          refine AllReadyH.cons (o := _) rfl (fun K hK => ?_) ?_
          · go_simp
            refine (BO.out _ _ HO.out).mono ?_; rintro e w27 ⟨v27, rfl, r27, b27⟩
            dsimp only
            have q27 := bnext q21 b27
            have HV := Lib.hid (HV.out.kept b27)
            have HO := Lib.hid (HO.out.kept b27)
            have HF := Lib.hid (runsIn_kept HF.out b27)
            have HW := Lib.hid (runsIn_kept HW.out b27)
            have HX := Lib.hid (HX.out.kept1 b27)
            obtain ⟨ad27, cp27, hs27, -⟩ := shape_of r27
            subst hs27
            have HBo := Lib.hid (runsAt_in r27)
            clear r27
            refine hK.out _ _ (HK2.out _ q27) (fun hHeld3 => ?_)
            clear hK K hHeld
            have hHeld := hHeld3
            clear hHeld3
            try simp only [Act.put, List.getElem_toArray, List.getElem_cons_zero, List.getElem_cons_succ, List.setIfInBounds_toArray, List.set_cons_zero, List.set_cons_succ]
            refine wpAnyH_ready (rs := [16]) (by kernel_rfl) (by simp) ?_
            refine AllReadyH.cons (o := _) rfl (fun K hK => ?_) ?_
            · go_simp
              refine (UO.out _ _ _ HBo.out HF.out).mono ?_; rintro e w28 ⟨v28, rfl, r28, b28⟩
              dsimp only
              have q28 := bnext q27 b28
              have HV := Lib.hid (HV.out.kept b28)
              have HO := Lib.hid (HO.out.kept b28)
              have HF := Lib.hid (runsIn_kept HF.out b28)
              have HW := Lib.hid (runsIn_kept HW.out b28)
              have HX := Lib.hid (HX.out.kept1 b28)
              have HBo := Lib.hid (runsIn_kept HBo.out b28)
              obtain ⟨ad28, cp28, hs28, -⟩ := shape_of r28
              subst hs28
              have HU := Lib.hid (runsAt_in r28)
              clear r28
              refine hK.out _ _ (HK2.out _ q28) (fun hHeld3 => ?_)
              clear hK K hHeld
              have hHeld := hHeld3
              clear hHeld3
              try simp only [Act.put, List.getElem_toArray, List.getElem_cons_zero, List.getElem_cons_succ, List.setIfInBounds_toArray, List.set_cons_zero, List.set_cons_succ]
              refine wpAnyH_ready (rs := [18]) (by kernel_rfl) (by simp) ?_
              refine AllReadyH.cons (o := _) rfl (fun K hK => ?_) ?_
              · go_simp
                refine (SR.out _ _ _ _ HU.out HW.out).mono ?_; rintro e w29 ⟨rfl, b29⟩
                dsimp only
                have q29 := bnext q28 b29
                have HV := Lib.hid (HV.out.kept b29)
                have HO := Lib.hid (HO.out.kept b29)
                have HF := Lib.hid (runsIn_kept HF.out b29)
                have HW := Lib.hid (runsIn_kept HW.out b29)
                have HX := Lib.hid (HX.out.kept1 b29)
                have HBo := Lib.hid (runsIn_kept HBo.out b29)
                have HU := Lib.hid (runsIn_kept HU.out b29)
                refine hK.out _ _ (HK2.out _ q29) (fun hHeld3 => ?_)
                clear hK K hHeld
                have hHeld := hHeld3
                clear hHeld3
                try simp only [Act.put, List.getElem_toArray, List.getElem_cons_zero, List.getElem_cons_succ, List.setIfInBounds_toArray, List.set_cons_zero, List.set_cons_succ]
                refine wpAnyH_take (i := 19) (oi := _) (v := ?vtl30) rfl (by kernel_rfl) (by kernel_rfl) (by kernel_rfl) (fun _ _ _ h => h) (Or.inl ⟨by kernel_rfl, ?hytl30⟩) hHeld ?resttl30
                case hytl30 => (intro w9 hSw; clear hSw; go_simp; try with_reducible rfl)
                try simp only [Act.put, List.getElem_toArray, List.getElem_cons_zero, List.getElem_cons_succ, List.setIfInBounds_toArray, List.set_cons_zero, List.set_cons_succ]
                refine wpAnyH_take (i := 20) (oi := _) (v := ?vtl31) rfl (by kernel_rfl) (by kernel_rfl) (by kernel_rfl) (fun _ _ _ h => h) (Or.inl ⟨by kernel_rfl, ?hytl31⟩) hHeld ?resttl31
                case hytl31 => (intro w9 hSw; clear hSw; go_simp; try with_reducible rfl)
                try simp only [Act.put, List.getElem_toArray, List.getElem_cons_zero, List.getElem_cons_succ, List.setIfInBounds_toArray, List.set_cons_zero, List.set_cons_succ]
                refine wpAnyH_take (i := 21) (oi := _) (v := ?vtl32) rfl (by kernel_rfl) (by kernel_rfl) (by kernel_rfl) (fun _ _ _ h => h) (Or.inl ⟨by kernel_rfl, ?hytl32⟩) hHeld ?resttl32
                case hytl32 => (intro w9 hSw; clear hSw; go_simp; try with_reducible rfl)
                try simp only [Act.put, List.getElem_toArray, List.getElem_cons_zero, List.getElem_cons_succ, List.setIfInBounds_toArray, List.set_cons_zero, List.set_cons_succ]
                refine wpAnyH_take (i := 23) (oi := _) (v := ?vtl33) rfl (by kernel_rfl) (by kernel_rfl) (by kernel_rfl) (fun _ _ _ h => h) (Or.inl ⟨by kernel_rfl, ?hytl33⟩) hHeld ?resttl33
                case hytl33 => (intro w9 hSw; clear hSw; go_simp; try with_reducible rfl)
                try simp only [Act.put, List.getElem_toArray, List.getElem_cons_zero, List.getElem_cons_succ, List.setIfInBounds_toArray, List.set_cons_zero, List.set_cons_succ]
                refine wpAnyH_ready (rs := [22]) (by kernel_rfl) (by simp) ?_
                refine AllReadyH.cons (o := _) rfl (fun K hK => ?_) ?_
                · go_simp
                  refine (BO.out _ _ HO.out).mono ?_; rintro e w34 ⟨v34, rfl, r34, b34⟩
                  dsimp only
                  have q34 := bnext q29 b34
                  have HV := Lib.hid (HV.out.kept b34)
                  have HO := Lib.hid (HO.out.kept b34)
                  have HF := Lib.hid (runsIn_kept HF.out b34)
                  have HW := Lib.hid (runsIn_kept HW.out b34)
                  have HX := Lib.hid (HX.out.kept1 b34)
                  have HBo := Lib.hid (runsIn_kept HBo.out b34)
                  have HU := Lib.hid (runsIn_kept HU.out b34)
                  obtain ⟨ad34, cp34, hs34, -⟩ := shape_of r34
                  subst hs34
                  have HBo := Lib.hid (runsAt_in r34)
                  clear r34
                  refine hK.out _ _ (HK2.out _ q34) (fun hHeld3 => ?_)
                  clear hK K hHeld
                  have hHeld := hHeld3
                  clear hHeld3
                  try simp only [Act.put, List.getElem_toArray, List.getElem_cons_zero, List.getElem_cons_succ, List.setIfInBounds_toArray, List.set_cons_zero, List.set_cons_succ]
                  refine wpAnyH_ready (rs := [24]) (by kernel_rfl) (by simp) ?_
                  refine AllReadyH.cons (o := _) rfl (fun K hK => ?_) ?_
                  · go_simp
                    refine (ME.out _ _ _ HBo.out HF.out).mono ?_; rintro e w35 ⟨adm35, cpm35, rfl, b35⟩
                    dsimp only
                    have q35 := bnext q34 b35
                    have HV := Lib.hid (HV.out.kept b35)
                    have HO := Lib.hid (HO.out.kept b35)
                    have HF := Lib.hid (runsIn_kept HF.out b35)
                    have HW := Lib.hid (runsIn_kept HW.out b35)
                    have HX := Lib.hid (HX.out.kept1 b35)
                    have HBo := Lib.hid (runsIn_kept HBo.out b35)
                    have HU := Lib.hid (runsIn_kept HU.out b35)
                    refine hK.out _ _ (HK2.out _ q35) (fun hHeld3 => ?_)
                    clear hK K hHeld
                    have hHeld := hHeld3
                    clear hHeld3
                    try simp only [Act.put, List.getElem_toArray, List.getElem_cons_zero, List.getElem_cons_succ, List.setIfInBounds_toArray, List.set_cons_zero, List.set_cons_succ]
                    refine wpAnyH_take (i := 25) (oi := _) (v := ?vtl36) rfl (by kernel_rfl) (by kernel_rfl) (by kernel_rfl) (fun _ _ _ h => h) (Or.inl ⟨by kernel_rfl, ?hytl36⟩) hHeld ?resttl36
                    case hytl36 => (intro w9 hSw; clear hSw; go_simp; try with_reducible rfl)
                    try simp only [Act.put, List.getElem_toArray, List.getElem_cons_zero, List.getElem_cons_succ, List.setIfInBounds_toArray, List.set_cons_zero, List.set_cons_succ]
                    refine wpAnyH_take (i := 26) (oi := _) (v := ?vtl37) rfl (by kernel_rfl) (by kernel_rfl) (by kernel_rfl) (fun _ _ _ h => h) (Or.inl ⟨by kernel_rfl, ?hytl37⟩) hHeld ?resttl37
                    case hytl37 => (intro w9 hSw; clear hSw; go_simp; try with_reducible rfl)
                    try simp only [Act.put, List.getElem_toArray, List.getElem_cons_zero, List.getElem_cons_succ, List.setIfInBounds_toArray, List.set_cons_zero, List.set_cons_succ]
                    refine wpAnyH_take (i := 27) (oi := _) (v := ?vtl38) rfl (by kernel_rfl) (by kernel_rfl) (by kernel_rfl) (fun _ _ _ h => h) (Or.inl ⟨by kernel_rfl, ?hytl38⟩) hHeld ?resttl38
                    case hytl38 => (intro w9 hSw; clear hSw; go_simp; try with_reducible rfl)
                    try simp only [Act.put, List.getElem_toArray, List.getElem_cons_zero, List.getElem_cons_succ, List.setIfInBounds_toArray, List.set_cons_zero, List.set_cons_succ]
                    refine wpAnyH_take (i := 28) (oi := _) (v := ?vtl39) rfl (by kernel_rfl) (by kernel_rfl) (by kernel_rfl) (fun _ _ _ h => h) (Or.inl ⟨by kernel_rfl, ?hytl39⟩) hHeld ?resttl39
                    case hytl39 => (intro w9 hSw; clear hSw; go_simp; try with_reducible rfl)
                    try simp only [Act.put, List.getElem_toArray, List.getElem_cons_zero, List.getElem_cons_succ, List.setIfInBounds_toArray, List.set_cons_zero, List.set_cons_succ]
                    refine wpAnyH_take (i := 29) (oi := _) (v := ?vtl40) rfl (by kernel_rfl) (by kernel_rfl) (by kernel_rfl) (fun _ _ _ h => h) (Or.inl ⟨by kernel_rfl, ?hytl40⟩) hHeld ?resttl40
                    case hytl40 => (intro w9 hSw; clear hSw; go_simp; try with_reducible rfl)
                    try simp only [Act.put, List.getElem_toArray, List.getElem_cons_zero, List.getElem_cons_succ, List.setIfInBounds_toArray, List.set_cons_zero, List.set_cons_succ]
                    refine wpAnyH_take (i := 31) (oi := _) (v := ?vtl41) rfl (by kernel_rfl) (by kernel_rfl) (by kernel_rfl) (fun _ _ _ h => h) (Or.inl ⟨by kernel_rfl, ?hytl41⟩) hHeld ?resttl41
                    case hytl41 => (intro w9 hSw; clear hSw; go_simp; try with_reducible rfl)
                    try simp only [Act.put, List.getElem_toArray, List.getElem_cons_zero, List.getElem_cons_succ, List.setIfInBounds_toArray, List.set_cons_zero, List.set_cons_succ]
                    refine wpAnyH_take (i := 33) (oi := _) (v := ?vtl42) rfl (by kernel_rfl) (by kernel_rfl) (by kernel_rfl) (fun _ _ _ h => h) (Or.inl ⟨by kernel_rfl, ?hytl42⟩) hHeld ?resttl42
                    case hytl42 => (intro w9 hSw; clear hSw; go_simp; try with_reducible rfl)
                    try simp only [Act.put, List.getElem_toArray, List.getElem_cons_zero, List.getElem_cons_succ, List.setIfInBounds_toArray, List.set_cons_zero, List.set_cons_succ]
                    refine wpAnyH_take (i := 34) (oi := _) (v := ?vtl43) rfl (by kernel_rfl) (by kernel_rfl) (by kernel_rfl) (fun _ _ _ h => h) (Or.inl ⟨by kernel_rfl, ?hytl43⟩) hHeld ?resttl43
                    case hytl43 => (intro w9 hSw; obtain ⟨e9, f9, g9⟩ := hSw; go_simp; try with_reducible rfl)
                    try simp only [Act.put, List.getElem_toArray, List.getElem_cons_zero, List.getElem_cons_succ, List.setIfInBounds_toArray, List.set_cons_zero, List.set_cons_succ]
                    refine wpAnyH_take (i := 35) (oi := _) (v := ?vtl44) rfl (by kernel_rfl) (by kernel_rfl) (by kernel_rfl) (fun _ _ _ h => h) (Or.inl ⟨by kernel_rfl, ?hytl44⟩) hHeld ?resttl44
                    case hytl44 => (intro w9 hSw; clear hSw; go_simp; try with_reducible rfl)
                    try simp only [Act.put, List.getElem_toArray, List.getElem_cons_zero, List.getElem_cons_succ, List.setIfInBounds_toArray, List.set_cons_zero, List.set_cons_succ]
                    refine wpAnyH_take (i := 36) (oi := _) (v := ?vtl45) rfl (by kernel_rfl) (by kernel_rfl) (by kernel_rfl) (fun _ _ _ h => h) (Or.inl ⟨by kernel_rfl, ?hytl45⟩) hHeld ?resttl45
                    case hytl45 => (intro w9 hSw; obtain ⟨e9, f9, g9⟩ := hSw; go_simp; try with_reducible rfl)
                    try simp only [Act.put, List.getElem_toArray, List.getElem_cons_zero, List.getElem_cons_succ, List.setIfInBounds_toArray, List.set_cons_zero, List.set_cons_succ]
                    refine wpAnyH_take (i := 37) (oi := _) (v := ?vtl46) rfl (by kernel_rfl) (by kernel_rfl) (by kernel_rfl) (fun _ _ _ h => h) (Or.inl ⟨by kernel_rfl, ?hytl46⟩) hHeld ?resttl46
                    case hytl46 => (intro w9 hSw; clear hSw; go_simp; try with_reducible rfl)
                    try simp only [Act.put, List.getElem_toArray, List.getElem_cons_zero, List.getElem_cons_succ, List.setIfInBounds_toArray, List.set_cons_zero, List.set_cons_succ]
                    refine wpAnyH_ready (rs := [30]) (by kernel_rfl) (by simp) ?_
                    refine AllReadyH.cons (o := _) rfl (fun K hK => ?_) ?_
                    · go_simp
                      refine (EO.out _ _ HO.out).mono ?_; rintro e w47 ⟨rfl, b47⟩
                      dsimp only
                      have q47 := bnext q35 b47
                      have HV := Lib.hid (HV.out.kept b47)
                      have HO := Lib.hid (HO.out.kept b47)
                      have HF := Lib.hid (runsIn_kept HF.out b47)
                      have HW := Lib.hid (runsIn_kept HW.out b47)
                      have HX := Lib.hid (HX.out.kept1 b47)
                      have HBo := Lib.hid (runsIn_kept HBo.out b47)
                      have HU := Lib.hid (runsIn_kept HU.out b47)
                      refine hK.out _ _ (HK2.out _ q47) (fun hHeld3 => ?_)
                      clear hK K hHeld
                      have hHeld := hHeld3
                      clear hHeld3
                      try simp only [Act.put, List.getElem_toArray, List.getElem_cons_zero, List.getElem_cons_succ, List.setIfInBounds_toArray, List.set_cons_zero, List.set_cons_succ]
                      refine wpAnyH_ready (rs := [32]) (by kernel_rfl) (by simp) ?_
                      refine AllReadyH.cons (o := _) rfl (fun K hK => ?_) ?_
                      · go_simp
                        refine (EL.out _ _ HV.out).mono ?_; rintro e w48 ⟨rfl, b48⟩
                        dsimp only
                        have q48 := bnext q47 b48
                        have HV := Lib.hid (HV.out.kept b48)
                        have HO := Lib.hid (HO.out.kept b48)
                        have HF := Lib.hid (runsIn_kept HF.out b48)
                        have HW := Lib.hid (runsIn_kept HW.out b48)
                        have HX := Lib.hid (HX.out.kept1 b48)
                        have HBo := Lib.hid (runsIn_kept HBo.out b48)
                        have HU := Lib.hid (runsIn_kept HU.out b48)
                        refine hK.out _ _ (HK2.out _ q48) (fun hHeld3 => ?_)
                        clear hK K hHeld
                        have hHeld := hHeld3
                        clear hHeld3
                        try simp only [Act.put, List.getElem_toArray, List.getElem_cons_zero, List.getElem_cons_succ, List.setIfInBounds_toArray, List.set_cons_zero, List.set_cons_succ]
                        refine wpAnyH_take (i := 38) (oi := _) (v := ?vtl49) rfl (by kernel_rfl) (by kernel_rfl) (by kernel_rfl) (fun _ _ _ h => h) (Or.inl ⟨by kernel_rfl, ?hytl49⟩) hHeld ?resttl49
                        case hytl49 => (intro w9 hSw; clear hSw; go_simp; try with_reducible rfl)
                        try simp only [Act.put, List.getElem_toArray, List.getElem_cons_zero, List.getElem_cons_succ, List.setIfInBounds_toArray, List.set_cons_zero, List.set_cons_succ]
                        refine wpAnyH_take (i := 39) (oi := _) (v := ?vtl50) rfl (by kernel_rfl) (by kernel_rfl) (by kernel_rfl) (fun _ _ _ h => h) (Or.inl ⟨by kernel_rfl, ?hytl50⟩) hHeld ?resttl50
                        case hytl50 => (intro w9 hSw; clear hSw; go_simp; try with_reducible rfl)
                        try simp only [Act.put, List.getElem_toArray, List.getElem_cons_zero, List.getElem_cons_succ, List.setIfInBounds_toArray, List.set_cons_zero, List.set_cons_succ]
                        refine wpAnyH_take (i := 40) (oi := _) (v := ?vtl51) rfl (by kernel_rfl) (by kernel_rfl) (by kernel_rfl) (fun _ _ _ h => h) (Or.inl ⟨by kernel_rfl, ?hytl51⟩) hHeld ?resttl51
                        case hytl51 => (intro w9 hSw; clear hSw; go_simp; try with_reducible rfl)
                        try simp only [Act.put, List.getElem_toArray, List.getElem_cons_zero, List.getElem_cons_succ, List.setIfInBounds_toArray, List.set_cons_zero, List.set_cons_succ]
                        refine wpAnyH_take (i := 41) (oi := _) (v := ?vtl52) rfl (by kernel_rfl) (by kernel_rfl) (by kernel_rfl) (fun _ _ _ h => h) (Or.inl ⟨by kernel_rfl, ?hytl52⟩) hHeld ?resttl52
                        case hytl52 => (intro w9 hSw; clear hSw; go_simp; try with_reducible rfl)
                        try simp only [Act.put, List.getElem_toArray, List.getElem_cons_zero, List.getElem_cons_succ, List.setIfInBounds_toArray, List.set_cons_zero, List.set_cons_succ]
                        refine wpAnyH_ready (rs := [42]) (by kernel_rfl) (by simp) ?_
                        refine AllReadyH.cons (o := _) rfl (fun K hK => ?_) ?_
                        · go_simp
                          refine (AL.out _).mono ?_; rintro e w53 ⟨rfl, b53⟩
                          dsimp only
                          have q53 := bnext q48 b53
                          have HV := Lib.hid (HV.out.kept b53)
                          have HO := Lib.hid (HO.out.kept b53)
                          have HF := Lib.hid (runsIn_kept HF.out b53)
                          have HW := Lib.hid (runsIn_kept HW.out b53)
                          have HX := Lib.hid (HX.out.kept1 b53)
                          have HBo := Lib.hid (runsIn_kept HBo.out b53)
                          have HU := Lib.hid (runsIn_kept HU.out b53)
                          refine hK.out _ _ (HK2.out _ q53) (fun hHeld3 => ?_)
                          clear hK K hHeld
                          have hHeld := hHeld3
                          clear hHeld3
                          try simp only [Act.put, List.getElem_toArray, List.getElem_cons_zero, List.getElem_cons_succ, List.setIfInBounds_toArray, List.set_cons_zero, List.set_cons_succ]
                          refine wpAnyH_take (i := 43) (oi := _) (v := ?vtl54) rfl (by kernel_rfl) (by kernel_rfl) (by kernel_rfl) (fun _ _ _ h => h) (Or.inl ⟨by kernel_rfl, ?hytl54⟩) hHeld ?resttl54
                          case hytl54 => (intro w9 hSw; clear hSw; go_simp; try with_reducible rfl)
                          try simp only [Act.put, List.getElem_toArray, List.getElem_cons_zero, List.getElem_cons_succ, List.setIfInBounds_toArray, List.set_cons_zero, List.set_cons_succ]
                          refine wpAnyH_take (i := 44) (oi := _) (v := ?vtl55) rfl (by kernel_rfl) (by kernel_rfl) (by kernel_rfl) (fun _ _ _ h => h) (Or.inl ⟨by kernel_rfl, ?hytl55⟩) hHeld ?resttl55
                          case hytl55 => (intro w9 hSw; clear hSw; go_simp; try with_reducible rfl)
                          try simp only [Act.put, List.getElem_toArray, List.getElem_cons_zero, List.getElem_cons_succ, List.setIfInBounds_toArray, List.set_cons_zero, List.set_cons_succ]
                          refine ⟨by kernel_rfl, ?_⟩
                          clear hHeld
                          have HB := Lib.hid (bnext HB.out q53)
                          go_wp2
                          go_ret
                          exact ⟨rfl, HB.out⟩
                        exact AllReadyH.nil
                      exact AllReadyH.nil
                    exact AllReadyH.nil
                  exact AllReadyH.nil
                exact AllReadyH.nil
              exact AllReadyH.nil
            exact AllReadyH.nil
          exact AllReadyH.nil
        exact AllReadyH.nil
      exact AllReadyH.nil
    exact AllReadyH.nil
  refine AllReadyH.cons (o := _) rfl (fun K hK => ?_) ?_
  · obtain ⟨w56, hw56⟩ : ∃ w9, wd.alloc (.cells #[.int .i64 xp, .int .i64 xz] 32) = w9 := ⟨_, rfl⟩
    have b56 : Below wd.heap.size wd w56 := by rw [← hw56]; exact balloc1 _ _
    have q56 := bnext hqd b56
    have hz56 : w56.heap.size = wd.heap.size + 1 := by rw [← hw56]; exact size_alloc _ _
    have hB56 : Blk wd.heap.size #[.int .i64 xp, .int .i64 xz] 32 w56 := by rw [← hw56]; exact Blk.new _ _ _
    have HV := Lib.hid (HV.out.kept b56)
    have HO := Lib.hid (HO.out.kept b56)
    have HF := Lib.hid (runsIn_kept HF.out b56)
    have HX := Lib.hid (HX.out.kept1 b56)
    have HN := Lib.hid hB56
    have HZ56 := Lib.hid hz56
    have HW56 := Lib.hid hw56
    clear hB56 hz56 hw56
    go_simp
    try rw [HW56.out]
    refine hK.out _ _ (HK.out _ q56) (fun hHeld3 => ?_)
    clear hK K hHeld
    have hHeld := hHeld3
    clear hHeld3
    try simp only [Act.put, List.getElem_toArray, List.getElem_cons_zero, List.getElem_cons_succ, List.setIfInBounds_toArray, List.set_cons_zero, List.set_cons_succ]
    refine wpAnyH_ready (rs := [1]) (by kernel_rfl) (by simp) ?_
    refine AllReadyH.cons (o := _) rfl (fun K hK => ?_) ?_
    · go_simp
      refine (BL.out _ _ HV.out).mono ?_; rintro e w57 ⟨v57, rfl, r57, b57⟩
      dsimp only
      have q57 := bnext q56 b57
      have HV := Lib.hid (HV.out.kept b57)
      have HO := Lib.hid (HO.out.kept b57)
      have HF := Lib.hid (runsIn_kept HF.out b57)
      have HX := Lib.hid (HX.out.kept1 b57)
      have HN := Lib.hid (HN.out.kept1 b57)
      obtain ⟨ad57, cp57, hs57, -⟩ := shape_of r57
      subst hs57
      have HBL := Lib.hid (runsAt_in r57)
      clear r57
      refine hK.out _ _ (HK.out _ q57) (fun hHeld3 => ?_)
      clear hK K hHeld
      have hHeld := hHeld3
      clear hHeld3
      try simp only [Act.put, List.getElem_toArray, List.getElem_cons_zero, List.getElem_cons_succ, List.setIfInBounds_toArray, List.set_cons_zero, List.set_cons_succ]
      refine wpAnyH_ready (rs := [8]) (by kernel_rfl) (by simp) ?_
      refine AllReadyH.cons (o := _) rfl (fun K hK => ?_) ?_
      · go_simp
        refine (UW.out _ _ _ HBL.out (one_run HN.out)).mono ?_; rintro e w58 ⟨v58, rfl, r58, b58⟩
        dsimp only
        have q58 := bnext q57 b58
        have HV := Lib.hid (HV.out.kept b58)
        have HO := Lib.hid (HO.out.kept b58)
        have HF := Lib.hid (runsIn_kept HF.out b58)
        have HX := Lib.hid (HX.out.kept1 b58)
        have HN := Lib.hid (HN.out.kept1 b58)
        have HBL := Lib.hid (runsIn_kept HBL.out b58)
        obtain ⟨ad58, cp58, hs58, -⟩ := shape_of r58
        subst hs58
        have HW := Lib.hid (runsAt_in r58)
        clear r58
        refine hK.out _ _ (HK.out _ q58) (fun hHeld3 => ?_)
        clear hK K hHeld
        have hHeld := hHeld3
        clear hHeld3
        try simp only [Act.put, List.getElem_toArray, List.getElem_cons_zero, List.getElem_cons_succ, List.setIfInBounds_toArray, List.set_cons_zero, List.set_cons_succ]
        refine wpAnyH_take (i := 9) (oi := _) (v := ?vtl59) rfl (by kernel_rfl) (by kernel_rfl) (by kernel_rfl) (fun _ _ _ h => h) (Or.inl ⟨by kernel_rfl, ?hytl59⟩) hHeld ?resttl59
        case hytl59 => (intro w9 hSw; clear hSw; go_simp; try with_reducible rfl)
        try simp only [Act.put, List.getElem_toArray, List.getElem_cons_zero, List.getElem_cons_succ, List.setIfInBounds_toArray, List.set_cons_zero, List.set_cons_succ]
        refine ⟨by kernel_rfl, ?_⟩
        clear hHeld
        have HB := Lib.hid (bnext HB.out q58)
        clear HBL HN HK
        go_wp2
        have HK2 : Hid (∀ W, Below w58.heap.size w58 W → W.cell? ⟨w.heap.size, 0, none⟩ = some (.int .i64 xa) ∧ W.cell? ⟨w.heap.size, 1, none⟩ = some (.int .i64 xp) ∧ W.cell? ⟨w.heap.size, 2, none⟩ = some (.int .i64 xz)) := Lib.hid fun W b => ⟨(HX.out.kept1 b).cell 0, (HX.out.kept1 b).cell 1, (HX.out.kept1 b).cell 2⟩
        have hqe : Below w58.heap.size w58 w58.drew := (Below.refl _ _).drew
        have HV := Lib.hid (HV.out.kept hqe)
        have HO := Lib.hid (HO.out.kept hqe)
        have HF := Lib.hid (runsIn_kept HF.out hqe)
        have HW := Lib.hid (runsIn_kept HW.out hqe)
        have HX := Lib.hid (HX.out.kept1 hqe)
        refine wp_region_held_drew (S := fun w9 => w9.cell? ⟨w.heap.size, 0, none⟩ = some (.int .i64 xa) ∧ w9.cell? ⟨w.heap.size, 1, none⟩ = some (.int .i64 xp) ∧ w9.cell? ⟨w.heap.size, 2, none⟩ = some (.int .i64 xz)) mixed (HK2.out _ hqe) (fun hHeld => ?_)
        generalize w58.drew = we at *
        refine wpAnyH_take (i := 0) (oi := _) (v := ?vtl60) rfl (by kernel_rfl) (by kernel_rfl) (by kernel_rfl) (fun _ _ _ h => h) (Or.inl ⟨by kernel_rfl, ?hytl60⟩) hHeld ?resttl60
        case hytl60 => (intro w9 hSw; clear hSw; go_simp; try with_reducible rfl)
        try simp only [Act.put, List.getElem_toArray, List.getElem_cons_zero, List.getElem_cons_succ, List.setIfInBounds_toArray, List.set_cons_zero, List.set_cons_succ]
        refine wpAnyH_take (i := 1) (oi := _) (v := ?vtl61) rfl (by kernel_rfl) (by kernel_rfl) (by kernel_rfl) (fun _ _ _ h => h) (Or.inl ⟨by kernel_rfl, ?hytl61⟩) hHeld ?resttl61
        case hytl61 => (intro w9 hSw; clear hSw; go_simp; try with_reducible rfl)
        try simp only [Act.put, List.getElem_toArray, List.getElem_cons_zero, List.getElem_cons_succ, List.setIfInBounds_toArray, List.set_cons_zero, List.set_cons_succ]
        refine wpAnyH_take (i := 2) (oi := _) (v := ?vtl62) rfl (by kernel_rfl) (by kernel_rfl) (by kernel_rfl) (fun _ _ _ h => h) (Or.inl ⟨by kernel_rfl, ?hytl62⟩) hHeld ?resttl62
        case hytl62 => (intro w9 hSw; clear hSw; go_simp; try with_reducible rfl)
        try simp only [Act.put, List.getElem_toArray, List.getElem_cons_zero, List.getElem_cons_succ, List.setIfInBounds_toArray, List.set_cons_zero, List.set_cons_succ]
        refine wpAnyH_take (i := 3) (oi := _) (v := ?vtl63) rfl (by kernel_rfl) (by kernel_rfl) (by kernel_rfl) (fun _ _ _ h => h) (Or.inl ⟨by kernel_rfl, ?hytl63⟩) hHeld ?resttl63
        case hytl63 => (intro w9 hSw; clear hSw; go_simp; try with_reducible rfl)
        try simp only [Act.put, List.getElem_toArray, List.getElem_cons_zero, List.getElem_cons_succ, List.setIfInBounds_toArray, List.set_cons_zero, List.set_cons_succ]
        refine wpAnyH_take (i := 4) (oi := _) (v := ?vtl64) rfl (by kernel_rfl) (by kernel_rfl) (by kernel_rfl) (fun _ _ _ h => h) (Or.inl ⟨by kernel_rfl, ?hytl64⟩) hHeld ?resttl64
        case hytl64 => (intro w9 hSw; clear hSw; go_simp; try with_reducible rfl)
        try simp only [Act.put, List.getElem_toArray, List.getElem_cons_zero, List.getElem_cons_succ, List.setIfInBounds_toArray, List.set_cons_zero, List.set_cons_succ]
        refine wpAnyH_take (i := 5) (oi := _) (v := ?vtl65) rfl (by kernel_rfl) (by kernel_rfl) (by kernel_rfl) (fun _ _ _ h => h) (Or.inl ⟨by kernel_rfl, ?hytl65⟩) hHeld ?resttl65
        case hytl65 => (intro w9 hSw; clear hSw; go_simp; try with_reducible rfl)
        try simp only [Act.put, List.getElem_toArray, List.getElem_cons_zero, List.getElem_cons_succ, List.setIfInBounds_toArray, List.set_cons_zero, List.set_cons_succ]
        refine wpAnyH_take (i := 6) (oi := _) (v := ?vtl66) rfl (by kernel_rfl) (by kernel_rfl) (by kernel_rfl) (fun _ _ _ h => h) (Or.inl ⟨by kernel_rfl, ?hytl66⟩) hHeld ?resttl66
        case hytl66 => (intro w9 hSw; clear hSw; go_simp; try with_reducible rfl)
        try simp only [Act.put, List.getElem_toArray, List.getElem_cons_zero, List.getElem_cons_succ, List.setIfInBounds_toArray, List.set_cons_zero, List.set_cons_succ]
        refine wpAnyH_take (i := 7) (oi := _) (v := ?vtl67) rfl (by kernel_rfl) (by kernel_rfl) (by kernel_rfl) (fun _ _ _ h => h) (Or.inl ⟨by kernel_rfl, ?hytl67⟩) hHeld ?resttl67
        case hytl67 => (intro w9 hSw; clear hSw; go_simp; try with_reducible rfl)
        try simp only [Act.put, List.getElem_toArray, List.getElem_cons_zero, List.getElem_cons_succ, List.setIfInBounds_toArray, List.set_cons_zero, List.set_cons_succ]
        refine wpAnyH_take (i := 8) (oi := _) (v := ?vtl68) rfl (by kernel_rfl) (by kernel_rfl) (by kernel_rfl) (fun _ _ _ h => h) (Or.inl ⟨by kernel_rfl, ?hytl68⟩) hHeld ?resttl68
        case hytl68 => (intro w9 hSw; clear hSw; go_simp; try with_reducible rfl)
        try simp only [Act.put, List.getElem_toArray, List.getElem_cons_zero, List.getElem_cons_succ, List.setIfInBounds_toArray, List.set_cons_zero, List.set_cons_succ]
        refine wpAnyH_take (i := 9) (oi := _) (v := ?vtl69) rfl (by kernel_rfl) (by kernel_rfl) (by kernel_rfl) (fun _ _ _ h => h) (Or.inl ⟨by kernel_rfl, ?hytl69⟩) hHeld ?resttl69
        case hytl69 => (intro w9 hSw; clear hSw; go_simp; try with_reducible rfl)
        try simp only [Act.put, List.getElem_toArray, List.getElem_cons_zero, List.getElem_cons_succ, List.setIfInBounds_toArray, List.set_cons_zero, List.set_cons_succ]
        refine wpAnyH_ready (rs := [10]) (by kernel_rfl) (by simp) ?_
        refine AllReadyH.cons (o := _) rfl (fun K hK => ?_) ?_
        · go_simp
          refine (CO.out _ _ HO.out).mono ?_; rintro e w70 ⟨rfl, b70⟩
          dsimp only
          have q70 := bnext hqe b70
          have HV := Lib.hid (HV.out.kept b70)
          have HO := Lib.hid (HO.out.kept b70)
          have HF := Lib.hid (runsIn_kept HF.out b70)
          have HW := Lib.hid (runsIn_kept HW.out b70)
          have HX := Lib.hid (HX.out.kept1 b70)
          refine hK.out _ _ (HK2.out _ q70) (fun hHeld3 => ?_)
          clear hK K hHeld
          have hHeld := hHeld3
          clear hHeld3
          try simp only [Act.put, List.getElem_toArray, List.getElem_cons_zero, List.getElem_cons_succ, List.setIfInBounds_toArray, List.set_cons_zero, List.set_cons_succ]
          refine wpAnyH_take (i := 11) (oi := _) (v := ?vtl71) rfl (by kernel_rfl) (by kernel_rfl) (by kernel_rfl) (fun _ _ _ h => h) (Or.inl ⟨by kernel_rfl, ?hytl71⟩) hHeld ?resttl71
          case hytl71 => (intro w9 hSw; clear hSw; go_simp; try with_reducible rfl)
          try simp only [Act.put, List.getElem_toArray, List.getElem_cons_zero, List.getElem_cons_succ, List.setIfInBounds_toArray, List.set_cons_zero, List.set_cons_succ]
          refine wpAnyH_take (i := 12) (oi := _) (v := ?vtl72) rfl (by kernel_rfl) (by kernel_rfl) (by kernel_rfl) (fun _ _ _ h => h) (Or.inl ⟨by kernel_rfl, ?hytl72⟩) hHeld ?resttl72
          case hytl72 => (intro w9 hSw; clear hSw; go_simp; try with_reducible rfl)
          try simp only [Act.put, List.getElem_toArray, List.getElem_cons_zero, List.getElem_cons_succ, List.setIfInBounds_toArray, List.set_cons_zero, List.set_cons_succ]
          refine wpAnyH_take (i := 13) (oi := _) (v := ?vtl73) rfl (by kernel_rfl) (by kernel_rfl) (by kernel_rfl) (fun _ _ _ h => h) (Or.inl ⟨by kernel_rfl, ?hytl73⟩) hHeld ?resttl73
          case hytl73 => (intro w9 hSw; clear hSw; go_simp; try with_reducible rfl)
          try simp only [Act.put, List.getElem_toArray, List.getElem_cons_zero, List.getElem_cons_succ, List.setIfInBounds_toArray, List.set_cons_zero, List.set_cons_succ]
          refine wpAnyH_take (i := 15) (oi := _) (v := ?vtl74) rfl (by kernel_rfl) (by kernel_rfl) (by kernel_rfl) (fun _ _ _ h => h) (Or.inl ⟨by kernel_rfl, ?hytl74⟩) hHeld ?resttl74
          case hytl74 => (intro w9 hSw; clear hSw; go_simp; try with_reducible rfl)
          try simp only [Act.put, List.getElem_toArray, List.getElem_cons_zero, List.getElem_cons_succ, List.setIfInBounds_toArray, List.set_cons_zero, List.set_cons_succ]
          refine wpAnyH_take (i := 17) (oi := _) (v := ?vtl75) rfl (by kernel_rfl) (by kernel_rfl) (by kernel_rfl) (fun _ _ _ h => h) (Or.inl ⟨by kernel_rfl, ?hytl75⟩) hHeld ?resttl75
          case hytl75 => (intro w9 hSw; clear hSw; go_simp; try with_reducible rfl)
          try simp only [Act.put, List.getElem_toArray, List.getElem_cons_zero, List.getElem_cons_succ, List.setIfInBounds_toArray, List.set_cons_zero, List.set_cons_succ]
          refine wpAnyH_ready (rs := [14]) (by kernel_rfl) (by simp) ?_
          refine AllReadyH.cons (o := _) rfl (fun K hK => ?_) ?_
          · go_simp
            refine (BO.out _ _ HO.out).mono ?_; rintro e w76 ⟨v76, rfl, r76, b76⟩
            dsimp only
            have q76 := bnext q70 b76
            have HV := Lib.hid (HV.out.kept b76)
            have HO := Lib.hid (HO.out.kept b76)
            have HF := Lib.hid (runsIn_kept HF.out b76)
            have HW := Lib.hid (runsIn_kept HW.out b76)
            have HX := Lib.hid (HX.out.kept1 b76)
            obtain ⟨ad76, cp76, hs76, -⟩ := shape_of r76
            subst hs76
            have HBo := Lib.hid (runsAt_in r76)
            clear r76
            refine hK.out _ _ (HK2.out _ q76) (fun hHeld3 => ?_)
            clear hK K hHeld
            have hHeld := hHeld3
            clear hHeld3
            try simp only [Act.put, List.getElem_toArray, List.getElem_cons_zero, List.getElem_cons_succ, List.setIfInBounds_toArray, List.set_cons_zero, List.set_cons_succ]
            refine wpAnyH_ready (rs := [16]) (by kernel_rfl) (by simp) ?_
            refine AllReadyH.cons (o := _) rfl (fun K hK => ?_) ?_
            · go_simp
              refine (UO.out _ _ _ HBo.out HF.out).mono ?_; rintro e w77 ⟨v77, rfl, r77, b77⟩
              dsimp only
              have q77 := bnext q76 b77
              have HV := Lib.hid (HV.out.kept b77)
              have HO := Lib.hid (HO.out.kept b77)
              have HF := Lib.hid (runsIn_kept HF.out b77)
              have HW := Lib.hid (runsIn_kept HW.out b77)
              have HX := Lib.hid (HX.out.kept1 b77)
              have HBo := Lib.hid (runsIn_kept HBo.out b77)
              obtain ⟨ad77, cp77, hs77, -⟩ := shape_of r77
              subst hs77
              have HU := Lib.hid (runsAt_in r77)
              clear r77
              refine hK.out _ _ (HK2.out _ q77) (fun hHeld3 => ?_)
              clear hK K hHeld
              have hHeld := hHeld3
              clear hHeld3
              try simp only [Act.put, List.getElem_toArray, List.getElem_cons_zero, List.getElem_cons_succ, List.setIfInBounds_toArray, List.set_cons_zero, List.set_cons_succ]
              refine wpAnyH_ready (rs := [18]) (by kernel_rfl) (by simp) ?_
              refine AllReadyH.cons (o := _) rfl (fun K hK => ?_) ?_
              · go_simp
                refine (SR.out _ _ _ _ HU.out HW.out).mono ?_; rintro e w78 ⟨rfl, b78⟩
                dsimp only
                have q78 := bnext q77 b78
                have HV := Lib.hid (HV.out.kept b78)
                have HO := Lib.hid (HO.out.kept b78)
                have HF := Lib.hid (runsIn_kept HF.out b78)
                have HW := Lib.hid (runsIn_kept HW.out b78)
                have HX := Lib.hid (HX.out.kept1 b78)
                have HBo := Lib.hid (runsIn_kept HBo.out b78)
                have HU := Lib.hid (runsIn_kept HU.out b78)
                refine hK.out _ _ (HK2.out _ q78) (fun hHeld3 => ?_)
                clear hK K hHeld
                have hHeld := hHeld3
                clear hHeld3
                try simp only [Act.put, List.getElem_toArray, List.getElem_cons_zero, List.getElem_cons_succ, List.setIfInBounds_toArray, List.set_cons_zero, List.set_cons_succ]
                refine wpAnyH_take (i := 19) (oi := _) (v := ?vtl79) rfl (by kernel_rfl) (by kernel_rfl) (by kernel_rfl) (fun _ _ _ h => h) (Or.inl ⟨by kernel_rfl, ?hytl79⟩) hHeld ?resttl79
                case hytl79 => (intro w9 hSw; clear hSw; go_simp; try with_reducible rfl)
                try simp only [Act.put, List.getElem_toArray, List.getElem_cons_zero, List.getElem_cons_succ, List.setIfInBounds_toArray, List.set_cons_zero, List.set_cons_succ]
                refine wpAnyH_take (i := 20) (oi := _) (v := ?vtl80) rfl (by kernel_rfl) (by kernel_rfl) (by kernel_rfl) (fun _ _ _ h => h) (Or.inl ⟨by kernel_rfl, ?hytl80⟩) hHeld ?resttl80
                case hytl80 => (intro w9 hSw; clear hSw; go_simp; try with_reducible rfl)
                try simp only [Act.put, List.getElem_toArray, List.getElem_cons_zero, List.getElem_cons_succ, List.setIfInBounds_toArray, List.set_cons_zero, List.set_cons_succ]
                refine wpAnyH_take (i := 21) (oi := _) (v := ?vtl81) rfl (by kernel_rfl) (by kernel_rfl) (by kernel_rfl) (fun _ _ _ h => h) (Or.inl ⟨by kernel_rfl, ?hytl81⟩) hHeld ?resttl81
                case hytl81 => (intro w9 hSw; clear hSw; go_simp; try with_reducible rfl)
                try simp only [Act.put, List.getElem_toArray, List.getElem_cons_zero, List.getElem_cons_succ, List.setIfInBounds_toArray, List.set_cons_zero, List.set_cons_succ]
                refine wpAnyH_take (i := 23) (oi := _) (v := ?vtl82) rfl (by kernel_rfl) (by kernel_rfl) (by kernel_rfl) (fun _ _ _ h => h) (Or.inl ⟨by kernel_rfl, ?hytl82⟩) hHeld ?resttl82
                case hytl82 => (intro w9 hSw; clear hSw; go_simp; try with_reducible rfl)
                try simp only [Act.put, List.getElem_toArray, List.getElem_cons_zero, List.getElem_cons_succ, List.setIfInBounds_toArray, List.set_cons_zero, List.set_cons_succ]
                refine wpAnyH_ready (rs := [22]) (by kernel_rfl) (by simp) ?_
                refine AllReadyH.cons (o := _) rfl (fun K hK => ?_) ?_
                · go_simp
                  refine (BO.out _ _ HO.out).mono ?_; rintro e w83 ⟨v83, rfl, r83, b83⟩
                  dsimp only
                  have q83 := bnext q78 b83
                  have HV := Lib.hid (HV.out.kept b83)
                  have HO := Lib.hid (HO.out.kept b83)
                  have HF := Lib.hid (runsIn_kept HF.out b83)
                  have HW := Lib.hid (runsIn_kept HW.out b83)
                  have HX := Lib.hid (HX.out.kept1 b83)
                  have HBo := Lib.hid (runsIn_kept HBo.out b83)
                  have HU := Lib.hid (runsIn_kept HU.out b83)
                  obtain ⟨ad83, cp83, hs83, -⟩ := shape_of r83
                  subst hs83
                  have HBo := Lib.hid (runsAt_in r83)
                  clear r83
                  refine hK.out _ _ (HK2.out _ q83) (fun hHeld3 => ?_)
                  clear hK K hHeld
                  have hHeld := hHeld3
                  clear hHeld3
                  try simp only [Act.put, List.getElem_toArray, List.getElem_cons_zero, List.getElem_cons_succ, List.setIfInBounds_toArray, List.set_cons_zero, List.set_cons_succ]
                  refine wpAnyH_ready (rs := [24]) (by kernel_rfl) (by simp) ?_
                  refine AllReadyH.cons (o := _) rfl (fun K hK => ?_) ?_
                  · go_simp
                    refine (ME.out _ _ _ HBo.out HF.out).mono ?_; rintro e w84 ⟨adm84, cpm84, rfl, b84⟩
                    dsimp only
                    have q84 := bnext q83 b84
                    have HV := Lib.hid (HV.out.kept b84)
                    have HO := Lib.hid (HO.out.kept b84)
                    have HF := Lib.hid (runsIn_kept HF.out b84)
                    have HW := Lib.hid (runsIn_kept HW.out b84)
                    have HX := Lib.hid (HX.out.kept1 b84)
                    have HBo := Lib.hid (runsIn_kept HBo.out b84)
                    have HU := Lib.hid (runsIn_kept HU.out b84)
                    refine hK.out _ _ (HK2.out _ q84) (fun hHeld3 => ?_)
                    clear hK K hHeld
                    have hHeld := hHeld3
                    clear hHeld3
                    try simp only [Act.put, List.getElem_toArray, List.getElem_cons_zero, List.getElem_cons_succ, List.setIfInBounds_toArray, List.set_cons_zero, List.set_cons_succ]
                    refine wpAnyH_take (i := 25) (oi := _) (v := ?vtl85) rfl (by kernel_rfl) (by kernel_rfl) (by kernel_rfl) (fun _ _ _ h => h) (Or.inl ⟨by kernel_rfl, ?hytl85⟩) hHeld ?resttl85
                    case hytl85 => (intro w9 hSw; clear hSw; go_simp; try with_reducible rfl)
                    try simp only [Act.put, List.getElem_toArray, List.getElem_cons_zero, List.getElem_cons_succ, List.setIfInBounds_toArray, List.set_cons_zero, List.set_cons_succ]
                    refine wpAnyH_take (i := 26) (oi := _) (v := ?vtl86) rfl (by kernel_rfl) (by kernel_rfl) (by kernel_rfl) (fun _ _ _ h => h) (Or.inl ⟨by kernel_rfl, ?hytl86⟩) hHeld ?resttl86
                    case hytl86 => (intro w9 hSw; clear hSw; go_simp; try with_reducible rfl)
                    try simp only [Act.put, List.getElem_toArray, List.getElem_cons_zero, List.getElem_cons_succ, List.setIfInBounds_toArray, List.set_cons_zero, List.set_cons_succ]
                    refine wpAnyH_take (i := 27) (oi := _) (v := ?vtl87) rfl (by kernel_rfl) (by kernel_rfl) (by kernel_rfl) (fun _ _ _ h => h) (Or.inl ⟨by kernel_rfl, ?hytl87⟩) hHeld ?resttl87
                    case hytl87 => (intro w9 hSw; clear hSw; go_simp; try with_reducible rfl)
                    try simp only [Act.put, List.getElem_toArray, List.getElem_cons_zero, List.getElem_cons_succ, List.setIfInBounds_toArray, List.set_cons_zero, List.set_cons_succ]
                    refine wpAnyH_take (i := 28) (oi := _) (v := ?vtl88) rfl (by kernel_rfl) (by kernel_rfl) (by kernel_rfl) (fun _ _ _ h => h) (Or.inl ⟨by kernel_rfl, ?hytl88⟩) hHeld ?resttl88
                    case hytl88 => (intro w9 hSw; clear hSw; go_simp; try with_reducible rfl)
                    try simp only [Act.put, List.getElem_toArray, List.getElem_cons_zero, List.getElem_cons_succ, List.setIfInBounds_toArray, List.set_cons_zero, List.set_cons_succ]
                    refine wpAnyH_take (i := 29) (oi := _) (v := ?vtl89) rfl (by kernel_rfl) (by kernel_rfl) (by kernel_rfl) (fun _ _ _ h => h) (Or.inl ⟨by kernel_rfl, ?hytl89⟩) hHeld ?resttl89
                    case hytl89 => (intro w9 hSw; clear hSw; go_simp; try with_reducible rfl)
                    try simp only [Act.put, List.getElem_toArray, List.getElem_cons_zero, List.getElem_cons_succ, List.setIfInBounds_toArray, List.set_cons_zero, List.set_cons_succ]
                    refine wpAnyH_take (i := 31) (oi := _) (v := ?vtl90) rfl (by kernel_rfl) (by kernel_rfl) (by kernel_rfl) (fun _ _ _ h => h) (Or.inl ⟨by kernel_rfl, ?hytl90⟩) hHeld ?resttl90
                    case hytl90 => (intro w9 hSw; clear hSw; go_simp; try with_reducible rfl)
                    try simp only [Act.put, List.getElem_toArray, List.getElem_cons_zero, List.getElem_cons_succ, List.setIfInBounds_toArray, List.set_cons_zero, List.set_cons_succ]
                    refine wpAnyH_take (i := 33) (oi := _) (v := ?vtl91) rfl (by kernel_rfl) (by kernel_rfl) (by kernel_rfl) (fun _ _ _ h => h) (Or.inl ⟨by kernel_rfl, ?hytl91⟩) hHeld ?resttl91
                    case hytl91 => (intro w9 hSw; clear hSw; go_simp; try with_reducible rfl)
                    try simp only [Act.put, List.getElem_toArray, List.getElem_cons_zero, List.getElem_cons_succ, List.setIfInBounds_toArray, List.set_cons_zero, List.set_cons_succ]
                    refine wpAnyH_take (i := 34) (oi := _) (v := ?vtl92) rfl (by kernel_rfl) (by kernel_rfl) (by kernel_rfl) (fun _ _ _ h => h) (Or.inl ⟨by kernel_rfl, ?hytl92⟩) hHeld ?resttl92
                    case hytl92 => (intro w9 hSw; obtain ⟨e9, f9, g9⟩ := hSw; go_simp; try with_reducible rfl)
                    try simp only [Act.put, List.getElem_toArray, List.getElem_cons_zero, List.getElem_cons_succ, List.setIfInBounds_toArray, List.set_cons_zero, List.set_cons_succ]
                    refine wpAnyH_take (i := 35) (oi := _) (v := ?vtl93) rfl (by kernel_rfl) (by kernel_rfl) (by kernel_rfl) (fun _ _ _ h => h) (Or.inl ⟨by kernel_rfl, ?hytl93⟩) hHeld ?resttl93
                    case hytl93 => (intro w9 hSw; clear hSw; go_simp; try with_reducible rfl)
                    try simp only [Act.put, List.getElem_toArray, List.getElem_cons_zero, List.getElem_cons_succ, List.setIfInBounds_toArray, List.set_cons_zero, List.set_cons_succ]
                    refine wpAnyH_take (i := 36) (oi := _) (v := ?vtl94) rfl (by kernel_rfl) (by kernel_rfl) (by kernel_rfl) (fun _ _ _ h => h) (Or.inl ⟨by kernel_rfl, ?hytl94⟩) hHeld ?resttl94
                    case hytl94 => (intro w9 hSw; obtain ⟨e9, f9, g9⟩ := hSw; go_simp; try with_reducible rfl)
                    try simp only [Act.put, List.getElem_toArray, List.getElem_cons_zero, List.getElem_cons_succ, List.setIfInBounds_toArray, List.set_cons_zero, List.set_cons_succ]
                    refine wpAnyH_take (i := 37) (oi := _) (v := ?vtl95) rfl (by kernel_rfl) (by kernel_rfl) (by kernel_rfl) (fun _ _ _ h => h) (Or.inl ⟨by kernel_rfl, ?hytl95⟩) hHeld ?resttl95
                    case hytl95 => (intro w9 hSw; clear hSw; go_simp; try with_reducible rfl)
                    try simp only [Act.put, List.getElem_toArray, List.getElem_cons_zero, List.getElem_cons_succ, List.setIfInBounds_toArray, List.set_cons_zero, List.set_cons_succ]
                    refine wpAnyH_ready (rs := [30]) (by kernel_rfl) (by simp) ?_
                    refine AllReadyH.cons (o := _) rfl (fun K hK => ?_) ?_
                    · go_simp
                      refine (EO.out _ _ HO.out).mono ?_; rintro e w96 ⟨rfl, b96⟩
                      dsimp only
                      have q96 := bnext q84 b96
                      have HV := Lib.hid (HV.out.kept b96)
                      have HO := Lib.hid (HO.out.kept b96)
                      have HF := Lib.hid (runsIn_kept HF.out b96)
                      have HW := Lib.hid (runsIn_kept HW.out b96)
                      have HX := Lib.hid (HX.out.kept1 b96)
                      have HBo := Lib.hid (runsIn_kept HBo.out b96)
                      have HU := Lib.hid (runsIn_kept HU.out b96)
                      refine hK.out _ _ (HK2.out _ q96) (fun hHeld3 => ?_)
                      clear hK K hHeld
                      have hHeld := hHeld3
                      clear hHeld3
                      try simp only [Act.put, List.getElem_toArray, List.getElem_cons_zero, List.getElem_cons_succ, List.setIfInBounds_toArray, List.set_cons_zero, List.set_cons_succ]
                      refine wpAnyH_ready (rs := [32]) (by kernel_rfl) (by simp) ?_
                      refine AllReadyH.cons (o := _) rfl (fun K hK => ?_) ?_
                      · go_simp
                        refine (EL.out _ _ HV.out).mono ?_; rintro e w97 ⟨rfl, b97⟩
                        dsimp only
                        have q97 := bnext q96 b97
                        have HV := Lib.hid (HV.out.kept b97)
                        have HO := Lib.hid (HO.out.kept b97)
                        have HF := Lib.hid (runsIn_kept HF.out b97)
                        have HW := Lib.hid (runsIn_kept HW.out b97)
                        have HX := Lib.hid (HX.out.kept1 b97)
                        have HBo := Lib.hid (runsIn_kept HBo.out b97)
                        have HU := Lib.hid (runsIn_kept HU.out b97)
                        refine hK.out _ _ (HK2.out _ q97) (fun hHeld3 => ?_)
                        clear hK K hHeld
                        have hHeld := hHeld3
                        clear hHeld3
                        try simp only [Act.put, List.getElem_toArray, List.getElem_cons_zero, List.getElem_cons_succ, List.setIfInBounds_toArray, List.set_cons_zero, List.set_cons_succ]
                        refine wpAnyH_take (i := 38) (oi := _) (v := ?vtl98) rfl (by kernel_rfl) (by kernel_rfl) (by kernel_rfl) (fun _ _ _ h => h) (Or.inl ⟨by kernel_rfl, ?hytl98⟩) hHeld ?resttl98
                        case hytl98 => (intro w9 hSw; clear hSw; go_simp; try with_reducible rfl)
                        try simp only [Act.put, List.getElem_toArray, List.getElem_cons_zero, List.getElem_cons_succ, List.setIfInBounds_toArray, List.set_cons_zero, List.set_cons_succ]
                        refine wpAnyH_take (i := 39) (oi := _) (v := ?vtl99) rfl (by kernel_rfl) (by kernel_rfl) (by kernel_rfl) (fun _ _ _ h => h) (Or.inl ⟨by kernel_rfl, ?hytl99⟩) hHeld ?resttl99
                        case hytl99 => (intro w9 hSw; clear hSw; go_simp; try with_reducible rfl)
                        try simp only [Act.put, List.getElem_toArray, List.getElem_cons_zero, List.getElem_cons_succ, List.setIfInBounds_toArray, List.set_cons_zero, List.set_cons_succ]
                        refine wpAnyH_take (i := 40) (oi := _) (v := ?vtl100) rfl (by kernel_rfl) (by kernel_rfl) (by kernel_rfl) (fun _ _ _ h => h) (Or.inl ⟨by kernel_rfl, ?hytl100⟩) hHeld ?resttl100
                        case hytl100 => (intro w9 hSw; clear hSw; go_simp; try with_reducible rfl)
                        try simp only [Act.put, List.getElem_toArray, List.getElem_cons_zero, List.getElem_cons_succ, List.setIfInBounds_toArray, List.set_cons_zero, List.set_cons_succ]
                        refine wpAnyH_take (i := 41) (oi := _) (v := ?vtl101) rfl (by kernel_rfl) (by kernel_rfl) (by kernel_rfl) (fun _ _ _ h => h) (Or.inl ⟨by kernel_rfl, ?hytl101⟩) hHeld ?resttl101
                        case hytl101 => (intro w9 hSw; clear hSw; go_simp; try with_reducible rfl)
                        try simp only [Act.put, List.getElem_toArray, List.getElem_cons_zero, List.getElem_cons_succ, List.setIfInBounds_toArray, List.set_cons_zero, List.set_cons_succ]
                        refine wpAnyH_ready (rs := [42]) (by kernel_rfl) (by simp) ?_
                        refine AllReadyH.cons (o := _) rfl (fun K hK => ?_) ?_
                        · go_simp
                          refine (AL.out _).mono ?_; rintro e w102 ⟨rfl, b102⟩
                          dsimp only
                          have q102 := bnext q97 b102
                          have HV := Lib.hid (HV.out.kept b102)
                          have HO := Lib.hid (HO.out.kept b102)
                          have HF := Lib.hid (runsIn_kept HF.out b102)
                          have HW := Lib.hid (runsIn_kept HW.out b102)
                          have HX := Lib.hid (HX.out.kept1 b102)
                          have HBo := Lib.hid (runsIn_kept HBo.out b102)
                          have HU := Lib.hid (runsIn_kept HU.out b102)
                          refine hK.out _ _ (HK2.out _ q102) (fun hHeld3 => ?_)
                          clear hK K hHeld
                          have hHeld := hHeld3
                          clear hHeld3
                          try simp only [Act.put, List.getElem_toArray, List.getElem_cons_zero, List.getElem_cons_succ, List.setIfInBounds_toArray, List.set_cons_zero, List.set_cons_succ]
                          refine wpAnyH_take (i := 43) (oi := _) (v := ?vtl103) rfl (by kernel_rfl) (by kernel_rfl) (by kernel_rfl) (fun _ _ _ h => h) (Or.inl ⟨by kernel_rfl, ?hytl103⟩) hHeld ?resttl103
                          case hytl103 => (intro w9 hSw; clear hSw; go_simp; try with_reducible rfl)
                          try simp only [Act.put, List.getElem_toArray, List.getElem_cons_zero, List.getElem_cons_succ, List.setIfInBounds_toArray, List.set_cons_zero, List.set_cons_succ]
                          refine wpAnyH_take (i := 44) (oi := _) (v := ?vtl104) rfl (by kernel_rfl) (by kernel_rfl) (by kernel_rfl) (fun _ _ _ h => h) (Or.inl ⟨by kernel_rfl, ?hytl104⟩) hHeld ?resttl104
                          case hytl104 => (intro w9 hSw; clear hSw; go_simp; try with_reducible rfl)
                          try simp only [Act.put, List.getElem_toArray, List.getElem_cons_zero, List.getElem_cons_succ, List.setIfInBounds_toArray, List.set_cons_zero, List.set_cons_succ]
                          refine ⟨by kernel_rfl, ?_⟩
                          clear hHeld
                          have HB := Lib.hid (bnext HB.out q102)
                          go_wp2
                          go_ret
                          exact ⟨rfl, HB.out⟩
                        exact AllReadyH.nil
                      exact AllReadyH.nil
                    exact AllReadyH.nil
                  exact AllReadyH.nil
                exact AllReadyH.nil
              exact AllReadyH.nil
            exact AllReadyH.nil
          exact AllReadyH.nil
        exact AllReadyH.nil
      exact AllReadyH.nil
    exact AllReadyH.nil
  exact AllReadyH.nil
end Go.Proofs.Ytgcbfiecgiijkaa
