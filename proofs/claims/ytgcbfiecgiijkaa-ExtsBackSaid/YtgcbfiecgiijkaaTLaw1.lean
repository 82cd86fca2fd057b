/- The walks of ExtsPuts, ExtsPunches, ExtsCuts. -/
import Derived.Test.YtgcbfiecgiijkaaTAlive
import Derived.Test.YtgcbfiecgiijkaaTRef4
namespace Go.Proofs.Ytgcbfiecgiijkaa
set_option linter.unusedVariables false
set_option linter.unusedSimpArgs false
open Go.RowKit Go.Shelf

theorem hl_of {v : Value} {l : List Ent} {w : World} (h : EntsIn v l w) : l.length ≤ 9223372036854775807 := by
  obtain ⟨ad, cap, _, h1, h2, _⟩ := entsIn_cells h; omega
set_option maxRecDepth 100000 in
set_option maxHeartbeats 8000000 in
theorem tputs_walk (l : List Ent) (hf : fitE l) (x : Ent) (hx : I64 x.log ∧ I64 x.phys ∧ I64 x.len) (v : Value) (w : World) (hv : EntsIn v l w) :
    Calls Try.prog 4 #[v, entV x] w fun e w' => e = .returned (.bool true) ∧ Below w.heap.size w w' := by
  have hl0 := hl_of hv
  by_cases hl : l.length ≤ 150
  · have dl : decide ((150 : Int) < (l.length : Int)) = false := decide_eq_false (by omega)
    have TW := Lib.hid fun v w hv => twinx_any l (by omega) v w hv
    have LF := Lib.hid fun B vt v w ht hv => leftx_any l (by omega) B vt v w ht hv
    have AL := Lib.hid talive_any
    have PP := Lib.hid fun v w hv => xput_any l hf (by omega) x hx.2.2 v w hv
    have RR := Lib.hid fun v w hv => rput_any l hf (by omega) x hx v w hv
    have SM := Lib.hid fun B vo vf vw vr w ho hf hw hr hB => samea_yes (putO l x) (putF l x) (putE l x) B vo vf vw vr w ho hf hw hr hB
    generalize putO l x = LO at *
    generalize putF l x = LR at *
    generalize putE l x = ce at *
    have HV := Lib.hid (hv.kept (balloc1 w (.cells (entC x) 37)))
    have HX := Lib.hid (Blk.new (entC x) 37 w)
    have HB := Lib.hid (balloc1 w (.cells (entC x) 37))
    obtain ⟨ad, cap, rfl, -⟩ := entsIn_cells hv
    obtain ⟨xa, xp, xz⟩ := x
    try dsimp only at *
    clear hv hl0
    go_enter Try.func4, Try.ntmps4
    go_wp2_with fail
    refine (TW.out _ _ HV.out).mono ?_; rintro e w2 ⟨vt, rfl, ht, b2⟩
    obtain ⟨Bt, hBt⟩ : ∃ Bt, TwinX Bt vt l w2 := ⟨_, ht⟩
    obtain ⟨gt, ct, rfl, -⟩ := id hBt
    have HT := Lib.hid hBt
    have HV := Lib.hid (HV.out.kept b2)
    have HB := Lib.hid (bnext HB.out b2)
    have HX := Lib.hid (HX.out.kept1 b2)
    clear TW ht b2 hBt
    go_wp2
    go_loopw [6, 7, 8, 9, 10, 11, 12] (fun p o1 o2 o3 o4 o5 o6 wr => ∃ k : Nat, p = .int .i64 k ∧ k ≤ 2 ∧ Hid (TwinX Bt (.slice (some ⟨gt, 0, none⟩) l.length ct) l wr) ∧ Hid (EntsIn (.slice ad l.length cap) l wr) ∧ Hid (Blk w.heap.size (entC ⟨xa, xp, xz⟩) 37 wr) ∧ Hid (Below w.heap.size w wr)) (fun p _ _ _ _ _ _ _ => 2 - (intOf p).toNat)
    case atStart => exact ⟨0, rfl, Nat.zero_le _, HT, HV, HX, HB⟩
    case round =>
      clear HT HV HX HB
      obtain ⟨k, rfl, hk, HT, HV, HX, HB⟩ := hrel
      by_cases hlt : k < 2
      · have HT0 := HT
        have HV0 := HV
        have HX0 := HX
        have x0 := HX.out.cell 0
        have x1 := HX.out.cell 1
        have x2 := HX.out.cell 2
        simp only [List.getElem?_toArray, List.getElem?_cons_zero, List.getElem?_cons_succ] at x0 x1 x2
        go_wp2_with fail
        refine (PP.out _ _ (twinX_in HT.out)).mono ?_; rintro e w3 ⟨vo, vf, rfl, ro, rf, b3⟩
        have HT := Lib.hid (twinX_kept HT.out b3)
        have HV := Lib.hid (HV.out.kept b3)
        have HX := Lib.hid (HX.out.kept1 b3)
        have HS := b3
        obtain ⟨ado, cpo, hso, -⟩ := shape_of ro
        subst hso
        obtain ⟨adf, cpf, hsf, -⟩ := shape_of rf
        subst hsf
        have RO := Lib.hid ro
        have RF := Lib.hid rf
        clear ro rf b3 x0 x1 x2
        have x0 := HX.out.cell 0
        have x1 := HX.out.cell 1
        have x2 := HX.out.cell 2
        simp only [List.getElem?_toArray, List.getElem?_cons_zero, List.getElem?_cons_succ] at x0 x1 x2
        go_wp2_with fail
        refine (RR.out _ _ HV.out).mono ?_; rintro e w4 ⟨vw, vr, rfl, ro, rf, b4⟩
        have HS := bnext HS b4
        obtain ⟨adw, cpw, hsw, -⟩ := shape_of ro
        subst hsw
        obtain ⟨adr, cpr, hsr, -⟩ := shape_of rf
        subst hsr
        have RW := Lib.hid (rowE_in ro)
        have RQ := Lib.hid (runsAt_in rf)
        have RO := Lib.hid (row_kept RO.out b4)
        have RF := Lib.hid (row_kept RF.out b4)
        clear ro rf b4 x0 x1 x2
        go_wp2_with fail
        refine (SM.out wr.heap.size _ _ _ _ _ RO.out RF.out RW.out RQ.out HS.size).mono ?_; rintro e w5 ⟨rfl, b5⟩
        have bw : Below wr.heap.size wr w5 := HS.trans b5
        have HT := Lib.hid (twinX_kept HT0.out bw)
        have HV := Lib.hid (HV0.out.kept bw)
        have HX := Lib.hid (HX0.out.kept1 bw)
        have HB := Lib.hid (bnext HB.out bw)
        clear RO RF RW RQ HS b5 bw HT0 HV0 HX0
        go_wp2_with fail
        refine (LF.out _ _ _ _ HT.out HV.out).mono ?_; rintro e w6 ⟨rfl, b6⟩
        have HT := Lib.hid (twinX_kept HT.out b6)
        have HV := Lib.hid (HV.out.kept b6)
        have HX := Lib.hid (HX.out.kept1 b6)
        have HB := Lib.hid (bnext HB.out b6)
        clear b6
        go_wp2
        exact ⟨⟨k + 1, by go_num, by omega, HT, HV, HX, HB⟩, by simp [intOf]; omega⟩
      · obtain rfl : k = 2 := by omega
        go_wp2_with fail
        refine (AL.out _).mono ?_; rintro e w7 ⟨rfl, b7⟩
        go_wp2
        go_ret
        exact ⟨rfl, bnext HB.out b7⟩
  · have dl : decide ((150 : Int) < (l.length : Int)) = true := decide_eq_true (by omega)
    have hb0 := balloc1 w (.cells (entC x) 37)
    obtain ⟨ad, cap, rfl, -⟩ := entsIn_cells hv
    clear hv hl0
    go_enter Try.func4, Try.ntmps4
    go_wp2
    go_ret
    exact ⟨rfl, hb0⟩
set_option maxRecDepth 100000 in
set_option maxHeartbeats 8000000 in
theorem tpunches_walk (l : List Ent) (hf : fitE l) (a n : Int) (ha : I64 a) (hn : I64 n) (v : Value) (w : World) (hv : EntsIn v l w) :
    Calls Try.prog 5 #[v, .int .i64 a, .int .i64 n] w fun e w' => e = .returned (.bool true) ∧ Below w.heap.size w w' := by
  have hl0 := hl_of hv
  by_cases hl : l.length ≤ 150
  · have dl : decide ((150 : Int) < (l.length : Int)) = false := decide_eq_false (by omega)
    have TW := Lib.hid fun v w hv => twinx_any l (by omega) v w hv
    have LF := Lib.hid fun B vt v w ht hv => leftx_any l (by omega) B vt v w ht hv
    have AL := Lib.hid talive_any
    have PP := Lib.hid fun v w hv => xpunch_any l hf (by omega) a n ha hn v w hv
    have RR := Lib.hid fun v w hv => rpunch_any l hf (by omega) a n ha hn v w hv
    have SM := Lib.hid fun B vo vf vw vr w ho hf hw hr hB => samea_yes (punO l a n) (punF l a n) (punE l a n) B vo vf vw vr w ho hf hw hr hB
    generalize punO l a n = LO at *
    generalize punF l a n = LR at *
    generalize punE l a n = ce at *
    have HV := Lib.hid hv
    have HB := Lib.hid (Below.refl w.heap.size w)
    obtain ⟨ad, cap, rfl, -⟩ := entsIn_cells hv
    clear hv hl0
    go_enter Try.func5, Try.ntmps5
    go_wp2_with fail
    refine (TW.out _ _ HV.out).mono ?_; rintro e w2 ⟨vt, rfl, ht, b2⟩
    obtain ⟨Bt, hBt⟩ : ∃ Bt, TwinX Bt vt l w2 := ⟨_, ht⟩
    obtain ⟨gt, ct, rfl, -⟩ := id hBt
    have HT := Lib.hid hBt
    have HV := Lib.hid (HV.out.kept b2)
    have HB := Lib.hid (bnext HB.out b2)
    clear TW ht b2 hBt
    go_wp2
    go_loopw [8, 9, 10, 11, 12, 13, 14] (fun p o1 o2 o3 o4 o5 o6 wr => ∃ k : Nat, p = .int .i64 k ∧ k ≤ 2 ∧ Hid (TwinX Bt (.slice (some ⟨gt, 0, none⟩) l.length ct) l wr) ∧ Hid (EntsIn (.slice ad l.length cap) l wr) ∧ Hid (Below w.heap.size w wr)) (fun p _ _ _ _ _ _ _ => 2 - (intOf p).toNat)
    case atStart => exact ⟨0, rfl, Nat.zero_le _, HT, HV, HB⟩
    case round =>
      clear HT HV HB
      obtain ⟨k, rfl, hk, HT, HV, HB⟩ := hrel
      by_cases hlt : k < 2
      · have HT0 := HT
        have HV0 := HV
        go_wp2_with fail
        refine (PP.out _ _ (twinX_in HT.out)).mono ?_; rintro e w3 ⟨vo, vf, rfl, ro, rf, b3⟩
        have HT := Lib.hid (twinX_kept HT.out b3)
        have HV := Lib.hid (HV.out.kept b3)
        have HS := b3
        obtain ⟨ado, cpo, hso, -⟩ := shape_of ro
        subst hso
        obtain ⟨adf, cpf, hsf, -⟩ := shape_of rf
        subst hsf
        have RO := Lib.hid ro
        have RF := Lib.hid rf
        clear ro rf b3
        go_wp2_with fail
        refine (RR.out _ _ HV.out).mono ?_; rintro e w4 ⟨vw, vr, rfl, ro, rf, b4⟩
        have HS := bnext HS b4
        obtain ⟨adw, cpw, hsw, -⟩ := shape_of ro
        subst hsw
        obtain ⟨adr, cpr, hsr, -⟩ := shape_of rf
        subst hsr
        have RW := Lib.hid (rowE_in ro)
        have RQ := Lib.hid (runsAt_in rf)
        have RO := Lib.hid (row_kept RO.out b4)
        have RF := Lib.hid (row_kept RF.out b4)
        clear ro rf b4
        go_wp2_with fail
        refine (SM.out wr.heap.size _ _ _ _ _ RO.out RF.out RW.out RQ.out HS.size).mono ?_; rintro e w5 ⟨rfl, b5⟩
        have bw : Below wr.heap.size wr w5 := HS.trans b5
        have HT := Lib.hid (twinX_kept HT0.out bw)
        have HV := Lib.hid (HV0.out.kept bw)
        have HB := Lib.hid (bnext HB.out bw)
        clear RO RF RW RQ HS b5 bw HT0 HV0
        go_wp2_with fail
        refine (LF.out _ _ _ _ HT.out HV.out).mono ?_; rintro e w6 ⟨rfl, b6⟩
        have HT := Lib.hid (twinX_kept HT.out b6)
        have HV := Lib.hid (HV.out.kept b6)
        have HB := Lib.hid (bnext HB.out b6)
        clear b6
        go_wp2
        exact ⟨⟨k + 1, by go_num, by omega, HT, HV, HB⟩, by simp [intOf]; omega⟩
      · obtain rfl : k = 2 := by omega
        go_wp2_with fail
        refine (AL.out _).mono ?_; rintro e w7 ⟨rfl, b7⟩
        go_wp2
        go_ret
        exact ⟨rfl, bnext HB.out b7⟩
  · have dl : decide ((150 : Int) < (l.length : Int)) = true := decide_eq_true (by omega)
    obtain ⟨ad, cap, rfl, -⟩ := entsIn_cells hv
    clear hv hl0
    go_enter Try.func5, Try.ntmps5
    go_wp2
    go_ret
    exact ⟨rfl, Below.refl _ _⟩
set_option maxRecDepth 100000 in
set_option maxHeartbeats 8000000 in
theorem tcuts_walk (l : List Ent) (hf : fitE l) (a : Int) (ha : I64 a) (v : Value) (w : World) (hv : EntsIn v l w) :
    Calls Try.prog 6 #[v, .int .i64 a] w fun e w' => e = .returned (.bool true) ∧ Below w.heap.size w w' := by
  have hl0 := hl_of hv
  by_cases hl : l.length ≤ 150
  · have dl : decide ((150 : Int) < (l.length : Int)) = false := decide_eq_false (by omega)
    have TW := Lib.hid fun v w hv => twinx_any l (by omega) v w hv
    have LF := Lib.hid fun B vt v w ht hv => leftx_any l (by omega) B vt v w ht hv
    have AL := Lib.hid talive_any
    have PP := Lib.hid fun v w hv => xcut_any l hf (by omega) a ha v w hv
    have RR := Lib.hid fun v w hv => rcut_any l hf (by omega) a ha v w hv
    have SM := Lib.hid fun B vo vf vw vr w ho hf hw hr hB => samea_yes (cutO l a) (cutF l a) (cutE l a) B vo vf vw vr w ho hf hw hr hB
    generalize cutO l a = LO at *
    generalize cutF l a = LR at *
    generalize cutE l a = ce at *
    have HV := Lib.hid hv
    have HB := Lib.hid (Below.refl w.heap.size w)
    obtain ⟨ad, cap, rfl, -⟩ := entsIn_cells hv
    clear hv hl0
    go_enter Try.func6, Try.ntmps6
    go_wp2_with fail
    refine (TW.out _ _ HV.out).mono ?_; rintro e w2 ⟨vt, rfl, ht, b2⟩
    obtain ⟨Bt, hBt⟩ : ∃ Bt, TwinX Bt vt l w2 := ⟨_, ht⟩
    obtain ⟨gt, ct, rfl, -⟩ := id hBt
    have HT := Lib.hid hBt
    have HV := Lib.hid (HV.out.kept b2)
    have HB := Lib.hid (bnext HB.out b2)
    clear TW ht b2 hBt
    go_wp2
    go_loopw [6, 7, 8, 9, 10, 11, 12] (fun p o1 o2 o3 o4 o5 o6 wr => ∃ k : Nat, p = .int .i64 k ∧ k ≤ 2 ∧ Hid (TwinX Bt (.slice (some ⟨gt, 0, none⟩) l.length ct) l wr) ∧ Hid (EntsIn (.slice ad l.length cap) l wr) ∧ Hid (Below w.heap.size w wr)) (fun p _ _ _ _ _ _ _ => 2 - (intOf p).toNat)
    case atStart => exact ⟨0, rfl, Nat.zero_le _, HT, HV, HB⟩
    case round =>
      clear HT HV HB
      obtain ⟨k, rfl, hk, HT, HV, HB⟩ := hrel
      by_cases hlt : k < 2
      · have HT0 := HT
        have HV0 := HV
        go_wp2_with fail
        refine (PP.out _ _ (twinX_in HT.out)).mono ?_; rintro e w3 ⟨vo, vf, rfl, ro, rf, b3⟩
        have HT := Lib.hid (twinX_kept HT.out b3)
        have HV := Lib.hid (HV.out.kept b3)
        have HS := b3
        obtain ⟨ado, cpo, hso, -⟩ := shape_of ro
        subst hso
        obtain ⟨adf, cpf, hsf, -⟩ := shape_of rf
        subst hsf
        have RO := Lib.hid ro
        have RF := Lib.hid rf
        clear ro rf b3
        go_wp2_with fail
        refine (RR.out _ _ HV.out).mono ?_; rintro e w4 ⟨vw, vr, rfl, ro, rf, b4⟩
        have HS := bnext HS b4
        obtain ⟨adw, cpw, hsw, -⟩ := shape_of ro
        subst hsw
        obtain ⟨adr, cpr, hsr, -⟩ := shape_of rf
        subst hsr
        have RW := Lib.hid (rowE_in ro)
        have RQ := Lib.hid (runsAt_in rf)
        have RO := Lib.hid (row_kept RO.out b4)
        have RF := Lib.hid (row_kept RF.out b4)
        clear ro rf b4
        go_wp2_with fail
        refine (SM.out wr.heap.size _ _ _ _ _ RO.out RF.out RW.out RQ.out HS.size).mono ?_; rintro e w5 ⟨rfl, b5⟩
        have bw : Below wr.heap.size wr w5 := HS.trans b5
        have HT := Lib.hid (twinX_kept HT0.out bw)
        have HV := Lib.hid (HV0.out.kept bw)
        have HB := Lib.hid (bnext HB.out bw)
        clear RO RF RW RQ HS b5 bw HT0 HV0
        go_wp2_with fail
        refine (LF.out _ _ _ _ HT.out HV.out).mono ?_; rintro e w6 ⟨rfl, b6⟩
        have HT := Lib.hid (twinX_kept HT.out b6)
        have HV := Lib.hid (HV.out.kept b6)
        have HB := Lib.hid (bnext HB.out b6)
        clear b6
        go_wp2
        exact ⟨⟨k + 1, by go_num, by omega, HT, HV, HB⟩, by simp [intOf]; omega⟩
      · obtain rfl : k = 2 := by omega
        go_wp2_with fail
        refine (AL.out _).mono ?_; rintro e w7 ⟨rfl, b7⟩
        go_wp2
        go_ret
        exact ⟨rfl, bnext HB.out b7⟩
  · have dl : decide ((150 : Int) < (l.length : Int)) = true := decide_eq_true (by omega)
    obtain ⟨ad, cap, rfl, -⟩ := entsIn_cells hv
    clear hv hl0
    go_enter Try.func6, Try.ntmps6
    go_wp2
    go_ret
    exact ⟨rfl, Below.refl _ _⟩
end Go.Proofs.Ytgcbfiecgiijkaa
