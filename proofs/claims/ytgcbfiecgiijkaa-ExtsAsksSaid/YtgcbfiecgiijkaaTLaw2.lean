/- The walk of ExtsAsks. -/
import Derived.Test.YtgcbfiecgiijkaaTLaw1
namespace Go.Proofs.Ytgcbfiecgiijkaa
set_option linter.unusedVariables false
set_option linter.unusedSimpArgs false
open Go.RowKit Go.Shelf

theorem apart_ofT {Bu Bv : Nat} {u v : Value} {l m : List (Int × Int)} {w0 w : World} (hu : RunsAt Bu u l w0) (hv : RunsAt Bv v m w) (hle : w0.heap.size ≤ Bv) : ∀ g, u.ownBlock = some g → v.ownBlock ≠ some g := fun g h1 h2 => by
  have := (hu.lt g h1).2; have := (hv.lt g h2).1; omega
set_option maxRecDepth 100000 in
set_option maxHeartbeats 8000000 in
theorem tasks_walk (l : List Ent) (hf : fitE l) (p : Int) (hp : I64 p) (v : Value) (w : World) (hv : EntsIn v l w) :
    Calls Try.prog 3 #[v, .int .i64 p] w fun e w' => e = .returned (.bool true) ∧ Below w.heap.size w w' := by
  have hl0 := hl_of hv
  by_cases hl : l.length ≤ 150
  · have dl : decide ((150 : Int) < (l.length : Int)) = false := decide_eq_false (by omega)
    have TW := Lib.hid fun v w hv => twinx_any l (by omega) v w hv
    have LF := Lib.hid fun B vt v w ht hv => leftx_any l (by omega) B vt v w ht hv
    have AL := Lib.hid talive_any
    have F1 := Lib.hid fun v w hv => xfind_any l hf (by omega) p hp v w hv
    have F2 := Lib.hid fun v w hv => rfind_any l hf (by omega) p hp v w hv
    have B1 := Lib.hid fun v w hv => xblocks_any l hf (by omega) v w hv
    have B2 := Lib.hid fun v w hv => rblocks_any l hf (by omega) v w hv
    have CK := Lib.hid fun v w hv => xcheck_any l hf v w hv
    have RK := Lib.hid fun v w hv => xrcheck_any l hf (by omega) v w hv
    have E1 := Lib.hid fun v w hv => xendl_any l hf (by omega) v w hv
    have E2 := Lib.hid fun v w hv => xrend_any l hf (by omega) v w hv
    have C1 := Lib.hid fun v w hv => xcount_any l hf (by omega) v w hv
    have C2 := Lib.hid fun v w hv => rcount_any l hf (by omega) v w hv
    have SR := Lib.hid same_yes
    have hBL : (blocksV l).length ≤ 4000 := by
      have := norm_len (physR l); rw [phys_len] at this
      unfold blocksV; split
      · unfold blocksX; omega
      · simp
    unfold foundV at F1 F2
    unfold endV at E1
    unfold countV at C1 C2
    generalize blocksV l = BL at *
    generalize (if RowOk true l then endX l else 0) = ev at *
    generalize (if RowOk true l then countX l else 0) = cv at *
    generalize decide (RowOk true l) = ck at *
    generalize fP l p = x1 at *
    generalize fL l p = x2 at *
    generalize fB l p = x3 at *
    have n1 : (ck != ck) = false := by simp
    have n2 : (x1 != x1) = false := by simp
    have n3 : (x2 != x2) = false := by simp
    have n4 : (x3 != x3) = false := by simp
    have n5 : (ev != ev) = false := by simp
    have n6 : (cv != cv) = false := by simp
    have HV := Lib.hid hv
    have HB := Lib.hid (Below.refl w.heap.size w)
    obtain ⟨ad, cap, rfl, -⟩ := entsIn_cells hv
    clear hv hl0
    go_enter Try.func3, Try.ntmps3
    go_wp2_with fail
    refine (TW.out _ _ HV.out).mono ?_; rintro e w2 ⟨vt, rfl, ht, b2⟩
    have HV := Lib.hid (HV.out.kept b2)
    have HB := Lib.hid (bnext HB.out b2)
    obtain ⟨Bt, hBt⟩ : ∃ Bt, TwinX Bt vt l w2 := ⟨_, ht⟩
    obtain ⟨gt, ct, rfl, -⟩ := id hBt
    have HT := Lib.hid hBt
    clear b2 TW ht hBt
    go_wp2_with fail
    refine (F1.out _ _ (twinX_in HT.out)).mono ?_; rintro e w3 ⟨rfl, b3⟩
    have HV := Lib.hid (HV.out.kept b3)
    have HT := Lib.hid (twinX_kept HT.out b3)
    have HB := Lib.hid (bnext HB.out b3)
    clear b3
    go_wp2_with fail
    refine (F2.out _ _ HV.out).mono ?_; rintro e w4 ⟨rfl, b4⟩
    have HV := Lib.hid (HV.out.kept b4)
    have HT := Lib.hid (twinX_kept HT.out b4)
    have HB := Lib.hid (bnext HB.out b4)
    clear b4
    have HTF := HT
    have HVF := HV
    have HBF := HB
    have HS := Lib.hid (Below.refl w4.heap.size w4)
    go_wp2_with fail
    refine (B1.out _ _ (twinX_in HT.out)).mono ?_; rintro e w5 ⟨vb, rfl, rb, b5⟩
    have HV := Lib.hid (HV.out.kept b5)
    have HT := Lib.hid (twinX_kept HT.out b5)
    have HS := Lib.hid (bnext HS.out b5)
    have HB := Lib.hid (bnext HB.out b5)
    obtain ⟨adb, cpb, hsb, hcb, hcb2, hgb⟩ := shape_of rb
    subst hsb
    have HRB := Lib.hid rb
    have HRB0 := Lib.hid rb
    clear b5 rb
    go_wp2_with fail
    refine (B2.out _ _ HV.out).mono ?_; rintro e w6 ⟨vw, rfl, rw9, b6⟩
    have HV := Lib.hid (HV.out.kept b6)
    have HT := Lib.hid (twinX_kept HT.out b6)
    have HS := Lib.hid (bnext HS.out b6)
    have HRB := Lib.hid (row_kept HRB.out b6)
    have HB := Lib.hid (bnext HB.out b6)
    obtain ⟨adw, cpw, hsw, -⟩ := shape_of rw9
    subst hsw
    have HRW := Lib.hid rw9
    have HAP := Lib.hid (apart_ofT HRB0.out rw9 (Nat.le_refl _))
    clear b6 rw9 HRB0
    go_wp2_with fail
    refine (CK.out _ _ (twinX_in HT.out)).mono ?_; rintro e w7 ⟨rfl, b7⟩
    have HV := Lib.hid (HV.out.kept b7)
    have HT := Lib.hid (twinX_kept HT.out b7)
    have HS := Lib.hid (bnext HS.out b7)
    have HRB := Lib.hid (row_kept HRB.out b7)
    have HRW := Lib.hid (row_kept HRW.out b7)
    have HB := Lib.hid (bnext HB.out b7)
    clear b7
    go_wp2_with fail
    refine (RK.out _ _ HV.out).mono ?_; rintro e w8 ⟨rfl, b8⟩
    have HV := Lib.hid (HV.out.kept b8)
    have HT := Lib.hid (twinX_kept HT.out b8)
    have HS := Lib.hid (bnext HS.out b8)
    have HRB := Lib.hid (row_kept HRB.out b8)
    have HRW := Lib.hid (row_kept HRW.out b8)
    have HB := Lib.hid (bnext HB.out b8)
    clear b8
    go_wp2_with fail
    refine (SR.out _ _ _ _ (runsAt_in HRB.out) (runsAt_in HRW.out)).mono ?_; rintro e w9 ⟨rfl, b9⟩
    have HV := Lib.hid (HV.out.kept b9)
    have HT := Lib.hid (twinX_kept HT.out b9)
    have HS := Lib.hid (bnext HS.out b9)
    have HRB := Lib.hid (row_kept HRB.out b9)
    have HRW := Lib.hid (row_kept HRW.out b9)
    have HB := Lib.hid (bnext HB.out b9)
    clear b9
    go_wp2_with fail
    refine (E1.out _ _ (twinX_in HT.out)).mono ?_; rintro e w10 ⟨rfl, b10⟩
    have HV := Lib.hid (HV.out.kept b10)
    have HT := Lib.hid (twinX_kept HT.out b10)
    have HS := Lib.hid (bnext HS.out b10)
    have HRB := Lib.hid (row_kept HRB.out b10)
    have HRW := Lib.hid (row_kept HRW.out b10)
    have HB := Lib.hid (bnext HB.out b10)
    clear b10
    go_wp2_with fail
    refine (E2.out _ _ HV.out).mono ?_; rintro e w11 ⟨rfl, b11⟩
    have HV := Lib.hid (HV.out.kept b11)
    have HT := Lib.hid (twinX_kept HT.out b11)
    have HS := Lib.hid (bnext HS.out b11)
    have HRB := Lib.hid (row_kept HRB.out b11)
    have HRW := Lib.hid (row_kept HRW.out b11)
    have HB := Lib.hid (bnext HB.out b11)
    clear b11
    go_wp2_with fail
    refine (C1.out _ _ (twinX_in HT.out)).mono ?_; rintro e w12 ⟨rfl, b12⟩
    have HV := Lib.hid (HV.out.kept b12)
    have HT := Lib.hid (twinX_kept HT.out b12)
    have HS := Lib.hid (bnext HS.out b12)
    have HRB := Lib.hid (row_kept HRB.out b12)
    have HRW := Lib.hid (row_kept HRW.out b12)
    have HB := Lib.hid (bnext HB.out b12)
    clear b12
    go_wp2_with fail
    refine (C2.out _ _ HV.out).mono ?_; rintro e w13 ⟨rfl, b13⟩
    have HV := Lib.hid (HV.out.kept b13)
    have HT := Lib.hid (twinX_kept HT.out b13)
    have HS := Lib.hid (bnext HS.out b13)
    have HRB := Lib.hid (row_kept HRB.out b13)
    have HRW := Lib.hid (row_kept HRW.out b13)
    have HB := Lib.hid (bnext HB.out b13)
    clear b13
    have hcb2 : cpb ≤ 9223372036854775807 := hcb2
    clear F1 F2 B2 CK RK E1 E2 C1 C2 HT HV HB
    go_wp2
    go_loopw [14] (fun p wr => ∃ (k : Nat) (xs : List Value), p = .int .i64 k ∧ k ≤ BL.length ∧ Hid (wr.ownsRow w4.heap.size 32 2 (.slice adb BL.length cpb) BL.length xs) ∧ Hid (w13.grownBy wr (Value.ownBlock (.slice adb BL.length cpb)))) (fun p _ => BL.length - (intOf p).toNat)
    case atStart => exact ⟨0, _, rfl, Nat.zero_le _, HRB, Lib.hid (grown_refl' _ _)⟩
    case round =>
      obtain ⟨k, xs, rfl, hk, HX, HG⟩ := hrel
      by_cases hlt : k < BL.length
      · obtain ⟨g, rfl, hgB, hgl⟩ := hgb (by omega)
        have hx := HX.out
        have hxl := hx.1
        have e1 : wr.cell? ⟨g, k * 2, none⟩ = some (xs[k * 2]'(by omega)) := (hx.cellAt _ (by omega)).trans (List.getElem?_eq_getElem _)
        have e2 : wr.cell? ⟨g, k * 2 + 1, none⟩ = some (xs[k * 2 + 1]'(by omega)) := (hx.cellAt _ (by omega)).trans (List.getElem?_eq_getElem _)
        have f1 := hx.frozenAt (k * 2)
        have f2 := hx.frozenAt (k * 2 + 1)
        have s1 := (hx.stored (k * 2) (.int .i64 0)).1
        have s2 := Lib.hid (s1.stored (k * 2 + 1) (.int .i64 0)).1
        have hg2 := Lib.hid (grown_set' (grown_set' HG.out (k * 2) (.int .i64 0)) (k * 2 + 1) (.int .i64 0))
        generalize xs[k * 2]'(by omega) = x1 at *
        generalize xs[k * 2 + 1]'(by omega) = x2 at *
        clear hx s1 HX HG hgb HRB HRW HAP
        go_wp2
        exact ⟨⟨k + 1, _, by go_num, by omega, s2, hg2⟩, by simp [intOf]; omega⟩
      · obtain rfl : k = BL.length := by omega
        have HRW := Lib.hid (kept_of HRW.out HG.out HAP.out)
        have bz : Below w4.heap.size w13 wr := below_of_row HRB.out HG.out HS.out.size
        have bw : Below w4.heap.size w4 wr := HS.out.trans bz
        have HT := Lib.hid (twinX_kept HTF.out bw)
        have HV := Lib.hid (HVF.out.kept bw)
        have HB := Lib.hid (bnext HBF.out bw)
        clear HX HG hgb HRB HAP bz bw HTF HVF HBF HS
        go_wp2_with fail
        refine (LF.out _ _ _ _ HT.out HV.out).mono ?_; rintro e w42 ⟨rfl, b42⟩
        have HT := Lib.hid (twinX_kept HT.out b42)
        have HV := Lib.hid (HV.out.kept b42)
        have HRW := Lib.hid (row_kept HRW.out b42)
        have HB := Lib.hid (bnext HB.out b42)
        clear b42
        go_wp2_with fail
        refine (B1.out _ _ (twinX_in HT.out)).mono ?_; rintro e w43 ⟨vb, rfl, rb, b43⟩
        have HT := Lib.hid (twinX_kept HT.out b43)
        have HV := Lib.hid (HV.out.kept b43)
        have HRW := Lib.hid (row_kept HRW.out b43)
        have HB := Lib.hid (bnext HB.out b43)
        obtain ⟨adb2, cpb2, hsb, -⟩ := shape_of rb
        subst hsb
        have HRB := Lib.hid (runsAt_in rb)
        clear b43 rb
        go_wp2_with fail
        refine (SR.out _ _ _ _ HRB.out (runsAt_in HRW.out)).mono ?_; rintro e w44 ⟨rfl, b44⟩
        have HT := Lib.hid (twinX_kept HT.out b44)
        have HV := Lib.hid (HV.out.kept b44)
        have HRW := Lib.hid (row_kept HRW.out b44)
        have HRB := Lib.hid (runsIn_kept HRB.out b44)
        have HB := Lib.hid (bnext HB.out b44)
        clear b44
        go_wp2_with fail
        refine (AL.out _).mono ?_; rintro e w45 ⟨rfl, b45⟩
        have HT := Lib.hid (twinX_kept HT.out b45)
        have HV := Lib.hid (HV.out.kept b45)
        have HRW := Lib.hid (row_kept HRW.out b45)
        have HRB := Lib.hid (runsIn_kept HRB.out b45)
        have HB := Lib.hid (bnext HB.out b45)
        clear b45
        go_wp2
        go_ret
        exact ⟨rfl, HB.out⟩
  · have dl : decide ((150 : Int) < (l.length : Int)) = true := decide_eq_true (by omega)
    obtain ⟨ad, cap, rfl, -⟩ := entsIn_cells hv
    clear hv hl0
    go_enter Try.func3, Try.ntmps3
    go_wp2
    go_ret
    exact ⟨rfl, Below.refl _ _⟩
end Go.Proofs.Ytgcbfiecgiijkaa
