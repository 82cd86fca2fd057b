/- The walk of RunsChecks. -/
import Derived.Test.YtmdkekbhondkbaaRTwin
import Derived.Test.YtmdkekbhondkbaaRRef4
namespace Go.Proofs.Ytmdkekbhondkbaa
set_option linter.unusedVariables false
open Go.RowKit Go.Shelf

set_option maxHeartbeats 16000000 in
theorem checks_walk (l : List (Int × Int)) (i : Int) (hi : I64 i) (fl : fitR l) (vl : Value) (w : World) (hl0 : RunsIn vl l w) :
    Calls Try.prog 3 #[vl, .int .i64 i] w fun e w' => e = .returned (.bool true) ∧ Below w.heap.size w w' := by
  obtain ⟨adl, capl, rfl, -⟩ := id hl0
  by_cases hla : l.length ≤ 150
  · have AL := Lib.hid alive_any
    have TW := Lib.hid (twin_any l (by omega))
    have NO := Lib.hid (norm_any l fl (by omega))
    have RN := Lib.hid (rnorm_any l fl (by omega))
    have LN := Lib.hid (lengths_any l fl (by omega))
    have RL := Lib.hid (rlengths_any l fl (by omega))
    have CK := Lib.hid (check_any l fl)
    have RK := Lib.hid (rcheck_any l fl)
    have HA := Lib.hid (fun v w => has_any l fl v i w)
    have RH := Lib.hid (fun v w => rhas_any l fl v i hi w)
    have CU := Lib.hid (count_any l fl (by omega))
    have RC := Lib.hid (rcount_any l fl (by omega))
    have LA := Lib.hid (largest_any l fl (by omega))
    have RA := Lib.hid (rlargest_any l fl (by omega))
    have SA := Lib.hid same_yes
    have LE := Lib.hid (left_any l (by omega))
    have SP := Lib.hid (spoil_any (normR l))
    have hLl : (lensR (normR l)).length ≤ 150 := by rw [lens_len]; have := norm_len l; omega
    generalize lensR (normR l) = L at *
    generalize sumR (normR l) = sc at *
    generalize maxR (normR l) = mx at *
    generalize decide (Norm (-1) l) = bc at *
    generalize decide (elemR l i) = bh at *
    generalize normR l = m at *
    have d1 : (bc != bc) = false := by simp
    have d2 : (bh != bh) = false := by simp
    have d3 : (sc != sc) = false := by simp
    have d4 : (mx != mx) = false := by simp
    have d5 : (bc == bc) = true := by simp
    have d6 : (bh == bh) = true := by simp
    have d7 : (sc == sc) = true := by simp
    have d8 : (mx == mx) = true := by simp
    clear fl
    go_enter Try.func3, Try.ntmps3
    go_wp2_with fail
    refine (TW.out _ _ hl0).mono ?_; rintro e w1 ⟨vt, rfl, ht, b⟩
    have hl := runsIn_kept hl0 b
    have h01 := b
    have hb := Below.refl w1.heap.size w1
    clear b TW hl0
    go_wp2_with fail
    refine (NO.out _ _ (twin_in ht)).mono ?_; rintro e w2 ⟨va, rfl, ra, b⟩
    have hb := bnext hb b
    clear b
    have ra2 := ra
    go_wp2_with fail
    refine (RN.out _ _ (runsIn_kept hl hb)).mono ?_; rintro e w3 ⟨vw, rfl, rw_, b⟩
    have ra := row_kept ra b
    have hb := bnext hb b
    clear b RN
    have hap := apart_of ra2 rw_ (Nat.le_refl _)
    go_wp2_with fail
    refine (LN.out _ _ (twin_in (twin_kept ht hb))).mono ?_; rintro e w4 ⟨vn, rfl, rn, b⟩
    have ra := row_kept ra b
    have rw_ := row_kept rw_ b
    have hb := bnext hb b
    clear b LN ra2
    go_wp2_with fail
    refine (RL.out _ _ (runsIn_kept hl hb)).mono ?_; rintro e w5 ⟨vm, rfl, rm, b⟩
    have ra := row_kept ra b
    have rw_ := row_kept rw_ b
    have rn := row_kept rn b
    have hb := bnext hb b
    clear b RL
    obtain ⟨adn, capn, rfl, n1, n2, n3⟩ := shape_of rn
    obtain ⟨adm, capm, rfl, m1, m2, m3⟩ := shape_of rm
    have n2 : capn ≤ 9223372036854775807 := n2
    have m2 : capm ≤ 9223372036854775807 := m2
    have HN3 := Lib.hid n3
    have HM3 := Lib.hid m3
    clear n3 m3
    go_wp2_with fail
    refine (CK.out _ _ (twin_in (twin_kept ht hb))).mono ?_; rintro e w6 ⟨rfl, b⟩
    have ra := row_kept ra b
    have rw_ := row_kept rw_ b
    have rn := row_kept rn b
    have rm := row_kept rm b
    have hb := bnext hb b
    clear b CK
    go_wp2_with fail
    refine (RK.out _ _ (runsIn_kept hl hb)).mono ?_; rintro e w7 ⟨rfl, b⟩
    have ra := row_kept ra b
    have rw_ := row_kept rw_ b
    have rn := row_kept rn b
    have rm := row_kept rm b
    have hb := bnext hb b
    clear b RK
    go_wp2_with fail
    refine (SA.out _ _ _ _ (runsAt_in ra) (runsAt_in rw_)).mono ?_; rintro e w8 ⟨rfl, b⟩
    have ra := row_kept ra b
    have rw_ := row_kept rw_ b
    have rn := row_kept rn b
    have rm := row_kept rm b
    have hb := bnext hb b
    clear b
    go_wp2_with fail
    refine (HA.out _ _ (twin_in (twin_kept ht hb))).mono ?_; rintro e w9 ⟨rfl, b⟩
    have ra := row_kept ra b
    have rw_ := row_kept rw_ b
    have rn := row_kept rn b
    have rm := row_kept rm b
    have hb := bnext hb b
    clear b HA
    go_wp2_with fail
    refine (RH.out _ _ (runsIn_kept hl hb)).mono ?_; rintro e w10 ⟨rfl, b⟩
    have ra := row_kept ra b
    have rw_ := row_kept rw_ b
    have rn := row_kept rn b
    have rm := row_kept rm b
    have hb := bnext hb b
    clear b RH
    go_wp2_with fail
    refine (CU.out _ _ (twin_in (twin_kept ht hb))).mono ?_; rintro e w11 ⟨rfl, b⟩
    have ra := row_kept ra b
    have rw_ := row_kept rw_ b
    have rn := row_kept rn b
    have rm := row_kept rm b
    have hb := bnext hb b
    clear b CU
    go_wp2_with fail
    refine (RC.out _ _ (runsIn_kept hl hb)).mono ?_; rintro e w17 ⟨rfl, b⟩
    have ra := row_kept ra b
    have rw_ := row_kept rw_ b
    have rn := row_kept rn b
    have rm := row_kept rm b
    have hb := bnext hb b
    clear b RC
    go_wp2_with fail
    refine (LA.out _ _ (twin_in (twin_kept ht hb))).mono ?_; rintro e w18 ⟨rfl, b⟩
    have ra := row_kept ra b
    have rw_ := row_kept rw_ b
    have rn := row_kept rn b
    have rm := row_kept rm b
    have hb := bnext hb b
    clear b LA
    go_wp2_with fail
    refine (RA.out _ _ (runsIn_kept hl hb)).mono ?_; rintro e w19 ⟨rfl, b⟩
    have ra := row_kept ra b
    have rw_ := row_kept rw_ b
    have rn := row_kept rn b
    have rm := row_kept rm b
    have hb := bnext hb b
    clear b RA
    have HR1 := Lib.hid rn
    have HR2 := Lib.hid rm
    clear rn rm
    go_wp2
    go_loopw [10] (fun p wr => ∃ (k : Nat), p = .int .i64 k ∧ k ≤ L.length ∧ Below w19.heap.size w19 wr) (fun p _ => L.length - (intOf p).toNat)
    case atStart => exact ⟨0, rfl, Nat.zero_le _, Below.refl _ _⟩
    case round =>
      obtain ⟨k, rfl, hk, hbr⟩ := hrel
      by_cases hlt : k < L.length
      · obtain ⟨g, rfl, hgB, hg⟩ := HN3.out (by omega)
        obtain ⟨g2, rfl, hgB2, hg2⟩ := HM3.out (by omega)
        have q1 := int_cell (row_kept HR1.out hbr) k hlt
        have q2 := int_cell (row_kept HR2.out hbr) k hlt
        have e1 : ∀ q, (wr.drewN q).cell? ⟨g, k, none⟩ = some (.int .i64 L[k]) := fun _ => q1
        have e2 : ∀ q, (wr.drewN q).cell? ⟨g2, k, none⟩ = some (.int .i64 L[k]) := fun _ => q2
        generalize L[k] = x at *
        have f1 : (x != x) = false := by simp
        have f2 : (x == x) = true := by simp
        clear HR1 HR2 HN3 HM3 ra rw_ hap ht hl hb h01
        go_wp2
        go_quiet (fail)
        go_wp2
        exact ⟨⟨k + 1, by go_num, by omega, below_drewN hbr _⟩, by simp [intOf]; omega⟩
      · obtain rfl : k = L.length := by omega
        have ra := row_kept ra hbr
        have rw_ := row_kept rw_ hbr
        have hb := bnext hb hbr
        clear hbr HR1 HR2
        go_wp2_with fail
        refine (SP.out _ _ _ ra).mono ?_; rintro e w12 ⟨rfl, hg⟩
        have rw_ := row_spoil rw_ hg hap
        have hb := hb.trans (below_of_row ra hg hb.size)
        clear hg hap ra SP
        go_wp2_with fail
        refine (LE.out _ _ _ _ (twin_kept ht hb) (runsIn_kept hl hb)).mono ?_; rintro e w13 ⟨rfl, b⟩
        have rw_ := row_kept rw_ b
        have hb := bnext hb b
        clear b LE
        go_wp2_with fail
        refine (NO.out _ _ (twin_in (twin_kept ht hb))).mono ?_; rintro e w14 ⟨vc, rfl, rc, b⟩
        have rw_ := row_kept rw_ b
        have hb := bnext hb b
        clear b NO
        go_wp2_with fail
        refine (SA.out _ _ _ _ (runsAt_in rc) (runsAt_in rw_)).mono ?_; rintro e w15 ⟨rfl, b⟩
        have hb := bnext hb b
        clear b SA rc rw_
        go_wp2_with fail
        refine (AL.out _).mono ?_; rintro e w16 ⟨rfl, b⟩
        have hb := bnext hb b
        clear b AL
        go_wp2
        go_ret
        exact ⟨rfl, bnext h01 hb⟩
  · have hla : 150 < l.length := by omega
    clear hl0
    go_enter Try.func3, Try.ntmps3
    go_wp2
    go_ret
    exact ⟨rfl, Below.refl _ _⟩
end Go.Proofs.Ytmdkekbhondkbaa
