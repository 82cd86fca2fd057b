/- The walks of RunsRest and RunsPuts. -/
import Derived.Test.YtmdkekbhondkbaaRTwin
namespace Go.Proofs.Ytmdkekbhondkbaa
set_option linter.unusedVariables false
open Go.RowKit Go.Shelf

set_option maxHeartbeats 8000000 in
theorem rest_walk (l : List (Int × Int)) (n : Int) (hn : I64 n) (fl : fitR l) (vl : Value) (w : World) (hl0 : RunsIn vl l w) :
    Calls Try.prog 5 #[vl, .int .i64 n] w fun e w' => e = .returned (.bool true) ∧ Below w.heap.size w w' := by
  obtain ⟨adl, capl, rfl, -⟩ := id hl0
  by_cases hla : l.length ≤ 150
  · have AL := Lib.hid alive_any
    have TW := Lib.hid (twin_any l (by omega))
    have CO := Lib.hid (compl_any l fl (by omega) n hn)
    have RC := Lib.hid (rcompl_any l fl (by omega) n hn)
    have SA := Lib.hid same_yes
    have LE := Lib.hid (left_any l (by omega))
    have SP := Lib.hid (spoil_any (complR l n))
    generalize complR l n = c at *
    clear fl
    go_enter Try.func5, Try.ntmps5
    go_wp2_with fail
    refine (TW.out _ _ hl0).mono ?_; rintro e w1 ⟨vt, rfl, ht, b⟩
    have hl := runsIn_kept hl0 b
    have h01 := b
    have hb := Below.refl w1.heap.size w1
    clear b TW hl0
    go_wp2_with fail
    refine (CO.out _ _ (twin_in ht)).mono ?_; rintro e w2 ⟨va, rfl, ra, b⟩
    have hb := bnext hb b
    clear b
    have ra2 := ra
    go_wp2_with fail
    refine (RC.out _ _ (runsIn_kept hl hb)).mono ?_; rintro e w3 ⟨vw, rfl, rw_, b⟩
    have ra := row_kept ra b
    have hb := bnext hb b
    clear b RC
    have hap := apart_of ra2 rw_ (Nat.le_refl _)
    go_wp2_with fail
    refine (SA.out _ _ _ _ (runsAt_in ra) (runsAt_in rw_)).mono ?_; rintro e w4 ⟨rfl, b⟩
    have ra := row_kept ra b
    have rw_ := row_kept rw_ b
    have hb := bnext hb b
    clear b ra2
    go_wp2_with fail
    refine (SP.out _ _ _ ra).mono ?_; rintro e w5 ⟨rfl, hg⟩
    have rw_ := row_spoil rw_ hg hap
    have hb := hb.trans (below_of_row ra hg hb.size)
    clear hg hap ra SP
    go_wp2_with fail
    refine (LE.out _ _ _ _ (twin_kept ht hb) (runsIn_kept hl hb)).mono ?_; rintro e w6 ⟨rfl, b⟩
    have rw_ := row_kept rw_ b
    have hb := bnext hb b
    clear b LE
    go_wp2_with fail
    refine (CO.out _ _ (twin_in (twin_kept ht hb))).mono ?_; rintro e w7 ⟨vc, rfl, rc, b⟩
    have rw_ := row_kept rw_ b
    have hb := bnext hb b
    clear b CO
    go_wp2_with fail
    refine (SA.out _ _ _ _ (runsAt_in rc) (runsAt_in rw_)).mono ?_; rintro e w8 ⟨rfl, b⟩
    have hb := bnext hb b
    clear b SA rc rw_
    go_wp2_with fail
    refine (AL.out _).mono ?_; rintro e w9 ⟨rfl, b⟩
    have hb := bnext hb b
    clear b AL
    go_wp2
    go_ret
    exact ⟨rfl, bnext h01 hb⟩
  · have hla : 150 < l.length := by omega
    clear hl0
    go_enter Try.func5, Try.ntmps5
    go_wp2
    go_ret
    exact ⟨rfl, Below.refl _ _⟩
end Go.Proofs.Ytmdkekbhondkbaa
