/- The walk of RunsPuts. -/
import Derived.Test.YtmdkekbhondkbaaRTwin
namespace Go.Proofs.Ytmdkekbhondkbaa
set_option linter.unusedVariables false
open Go.RowKit Go.Shelf

set_option maxHeartbeats 16000000 in
theorem puts_walk (a b : List (Int × Int)) (fa : fitR a) (fb : fitR b) (va vb : Value) (w : World) (ha0 : RunsIn va a w) (hb0 : RunsIn vb b w) :
    Calls Try.prog 4 #[va, vb] w fun e w' => e = .returned (.bool true) ∧ Below w.heap.size w w' := by
  obtain ⟨ada, capa, rfl, -⟩ := id ha0
  obtain ⟨adb, capb, rfl, -⟩ := id hb0
  by_cases hla : a.length ≤ 100
  · by_cases hlb : b.length ≤ 100
    · have AL := Lib.hid alive_any
      have TA := Lib.hid (twin_any a (by omega))
      have TB := Lib.hid (twin_any b (by omega))
      have FU := Lib.hid (union_any a b fa fb (by omega))
      have FD := Lib.hid (minus_any a b fa fb (by omega))
      have FM := Lib.hid (meet_any a b fa fb (by omega))
      have RU := Lib.hid (runion_any a b fa fb (by omega))
      have RD := Lib.hid (rminus_any a b fa fb (by omega))
      have RM := Lib.hid (rmeet_any a b fa fb (by omega))
      have SA := Lib.hid same_yes
      have LA := Lib.hid (left_any a (by omega))
      have LB := Lib.hid (left_any b (by omega))
      have PX := Lib.hid (spoil_any (unionR a b))
      have PY := Lib.hid (spoil_any (minusR a b))
      have PZ := Lib.hid (spoil_any (meetR a b))
      generalize unionR a b = U at *
      generalize minusR a b = D at *
      generalize meetR a b = M at *
      clear fa fb
      go_enter Try.func4, Try.ntmps4
      go_wp2_with fail
      refine (TA.out _ _ ha0).mono ?_; rintro e w1 ⟨vt, rfl, ht, b1⟩
      have ha := runsIn_kept ha0 b1
      have hbb := runsIn_kept hb0 b1
      clear TA ha0 hb0
      go_wp2_with fail
      refine (TB.out _ _ hbb).mono ?_; rintro e w2 ⟨vu, rfl, hu, b2⟩
      have ha := runsIn_kept ha b2
      have hbb := runsIn_kept hbb b2
      have ht := twin_kept ht b2
      have h02 := bnext b1 b2
      have hb := Below.refl w2.heap.size w2
      clear b1 b2 TB
      go_wp2_with fail
      refine (FU.out _ _ _ (twin_in ht) (twin_in hu)).mono ?_; rintro e w3 ⟨vx, rfl, rx, b⟩
      have s23 := b.size
      have hb := bnext hb b
      clear b
      have rx2 := rx
      go_wp2_with fail
      refine (FD.out _ _ _ (twin_in (twin_kept ht hb)) (twin_in (twin_kept hu hb))).mono ?_; rintro e w4 ⟨vy, rfl, ry, b⟩
      have rx := row_kept rx b
      have s34 := b.size
      have hb := bnext hb b
      clear b
      have ry2 := ry
      go_wp2_with fail
      refine (FM.out _ _ _ (twin_in (twin_kept ht hb)) (twin_in (twin_kept hu hb))).mono ?_; rintro e w5 ⟨vz, rfl, rz, b⟩
      have rx := row_kept rx b
      have ry := row_kept ry b
      have s45 := b.size
      have hb := bnext hb b
      clear b
      have rz2 := rz
      go_wp2_with fail
      refine (RU.out _ _ _ (runsIn_kept ha hb) (runsIn_kept hbb hb)).mono ?_; rintro e w6 ⟨vf, rfl, rf, b⟩
      have rx := row_kept rx b
      have ry := row_kept ry b
      have rz := row_kept rz b
      have s56 := b.size
      have hb := bnext hb b
      clear b RU
      go_wp2_with fail
      refine (RD.out _ _ _ (runsIn_kept ha hb) (runsIn_kept hbb hb)).mono ?_; rintro e w7 ⟨vg, rfl, rg, b⟩
      have rx := row_kept rx b
      have ry := row_kept ry b
      have rz := row_kept rz b
      have rf := row_kept rf b
      have s67 := b.size
      have hb := bnext hb b
      clear b RD
      go_wp2_with fail
      refine (RM.out _ _ _ (runsIn_kept ha hb) (runsIn_kept hbb hb)).mono ?_; rintro e w8 ⟨vh, rfl, rh, b⟩
      have rx := row_kept rx b
      have ry := row_kept ry b
      have rz := row_kept rz b
      have rf := row_kept rf b
      have rg := row_kept rg b
      have hb := bnext hb b
      clear b RM
      have axy := apart_of rx2 ry (by omega)
      have axz := apart_of rx2 rz (by omega)
      have axf := apart_of rx2 rf (by omega)
      have axg := apart_of rx2 rg (by omega)
      have axh := apart_of rx2 rh (by omega)
      have ayz := apart_of ry2 rz (by omega)
      have ayf := apart_of ry2 rf (by omega)
      have ayg := apart_of ry2 rg (by omega)
      have ayh := apart_of ry2 rh (by omega)
      have azf := apart_of rz2 rf (by omega)
      have azg := apart_of rz2 rg (by omega)
      have azh := apart_of rz2 rh (by omega)
      have ry := row_down s23 ry
      have rz := row_down (Nat.le_trans s23 s34) rz
      clear rx2 ry2 rz2 s23 s34 s45 s56 s67
      go_wp2_with fail
      refine (SA.out _ _ _ _ (runsAt_in rx) (runsAt_in rf)).mono ?_; rintro e w9 ⟨rfl, b⟩
      have rx := row_kept rx b
      have ry := row_kept ry b
      have rz := row_kept rz b
      have rf := row_kept rf b
      have rg := row_kept rg b
      have rh := row_kept rh b
      have hb := bnext hb b
      clear b
      go_wp2_with fail
      refine (SA.out _ _ _ _ (runsAt_in ry) (runsAt_in rg)).mono ?_; rintro e w10 ⟨rfl, b⟩
      have rx := row_kept rx b
      have ry := row_kept ry b
      have rz := row_kept rz b
      have rf := row_kept rf b
      have rg := row_kept rg b
      have rh := row_kept rh b
      have hb := bnext hb b
      clear b
      go_wp2_with fail
      refine (SA.out _ _ _ _ (runsAt_in rz) (runsAt_in rh)).mono ?_; rintro e w11 ⟨rfl, b⟩
      have rx := row_kept rx b
      have ry := row_kept ry b
      have rz := row_kept rz b
      have rf := row_kept rf b
      have rg := row_kept rg b
      have rh := row_kept rh b
      have hb := bnext hb b
      clear b
      go_wp2_with fail
      refine (PX.out _ _ _ rx).mono ?_; rintro e w12 ⟨rfl, hg⟩
      have ry := row_spoil ry hg axy
      have rz := row_spoil rz hg axz
      have rf := row_spoil rf hg axf
      have rg := row_spoil rg hg axg
      have rh := row_spoil rh hg axh
      have hb := hb.trans (below_of_row rx hg hb.size)
      clear hg axy axz axf axg axh rx PX
      go_wp2_with fail
      refine (SA.out _ _ _ _ (runsAt_in ry) (runsAt_in rg)).mono ?_; rintro e w13 ⟨rfl, b⟩
      have ry := row_kept ry b
      have rz := row_kept rz b
      have rf := row_kept rf b
      have rg := row_kept rg b
      have rh := row_kept rh b
      have hb := bnext hb b
      clear b
      go_wp2_with fail
      refine (SA.out _ _ _ _ (runsAt_in rz) (runsAt_in rh)).mono ?_; rintro e w14 ⟨rfl, b⟩
      have ry := row_kept ry b
      have rz := row_kept rz b
      have rf := row_kept rf b
      have rg := row_kept rg b
      have rh := row_kept rh b
      have hb := bnext hb b
      clear b
      go_wp2_with fail
      refine (PY.out _ _ _ ry).mono ?_; rintro e w15 ⟨rfl, hg⟩
      have rz := row_spoil rz hg ayz
      have rf := row_spoil rf hg ayf
      have rg := row_spoil rg hg ayg
      have rh := row_spoil rh hg ayh
      have hb := hb.trans (below_of_row ry hg hb.size)
      clear hg ayz ayf ayg ayh ry PY
      go_wp2_with fail
      refine (SA.out _ _ _ _ (runsAt_in rz) (runsAt_in rh)).mono ?_; rintro e w16 ⟨rfl, b⟩
      have rz := row_kept rz b
      have rf := row_kept rf b
      have rg := row_kept rg b
      have rh := row_kept rh b
      have hb := bnext hb b
      clear b
      go_wp2_with fail
      refine (PZ.out _ _ _ rz).mono ?_; rintro e w17 ⟨rfl, hg⟩
      have rf := row_spoil rf hg azf
      have rg := row_spoil rg hg azg
      have rh := row_spoil rh hg azh
      have hb := hb.trans (below_of_row rz hg hb.size)
      clear hg azf azg azh rz PZ
      go_wp2_with fail
      refine (LA.out _ _ _ _ (twin_kept ht hb) (runsIn_kept ha hb)).mono ?_; rintro e w18 ⟨rfl, b⟩
      have rf := row_kept rf b
      have rg := row_kept rg b
      have rh := row_kept rh b
      have hb := bnext hb b
      clear b LA
      go_wp2_with fail
      refine (LB.out _ _ _ _ (twin_kept hu hb) (runsIn_kept hbb hb)).mono ?_; rintro e w19 ⟨rfl, b⟩
      have rf := row_kept rf b
      have rg := row_kept rg b
      have rh := row_kept rh b
      have hb := bnext hb b
      clear b LB
      go_wp2_with fail
      refine (FU.out _ _ _ (twin_in (twin_kept ht hb)) (twin_in (twin_kept hu hb))).mono ?_; rintro e w20 ⟨vx, rfl, rx, b⟩
      have rf := row_kept rf b
      have rg := row_kept rg b
      have rh := row_kept rh b
      have hb := bnext hb b
      clear b FU
      go_wp2_with fail
      refine (SA.out _ _ _ _ (runsAt_in rx) (runsAt_in rf)).mono ?_; rintro e w21 ⟨rfl, b⟩
      have rg := row_kept rg b
      have rh := row_kept rh b
      have hb := bnext hb b
      clear b rx rf
      go_wp2_with fail
      refine (FD.out _ _ _ (twin_in (twin_kept ht hb)) (twin_in (twin_kept hu hb))).mono ?_; rintro e w22 ⟨vy, rfl, ry, b⟩
      have rg := row_kept rg b
      have rh := row_kept rh b
      have hb := bnext hb b
      clear b FD
      go_wp2_with fail
      refine (SA.out _ _ _ _ (runsAt_in ry) (runsAt_in rg)).mono ?_; rintro e w23 ⟨rfl, b⟩
      have rh := row_kept rh b
      have hb := bnext hb b
      clear b ry rg
      go_wp2_with fail
      refine (FM.out _ _ _ (twin_in (twin_kept ht hb)) (twin_in (twin_kept hu hb))).mono ?_; rintro e w24 ⟨vz, rfl, rz, b⟩
      have rh := row_kept rh b
      have hb := bnext hb b
      clear b FM
      go_wp2_with fail
      refine (SA.out _ _ _ _ (runsAt_in rz) (runsAt_in rh)).mono ?_; rintro e w25 ⟨rfl, b⟩
      have hb := bnext hb b
      clear b SA rz rh
      go_wp2_with fail
      refine (AL.out _).mono ?_; rintro e w26 ⟨rfl, b⟩
      have hb := bnext hb b
      clear b AL
      go_wp2
      go_ret
      exact ⟨rfl, bnext h02 hb⟩
    · have hlb : 100 < b.length := by omega
      clear ha0 hb0
      go_enter Try.func4, Try.ntmps4
      go_wp2
      go_ret
      exact ⟨rfl, Below.refl _ _⟩
  · have hla : 100 < a.length := by omega
    clear ha0 hb0
    go_enter Try.func4, Try.ntmps4
    go_wp2
    go_ret
    exact ⟨rfl, Below.refl _ _⟩
end Go.Proofs.Ytmdkekbhondkbaa
