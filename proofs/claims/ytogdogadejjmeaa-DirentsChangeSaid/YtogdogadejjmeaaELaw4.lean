/- The walk of DirentsChange. -/
import Derived.Test.YtogdogadejjmeaaELaw1
import Derived.Test.YtogdogadejjmeaaERChange
namespace Go.Proofs.Ytogdogadejjmeaa
set_option linter.unusedVariables false
open Go.RowKit

set_option maxRecDepth 100000 in
set_option maxHeartbeats 4000000 in
theorem echange_walk (s : ByteArray) (hs : s.size ≤ maxLen) (x : Den) (hx : x.name.size ≤ maxLen ∧ I64 x.ino) (nm : ByteArray) (hn : nm.size ≤ maxLen) (w : World) :
    Calls Try.prog 5 #[.string s, denV x, .string nm] w fun e w' => e = .returned (.bool true) ∧ Below w.heap.size w w' := by
  have hb0 := balloc1 w (.cells (denC x) 25)
  have HC := Lib.hid (den_new w x 25)
  have AL := Lib.hid ealive_any
  obtain ⟨hx1, hx2⟩ := hx
  have hs : s.size ≤ 9223372036854775807 := hs
  have hn : nm.size ≤ 9223372036854775807 := hn
  have hx1 : x.name.size ≤ 9223372036854775807 := hx1
  by_cases h1 : 2000 < s.size
  · have t1 : decide ((2000 : Int) < (s.size : Int)) = true := decide_eq_true (by omega)
    obtain ⟨xn, xi⟩ := x
    dsimp only at *
    go_enter Try.func5, Try.ntmps5
    go_wp2
    go_ret
    exact ⟨rfl, hb0⟩
  · have t1 : decide ((2000 : Int) < (s.size : Int)) = false := decide_eq_false (by omega)
    by_cases h2 : 2000 < nm.size
    · have t2 : decide ((2000 : Int) < (nm.size : Int)) = true := decide_eq_true (by omega)
      obtain ⟨xn, xi⟩ := x
      dsimp only at *
      go_enter Try.func5, Try.ntmps5
      go_wp2
      go_ret
      exact ⟨rfl, hb0⟩
    · have t2 : decide ((2000 : Int) < (nm.size : Int)) = false := decide_eq_false (by omega)
      by_cases h3 : 2000 < x.name.size
      · have t3 : decide ((2000 : Int) < (x.name.size : Int)) = true := decide_eq_true (by omega)
        obtain ⟨xn, xi⟩ := x
        dsimp only at *
        go_enter Try.func5, Try.ntmps5
        go_wp2
        go_ret
        exact ⟨rfl, hb0⟩
      · have t3 : decide ((2000 : Int) < (x.name.size : Int)) = false := decide_eq_false (by omega)
        have I1 := Lib.hid fun w => insert_any s (by omega) x (by omega) hx2 w
        have I2 := Lib.hid fun w => rinsert_any s (by omega) x (by omega) hx2 w
        have R1 := Lib.hid fun w => remove_any s (by omega) nm w
        have R2 := Lib.hid fun w => rremove_any s (by omega) nm w
        generalize insS s x = IS at *
        generalize insR s x = IR at *
        generalize remS s nm = RS at *
        generalize decide (Has (listP s) nm) = RB at *
        have q1 : (IS.toList == IS.toList) = true := by simp
        have q2 : (IR == IR) = true := by simp
        have q3 : (RS.toList == RS.toList) = true := by simp
        have q4 : (RB == RB) = true := by simp
        obtain ⟨xn, xi⟩ := x
        dsimp only at *
        go_enter Try.func5, Try.ntmps5
        go_wp2_with fail
        refine (I1.out _).mono ?_; rintro e w1 ⟨rfl, b1⟩
        obtain ⟨c0, c1⟩ := HC.out ⟨w1, b1⟩
        dsimp only at c0 c1
        go_wp2_with fail
        refine (I2.out _).mono ?_; rintro e w2 ⟨rfl, b2⟩
        have b2 := bnext b1 b2
        clear c0 c1 b1
        go_wp2_with fail
        refine (R1.out _).mono ?_; rintro e w3 ⟨rfl, b3⟩
        have b3 := bnext b2 b3
        clear b2
        go_wp2_with fail
        refine (R2.out _).mono ?_; rintro e w4 ⟨rfl, b4⟩
        have b4 := bnext b3 b4
        clear b3
        go_wp2_with fail
        refine (AL.out _).mono ?_; rintro e w5 ⟨rfl, b5⟩
        have b5 := bnext b4 b5
        go_wp2
        go_ret
        exact ⟨rfl, bnext hb0 b5⟩
end Go.Proofs.Ytogdogadejjmeaa
