/- The walk of ExtsBack. -/
import Derived.Test.YtgcbfiecgiijkaaTLaw6a
import Derived.Test.YtgcbfiecgiijkaaTLaw6b
namespace Go.Proofs.Ytgcbfiecgiijkaa
set_option linter.unusedVariables false
set_option linter.unusedSimpArgs false
open Go.RowKit Go.Shelf

set_option maxRecDepth 100000 in
set_option maxHeartbeats 8000000 in
theorem tback_walk (l : List Ent) (hf : fitE l) (a : Int) (ha : I64 a) (v : Value) (w : World) (hv : EntsIn v l w) :
    Calls Try.prog 10 #[v, .int .i64 a] w fun e w' => e = .returned (.bool true) ∧ Below w.heap.size w w' := by
  have mixed : Try.prog.follows .mixedOrders = true := by kernel_rfl
  have AL := Lib.hid talive_any
  have CK := fun v w hv => xcheck_any l hf v w hv
  have HV := Lib.hid hv
  have HB := Lib.hid (Below.refl w.heap.size w)
  have hl0 := hl_of hv
  by_cases hl : l.length ≤ 60
  · have dl : decide ((60 : Int) < (l.length : Int)) = false := decide_eq_false (by omega)
    by_cases hok : RowOk true l
    · by_cases hp : 0 < l.length
      · by_cases hneg : a.tmod (l.length : Int) < 0
        · exact tback_neg l hf a ha v w hv hl hp hok hneg
        · exact tback_pos l hf a ha v w hv hl hp hok hneg
      · rw [decide_eq_true hok] at CK
        have CK := Lib.hid CK
        obtain ⟨ad, cap, rfl, -⟩ := entsIn_cells hv
        have dz : ((l.length : Int) == 0) = true := by rw [beq_iff_eq]; omega
        clear hv hok hf
        go_enter Try.func10, Try.ntmps10
        go_wp2_with fail
        refine (CK.out _ _ HV.out).mono ?_; rintro e w1 ⟨rfl, b1⟩
        have HV := Lib.hid (HV.out.kept b1)
        have HB := Lib.hid (bnext HB.out b1)
        clear b1 CK
        go_wp2_with fail
        refine (AL.out _).mono ?_; rintro e w2 ⟨rfl, b2⟩
        have HB := Lib.hid (bnext HB.out b2)
        clear b2 
        go_wp2
        go_ret
        exact ⟨rfl, HB.out⟩
    · rw [decide_eq_false hok] at CK
      have CK := Lib.hid CK
      obtain ⟨ad, cap, rfl, -⟩ := entsIn_cells hv
      clear hv hok hf
      go_enter Try.func10, Try.ntmps10
      go_wp2_with fail
      refine (CK.out _ _ HV.out).mono ?_; rintro e w1 ⟨rfl, b1⟩
      have HV := Lib.hid (HV.out.kept b1)
      have HB := Lib.hid (bnext HB.out b1)
      clear b1 CK
      go_wp2_with fail
      refine (AL.out _).mono ?_; rintro e w2 ⟨rfl, b2⟩
      have HB := Lib.hid (bnext HB.out b2)
      clear b2 
      go_wp2
      go_ret
      exact ⟨rfl, HB.out⟩
  · have dl : decide ((60 : Int) < (l.length : Int)) = true := decide_eq_true (by omega)
    obtain ⟨ad, cap, rfl, -⟩ := entsIn_cells hv
    clear hv CK hf
    go_enter Try.func10, Try.ntmps10
    go_wp2_with fail
    refine (AL.out _).mono ?_; rintro e w2 ⟨rfl, b2⟩
    have HB := Lib.hid (bnext HB.out b2)
    clear b2 
    go_wp2
    go_ret
    exact ⟨rfl, HB.out⟩
end Go.Proofs.Ytgcbfiecgiijkaa
