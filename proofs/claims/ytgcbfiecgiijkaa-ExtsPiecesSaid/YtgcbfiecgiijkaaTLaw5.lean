/- The walk of ExtsPieces. -/
import Derived.Test.YtgcbfiecgiijkaaTLaw5a
import Derived.Test.YtgcbfiecgiijkaaTLaw5b
import Derived.Test.YtgcbfiecgiijkaaTLaw5c
namespace Go.Proofs.Ytgcbfiecgiijkaa
set_option linter.unusedVariables false
set_option linter.unusedSimpArgs false
open Go.RowKit Go.Shelf

set_option maxRecDepth 100000 in
set_option maxHeartbeats 8000000 in
theorem tpieces_walk (l : List Ent) (hf : fitE l) (x : Ent) (hx : I64 x.log ∧ I64 x.phys ∧ I64 x.len) (c : Int) (hc : I64 c) (v : Value) (w : World) (hv : EntsIn v l w) :
    Calls Try.prog 9 #[v, entV x, .int .i64 c] w fun e w' => e = .returned (.bool true) ∧ Below w.heap.size w w' := by
  have hl0 := hl_of hv
  have HB := Lib.hid (balloc1 w (.cells (entC x) 37))
  by_cases hl : l.length ≤ 200
  · have dl : decide ((200 : Int) < (l.length : Int)) = false := decide_eq_false (by omega)
    have AL := Lib.hid talive_any
    have HV := Lib.hid (hv.kept (balloc1 w (.cells (entC x) 37)))
    have HX := Lib.hid (Blk.new (entC x) 37 w)
    by_cases hok : PutOk l x
    · by_cases c1 : c < 1
      · exact tpieces_lo l hf x hx c hc v w hv hl hok c1
      by_cases c2 : x.len ≤ c
      · exact tpieces_hi l hf x hx c hc v w hv hl hok c1 c2
      exact tpieces_two l hf x hx c hc v w hv hl hok c1 c2
    · obtain ⟨e1, e2, e3⟩ := put_no hok
      have PP := fun v w hv => xput_any l hf (by omega) x hx.2.2 v w hv
      rw [e1, e2, e3] at PP
      have PP := Lib.hid PP
      clear hok e1 e2 e3 hx hf hl
      obtain ⟨ad, cap, rfl, -⟩ := entsIn_cells hv
      obtain ⟨xa, xp, xz⟩ := x
      try dsimp only at *
      clear hv hl0
      go_enter Try.func9, Try.ntmps9
      have x0 := HX.out.cell 0
      have x1 := HX.out.cell 1
      have x2 := HX.out.cell 2
      simp only [List.getElem?_toArray, List.getElem?_cons_zero, List.getElem?_cons_succ] at x0 x1 x2
      go_wp2_with fail
      refine (PP.out _ _ HV.out).mono ?_; rintro e w2 ⟨vo, vf, rfl, ro, rf, b2⟩
      have HV := Lib.hid (HV.out.kept b2)
      have HX := Lib.hid (HX.out.kept1 b2)
      have HB := Lib.hid (bnext HB.out b2)
      obtain ⟨ado, cpo, hso, -⟩ := shape_of ro
      have hso : vo = .slice ado 0 cpo := hso
      subst hso
      obtain ⟨adf, cpf, hsf, -⟩ := shape_of rf
      have hsf : vf = .slice adf 0 cpf := hsf
      subst hsf
      clear b2 ro rf x0 x1 x2
      go_wp2_with fail
      refine (AL.out _).mono ?_; rintro e w3 ⟨rfl, b3⟩
      have HV := Lib.hid (HV.out.kept b3)
      have HX := Lib.hid (HX.out.kept1 b3)
      have HB := Lib.hid (bnext HB.out b3)
      clear b3
      go_wp2
      go_ret
      exact ⟨rfl, HB.out⟩
  · have dl : decide ((200 : Int) < (l.length : Int)) = true := decide_eq_true (by omega)
    obtain ⟨ad, cap, rfl, -⟩ := entsIn_cells hv
    clear hv hl0
    go_enter Try.func9, Try.ntmps9
    go_wp2
    go_ret
    exact ⟨rfl, HB.out⟩
end Go.Proofs.Ytgcbfiecgiijkaa
