/- The walk of ExtsPlaces. -/
import Derived.Test.YtgcbfiecgiijkaaTLaw3a
import Derived.Test.YtgcbfiecgiijkaaTLaw3b
import Derived.Test.YtgcbfiecgiijkaaTLaw3c
namespace Go.Proofs.Ytgcbfiecgiijkaa
set_option linter.unusedVariables false
set_option linter.unusedSimpArgs false
open Go.RowKit Go.Shelf

set_option maxRecDepth 100000 in
set_option maxHeartbeats 8000000 in
theorem tplaces_walk (l : List Ent) (hf : fitE l) (x : Ent) (hx : I64 x.log ∧ I64 x.phys ∧ I64 x.len) (p : Int) (hp : I64 p) (v : Value) (w : World) (hv : EntsIn v l w) :
    Calls Try.prog 7 #[v, entV x, .int .i64 p] w fun e w' => e = .returned (.bool true) ∧ Below w.heap.size w w' := by
  have hl0 := hl_of hv
  have HB := Lib.hid (balloc1 w (.cells (entC x) 37))
  by_cases hl : l.length ≤ 200
  · have dl : decide ((200 : Int) < (l.length : Int)) = false := decide_eq_false (by omega)
    have AL := Lib.hid talive_any
    have PP := fun v w hv => xput_any l hf (by omega) x hx.2.2 v w hv
    have HV := Lib.hid (hv.kept (balloc1 w (.cells (entC x) 37)))
    have HX := Lib.hid (Blk.new (entC x) 37 w)
    by_cases hok : PutOk l x
    · by_cases c1 : x.log ≤ p
      · by_cases c2 : p < x.log + x.len
        · exact tplaces_in l hf x hx p hp v w hv hl hok ⟨c1, c2⟩
        · exact tplaces_hi l hf x hx p hp v w hv hl hok c1 c2
      · exact tplaces_lo l hf x hx p hp v w hv hl hok c1
    · obtain ⟨e1, e2, e3⟩ := put_no hok
      rw [e1, e2, e3] at PP
      have PP := Lib.hid PP
      have CL := fun v w hv => xcheck_any l hf v w hv
      by_cases h1 : RowOk true l
      · have h2 : ¬ EntOk true x := fun h => hok ⟨h1, h⟩
        rw [decide_eq_true h1] at CL
        have CL := Lib.hid CL
        have CX := fun v w hv => xcheck_any [x] (fit_one hx) v w hv
        rw [decide_eq_false (show ¬ RowOk true [x] from fun h => h2 ((row_one x).1 h))] at CX
        have CX := Lib.hid CX
        clear hok e1 e2 e3 h1 h2 hx hf hl
        obtain ⟨ad, cap, rfl, -⟩ := entsIn_cells hv
        obtain ⟨xa, xp, xz⟩ := x
        try dsimp only at *
        clear hv hl0
        go_enter Try.func7, Try.ntmps7
        have x0 := HX.out.cell 0
        have x1 := HX.out.cell 1
        have x2 := HX.out.cell 2
        simp only [List.getElem?_toArray, List.getElem?_cons_zero, List.getElem?_cons_succ] at x0 x1 x2
        go_wp2_with fail
        refine (PP.out _ _ HV.out).mono ?_; rintro e w2 ⟨vo, vf, rfl, ro, rf, b2⟩
        have HV := Lib.hid (HV.out.kept b2)
        have HX := Lib.hid (HX.out.kept1 b2)
        have HB := Lib.hid (bnext HB.out b2)
        obtain ⟨ado, cpo, hso, -⟩ := shape_of ro
        have hso : vo = .slice ado 0 cpo := hso
        subst hso
        obtain ⟨adf, cpf, hsf, -⟩ := shape_of rf
        have hsf : vf = .slice adf 0 cpf := hsf
        subst hsf
        clear b2 ro rf x0 x1 x2
        go_wp2_with fail
        refine (CL.out _ _ HV.out).mono ?_; rintro e w3 ⟨rfl, b3⟩
        have HV := Lib.hid (HV.out.kept b3)
        have HX := Lib.hid (HX.out.kept1 b3)
        have HB := Lib.hid (bnext HB.out b3)
        clear b3
        have x0 := HX.out.cell 0
        have x1 := HX.out.cell 1
        have x2 := HX.out.cell 2
        simp only [List.getElem?_toArray, List.getElem?_cons_zero, List.getElem?_cons_succ] at x0 x1 x2
        have bq := balloc1 w3 (.cells #[.int .i64 xa, .int .i64 xp, .int .i64 xz] 37)
        have H1 := Lib.hid (one_in (x := ⟨xa, xp, xz⟩) (Blk.new #[.int .i64 xa, .int .i64 xp, .int .i64 xz] 37 w3))
        have HB := Lib.hid (bnext HB.out bq)
        clear bq
        go_wp2_with fail
        refine (CX.out _ _ H1.out).mono ?_; rintro e w4 ⟨rfl, b4⟩
        have HB := Lib.hid (bnext HB.out b4)
        clear b4
        go_wp2_with fail
        refine (AL.out _).mono ?_; rintro e w5 ⟨rfl, b5⟩
        have HB := Lib.hid (bnext HB.out b5)
        clear b5
        go_wp2
        go_ret
        exact ⟨rfl, HB.out⟩
      · rw [decide_eq_false h1] at CL
        have CL := Lib.hid CL
        clear hok e1 e2 e3 h1 hx hf hl
        obtain ⟨ad, cap, rfl, -⟩ := entsIn_cells hv
        obtain ⟨xa, xp, xz⟩ := x
        try dsimp only at *
        clear hv hl0
        go_enter Try.func7, Try.ntmps7
        have x0 := HX.out.cell 0
        have x1 := HX.out.cell 1
        have x2 := HX.out.cell 2
        simp only [List.getElem?_toArray, List.getElem?_cons_zero, List.getElem?_cons_succ] at x0 x1 x2
        go_wp2_with fail
        refine (PP.out _ _ HV.out).mono ?_; rintro e w2 ⟨vo, vf, rfl, ro, rf, b2⟩
        have HV := Lib.hid (HV.out.kept b2)
        have HX := Lib.hid (HX.out.kept1 b2)
        have HB := Lib.hid (bnext HB.out b2)
        obtain ⟨ado, cpo, hso, -⟩ := shape_of ro
        have hso : vo = .slice ado 0 cpo := hso
        subst hso
        obtain ⟨adf, cpf, hsf, -⟩ := shape_of rf
        have hsf : vf = .slice adf 0 cpf := hsf
        subst hsf
        clear b2 ro rf x0 x1 x2
        go_wp2_with fail
        refine (CL.out _ _ HV.out).mono ?_; rintro e w3 ⟨rfl, b3⟩
        have HV := Lib.hid (HV.out.kept b3)
        have HX := Lib.hid (HX.out.kept1 b3)
        have HB := Lib.hid (bnext HB.out b3)
        clear b3
        go_wp2_with fail
        refine (AL.out _).mono ?_; rintro e w4 ⟨rfl, b4⟩
        have HV := Lib.hid (HV.out.kept b4)
        have HX := Lib.hid (HX.out.kept1 b4)
        have HB := Lib.hid (bnext HB.out b4)
        clear b4
        go_wp2
        go_ret
        exact ⟨rfl, HB.out⟩
  · have dl : decide ((200 : Int) < (l.length : Int)) = true := decide_eq_true (by omega)
    obtain ⟨ad, cap, rfl, -⟩ := entsIn_cells hv
    clear hv hl0
    go_enter Try.func7, Try.ntmps7
    go_wp2
    go_ret
    exact ⟨rfl, HB.out⟩
end Go.Proofs.Ytgcbfiecgiijkaa
