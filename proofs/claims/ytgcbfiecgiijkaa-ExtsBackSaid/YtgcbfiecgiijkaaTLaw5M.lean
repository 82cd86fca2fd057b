/- The walk of ExtsPieces. -/
import Derived.Test.YtgcbfiecgiijkaaTLaw1
import Derived.Test.YtgcbfiecgiijkaaTJoin
namespace Go.Proofs.Ytgcbfiecgiijkaa
set_option linter.unusedVariables false
set_option linter.unusedSimpArgs false
open Go.RowKit Go.Shelf

theorem put_calls (l m : List Ent) (hr : Rise 0 l) (hl : l.length ≤ 1000) (x : Ent) (hx : EntOk true x) (hm : putX l x = m) (v : Value) (w : World) (hv : EntsIn v l w) :
    Calls Try.prog 25 #[v, entV x] w fun e w' => ∃ ado cpo adf cpf, e = .returned (.tuple #[.slice ado m.length cpo, .slice adf (freedX l m).length cpf, .int .i64 0]) ∧ EntsIn (.slice ado m.length cpo) m w' ∧ Below w.heap.size w w' := by
  have hk := (entT x).1 hx
  have := xput_any l (ok_fit fun e he => (hr.mem e he).1) hl x (by omega) v w hv
  obtain ⟨e1, e2, e3⟩ := put_yes (l := l) (x := x) ⟨(row_rise l).2 hr, hx⟩
  rw [e1, e2, e3, hm] at this
  refine this.mono fun e w' ⟨vo, vf, he, ro, rf, hb⟩ => ?_
  obtain ⟨ado, cpo, hso, -⟩ := shape_of ro
  obtain ⟨adf, cpf, hsf, -⟩ := shape_of rf
  have hso : vo = .slice ado m.length cpo := hso
  have hsf : vf = .slice adf (freedX l m).length cpf := hsf
  subst hso; subst hsf
  exact ⟨ado, cpo, adf, cpf, he, rowE_in ro, hb⟩
theorem punch_calls (l m : List Ent) (hr : Rise 0 l) (hl : l.length ≤ 1000) (a n : Int) (h0 : 0 ≤ a) (h1 : 1 ≤ n) (h2 : a + n ≤ 2048) (hm : change l a (a + n) [] = m) (v : Value) (w : World) (hv : EntsIn v l w) :
    Calls Try.prog 28 #[v, .int .i64 a, .int .i64 n] w fun e w' => ∃ ado cpo adf cpf, e = .returned (.tuple #[.slice ado m.length cpo, .slice adf (freedX l m).length cpf, .int .i64 0]) ∧ EntsIn (.slice ado m.length cpo) m w' ∧ Below w.heap.size w w' := by
  have := xpunch_any l (ok_fit fun e he => (hr.mem e he).1) hl a n (by omega) (by omega) v w hv
  obtain ⟨e1, e2, e3⟩ := pun_yes (l := l) (a := a) (n := n) ⟨(row_rise l).2 hr, by omega⟩
  rw [e1, e2, e3, show punX l a n = m from by unfold punX; rw [if_neg (by omega)]; exact hm] at this
  refine this.mono fun e w' ⟨vo, vf, he, ro, rf, hb⟩ => ?_
  obtain ⟨ado, cpo, hso, -⟩ := shape_of ro
  obtain ⟨adf, cpf, hsf, -⟩ := shape_of rf
  have hso : vo = .slice ado m.length cpo := hso
  have hsf : vf = .slice adf (freedX l m).length cpf := hsf
  subst hso; subst hsf
  exact ⟨ado, cpo, adf, cpf, he, rowE_in ro, hb⟩
end Go.Proofs.Ytgcbfiecgiijkaa
