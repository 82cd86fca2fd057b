/- Arguments that are superblocks, and arrays of six ints, read. -/
import Derived.Test.YtonfloehobcfbaaUNum
import Derived.Test.YtonfloehobcfbaaOpenInts
import Derived.Test.YtonfloehobcfbaaLiftThree
namespace Go.Proofs.Ytonfloehobcfbaa
set_option linter.unusedVariables false
open Go.ChangeShapes Go.WideShapes Go.ChangeAt Go.RowKit Go.Joins

theorem ten {l : List Int} (h : l.length = 10) : ∃ a b c d e f g h i j, l = [a, b, c, d, e, f, g, h, i, j] := by
  match l, h with
  | [a, b, c, d, e, f, g, h, i, j], _ => exact ⟨a, b, c, d, e, f, g, h, i, j, rfl⟩
theorem sup_under : ∃ fs : Array Field, Try.prog.underlying 23 = some (.struct fs) ∧ Deep.oneCellFields Try.prog fs = true ∧ (fs.toList.all fun f => f.type == 3) = true ∧ fs.size = 10 := ⟨_, Try.underlying23, by kernel_rfl, by kernel_rfl, rfl⟩
theorem sup_cellsOf : Try.prog.cellsOf 23 = 10 := by kernel_rfl
theorem open_sup {H : Type} {enc : TypeId × Value → H} {W : World} {base : Nat} {v : Value} {d : DataW H} {p : List MemPlace} (hval : Value.okWide Try.prog W .any base 23 v)
    (h : DataW.Trod enc Try.prog W 0 (fun _ => true) true 23 v d p) : ∃ s : Sup, v = supV s := by
  obtain ⟨fs, hs, h1, h2, h3⟩ := sup_under
  obtain ⟨zs, e1, rfl, _⟩ := open_struct_ints hs Try.underlying3 h1 h2 (sup_cellsOf.trans h3.symm) hval h
  obtain ⟨a, b, c, x, e, f, g, y, i, j, rfl⟩ := ten (e1.trans h3)
  exact ⟨⟨a, b, c, x, e, f, g, y, i, j⟩, rfl⟩
section
variable {H : Type} {enc : TypeId × Value → H} {P : Program} {w : World} {base b0 : Nat} {spare : Nat → Bool} {held : Bool} {r : Reach} {t e : TypeId} {v : Value} {d : DataW H} {p : List MemPlace}
theorem open_ints6 {k : IntKind} (ht : P.underlying t = some (.array 6 e)) (he : P.underlying e = some (.int k)) (hce : P.cellsOf e = 1) (hct : P.cellsOf t = 6)
    (hv : Value.okWide P w r b0 t v) (h : DataW.Trod enc P w base spare held t v d p) : ∃ x0 x1 x2 x3 x4 x5, v = .agg #[.int k x0, .int k x1, .int k x2, .int k x3, .int k x4, .int k x5] := by
  obtain ⟨cs, rfl, hsz⟩ := okWide_arr ht hv
  obtain ⟨l⟩ := cs
  match l, hsz.trans hct with
  | [c0, c1, c2, c3, c4, c5], _ =>
    obtain ⟨fuel, hf⟩ := h
    obtain ⟨xs, m, rfl, hx, _, hl, hi⟩ := DataW.trod_array ht (by simpa [Value.cells] using hf)
    have h0 := hi 0 (by omega)
    have h1 := hi 1 (by omega)
    have h2 := hi 2 (by omega)
    have h3 := hi 3 (by omega)
    have h4 := hi 4 (by omega)
    have h5 := hi 5 (by omega)
    rw [hce] at h0 h1 h2 h3 h4 h5
    match xs, hl with
    | [y0, y1, y2, y3, y4, y5], _ =>
      obtain ⟨a0, e0, _, _⟩ := DataW.trod_int he h0
      obtain ⟨a1, e1, _, _⟩ := DataW.trod_int he h1
      obtain ⟨a2, e2, _, _⟩ := DataW.trod_int he h2
      obtain ⟨a3, e3, _, _⟩ := DataW.trod_int he h3
      obtain ⟨a4, e4, _, _⟩ := DataW.trod_int he h4
      obtain ⟨a5, e5, _, _⟩ := DataW.trod_int he h5
      simp at e0 e1 e2 e3 e4 e5
      subst e0 e1 e2 e3 e4 e5
      exact ⟨a0, a1, a2, a3, a4, a5, rfl⟩
end
end Go.Proofs.Ytonfloehobcfbaa
