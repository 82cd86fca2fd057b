/- Arrays of two ints, and of two structs of two ints, opened. -/
import Derived.Test.YthkmcfomnkcljaaLift
import Derived.Lib.SmallJoins
namespace Go.Proofs.Ythkmcfomnkcljaa
open Go.ChangeShapes Go.WideShapes Go.ChangeAt Go.RowKit Go.Joins

section
variable {H : Type} {enc : TypeId × Value → H} {P : Program} {w : World} {base b0 : Nat} {spare : Nat → Bool} {held : Bool} {r : Reach} {t e : TypeId} {v : Value} {d : DataW H} {p : List MemPlace}

theorem okWide_array {n : Nat} (ht : P.underlying t = some (.array n e)) (h : Value.okWide P w r base t v) : ∃ cs, v = .agg cs ∧ cs.size = P.cellsOf t := by
  simp only [Value.okWide, ht] at h
  obtain ⟨cs, h1, h2, _⟩ := h
  exact ⟨cs, h1, h2⟩

theorem open_ints2 {k : IntKind} (ht : P.underlying t = some (.array 2 e)) (he : P.underlying e = some (.int k)) (hce : P.cellsOf e = 1) (hct : P.cellsOf t = 2)
    (hv : Value.okWide P w r b0 t v) (h : DataW.Trod enc P w base spare held t v d p) : ∃ a b, v = .agg #[.int k a, .int k b] ∧ (Lit.int k a).wf = true ∧ (Lit.int k b).wf = true := by
  obtain ⟨cs, rfl, hsz⟩ := okWide_array ht hv
  obtain ⟨c0, c1, rfl⟩ := array2 (hsz.trans hct)
  obtain ⟨fuel, hf⟩ := h
  obtain ⟨xs, m, rfl, hx, _, hl, hi⟩ := DataW.trod_array ht (by simpa [Value.cells] using hf)
  have h0 := hi 0 (by omega)
  have h1 := hi 1 (by omega)
  rw [hce] at h0 h1
  match xs, hl with
  | [y0, y1], _ =>
    obtain ⟨a, e0, _, wa⟩ := DataW.trod_int he h0
    obtain ⟨b, e1, _, wb⟩ := DataW.trod_int he h1
    simp at e0 e1
    subst e0 e1
    exact ⟨a, b, rfl, wa, wb⟩

theorem open_pairs2 {k : IntKind} {f0 f1 : Field} (ht : P.underlying t = some (.array 2 e)) (he : P.underlying e = some (.struct #[f0, f1])) (hce : P.cellsOf e = 2) (hct : P.cellsOf t = 4)
    (o0 : f0.offset = 0) (o1 : f1.offset = 1) (k0 : P.underlying f0.type = some (.int k)) (k1 : P.underlying f1.type = some (.int k)) (s0 : P.cellsOf f0.type = 1) (s1 : P.cellsOf f1.type = 1)
    (hv : Value.okWide P w r b0 t v) (h : DataW.Trod enc P w base spare held t v d p) :
    ∃ a z b y, v = .agg #[.int k a, .int k z, .int k b, .int k y] ∧ (Lit.int k a).wf = true ∧ (Lit.int k z).wf = true ∧ (Lit.int k b).wf = true ∧ (Lit.int k y).wf = true := by
  obtain ⟨cs, rfl, hsz⟩ := okWide_array ht hv
  obtain ⟨l⟩ := cs
  match l, hsz.trans hct with
  | [c0, c1, c2, c3], _ =>
    obtain ⟨fuel, hf⟩ := h
    obtain ⟨xs, m, rfl, hx, _, hl, hi⟩ := DataW.trod_array ht (by simpa [Value.cells] using hf)
    have h0 := hi 0 (by omega)
    have h1 := hi 1 (by omega)
    rw [hce] at h0 h1
    match xs, hl with
    | [y0, y1], _ =>
      obtain ⟨x0, n0, rfl, _, _, l0, i0⟩ := DataW.trod_struct he h0
      obtain ⟨x1, n1, _, _, _, l1, i1⟩ := DataW.trod_struct he h1
      match x0, l0 with
      | [z0, z1], _ =>
        match x1, l1 with
        | [z2, z3], _ =>
          have g0 := i0 0 f0 rfl
          have g1 := i0 1 f1 rfl
          have g2 := i1 0 f0 rfl
          have g3 := i1 1 f1 rfl
          rw [o0, s0] at g0 g2
          rw [o1, s1] at g1 g3
          obtain ⟨a, e0, _, wa⟩ := DataW.trod_int k0 g0
          obtain ⟨z, e1, _, wz⟩ := DataW.trod_int k1 g1
          obtain ⟨b, e2, _, wb⟩ := DataW.trod_int k0 g2
          obtain ⟨y, e3, _, wy⟩ := DataW.trod_int k1 g3
          simp at e0 e1 e2 e3
          subst e0 e1 e2 e3
          exact ⟨a, z, b, y, rfl, wa, wz, wb, wy⟩
end
end Go.Proofs.Ythkmcfomnkcljaa
