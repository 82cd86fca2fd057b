/- An argument that is a struct, or an array, of numbers of one kind: read. -/
import Derived.Test.YtonfloehobcfbaaLift
import Derived.Lib.SmallJoins
namespace Go.Proofs.Ytonfloehobcfbaa
set_option linter.unusedVariables false
open Go.ChangeShapes Go.WideShapes Go.ChangeAt Go.RowKit Go.Joins

section
variable {H : Type} {enc : TypeId × Value → H} {P : Program} {w : World} {base : Nat} {spare : Nat → Bool} {held : Bool}
def numV : Value → Int
  | .int _ n => n
  | _ => 0
theorem all_nums {k : IntKind} {cs : Array Value} (h : ∀ i, i < cs.size → ∃ z, cs[i]? = some (.int k z) ∧ (Lit.int k z).wf = true) :
    ∃ zs : List Int, zs.length = cs.size ∧ cs = (zs.map (Value.int k)).toArray ∧ ∀ z ∈ zs, (Lit.int k z).wf = true := by
  refine ⟨cs.toList.map numV, by simp, ?_, fun z hz => ?_⟩
  · apply Array.ext_getElem?
    intro i
    by_cases hi : i < cs.size
    · obtain ⟨z, hz, _⟩ := h i hi
      rw [hz]
      simp [hz, numV]
    · simp [Array.getElem?_eq_none (show cs.size ≤ i by omega), hi]
  · obtain ⟨v, hv, rfl⟩ := List.mem_map.1 hz
    obtain ⟨i, hi, rfl⟩ := List.getElem_of_mem hv
    obtain ⟨z, hz2, hw⟩ := h i (by simpa using hi)
    have e : cs.toList[i] = .int k z := by
      have : cs[i]? = some cs.toList[i] := by simp
      rw [this] at hz2; exact Option.some.inj hz2
    rw [e]; exact hw
theorem open_struct_ints {k : IntKind} {r : Reach} {b0 : Nat} {t e : TypeId} {fs : Array Field} {v : Value} {d : DataW H} {p : List MemPlace} (hs : P.underlying t = some (.struct fs)) (he : P.underlying e = some (.int k)) (hone : Deep.oneCellFields P fs = true)
    (hall : (fs.toList.all fun f => f.type == e) = true) (hC : P.cellsOf t = fs.size) (hv : Value.okWide P w r b0 t v) (h : DataW.Trod enc P w base spare held t v d p) :
    ∃ zs : List Int, zs.length = fs.size ∧ v = .agg (zs.map (Value.int k)).toArray ∧ ∀ z ∈ zs, (Lit.int k z).wf = true := by
  obtain ⟨cs, rfl, hsz⟩ := okWide_struct hs hv
  obtain ⟨fuel, hf⟩ := h
  obtain ⟨xs, n, _, _, _, hlen, hr⟩ := DataW.trod_struct hs hf
  have hn : cs.size = fs.size := hsz.trans hC
  obtain ⟨zs, h1, h2, h3⟩ := all_nums (k := k) (cs := cs) fun i hi => by
    have hi' : i < fs.size := by omega
    have hfi : fs[i]? = some fs[i] := Array.getElem?_eq_getElem hi'
    obtain ⟨o, c⟩ := Deep.hone_of hone i _ hfi
    have ht : fs[i].type = e := by simpa using List.all_eq_true.1 hall fs[i] (by simp)
    have hq := hr i _ hfi
    rw [o, c, List.getElem?_eq_getElem (show i < xs.length by omega)] at hq
    have hl : ((cs.toList.drop i).take 1) = [cs[i]] := by
      rw [List.drop_eq_getElem_cons (by simpa using hi)]; simp
    have hx : i < xs.length := by omega
    have hq : DataW.trod enc P w base spare held n e [cs[i]] = some xs[i] := by
      rw [← ht, ← hl]; simpa [Value.cells] using hq
    obtain ⟨z, e1, _, e2⟩ := DataW.trod_int he hq
    refine ⟨z, ?_, e2⟩
    rw [Array.getElem?_eq_getElem hi]; simpa using e1
  exact ⟨zs, h1.trans hn, by rw [h2], h3⟩
end
end Go.Proofs.Ytonfloehobcfbaa
