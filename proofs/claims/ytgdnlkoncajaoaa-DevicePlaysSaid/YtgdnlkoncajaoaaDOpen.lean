/- An argument that is a list of bools; stage 6's lists of acts. -/
import Derived.Test.YtgdnlkoncajaoaaDActs
import Derived.Test.YtgdnlkoncajaoaaRows
namespace Go.Proofs.Ytgdnlkoncajaoaa
set_option linter.unusedVariables false
open Go.ChangeShapes Go.WideShapes Go.RowKit

section
variable {H : Type} {enc : TypeId × Value → H} {P : Program} {w : World} {held : Bool}
theorem open_bools {r : Reach} {b0 : Nat} {t e : TypeId} {v : Value} {d : DataW H} {p : List MemPlace} (ht : P.underlying t = some (.slice e)) (he : P.underlying e = some .bool) (ce : P.cellsOf e = 1) (hv : Value.okWide P w r b0 t v)
    (h : DataW.Trod enc P w 0 (fun _ => true) held t v d p) : ∃ l : List Bool, RowIn 1 v l.length (l.map Value.bool) w := by
  obtain ⟨a0, len, cap, rfl⟩ := okWide_slice ht hv
  obtain ⟨fuel, hf⟩ := h
  exact open_bools_cell ht he ce (by simpa [Value.cells] using hf)
end
theorem act_under : ∃ fs, Try.prog.underlying 34 = some (.struct fs) ∧ fs.size = 6 ∧ Deep.oneCellFields Try.prog fs = true ∧
    (fs[0]?).bind (fun f => Try.prog.underlying f.type) = some (.int .u8) ∧ (fs[1]?).bind (fun f => Try.prog.underlying f.type) = some (.int .i64) ∧ (fs[2]?).bind (fun f => Try.prog.underlying f.type) = some (.int .i64) ∧
    (fs[3]?).bind (fun f => Try.prog.underlying f.type) = some (.int .u8) ∧ (fs[4]?).bind (fun f => Try.prog.underlying f.type) = some .string ∧ (fs[5]?).bind (fun f => Try.prog.underlying f.type) = some (.slice 4) :=
  ⟨_, Try.underlying34, by kernel_rfl, by kernel_rfl, by kernel_rfl, by kernel_rfl, by kernel_rfl, by kernel_rfl, by kernel_rfl, by kernel_rfl⟩
theorem act_cells : Try.prog.cellsOf 34 = 6 := by kernel_rfl
theorem open_acts6 {H : Type} {enc : TypeId × Value → H} {W : World} {base : Nat} {v : Value} {d : DataW H} {p : List MemPlace} (hval : Value.okWide Try.prog W .any base 22 v)
    (h : DataW.Trod enc Try.prog W 0 (fun _ => true) true 22 v d p) : ∃ n A, ActsIn v n A W := by
  obtain ⟨fs, hs, h0, h1, t0, t1, t2, t3, t4, t5⟩ := act_under
  exact open_acts Try.underlying22 hs h0 h1 act_cells t0 t1 t2 t3 t4 t5 Try.underlying4 (by kernel_rfl) hval h
end Go.Proofs.Ytgdnlkoncajaoaa
