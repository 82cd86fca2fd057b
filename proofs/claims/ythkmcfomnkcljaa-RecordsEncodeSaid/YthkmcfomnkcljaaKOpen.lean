/- An argument that is a record, read. -/
import Derived.Test.YthkmcfomnkcljaaKVal
import Derived.Test.YthkmcfomnkcljaaLift
namespace Go.Proofs.Ythkmcfomnkcljaa
set_option linter.unusedVariables false
open Go.ChangeShapes Go.WideShapes Go.ChangeAt Go.RowKit

theorem rec_under : ∃ fs, Try.prog.underlying 27 = some (.struct fs) ∧ fs.size = 6 ∧ Deep.oneCellFields Try.prog fs = true ∧
    (fs[0]?).bind (fun f => Try.prog.underlying f.type) = some (.int .i64) ∧ (fs[1]?).bind (fun f => Try.prog.underlying f.type) = some (.int .u64) ∧ (fs[2]?).bind (fun f => Try.prog.underlying f.type) = some (.int .i64) ∧
    (fs[3]?).bind (fun f => Try.prog.underlying f.type) = some (.slice 3) ∧ (fs[4]?).bind (fun f => Try.prog.underlying f.type) = some (.slice 4) ∧ (fs[5]?).bind (fun f => Try.prog.underlying f.type) = some (.int .u32) :=
  ⟨_, Try.underlying27, by kernel_rfl, by kernel_rfl, by kernel_rfl, by kernel_rfl, by kernel_rfl, by kernel_rfl, by kernel_rfl, by kernel_rfl⟩
theorem rec_cellsOf : Try.prog.cellsOf 27 = 6 := by kernel_rfl
theorem under_at {fs : Array Field} {j : Nat} {u : TypeDesc} (hj : j < fs.size) (h : (fs[j]?).bind (fun f => Try.prog.underlying f.type) = some u) : Try.prog.underlying (fs[j]).type = some u := by
  rw [Array.getElem?_eq_getElem hj] at h; exact h
theorem open_rec {H : Type} {enc : TypeId × Value → H} {W : World} {base : Nat} {v : Value} {d : DataW H} {p : List MemPlace} (hval : Value.okWide Try.prog W .any base 27 v)
    (h : DataW.Trod enc Try.prog W 0 (fun _ => true) true 27 v d p) : ∃ (r : Rec) (vh vm : Value), v = recV r vh vm ∧ Fits r ∧ RecIn r vh vm W := by
  obtain ⟨fs, hs, h0, h1, t0, t1, t2, t3, t4, t5⟩ := rec_under
  obtain ⟨cs, rfl, hsz⟩ := okWide_struct hs hval
  rw [rec_cellsOf] at hsz
  obtain ⟨l⟩ := cs
  match l, hsz with
  | [c0, c1, c2, c3, c4, c5], _ =>
    obtain ⟨fuel, hf⟩ := h
    have hall := open_fields hs h1 (by simpa [Value.cells] using hf) (by rw [h0]; rfl)
    obtain ⟨_, _, y0⟩ := hall 0 (by omega)
    obtain ⟨_, _, y1⟩ := hall 1 (by omega)
    obtain ⟨_, _, y2⟩ := hall 2 (by omega)
    obtain ⟨_, _, y3⟩ := hall 3 (by omega)
    obtain ⟨_, _, y4⟩ := hall 4 (by omega)
    obtain ⟨_, _, y5⟩ := hall 5 (by omega)
    obtain ⟨k, e0, _, w0⟩ := DataW.trod_int (under_at (by omega) t0) y0
    obtain ⟨q, e1, _, w1⟩ := DataW.trod_int (under_at (by omega) t1) y1
    obtain ⟨s, e2, _, w2⟩ := DataW.trod_int (under_at (by omega) t2) y2
    obtain ⟨l, rl, wl⟩ := open_ints_cell (under_at (by omega) t3) Try.underlying3 (by kernel_rfl) y3
    obtain ⟨m, rm⟩ := open_bools_cell (under_at (by omega) t4) Try.underlying4 (by kernel_rfl) y4
    obtain ⟨u, e5, _, w5⟩ := DataW.trod_int (under_at (by omega) t5) y5
    simp at e0 e1 e2 e5
    subst e0 e1 e2 e5
    have b1 := bounds_u64 w1
    have b5 := bounds_u32 w5
    obtain ⟨q, rfl⟩ := Int.eq_ofNat_of_zero_le b1.1
    obtain ⟨u, rfl⟩ := Int.eq_ofNat_of_zero_le b5.1
    exact ⟨⟨k, q, s, l, m, u⟩, c3, c4, rfl, ⟨bounds_i64 w0, by have := b1.2; show q < _; omega, bounds_i64 w2, fun x hx => bounds_i64 (wl x hx), by have := b5.2; show u < _; omega⟩, rl, rm⟩
end Go.Proofs.Ythkmcfomnkcljaa
