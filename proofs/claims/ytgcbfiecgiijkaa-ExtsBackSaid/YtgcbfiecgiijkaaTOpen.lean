/- Arguments that are exts, read. -/
import Derived.Test.YtgcbfiecgiijkaaEntM
import Derived.Test.YtgcbfiecgiijkaaLift
namespace Go.Proofs.Ytgcbfiecgiijkaa
set_option linter.unusedVariables false
open Go.ChangeShapes Go.WideShapes Go.ChangeAt Go.RowKit

theorem under_atT {fs : Array Field} {j : Nat} {u : TypeDesc} (hj : j < fs.size) (h : (fs[j]?).bind (fun f => Try.prog.underlying f.type) = some u) : Try.prog.underlying (fs[j]).type = some u := by
  rw [Array.getElem?_eq_getElem hj] at h; exact h
theorem ext_under : ∃ fs, Try.prog.underlying 37 = some (.struct fs) ∧ fs.size = 3 ∧ Deep.oneCellFields Try.prog fs = true ∧
    (fs[0]?).bind (fun f => Try.prog.underlying f.type) = some (.int .i64) ∧ (fs[1]?).bind (fun f => Try.prog.underlying f.type) = some (.int .i64) ∧ (fs[2]?).bind (fun f => Try.prog.underlying f.type) = some (.int .i64) :=
  ⟨_, Try.underlying37, by kernel_rfl, by kernel_rfl, by kernel_rfl, by kernel_rfl, by kernel_rfl⟩
theorem ext_cellsOf : Try.prog.cellsOf 37 = 3 := by kernel_rfl
section
variable {H : Type} {enc : TypeId × Value → H} {w : World} {held : Bool}
theorem open_ext_cells {cs : List Value} {fuel : Nat} {y : DataW H × List MemPlace} (hl : cs.length = 3)
    (h : DataW.trod enc Try.prog w 0 (fun _ => true) held fuel 37 cs = some y) : ∃ e : Ent, cs = [.int .i64 e.log, .int .i64 e.phys, .int .i64 e.len] ∧ I64 e.log ∧ I64 e.phys ∧ I64 e.len := by
  obtain ⟨fs, hs, h0, h1, t0, t1, t2⟩ := ext_under
  have hall := open_fields hs h1 h (by rw [h0, hl])
  match cs, hl with
  | [c0, c1, c2], _ =>
    obtain ⟨_, _, y0⟩ := hall 0 (by omega)
    obtain ⟨_, _, y1⟩ := hall 1 (by omega)
    obtain ⟨_, _, y2⟩ := hall 2 (by omega)
    obtain ⟨a, e0, _, w0⟩ := DataW.trod_int (under_atT (by omega) t0) y0
    obtain ⟨b, e1, _, w1⟩ := DataW.trod_int (under_atT (by omega) t1) y1
    obtain ⟨c, e2, _, w2⟩ := DataW.trod_int (under_atT (by omega) t2) y2
    simp at e0 e1 e2
    subst e0 e1 e2
    exact ⟨⟨a, b, c⟩, rfl, bounds_i64 w0, bounds_i64 w1, bounds_i64 w2⟩
theorem rows_exts : ∀ (n : Nat) (cs : List Value), cs.length = n * 3 → (∀ i < n, ∃ e : Ent, (cs.drop (i * 3)).take 3 = [.int .i64 e.log, .int .i64 e.phys, .int .i64 e.len] ∧ I64 e.log ∧ I64 e.phys ∧ I64 e.len) → ∃ l : List Ent, l.length = n ∧ cs = cellsE l ∧ fitE l
  | 0, cs, hl, _ => ⟨[], rfl, List.eq_nil_of_length_eq_zero (by omega), fun e he => by cases he⟩
  | n + 1, cs, hl, h => by
    obtain ⟨e, he, hf⟩ := h 0 (by omega)
    obtain ⟨l, hll, hcl, hfl⟩ := rows_exts n (cs.drop 3) (by rw [List.length_drop]; omega) fun i hi => by
      have := h (i + 1) (by omega)
      rw [List.drop_drop, show 3 + i * 3 = (i + 1) * 3 by omega]
      exact this
    refine ⟨e :: l, by rw [List.length_cons, hll], ?_, fun y hy => ?_⟩
    · rw [cellsE, ← hcl]
      rw [Nat.zero_mul, List.drop_zero] at he
      conv => lhs; rw [← List.take_append_drop 3 cs, he]
      rfl
    · rcases List.mem_cons.1 hy with rfl | hy
      · exact hf
      · exact hfl y hy
theorem open_exts_cell {fuel : Nat} {v : Value} {y : DataW H × List MemPlace} {t : TypeId} (ht : Try.prog.underlying t = some (.slice 37))
    (h : DataW.trod enc Try.prog w 0 (fun _ => true) held fuel t [v] = some y) : ∃ l : List Ent, EntsIn v l w ∧ fitE l := by
  obtain ⟨n, cs, hr, hi⟩ := open_row_cell ht h
  rw [ext_cellsOf] at hr hi
  obtain ⟨l, hl, rfl, hf⟩ := rows_exts n cs hr.1 fun i hlt => by
    obtain ⟨m, x, hx⟩ := hi i hlt
    refine open_ext_cells ?_ hx
    rw [List.length_take, List.length_drop, hr.1]
    have : (i + 1) * 3 ≤ n * 3 := Nat.mul_le_mul_right 3 (by omega)
    omega
  subst hl
  exact ⟨l, hr, hf⟩
end
theorem open_ext {H : Type} {enc : TypeId × Value → H} {W : World} {base : Nat} {v : Value} {d : DataW H} {p : List MemPlace} (hval : Value.okWide Try.prog W .any base 37 v)
    (h : DataW.Trod enc Try.prog W 0 (fun _ => true) true 37 v d p) : ∃ e : Ent, v = entV e ∧ I64 e.log ∧ I64 e.phys ∧ I64 e.len := by
  obtain ⟨fs, hs, h0, h1, t0, t1, t2⟩ := ext_under
  obtain ⟨cs, rfl, hsz⟩ := okWide_struct hs hval
  rw [ext_cellsOf] at hsz
  obtain ⟨l⟩ := cs
  obtain ⟨fuel, hf⟩ := h
  obtain ⟨e, he, hb⟩ := open_ext_cells (cs := l) (by simpa using hsz) (by simpa [Value.cells] using hf)
  subst he
  exact ⟨e, rfl, hb⟩
theorem open_exts {H : Type} {enc : TypeId × Value → H} {W : World} {base : Nat} {v : Value} {d : DataW H} {p : List MemPlace} (hval : Value.okWide Try.prog W .any base 22 v)
    (h : DataW.Trod enc Try.prog W 0 (fun _ => true) true 22 v d p) : ∃ l : List Ent, fitE l ∧ EntsIn v l W := by
  obtain ⟨a0, len, cap, rfl⟩ := okWide_slice Try.underlying22 hval
  obtain ⟨fuel, hf⟩ := h
  obtain ⟨l, h1, h2⟩ := open_exts_cell Try.underlying22 (by simpa [Value.cells] using hf)
  exact ⟨l, h2, h1⟩
theorem str_under : ∃ fs, Try.prog.underlying 49 = some (.struct fs) ∧ fs.size = 2 ∧ Deep.oneCellFields Try.prog fs = true ∧
    (fs[0]?).bind (fun f => Try.prog.underlying f.type) = some (.int .i64) ∧ (fs[1]?).bind (fun f => Try.prog.underlying f.type) = some (.int .i64) :=
  ⟨_, Try.underlying49, by kernel_rfl, by kernel_rfl, by kernel_rfl, by kernel_rfl⟩
theorem str_cellsOf : Try.prog.cellsOf 49 = 2 := by kernel_rfl
theorem open_stretch {H : Type} {enc : TypeId × Value → H} {W : World} {base : Nat} {v : Value} {d : DataW H} {p : List MemPlace} (hval : Value.okWide Try.prog W .any base 49 v)
    (h : DataW.Trod enc Try.prog W 0 (fun _ => true) true 49 v d p) : ∃ a n : Int, v = .agg #[.int .i64 a, .int .i64 n] ∧ I64 a ∧ I64 n := by
  obtain ⟨fs, hs, h0, h1, t0, t1⟩ := str_under
  obtain ⟨cs, rfl, hsz⟩ := okWide_struct hs hval
  rw [str_cellsOf] at hsz
  obtain ⟨l⟩ := cs
  match l, hsz with
  | [c0, c1], _ =>
    obtain ⟨fuel, hf⟩ := h
    have hall := open_fields hs h1 (by simpa [Value.cells] using hf) (by rw [h0]; rfl)
    obtain ⟨_, _, y0⟩ := hall 0 (by omega)
    obtain ⟨_, _, y1⟩ := hall 1 (by omega)
    obtain ⟨a, e0, _, w0⟩ := DataW.trod_int (under_atT (by omega) t0) y0
    obtain ⟨b, e1, _, w1⟩ := DataW.trod_int (under_atT (by omega) t1) y1
    simp at e0 e1
    subst e0 e1
    exact ⟨a, b, rfl, bounds_i64 w0, bounds_i64 w1⟩
end Go.Proofs.Ytgcbfiecgiijkaa
