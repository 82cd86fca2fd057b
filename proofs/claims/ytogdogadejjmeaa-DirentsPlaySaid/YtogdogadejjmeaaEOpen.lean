/- Arguments that are entries of a directory, read. -/
import Derived.Test.YtogdogadejjmeaaELaw1
import Derived.Test.YtogdogadejjmeaaLift
namespace Go.Proofs.Ytogdogadejjmeaa
set_option linter.unusedVariables false
open Go.ChangeShapes Go.WideShapes Go.ChangeAt Go.RowKit

theorem under_atD {fs : Array Field} {j : Nat} {u : TypeDesc} (hj : j < fs.size) (h : (fs[j]?).bind (fun f => Try.prog.underlying f.type) = some u) : Try.prog.underlying (fs[j]).type = some u := by
  rw [Array.getElem?_eq_getElem hj] at h; exact h
theorem den_under : ∃ fs, Try.prog.underlying 25 = some (.struct fs) ∧ fs.size = 2 ∧ Deep.oneCellFields Try.prog fs = true ∧
    (fs[0]?).bind (fun f => Try.prog.underlying f.type) = some .string ∧ (fs[1]?).bind (fun f => Try.prog.underlying f.type) = some (.int .i64) :=
  ⟨_, Try.underlying25, by kernel_rfl, by kernel_rfl, by kernel_rfl, by kernel_rfl⟩
theorem den_cellsOf : Try.prog.cellsOf 25 = 2 := by kernel_rfl
section
variable {H : Type} {enc : TypeId × Value → H} {w : World} {held : Bool}
theorem open_den_cells {cs : List Value} {fuel : Nat} {y : DataW H × List MemPlace} (hl : cs.length = 2)
    (h : DataW.trod enc Try.prog w 0 (fun _ => true) held fuel 25 cs = some y) : ∃ d : Den, cs = [.string d.name, .int .i64 d.ino] ∧ d.name.size ≤ maxLen ∧ I64 d.ino := by
  obtain ⟨fs, hs, h0, h1, t0, t1⟩ := den_under
  have hall := open_fields hs h1 h (by rw [h0, hl])
  match cs, hl with
  | [c0, c1], _ =>
    obtain ⟨_, _, y0⟩ := hall 0 (by omega)
    obtain ⟨_, _, y1⟩ := hall 1 (by omega)
    obtain ⟨a, e0, _, w0⟩ := DataW.trod_string (under_atD (by omega) t0) y0
    obtain ⟨b, e1, _, w1⟩ := DataW.trod_int (under_atD (by omega) t1) y1
    simp at e0 e1
    subst e0 e1
    exact ⟨⟨a, b⟩, rfl, w0, bounds_i64 w1⟩
theorem rows_dens : ∀ (n : Nat) (cs : List Value), cs.length = n * 2 → (∀ i < n, ∃ d : Den, (cs.drop (i * 2)).take 2 = [.string d.name, .int .i64 d.ino] ∧ d.name.size ≤ maxLen ∧ I64 d.ino) → ∃ l : List Den, l.length = n ∧ cs = cellsD l ∧ fitW l
  | 0, cs, hl, _ => ⟨[], rfl, List.eq_nil_of_length_eq_zero (by omega), fun e he => by cases he⟩
  | n + 1, cs, hl, h => by
    obtain ⟨e, he, hf⟩ := h 0 (by omega)
    obtain ⟨l, hll, hcl, hfl⟩ := rows_dens n (cs.drop 2) (by rw [List.length_drop]; omega) fun i hi => by
      have := h (i + 1) (by omega)
      rw [List.drop_drop, show 2 + i * 2 = (i + 1) * 2 by omega]
      exact this
    refine ⟨e :: l, by rw [List.length_cons, hll], ?_, fun y hy => ?_⟩
    · rw [cellsD, ← hcl]
      rw [Nat.zero_mul, List.drop_zero] at he
      conv => lhs; rw [← List.take_append_drop 2 cs, he]
      rfl
    · rcases List.mem_cons.1 hy with rfl | hy
      · exact hf
      · exact hfl y hy
theorem open_dens_cell {fuel : Nat} {v : Value} {y : DataW H × List MemPlace} {t : TypeId} (ht : Try.prog.underlying t = some (.slice 25))
    (h : DataW.trod enc Try.prog w 0 (fun _ => true) held fuel t [v] = some y) : ∃ l : List Den, DensIn v l w ∧ fitW l := by
  obtain ⟨n, cs, hr, hi⟩ := open_row_cell ht h
  rw [den_cellsOf] at hr hi
  obtain ⟨l, hl, rfl, hf⟩ := rows_dens n cs hr.1 fun i hlt => by
    obtain ⟨m, x, hx⟩ := hi i hlt
    refine open_den_cells ?_ hx
    rw [List.length_take, List.length_drop, hr.1]
    have : (i + 1) * 2 ≤ n * 2 := Nat.mul_le_mul_right 2 (by omega)
    omega
  subst hl
  exact ⟨l, hr, hf⟩
end
theorem open_dens {H : Type} {enc : TypeId × Value → H} {W : World} {base : Nat} {v : Value} {d : DataW H} {p : List MemPlace} (hval : Value.okWide Try.prog W .any base 22 v)
    (h : DataW.Trod enc Try.prog W 0 (fun _ => true) true 22 v d p) : ∃ l : List Den, fitW l ∧ DensIn v l W := by
  obtain ⟨a0, len, cap, rfl⟩ := okWide_slice Try.underlying22 hval
  obtain ⟨fuel, hf⟩ := h
  obtain ⟨l, h1, h2⟩ := open_dens_cell Try.underlying22 (by simpa [Value.cells] using hf)
  exact ⟨l, h2, h1⟩
theorem open_den {H : Type} {enc : TypeId × Value → H} {W : World} {base : Nat} {v : Value} {d : DataW H} {p : List MemPlace} (hval : Value.okWide Try.prog W .any base 25 v)
    (h : DataW.Trod enc Try.prog W 0 (fun _ => true) true 25 v d p) : ∃ x : Den, v = denV x ∧ x.name.size ≤ maxLen ∧ I64 x.ino := by
  obtain ⟨fs, hs, h0, h1, t0, t1⟩ := den_under
  obtain ⟨cs, rfl, hsz⟩ := okWide_struct hs hval
  rw [den_cellsOf] at hsz
  obtain ⟨l⟩ := cs
  obtain ⟨fuel, hf⟩ := h
  obtain ⟨e, he, hb⟩ := open_den_cells (cs := l) (by simpa using hsz) (by simpa [Value.cells] using hf)
  subst he
  exact ⟨e, rfl, hb⟩
end Go.Proofs.Ytogdogadejjmeaa
