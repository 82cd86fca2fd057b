/- An argument that is a slice of runs, read. -/
import Derived.Test.YtmdkekbhondkbaaRAlive
import Derived.Test.YtmdkekbhondkbaaLift
import Derived.Deep.SlicePairs
namespace Go.Proofs.Ytmdkekbhondkbaa
set_option linter.unusedVariables false
open Go.ChangeShapes Go.WideShapes Go.ChangeAt Go.RowKit

theorem cell_plain {w : World} {a : Addr} {v : Value} (h : w.cell? a = some v) : a.spot = none ∧ a.block < w.heap.size := by
  unfold World.cell? at h
  cases hb : w.heap[a.block]? with
  | none => rw [hb] at h; cases h
  | some o =>
    have hlt := (Array.getElem?_eq_some_iff.1 hb).1
    rw [hb] at h
    cases o with
    | cells c e f =>
      simp only at h
      cases hs : a.spot with
      | none => exact ⟨rfl, hlt⟩
      | some x => rw [hs] at h; simp at h
    | _ => cases h
def numV : Value → Int
  | .int _ n => n
  | _ => 0
theorem run_under : ∃ f0 f1 : Field, Try.prog.underlying 37 = some (.struct #[f0, f1]) ∧ f0.offset = 0 ∧ f1.offset = 1 ∧ f0.type = 3 ∧ f1.type = 3 := ⟨_, _, Try.underlying37, rfl, rfl, rfl, rfl⟩
theorem run_cellsOf : Try.prog.cellsOf 37 = 2 := by kernel_rfl
theorem int_cellsOf : Try.prog.cellsOf 3 = 1 := by kernel_rfl
theorem open_runs {H : Type} {enc : TypeId × Value → H} {W : World} {base : Nat} {v : Value} {d : DataW H} {p : List MemPlace} (hval : Value.okWide Try.prog W .any base 22 v)
    (h : DataW.Trod enc Try.prog W 0 (fun _ => true) true 22 v d p) : ∃ l, fitR l ∧ RunsIn v l W := by
  obtain ⟨a0, len, cap, rfl⟩ := okWide_slice Try.underlying22 hval
  obtain ⟨fuel, hf⟩ := h
  obtain ⟨f0, f1, he, o0, o1, t0, t1⟩ := run_under
  rcases Go.Deep.open_slice_pairs Try.underlying22 he run_cellsOf o0 o1 (by rw [t0]; exact int_cellsOf) (by rw [t1]; exact int_cellsOf) hf with ⟨hcs, _⟩ | ⟨a, len', cap', m, n, V0, V1, D0, D1, P0, P1, hcs, _, hl, hm, hmm, hx, hi⟩
  · simp [Value.cells] at hcs
    obtain ⟨rfl, rfl, rfl⟩ := hcs
    exact ⟨[], fun r hr => by simp at hr, runsIn_nil W⟩
  · simp [Value.cells] at hcs
    obtain ⟨rfl, rfl, rfl⟩ := hcs
    have hmc : len ≤ m := by rw [hmm]; split <;> omega
    have each : ∀ i, i < len → W.cell? (a.add (i * 2)) = some (.int .i64 (numV (V0 i))) ∧ W.cell? (a.add (i * 2 + 1)) = some (.int .i64 (numV (V1 i))) ∧ I64 (numV (V0 i)) ∧ I64 (numV (V1 i)) := fun i hlt => by
      obtain ⟨c0, c1, y0, y1⟩ := hi i (by omega)
      rw [t0] at y0
      rw [t1] at y1
      obtain ⟨n0, e0, _, w0⟩ := DataW.trod_int Try.underlying3 y0
      obtain ⟨n1, e1, _, w1⟩ := DataW.trod_int Try.underlying3 y1
      simp only [List.cons.injEq, and_true] at e0 e1
      rw [e0] at c0 ⊢
      rw [e1] at c1 ⊢
      exact ⟨c0, c1, bounds_i64 w0, bounds_i64 w1⟩
    let l := (List.range len).map fun i => (numV (V0 i), numV (V1 i))
    have hll : l.length = len := by simp [l]
    refine ⟨l, fun r hr => ?_, some a, cap, by rw [hll], by rw [hll]; exact hl, hm, fun hp => ?_, fun h => by cases h⟩
    · obtain ⟨i, hi2, rfl⟩ := List.mem_map.1 hr
      obtain ⟨_, _, b0, b1⟩ := each i (List.mem_range.1 hi2)
      exact ⟨b0, b1⟩
    · rw [hll] at hp
      obtain ⟨g, o, sp⟩ := a
      have h0 := (each 0 hp).1
      have ha0 : (Addr.add ⟨g, o, sp⟩ (0 * 2)) = ⟨g, o, sp⟩ := rfl
      rw [ha0] at h0
      obtain ⟨hs, hg⟩ := cell_plain h0
      have hs : sp = none := hs
      subst hs
      refine ⟨g, o, rfl, hg, fun k hk => ?_⟩
      have hk' : k < len := by rw [hll] at hk; exact hk
      obtain ⟨c0, c1, _, _⟩ := each k hk'
      have add0 : ∀ j, (Addr.add ⟨g, o, none⟩ j) = ⟨g, o + j, none⟩ := fun j => by unfold Addr.add; split <;> simp_all
      rw [add0] at c0 c1
      have e : l[k] = (numV (V0 k), numV (V1 k)) := by simp [l]
      rw [e]
      exact ⟨c0, c1⟩
end Go.Proofs.Ytmdkekbhondkbaa
