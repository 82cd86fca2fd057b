/- The walk of ExtsPlaces. -/
import Derived.Test.YtgcbfiecgiijkaaTLaw1
import Derived.Test.YtgcbfiecgiijkaaRRef2
namespace Go.Proofs.Ytgcbfiecgiijkaa
set_option linter.unusedVariables false
set_option linter.unusedSimpArgs false
open Go.RowKit Go.Shelf

theorem f_map {l : List Ent} (h : RowOk true l) (p : Int) : fP l p = (mapX l p).getD 0 ∧ fB l p = (mapX l p).isSome := by
  have e : fE l p = findE l p := by unfold fE; rw [if_pos h]
  unfold fP fB mapX
  rw [e]
  cases findE l p <;> exact ⟨rfl, rfl⟩
theorem f_same {l m : List Ent} (h : RowOk true l) (k : RowOk true m) {p : Int} (e : mapX l p = mapX m p) : fP l p = fP m p ∧ fB l p = fB m p := by
  rw [(f_map h p).1, (f_map h p).2, (f_map k p).1, (f_map k p).2, e]; exact ⟨rfl, rfl⟩
theorem one_run {g : Nat} {a b : Int} {T : TypeId} {W : World} (h : Blk g #[.int .i64 a, .int .i64 b] T W) : RunsIn (.slice (some ⟨g, 0, none⟩) 1 1) [(a, b)] W := by
  refine ⟨_, _, rfl, Nat.le_refl _, by unfold maxLen; omega, fun _ => ⟨g, 0, rfl, h.lt, fun k hk => ?_⟩, fun h => by cases h⟩
  obtain rfl : k = 0 := by simp at hk; omega
  exact ⟨h.cell 0, h.cell 1⟩
theorem blocks_len {l : List Ent} (hl : l.length ≤ 4000) : (blocksX l).length ≤ 4000 := by
  have := norm_len (physR l); rw [phys_len] at this; unfold blocksX; omega
theorem freed_len (l m : List Ent) : (freedX l m).length ≤ l.length + m.length + 1 := by
  have := minus_len' (physR l) (physR m); rw [phys_len, phys_len] at this; unfold freedX; exact this
theorem fit_freed (l m : List Ent) : fitR (freedX l m) := (minus_norm _ _).fit
end Go.Proofs.Ytgcbfiecgiijkaa
