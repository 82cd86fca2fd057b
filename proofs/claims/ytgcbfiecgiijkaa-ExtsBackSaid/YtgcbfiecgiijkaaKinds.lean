/- Rows of unlike kinds never share a block. For whatever program. -/
import Derived.Test.YtgcbfiecgiijkaaBase
namespace Go.Proofs.Ytgcbfiecgiijkaa
set_option linter.unusedVariables false
open Go.RowKit

theorem kept_kinds {B B2 n n2 z z2 : Nat} {v v2 : Value} {e e2 : TypeId} {xs xs2 : List Value} {w w' : World} (h : w.ownsRow B e z v n xs) (k : w.ownsRow B2 e2 z2 v2 n2 xs2) (he : e ≠ e2) (hg : w.grownBy w' v.ownBlock) : w'.ownsRow B2 e2 z2 v2 n2 xs2 := by
  refine k.kept hg ?_
  rcases k.2 with ⟨rfl, -⟩ | ⟨g', cap, cur, rfl, -, hcur, -⟩
  · exact .inl rfl
  · refine .inr fun q => ?_
    rcases h.2 with ⟨rfl, -⟩ | ⟨g2, cap2, cur2, rfl, -, hcur2, -⟩
    · cases q
    · have e1 : g' = g2 := by injection q
      subst e1
      rw [hcur] at hcur2
      injection hcur2 with q1
      injection q1 with q2 q3
      exact he q3.symm
theorem grown_refl' (w : World) (row : Option Nat) : w.grownBy w row := ⟨rfl, rfl, rfl, Nat.le_refl _, fun _ _ _ => rfl⟩
theorem grown_set' {w w' : World} {g : Nat} (h : w.grownBy w' (some g)) (o : Nat) (u : Value) : w.grownBy (w'.setCell ⟨g, o, none⟩ u) (some g) := by
  refine ⟨h.os, h.tape, h.output, ?_, fun k hk hne => ?_⟩
  · show _ ≤ (w'.heap.modify _ _).size
    rw [Array.size_modify]; exact h.size
  · rw [Below.heap_setCell w' ⟨g, o, none⟩ u k (fun e => hne (by rw [e]))]
    exact h.block k hk hne
end Go.Proofs.Ytgcbfiecgiijkaa
