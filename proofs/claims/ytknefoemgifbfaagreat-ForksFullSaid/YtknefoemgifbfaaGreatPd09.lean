import Derived.Below
import Derived.Deep.Slices
import Derived.Deep.Fields
import Derived.WideShapes
import Derived.ProofKit
import Derived.Lib.Hide
set_option linter.unusedVariables false
set_option linter.unusedSimpArgs false
set_option linter.constructorNameAsVariable false
namespace Go.Proofs.YtknefoemgifbfaaGreat
open Go.ChangeShapes Go.WideShapes Go.RowKit
def flat {α : Type} (C : Nat → List α) : Nat → List α
 | 0 => []
 | n + 1 => flat C n ++ C n
def RowIn (z : Nat) (v : Value) (n : Nat) (cs : List Value) (w : World) : Prop :=
 cs.length = n * z ∧ ∃ (ad : Option Addr) (cap : Nat), v = .slice ad n cap ∧ n ≤ cap ∧ cap ≤ maxLen ∧
  (0 < cs.length → ∃ g o, ad = some ⟨g, o, none⟩ ∧ g < w.heap.size ∧ ∀ k u, cs[k]? = some u → w.cell? ⟨g, o + k, none⟩ = some u) ∧ (ad = none → cap = 0)
theorem RowIn.kept {z n : Nat} {v : Value} {cs : List Value} {w w' : World} (h : RowIn z v n cs w) (hb : Below w.heap.size w w') : RowIn z v n cs w' := by
 obtain ⟨h0, ad, cap, rfl, h1, h2, h3, h4⟩ := h;refine ⟨h0, ad, cap, rfl, h1, h2, fun hp => ?_, h4⟩;obtain ⟨g, o, rfl, hg, hc⟩ := h3 hp;exact ⟨g, o, rfl, Nat.lt_of_lt_of_le hg hb.size, fun k u hk => (hb.cell (p := ⟨g, o + k, none⟩) hg).trans (hc k u hk)⟩
theorem RowIn.nil (z : Nat) (w : World) : RowIn z (.slice none 0 0) 0 [] w := ⟨by simp, none, 0, rfl, Nat.le_refl _, by unfold maxLen; omega, fun h => by simp at h, fun _ => rfl⟩
theorem RowIn.shape {z n : Nat} {v : Value} {cs : List Value} {w : World} (h : RowIn z v n cs w) : ∃ ad cap, v = .slice ad n cap ∧ n ≤ cap ∧ cap ≤ 9223372036854775807 ∧
 (0 < cs.length → ∃ g o, ad = some ⟨g, o, none⟩ ∧ g < w.heap.size ∧ ∀ k u, cs[k]? = some u → w.cell? ⟨g, o + k, none⟩ = some u) ∧ (ad = none → cap = 0) := by
 obtain ⟨_, ad, cap, rfl, h1, h2, h3, h4⟩ := h;exact ⟨ad, cap, rfl, h1, by unfold maxLen at h2; omega, h3, h4⟩
section
variable {H : Type} {enc : TypeId × Value → H} {P : Program} {w : World} {held : Bool}
end
end Go.Proofs.YtknefoemgifbfaaGreat
