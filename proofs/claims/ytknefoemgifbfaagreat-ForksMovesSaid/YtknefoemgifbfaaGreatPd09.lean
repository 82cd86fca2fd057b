import Derived.Below
import Derived.Deep.Slices
import Derived.Deep.Fields
import Derived.WideShapes
import Derived.ProofKit
import Derived.Lib.Hide
set_option linter.unusedVariables false
set_option linter.unusedSimpArgs false
set_option linter.constructorNameAsVariable false
namespace Go.Proofs.YtknefoemgifbfaaGreat
open Go.ChangeShapes Go.WideShapes Go.RowKit
def flat {α : Type} (C : Nat → List α) : Nat → List α
 | 0 => []
 | n + 1 => flat C n ++ C n
theorem flat_length {α : Type} {C : Nat → List α} {z : Nat} : ∀ {n : Nat}, (∀ i < n, (C i).length = z) → (flat C n).length = n * z
 | 0, _ => by show (0 : Nat) = _; omega
 | n + 1, h => by rw [flat, List.length_append, flat_length fun i hi => h i (by omega), h n (by omega), Nat.add_mul]; omega
theorem flat_at {α : Type} {C : Nat → List α} {z : Nat} : ∀ {n : Nat}, (∀ i < n, (C i).length = z) → ∀ {i}, i < n → ∀ {j}, j < z → (flat C n)[i * z + j]? = (C i)[j]?
 | 0, _, i, hi, _, _ => by omega
 | n + 1, h, i, hi, j, hj => by
   have hs := flat_length (n := n) fun i hi => h i (by omega);by_cases e : i = n
   ·subst e
    rw [flat, List.getElem?_append_right (by omega), hs, show i * z + j - i * z = j by omega]
   ·have hle : (i + 1) * z ≤ n * z := Nat.mul_le_mul_right z (by omega)
    have hz : (i + 1) * z = i * z + z := by rw [Nat.add_mul]; omega
    rw [flat, List.getElem?_append_left (by omega)];exact flat_at (fun i hi => h i (by omega)) (by omega) hj
theorem flat_part {α : Type} {C : Nat → List α} {z n : Nat} (h : ∀ i < n, (C i).length = z) {i : Nat} (hi : i < n) : ((flat C n).drop (i * z)).take z = C i := by
 have hs := flat_length h;have hle : (i + 1) * z ≤ n * z := Nat.mul_le_mul_right z (by omega)
 have hz : (i + 1) * z = i * z + z := by rw [Nat.add_mul]; omega
 apply List.ext_getElem?
 intro j;by_cases hj : j < z
 ·rw [List.getElem?_take_of_lt hj, List.getElem?_drop]
  exact flat_at h hi hj
 ·rw [List.getElem?_eq_none (by rw [List.length_take]; omega), List.getElem?_eq_none (by rw [h i hi]; omega)]
def RowIn (z : Nat) (v : Value) (n : Nat) (cs : List Value) (w : World) : Prop :=
 cs.length = n * z ∧ ∃ (ad : Option Addr) (cap : Nat), v = .slice ad n cap ∧ n ≤ cap ∧ cap ≤ maxLen ∧
  (0 < cs.length → ∃ g o, ad = some ⟨g, o, none⟩ ∧ g < w.heap.size ∧ ∀ k u, cs[k]? = some u → w.cell? ⟨g, o + k, none⟩ = some u) ∧ (ad = none → cap = 0)
theorem RowIn.kept {z n : Nat} {v : Value} {cs : List Value} {w w' : World} (h : RowIn z v n cs w) (hb : Below w.heap.size w w') : RowIn z v n cs w' := by
 obtain ⟨h0, ad, cap, rfl, h1, h2, h3, h4⟩ := h;refine ⟨h0, ad, cap, rfl, h1, h2, fun hp => ?_, h4⟩;obtain ⟨g, o, rfl, hg, hc⟩ := h3 hp;exact ⟨g, o, rfl, Nat.lt_of_lt_of_le hg hb.size, fun k u hk => (hb.cell (p := ⟨g, o + k, none⟩) hg).trans (hc k u hk)⟩
theorem RowIn.nil (z : Nat) (w : World) : RowIn z (.slice none 0 0) 0 [] w := ⟨by simp, none, 0, rfl, Nat.le_refl _, by unfold maxLen; omega, fun h => by simp at h, fun _ => rfl⟩
theorem RowIn.shape {z n : Nat} {v : Value} {cs : List Value} {w : World} (h : RowIn z v n cs w) : ∃ ad cap, v = .slice ad n cap ∧ n ≤ cap ∧ cap ≤ 9223372036854775807 ∧
 (0 < cs.length → ∃ g o, ad = some ⟨g, o, none⟩ ∧ g < w.heap.size ∧ ∀ k u, cs[k]? = some u → w.cell? ⟨g, o + k, none⟩ = some u) ∧ (ad = none → cap = 0) := by
 obtain ⟨_, ad, cap, rfl, h1, h2, h3, h4⟩ := h;exact ⟨ad, cap, rfl, h1, by unfold maxLen at h2; omega, h3, h4⟩
theorem cell_flat {w : World} {a : Addr} {v : Value} (h : w.cell? a = some v) : a.spot = none ∧ a.block < w.heap.size := by
 unfold World.cell? at h
 cases hb : w.heap[a.block]? with
 | none => rw [hb] at h; cases h
 | some o =>
   have hlt := (Array.getElem?_eq_some_iff.1 hb).1;rw [hb] at h
   cases o with
   | cells c e f =>
     simp only at h
     cases hs : a.spot with
     | none => exact ⟨rfl, hlt⟩
     | some x => rw [hs] at h; simp at h
   | _ => cases h
section
variable {H : Type} {enc : TypeId × Value → H} {P : Program} {w : World} {held : Bool}
theorem open_row_cell {t e : TypeId} (ht : P.underlying t = some (.slice e)) {fuel : Nat} {v : Value} {y : DataW H × List MemPlace}
 (h : DataW.trod enc P w 0 (fun _ => true) held fuel t [v] = some y) :
 ∃ n cs, RowIn (P.cellsOf e) v n cs w ∧ ∀ i < n, ∃ m x, DataW.trod enc P w 0 (fun _ => true) held m e ((cs.drop (i * P.cellsOf e)).take (P.cellsOf e)) = some x := by
 rcases Deep.open_slice ht h with ⟨hcs, _⟩ | ⟨a, len, cap, m, n, D, Pl, hcs, _, hl, hm, hmm, _, hx⟩
 ·simp only [List.cons.injEq, and_true] at hcs
  subst hcs;exact ⟨0, [], RowIn.nil _ w, fun i hi => by omega⟩
 ·simp only [List.cons.injEq, and_true] at hcs
  subst hcs
  have hmc : len ≤ m := by rw [hmm]; split <;> omega
  have each : ∀ i, i < len → ∃ cs', w.cells? 0 (a.add (i * P.cellsOf e)) (P.cellsOf e) = some cs' ∧ DataW.trod enc P w 0 (fun _ => true) held n e cs' = some (D i, Pl i) := fun i hi => hx i (by omega);obtain ⟨C, hC⟩ := Deep.choose_lt each;have hlen : ∀ i < len, (C i).length = P.cellsOf e := fun i hi => (World.cells?_some (hC i hi).1).2.1
  have hcell : ∀ i < len, ∀ j, j < P.cellsOf e → w.cell? (a.add (i * P.cellsOf e + j)) = (C i)[j]? := fun i hi j hj => by
   have := (World.cells?_some (hC i hi).1).2.2 j hj;rw [Deep.add_add] at this; exact this
  refine ⟨len, flat C len, ⟨flat_length hlen, some a, cap, rfl, hl, hm, fun hp => ?_, fun h => by cases h⟩, fun i hi => ?_⟩
  ·rw [flat_length hlen] at hp
   have hz : 0 < P.cellsOf e := by
    rcases Nat.eq_zero_or_pos (P.cellsOf e) with h0 | h0
    ·rw [h0] at hp; simp at hp
    ·exact h0
   have hl0 : 0 < len := by
    rcases Nat.eq_zero_or_pos len with h0 | h0
    ·rw [h0] at hp; simp at hp
    ·exact h0
   obtain ⟨g, o, sp⟩ := a;have h0 := hcell 0 hl0 0 hz;rw [List.getElem?_eq_getElem (by rw [hlen 0 hl0]; exact hz)] at h0
   have e0 : (Addr.add ⟨g, o, sp⟩ (0 * P.cellsOf e + 0)) = ⟨g, o, sp⟩ := by simp [Addr.add]
   rw [e0] at h0;obtain ⟨hs, hg⟩ := cell_flat h0;have hs : sp = none := hs;subst hs
   have add1 : ∀ j, (Addr.add ⟨g, o, none⟩ j) = ⟨g, o + j, none⟩ := fun j => by unfold Addr.add; split <;> simp_all
   refine ⟨g, o, rfl, hg, fun k u hk => ?_⟩
   have hkl : k < len * P.cellsOf e := by
    have := (List.getElem?_eq_some_iff.1 hk).1;rwa [flat_length hlen] at this
   have hi : k / P.cellsOf e < len := Nat.div_lt_of_lt_mul (by rw [Nat.mul_comm]; exact hkl);have hj : k % P.cellsOf e < P.cellsOf e := Nat.mod_lt _ hz
   have hk2 : k / P.cellsOf e * P.cellsOf e + k % P.cellsOf e = k := by rw [Nat.mul_comm]; exact Nat.div_add_mod _ _
   have h3 := hcell _ hi _ hj;rw [hk2, add1] at h3;rw [h3, ← flat_at hlen hi hj, hk2]; exact hk
  ·rw [flat_part hlen hi]
   exact ⟨n, _, (hC i hi).2⟩
theorem one_of {cs : List Value} {i : Nat} (h : i < cs.length) : (cs.drop (i * 1)).take 1 = [cs[i]] := by
 rw [Nat.mul_one, List.drop_eq_getElem_cons h]; rfl
theorem open_fields {e : TypeId} {fs : Array Field} (he : P.underlying e = some (.struct fs)) (hone : Deep.oneCellFields P fs = true) {fuel : Nat} {cs : List Value} {y : DataW H × List MemPlace}
 (h : DataW.trod enc P w 0 (fun _ => true) held fuel e cs = some y) (hc : cs.length = fs.size) :
 ∀ j (hj : j < fs.size), ∃ m x, DataW.trod enc P w 0 (fun _ => true) held m (fs[j]).type [cs[j]'(by omega)] = some x := by
 obtain ⟨xs, n, _, _, _, hlen, hr⟩ := DataW.trod_struct he h;intro j hj;have hfj : fs[j]? = some fs[j] := Array.getElem?_eq_getElem hj;obtain ⟨o, c⟩ := Deep.hone_of hone j _ hfj;have hq := hr j _ hfj;rw [o, c, List.getElem?_eq_getElem (show j < xs.length by omega)] at hq;have := one_of (cs := cs) (i := j) (by omega);rw [Nat.mul_one] at this;rw [this] at hq;exact ⟨n, _, hq⟩
end
end Go.Proofs.YtknefoemgifbfaaGreat
