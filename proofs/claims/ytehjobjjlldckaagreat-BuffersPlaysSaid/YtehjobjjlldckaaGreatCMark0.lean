/- The cache's lists: what marked gathers, and sorts. -/
import Derived.Test.YtehjobjjlldckaaGreatCUnpin
import Derived.Test.YtehjobjjlldckaaGreatCShelf
import Derived.Test.YtehjobjjlldckaaGreatNats
import Derived.Sort.OwnSortedInts
namespace Go.Proofs.YtehjobjjlldckaaGreat
set_option linter.unusedVariables false
open Go.RowKit Go.Shelf

def markL (p : Nat → Bool) (f : Nat → Nat) : Nat → List Nat
  | 0 => []
  | i + 1 => if p i then markL p f i ++ [f i] else markL p f i
theorem markL_yes {p : Nat → Bool} (f : Nat → Nat) {n : Nat} (h : p n = true) : markL p f (n + 1) = markL p f n ++ [f n] := by show (if p n then _ else _) = _; rw [if_pos h]
theorem markL_no {p : Nat → Bool} (f : Nat → Nat) {n : Nat} (h : p n = false) : markL p f (n + 1) = markL p f n := by show (if p n then _ else _) = _; rw [if_neg (by rw [h]; exact Bool.false_ne_true)]
theorem markL_len (p : Nat → Bool) (f : Nat → Nat) : ∀ n, (markL p f n).length ≤ n
  | 0 => Nat.le_refl _
  | n + 1 => by
    have := markL_len p f n
    unfold markL
    split
    · simp; omega
    · omega
theorem markL_mem (p : Nat → Bool) (f : Nat → Nat) (x : Nat) : ∀ n, x ∈ markL p f n ↔ ∃ i, i < n ∧ p i = true ∧ f i = x
  | 0 => ⟨fun h => (by cases h), fun ⟨i, h, _⟩ => absurd h (by omega)⟩
  | n + 1 => by
    unfold markL
    split
    · rename_i hp
      rw [List.mem_append, markL_mem p f x n, List.mem_singleton]
      constructor
      · rintro (⟨i, h1, h2, h3⟩ | h)
        · exact ⟨i, by omega, h2, h3⟩
        · exact ⟨n, by omega, hp, h.symm⟩
      · rintro ⟨i, h1, h2, h3⟩
        by_cases e : i = n
        · subst e; exact .inr h3.symm
        · exact .inl ⟨i, by omega, h2, h3⟩
    · rename_i hp
      rw [markL_mem p f x n]
      constructor
      · rintro ⟨i, h1, h2, h3⟩
        exact ⟨i, by omega, h2, h3⟩
      · rintro ⟨i, h1, h2, h3⟩
        by_cases e : i = n
        · subst e; exact absurd h2 hp
        · exact ⟨i, by omega, h2, h3⟩
theorem markL_nodup {p : Nat → Bool} {f : Nat → Nat} : ∀ {n : Nat}, (∀ i j, i < n → j < n → f i = f j → i = j) → (markL p f n).Nodup
  | 0, _ => List.nodup_nil
  | n + 1, h => by
    have ih := markL_nodup (p := p) (f := f) (n := n) fun i j hi hj => h i j (by omega) (by omega)
    unfold markL
    split
    · rw [List.nodup_append]
      refine ⟨ih, by simp, fun a ha b hb e => ?_⟩
      rw [List.mem_singleton] at hb
      subst hb
      subst e
      obtain ⟨i, h1, h2, h3⟩ := (markL_mem p f _ n).1 ha
      have := h i n (by omega) (by omega) h3
      omega
    · exact ih
theorem pendL_sorted (p : Nat → Bool) : ∀ n, (pendL p n).Pairwise (· < ·)
  | 0 => List.Pairwise.nil
  | n + 1 => by
    cases hp : p n with
    | false => rw [pendL_no hp]; exact pendL_sorted p n
    | true =>
      rw [pendL_yes hp, List.pairwise_append]
      refine ⟨pendL_sorted p n, List.pairwise_singleton _ _, fun a ha b hb => ?_⟩
      rw [List.mem_singleton] at hb
      rw [hb]; exact (pendL_lt p ha).1
theorem pendL_isMem (p : Nat → Bool) (n x : Nat) : x ∈ pendL p n ↔ x < n ∧ p x = true := ⟨fun h => pendL_lt p h, fun h => pendL_mem h.1 h.2⟩
/-- a list of unlike numbers, sorted, is those that are marked -/
theorem sort_marks {X : List Nat} {p : Nat → Bool} {n : Nat} (hu : X.Nodup) (hm : ∀ x, x ∈ X ↔ x < n ∧ p x = true) :
    (X.map fun k : Nat => (k : Int)).mergeSort (fun x y => decide (x ≤ y)) = (pendL p n).map fun k : Nat => (k : Int) := by
  have hperm : X.Perm (pendL p n) := by
    rw [List.perm_ext_iff_of_nodup hu ((pendL_sorted p n).imp fun h => by omega)]
    intro x
    rw [hm, pendL_isMem]
  have h1 : ((X.map fun k : Nat => (k : Int)).mergeSort (fun x y => decide (x ≤ y))).Perm ((pendL p n).map fun k : Nat => (k : Int)) := (List.mergeSort_perm _ _).trans (hperm.map _)
  refine List.Perm.eq_of_pairwise (le := fun x y : Int => decide (x ≤ y) = true) ?_ ?_ ?_ h1
  · intro a b _ _ hab hba
    have := of_decide_eq_true hab
    have := of_decide_eq_true hba
    omega
  · exact List.pairwise_mergeSort (fun a b c h1 h2 => by have := of_decide_eq_true h1; have := of_decide_eq_true h2; exact decide_eq_true (by omega)) (fun a b => by simp; omega) _
  · rw [List.pairwise_map]
    exact (pendL_sorted p n).imp fun h => decide_eq_true (by omega)
theorem nats_ints (L : List Nat) : L.map natV = (L.map fun k : Nat => (k : Int)).map (Value.int .i64) := by rw [List.map_map]; rfl
theorem sort_some (L S : List Nat) (hS : (L.map fun k : Nat => (k : Int)).mergeSort (fun x y => decide (x ≤ y)) = S.map fun k : Nat => (k : Int)) (B g cap : Nat) (W : World) (hB : B ≤ g) (hg : g < W.heap.size) (hl : L.length ≤ 1000000) (h : NatsAt B (.slice (some ⟨g, 0, none⟩) L.length cap) L W) :
    Calls Tryz.prog 74 #[.slice (some ⟨g, 0, none⟩) L.length cap] W fun e w' => e = .returned (.tuple #[]) ∧ NatsAt B (.slice (some ⟨g, 0, none⟩) L.length cap) S w' ∧ Below B W w' := by
  have hSl : S.length = L.length := by have := congrArg List.length hS; rw [List.length_mergeSort, List.length_map, List.length_map] at this; exact this.symm
  have hlc : (L.map fun k : Nat => (k : Int)).length = L.length := List.length_map _
  rcases h.2 with ⟨h0, _⟩ | ⟨g', cap', cur, hv, hb, hcur, hle, hm, hsz, htk⟩
  · cases h0
  cases hv
  rw [nats_ints] at htk
  have hH := holds_of_blockI (ss := L.map fun k : Nat => (k : Int)) hcur (by rw [hlc, ← htk, Nat.mul_one])
  have hcon := Any.slices_Sort_int Tryz.sortInts g 0 cap (L.map fun k : Nat => (k : Int)) W hH hg (by rw [hlc]; omega)
  rw [hlc, hS] at hcon
  refine Calls.mono (show Calls Tryz.prog 74 _ _ _ from hcon) ?_
  rintro e w' ⟨he, n, os, rfl⟩
  have ho := ownsRow_sortedI (w := W) (n := n) (os := os) (ss := L.map fun k : Nat => (k : Int)) (ts := S.map fun k : Nat => (k : Int)) (by rw [List.length_map, List.length_map, hSl]) hB hcur (by rw [hlc]; exact hle) hm hsz
  refine ⟨he, ?_, (Below.refl _ _).grown (grownBy_sortedI (w := W) (g := g) (n := n) (os := os) _) (by omega) (fun k hk => by cases hk; exact hB)⟩
  show World.ownsRow _ _ _ _ _ S.length _
  rw [nats_ints, hSl]
  rw [hlc] at ho
  exact ho
theorem sort_any (L S : List Nat) (hS : (L.map fun k : Nat => (k : Int)).mergeSort (fun x y => decide (x ≤ y)) = S.map fun k : Nat => (k : Int)) (B : Nat) (v : Value) (W : World) (hB : B ≤ W.heap.size) (hl : L.length ≤ 1000000) (h : NatsAt B v L W) :
    Calls Tryz.prog 74 #[v] W fun e w' => e = .returned (.tuple #[]) ∧ NatsAt B v S w' ∧ Below B W w' := by
  obtain ⟨ad, cap, rfl, h1, h2, h3⟩ := shape_of h
  by_cases h0 : L.length = 0
  · have hnil : L = [] := List.length_eq_zero_iff.1 h0
    subst hnil
    have hS2 : S = [] := by
      simp at hS
      exact hS
    subst hS2
    refine (Any.slices_Sort_int_none Tryz.sortInts ad cap W).mono ?_
    rintro e w' ⟨rfl, rfl⟩
    exact ⟨rfl, h, Below.refl _ _⟩
  · obtain ⟨g, rfl, hg, hlt⟩ := h3 (by omega)
    exact sort_some L S hS B g cap W hg hlt hl h
end Go.Proofs.YtehjobjjlldckaaGreat
