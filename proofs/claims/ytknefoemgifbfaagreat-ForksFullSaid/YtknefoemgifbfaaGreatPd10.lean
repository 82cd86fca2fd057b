import Derived.Test.YtknefoemgifbfaaGreatRows
set_option linter.unusedVariables false
set_option linter.unusedSimpArgs false
set_option linter.constructorNameAsVariable false
namespace Go.Proofs.YtknefoemgifbfaaGreat
structure Ent where
 log : Int
 phys : Int
 len : Int
theorem Ent.ext' {a b : Ent} (h1 : a.log = b.log) (h2 : a.phys = b.phys) (h3 : a.len = b.len) : a = b := by cases a; cases b; simp_all
instance : Inhabited Ent := ⟨⟨0, 0, 0⟩⟩
instance : DecidableEq Ent := fun a b => decidable_of_iff (a.log = b.log ∧ a.phys = b.phys ∧ a.len = b.len) ⟨fun h => Ent.ext' h.1 h.2.1 h.2.2, fun h => by subst h; exact ⟨rfl, rfl, rfl⟩⟩
def EntOk (leaf : Bool) (e : Ent) : Prop :=
 if leaf then 1 ≤ e.len ∧ 0 ≤ e.log ∧ e.log + e.len ≤ 2048 ∧ 1 ≤ e.phys ∧ e.phys + e.len ≤ 4096
 else e.len = 0 ∧ 0 ≤ e.log ∧ e.log ≤ 2047 ∧ 1 ≤ e.phys ∧ e.phys ≤ 4095
instance (leaf : Bool) (e : Ent) : Decidable (EntOk leaf e) := by unfold EntOk; infer_instance
def After (p e : Ent) : Prop := p.log < e.log ∧ p.log + p.len ≤ e.log
instance (p e : Ent) : Decidable (After p e) := by unfold After; infer_instance
def eat (l : List Ent) (i : Nat) : Ent := (l[i]?).getD ⟨0, 0, 0⟩
theorem eat_eq {l : List Ent} {i : Nat} (h : i < l.length) : eat l i = l[i] := by unfold eat; rw [List.getElem?_eq_getElem h]; rfl
def RowTo (leaf : Bool) (l : List Ent) (k : Nat) : Prop := ∀ i, i < k → EntOk leaf (eat l i) ∧ (0 < i → After (eat l (i - 1)) (eat l i))
instance (leaf : Bool) (l : List Ent) (k : Nat) : Decidable (RowTo leaf l k) := by unfold RowTo; infer_instance
abbrev RowOk (leaf : Bool) (l : List Ent) : Prop := RowTo leaf l l.length
theorem rowTo_zero (leaf : Bool) (l : List Ent) : RowTo leaf l 0 := fun i hi => by omega
theorem rowTo_succ {leaf : Bool} {l : List Ent} {k : Nat} : RowTo leaf l (k + 1) ↔ RowTo leaf l k ∧ EntOk leaf (eat l k) ∧ (0 < k → After (eat l (k - 1)) (eat l k)) := by
 constructor
 ·intro h
  exact ⟨fun i hi => h i (by omega), h k (by omega)⟩
 ·rintro ⟨h, h2⟩ i hi
  by_cases e : i = k
  ·subst e; exact h2
  ·exact h i (by omega)
theorem rowTo_mono {leaf : Bool} {l : List Ent} {i k : Nat} (h : RowTo leaf l k) (hi : i ≤ k) : RowTo leaf l i := fun j hj => h j (by omega)
theorem eat_append_at (a : List Ent) (e : Ent) : eat (a ++ [e]) a.length = e := by unfold eat; rw [List.getElem?_append_right (Nat.le_refl _)]; simp
theorem entOk_low {leaf : Bool} {e : Ent} (h : EntOk leaf e) : (0 ≤ e.log ∧ e.log ≤ 2048) ∧ (0 ≤ e.phys ∧ e.phys ≤ 4096) ∧ (0 ≤ e.len ∧ e.len ≤ 4096) := by
 unfold EntOk at h
 cases leaf
 ·simp at h; omega
 ·simp at h; omega
end Go.Proofs.YtknefoemgifbfaaGreat
