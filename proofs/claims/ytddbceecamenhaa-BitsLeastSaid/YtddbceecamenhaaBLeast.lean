/- What fits is the least: over Nat, without the program. -/
import Derived.Test.YtddbceecamenhaaBFit
namespace Go.Proofs.Ytddbceecamenhaa
set_option linter.unusedVariables false

theorem find_first {n : Nat} {p : Nat × Nat → Bool} : ∀ {e : Int} {l : List (Nat × Nat)} {r : Nat × Nat}, Rising n e l → l.find? p = some r → ∀ q ∈ l, p q = true → q = r ∨ r.1 + r.2 < q.1
  | _, _, _, .nil _, h, q, hq, _ => by simp at hq
  | _, _, r, .cons (r := x) (l := l) a b c d, h, q, hq, hp => by
    rw [List.find?_cons] at h
    cases hx : p x with
    | true =>
      rw [hx] at h
      obtain rfl : x = r := by simpa using h
      rcases List.mem_cons.1 hq with rfl | hq
      · exact .inl rfl
      · have := (d.mem q hq).1; right; omega
    | false =>
      rw [hx] at h
      rcases List.mem_cons.1 hq with rfl | hq
      · rw [hx] at hp; cases hp
      · exact find_first d h q hq hp

/-- p is where size false bits fit: the lowest place from «from» on, or else the lowest of all -/
def Least (f : Nat → Bool) (n size : Nat) («from» : Int) (p : Nat) : Prop :=
  Hit f n size p ∧ (((«from» ≤ (p : Int)) ∧ ∀ q : Nat, «from» ≤ (q : Int) → q < p → ¬ Hit f n size q) ∨ ((p : Int) < «from» ∧ (∀ q : Nat, «from» ≤ (q : Int) → ¬ Hit f n size q) ∧ ∀ q < p, ¬ Hit f n size q))

theorem Least.unique {f : Nat → Bool} {n size : Nat} {«from» : Int} {p q : Nat} (h : Least f n size «from» p) (k : Least f n size «from» q) : p = q := by
  obtain ⟨h1, h2⟩ := h
  obtain ⟨k1, k2⟩ := k
  rcases h2 with ⟨a, b⟩ | ⟨a, b, c⟩
  · rcases k2 with ⟨a', b'⟩ | ⟨a', b', c'⟩
    · rcases Nat.lt_trichotomy p q with hl | hl | hl
      · exact absurd h1 (b' p a hl)
      · exact hl
      · exact absurd k1 (b q a' hl)
    · exact absurd h1 (b' p a)
  · rcases k2 with ⟨a', b'⟩ | ⟨a', b', c'⟩
    · exact absurd k1 (b q a')
    · rcases Nat.lt_trichotomy p q with hl | hl | hl
      · exact absurd h1 (c' p hl)
      · exact hl
      · exact absurd k1 (c q hl)

theorem hit_room {f : Nat → Bool} {n size p : Nat} (hs : 1 ≤ size) (h : Hit f n size p) : ∃ r ∈ runs f n, r.1 ≤ p ∧ p + size ≤ r.1 + r.2 ∧ roomIn size r = true ∧ ∀ «from» : Int, «from» ≤ (p : Int) → roomAt size «from» r = true := by
  obtain ⟨r, hr, h1, h2⟩ := hit_in f n p size hs h
  refine ⟨r, hr, h1, h2, ?_, fun fr hf => ?_⟩
  · unfold roomIn; rw [decide_eq_true_eq]; omega
  · unfold roomAt; rw [decide_eq_true_eq]; omega
theorem run_hit {f : Nat → Bool} {n size p : Nat} {r : Nat × Nat} (hr : r ∈ runs f n) (h1 : r.1 ≤ p) (h2 : p + size ≤ r.1 + r.2) : Hit f n size p := by
  have h3 := ((rising_runs f n).mem r hr).2.2
  refine ⟨by omega, fun i hi => ?_⟩
  have := runs_false f n r hr (p - r.1 + i) (by omega)
  rwa [show r.1 + (p - r.1 + i) = p + i by omega] at this

theorem fit_sound (f : Nat → Bool) (n size : Nat) («from» : Int) (hs : 1 ≤ size) (o : Option Int) (h : fitV (runs f n) size «from» = o) : (o = none ∧ ∀ p, ¬ Hit f n size p) ∨ ∃ p : Nat, o = some (p : Int) ∧ Least f n size «from» p := by
  unfold fitV at h
  rw [if_neg (by omega)] at h
  have hR := rising_runs f n
  cases h1 : (runs f n).find? (roomAt size «from») with
  | some r =>
    rw [h1] at h
    have hmem := List.mem_of_find?_eq_some h1
    have hroom := List.find?_some h1
    unfold roomAt at hroom
    rw [decide_eq_true_eq] at hroom
    obtain ⟨p, hp⟩ : ∃ p : Nat, max (r.1 : Int) «from» = p := ⟨(max (r.1 : Int) «from»).toNat, by omega⟩
    right
    refine ⟨p, ?_, run_hit hmem (by omega) (by omega), .inl ⟨by omega, fun q hq hlt hh => ?_⟩⟩
    · rw [← h, ← hp]
    · obtain ⟨r', hr', a, b, _, c⟩ := hit_room hs hh
      rcases find_first hR h1 r' hr' (c _ hq) with rfl | hgt
      · omega
      · omega
  | none =>
    rw [h1] at h
    have hno : ∀ q : Nat, «from» ≤ (q : Int) → ¬ Hit f n size q := fun q hq hh => by
      obtain ⟨r', hr', a, b, _, c⟩ := hit_room hs hh
      have := List.find?_eq_none.1 h1 r' hr'
      exact this (c _ hq)
    cases h2 : (runs f n).find? (roomIn size) with
    | some r =>
      rw [h2] at h
      have hmem := List.mem_of_find?_eq_some h2
      have hroom := List.find?_some h2
      unfold roomIn at hroom
      rw [decide_eq_true_eq] at hroom
      have hh : Hit f n size r.1 := run_hit hmem (Nat.le_refl _) (by omega)
      right
      refine ⟨r.1, by rw [← h]; rfl, hh, .inr ⟨?_, hno, fun q hq hk => ?_⟩⟩
      · apply Decidable.byContradiction
        intro hc
        exact hno r.1 (by omega) hh
      · obtain ⟨r', hr', a, b, c, _⟩ := hit_room hs hk
        rcases find_first hR h2 r' hr' c with rfl | hgt
        · omega
        · omega
    | none =>
      rw [h2] at h
      left
      refine ⟨by rw [← h]; rfl, fun q hk => ?_⟩
      obtain ⟨r', hr', a, b, c, _⟩ := hit_room hs hk
      have := List.find?_eq_none.1 h2 r' hr'
      exact this c
theorem fit_is {f : Nat → Bool} {n size : Nat} {«from» : Int} {p : Nat} (hs : 1 ≤ size) (h : Least f n size «from» p) : fitV (runs f n) size «from» = some (p : Int) := by
  rcases fit_sound f n size «from» hs _ rfl with ⟨_, h1⟩ | ⟨q, h1, h2⟩
  · exact absurd h.1 (h1 p)
  · rw [h1, h2.unique h]
theorem fit_not {f : Nat → Bool} {n size : Nat} {«from» : Int} (hs : 1 ≤ size) (h : ∀ p, ¬ Hit f n size p) : fitV (runs f n) size «from» = none := by
  rcases fit_sound f n size «from» hs _ rfl with ⟨h1, _⟩ | ⟨q, h1, h2⟩
  · exact h1
  · exact absurd h2.1 (h q)
theorem runs_empty {f : Nat → Bool} {n : Nat} (h : ∀ p, ¬ Hit f n 1 p) : runs f n = [] := by
  cases hr : runs f n with
  | nil => rfl
  | cons r l =>
    have hm : r ∈ runs f n := by rw [hr]; simp
    have := runs_mem f n r hm
    exact absurd (run_hit (p := r.1) (size := 1) hm (Nat.le_refl _) (by omega)) (h r.1)
theorem runs_full {f : Nat → Bool} {n p : Nat} (h : Hit f n 1 p) : 0 < (runs f n).length := by
  obtain ⟨r, hr, _⟩ := hit_in f n p 1 (Nat.le_refl _) h
  exact List.length_pos_of_mem hr

/-- the same with one bit more that is set -/
theorem hit_set {f g : Nat → Bool} {k : Nat} (hg : g k = true) (h : ∀ i, i ≠ k → g i = f i) {n q : Nat} : Hit g n 1 q ↔ Hit f n 1 q ∧ q ≠ k := by
  constructor
  · rintro ⟨h1, h2⟩
    have h3 := h2 0 (by omega)
    have hne : q ≠ k := by rintro rfl; rw [Nat.add_zero, hg] at h3; cases h3
    refine ⟨⟨h1, fun i hi => ?_⟩, hne⟩
    rw [show i = 0 by omega, Nat.add_zero, ← h q hne]; exact h3
  · rintro ⟨⟨h1, h2⟩, hne⟩
    refine ⟨h1, fun i hi => ?_⟩
    rw [show i = 0 by omega, Nat.add_zero, h q hne]; exact h2 0 (by omega)
theorem taken_next {f g : Nat → Bool} {k n m : Nat} {«from» : Int} (hg : g k = true) (h : ∀ i, i ≠ k → g i = f i) (h1 : Least f n 1 «from» k) (hf : «from» ≤ (k : Int)) (h2 : Least g n 1 «from» m) : Least g n 1 ((k : Int) + 1) m := by
  obtain ⟨a, b⟩ := h2
  have ha := (hit_set hg h).1 a
  refine ⟨a, ?_⟩
  rcases b with ⟨b1, b2⟩ | ⟨b1, b2, b3⟩
  · left
    have hlt : k < m := by
      rcases Nat.lt_trichotomy k m with hl | hl | hl
      · exact hl
      · exact absurd hl.symm ha.2
      · rcases h1.2 with ⟨c1, c2⟩ | ⟨c1, c2, c3⟩
        · exact absurd ha.1 (c2 m b1 hl)
        · omega
    exact ⟨by omega, fun q hq hqm => b2 q (by omega) hqm⟩
  · right
    exact ⟨by omega, fun q hq => b2 q (by omega), b3⟩
end Go.Proofs.Ytddbceecamenhaa
