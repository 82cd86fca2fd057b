/- A heap in a row, as container/heap keeps it: what its ways up and down leave, and that the least item is the first. Without the program. -/
import Derived.Laws.Bits64b
namespace Go.Proofs.YtehjobjjlldckaaGreat
set_option linter.unusedVariables false
/-! ### a heap in a row -/
section
variable {α : Type} (key : α → Int)
def swapF (A : Nat → α) (i j : Nat) : Nat → α := fun k => if k = i then A j else if k = j then A i else A k
theorem swapF_l (A : Nat → α) (i j : Nat) : swapF A i j i = A j := by unfold swapF; rw [if_pos rfl]
theorem swapF_r (A : Nat → α) (i j : Nat) : swapF A i j j = A i := by
  unfold swapF
  by_cases h : j = i
  · rw [if_pos h, h]
  · rw [if_neg h, if_pos rfl]
theorem swapF_o (A : Nat → α) {i j k : Nat} (h1 : k ≠ i) (h2 : k ≠ j) : swapF A i j k = A k := by unfold swapF; rw [if_neg h1, if_neg h2]
theorem swapF_comm (A : Nat → α) (i j : Nat) : swapF A i j = swapF A j i := by
  funext k
  by_cases h1 : k = i
  · subst h1
    rw [swapF_l, swapF_r]
  · by_cases h2 : k = j
    · subst h2
      rw [swapF_l, swapF_r]
    · rw [swapF_o A h1 h2, swapF_o A h2 h1]
/-- the same items, each as often: one to one -/
def sameTo (A B : Nat → α) (n : Nat) : Prop := ∃ p q : Nat → Nat, (∀ k, k < n → p k < n ∧ q k < n ∧ q (p k) = k ∧ p (q k) = k) ∧ ∀ k, k < n → B k = A (p k)
theorem same_refl (A : Nat → α) (n : Nat) : sameTo A A n := ⟨id, id, fun k h => ⟨h, h, rfl, rfl⟩, fun _ _ => rfl⟩
theorem same_trans {A B C : Nat → α} {n : Nat} (h : sameTo A B n) (g : sameTo B C n) : sameTo A C n := by
  obtain ⟨p, q, h1, h2⟩ := h
  obtain ⟨r, s, g1, g2⟩ := g
  refine ⟨fun k => p (r k), fun k => s (q k), fun k hk => ?_, fun k hk => ?_⟩
  · have a := g1 k hk
    have b := h1 (r k) a.1
    have c := h1 k hk
    have d := g1 (q k) c.2.1
    refine ⟨b.1, d.2.1, ?_, ?_⟩
    · show s (q (p (r k))) = k; rw [b.2.2.1, a.2.2.1]
    · show p (r (s (q k))) = k; rw [d.2.2.2, c.2.2.2]
  · rw [g2 k hk, h2 (r k) (g1 k hk).1]
theorem same_symm {A B : Nat → α} {n : Nat} (h : sameTo A B n) : sameTo B A n := by
  obtain ⟨p, q, h1, h2⟩ := h
  refine ⟨q, p, fun k hk => ⟨(h1 k hk).2.1, (h1 k hk).1, (h1 k hk).2.2.2, (h1 k hk).2.2.1⟩, fun k hk => ?_⟩
  rw [h2 (q k) (h1 k hk).2.1, (h1 k hk).2.2.2]
theorem same_swap (A : Nat → α) {n i j : Nat} (hi : i < n) (hj : j < n) : sameTo A (swapF A i j) n := by
  have h : ∀ k, swapF id i j k = if k = i then j else if k = j then i else k := fun _ => rfl
  have hh : ∀ k, k < n → swapF id i j k < n := fun k hk => by
    rw [h]
    split
    · exact hj
    · split
      · exact hi
      · exact hk
  have hi2 : ∀ k, swapF id i j (swapF id i j k) = k := fun k => by
    rw [h k]
    by_cases h1 : k = i
    · rw [if_pos h1, swapF_r]; exact h1.symm
    · rw [if_neg h1]
      by_cases h2 : k = j
      · rw [if_pos h2, swapF_l]; exact h2.symm
      · rw [if_neg h2, swapF_o _ h1 h2]; rfl
  refine ⟨swapF id i j, swapF id i j, fun k hk => ⟨hh k hk, hh k hk, hi2 k, hi2 k⟩, fun k hk => ?_⟩
  rw [h]
  unfold swapF
  split
  · rfl
  · split <;> rfl
theorem same_mem {A B : Nat → α} {n : Nat} (h : sameTo A B n) {k : Nat} (hk : k < n) : ∃ j, j < n ∧ B k = A j := by
  obtain ⟨p, q, h1, h2⟩ := h
  exact ⟨p k, (h1 k hk).1, h2 k hk⟩
theorem same_inj {A B : Nat → α} {n : Nat} (h : sameTo A B n) (hu : ∀ i j, i < n → j < n → A i = A j → i = j) : ∀ i j, i < n → j < n → B i = B j → i = j := by
  obtain ⟨p, q, h1, h2⟩ := h
  intro i j hi hj e
  rw [h2 i hi, h2 j hj] at e
  have := hu _ _ (h1 i hi).1 (h1 j hj).1 e
  rw [← (h1 i hi).2.2.1, ← (h1 j hj).2.2.1, this]
def par (k : Nat) : Nat := (k - 1) / 2
def heapTo (A : Nat → α) (n : Nat) : Prop := ∀ k, 0 < k → k < n → key (A (par k)) ≤ key (A k)
theorem heap_least {key : α → Int} {A : Nat → α} {n : Nat} (h : heapTo key A n) : ∀ k, k < n → key (A 0) ≤ key (A k) := by
  intro k
  induction k using Nat.strongRecOn with
  | ind k ih =>
    intro hk
    by_cases h0 : k = 0
    · rw [h0]; exact Int.le_refl _
    · have h1 : par k < k := by unfold par; omega
      exact Int.le_trans (ih (par k) h1 (by omega)) (h k (by omega) hk)
/-- all is in order but j may be less than what is above it -/
structure upAt (A : Nat → α) (n j : Nat) : Prop where
  rest : ∀ k, 0 < k → k < n → k ≠ j → key (A (par k)) ≤ key (A k)
  over : ∀ k, 0 < k → k < n → par k = j → 0 < j → key (A (par j)) ≤ key (A k)
theorem up_done {key : α → Int} {A : Nat → α} {n j : Nat} (h : upAt key A n j) (hj : j = 0 ∨ key (A (par j)) ≤ key (A j)) : heapTo key A n := fun k h0 hk => by
  by_cases e : k = j
  · subst e
    rcases hj with hj | hj
    · omega
    · exact hj
  · exact h.rest k h0 hk e
theorem up_step {key : α → Int} {A : Nat → α} {n j : Nat} (h : upAt key A n j) (hj : 0 < j) (hn : j < n) (hl : key (A j) < key (A (par j))) : upAt key (swapF A (par j) j) n (par j) := by
  have hp : par j < j := by unfold par; omega
  refine ⟨fun k h0 hk hne => ?_, fun k h0 hk hpk h0j => ?_⟩
  · by_cases e : k = j
    · subst e
      rw [swapF_l, swapF_r]; omega
    · rw [swapF_o A hne e]
      by_cases e2 : par k = j
      · rw [e2, swapF_r]; exact h.over k h0 hk e2 hj
      · by_cases e3 : par k = par j
        · rw [e3, swapF_l]
          have := h.rest k h0 hk e
          rw [e3] at this
          omega
        · rw [swapF_o A e3 e2]; exact h.rest k h0 hk e
  · have hq : par (par j) < par j := by unfold par at *; omega
    have hq2 : key (A (par (par j))) ≤ key (A (par j)) := h.rest (par j) h0j (by omega) (by omega)
    rw [swapF_o A (i := par j) (j := j) (by omega) (by omega)]
    by_cases e : k = j
    · subst e; rw [swapF_r]; exact hq2
    · have hk2 : k ≠ par j := by
        intro e2
        have : par k < k := by unfold par; omega
        omega
      rw [swapF_o A hk2 e]
      have := h.rest k h0 hk e
      rw [hpk] at this
      omega
/-- from i0 on all is in order but i may be greater than what is below it -/
structure downAt (A : Nat → α) (i0 i n : Nat) : Prop where
  lo : i0 ≤ i
  rest : ∀ k, 0 < k → k < n → i0 ≤ par k → par k ≠ i → key (A (par k)) ≤ key (A k)
  over : ∀ k, 0 < k → k < n → par k = i → i0 < i → i0 ≤ par i → key (A (par i)) ≤ key (A k)
def heapFrom (A : Nat → α) (i0 n : Nat) : Prop := ∀ k, 0 < k → k < n → i0 ≤ par k → key (A (par k)) ≤ key (A k)
theorem heapFrom_zero {key : α → Int} {A : Nat → α} {n : Nat} (h : heapFrom key A 0 n) : heapTo key A n := fun k h0 hk => h k h0 hk (Nat.zero_le _)
theorem down_done {key : α → Int} {A : Nat → α} {i0 i n : Nat} (h : downAt key A i0 i n) (hk : ∀ k, 0 < k → k < n → par k = i → key (A i) ≤ key (A k)) : heapFrom key A i0 n := fun k h0 h1 h2 => by
  by_cases e : par k = i
  · rw [e]; exact hk k h0 h1 e
  · exact h.rest k h0 h1 h2 e
theorem down_step {key : α → Int} {A : Nat → α} {i0 i n c : Nat} (h : downAt key A i0 i n) (hc0 : 0 < c) (hcn : c < n) (hc : par c = i) (hl : key (A c) < key (A i)) (hm : ∀ k, 0 < k → k < n → par k = i → key (A c) ≤ key (A k)) : downAt key (swapF A i c) i0 c n := by
  have hic : i < c := by rw [← hc]; unfold par; omega
  have hlo := h.lo
  refine ⟨by omega, fun k h0 hk h1 hne => ?_, fun k h0 hk hpk h1 h2 => ?_⟩
  · have hpk : par k < k := by unfold par; omega
    by_cases e : par k = i
    · rw [e, swapF_l]
      by_cases e2 : k = c
      · subst e2; rw [swapF_r]; omega
      · have hki : k ≠ i := by omega
        rw [swapF_o A hki e2]; exact hm k h0 hk e
    · rw [swapF_o A e hne]
      by_cases e2 : k = i
      · subst e2
        rw [swapF_l]
        have := h.over c hc0 hcn hc (by omega) h1
        exact this
      · have e3 : k ≠ c := fun e3 => by rw [e3] at e; exact e hc
        rw [swapF_o A e2 e3]; exact h.rest k h0 hk h1 e
  · have hpk2 : par k < k := by unfold par; omega
    have hki : k ≠ i := by omega
    have hkc : k ≠ c := by omega
    rw [hc, swapF_l, swapF_o A hki hkc]
    have := h.rest k h0 hk (by omega) (by omega)
    rw [hpk] at this
    exact this
/-- what is above i0 is not greater than what comes to stand there -/
theorem down_top {key : α → Int} {A : Nat → α} {i c n : Nat} {z : Int} (hz : ∀ k, 0 < k → k < n → par k = i → z ≤ key (A k)) (hc0 : 0 < c) (hcn : c < n) (hc : par c = i) : z ≤ key (swapF A i c i) := by rw [swapF_l]; exact hz c hc0 hcn hc
/-- one more item, behind all -/
theorem up_begin {key : α → Int} {A : Nat → α} {n : Nat} (h : heapTo key A n) : upAt key A (n + 1) n :=
  ⟨fun k h0 hk e => h k h0 (by omega), fun k h0 hk e h1 => by unfold par at e; omega⟩
/-- the last item comes first, and the row ends ahead of where it lay -/
theorem down_begin {key : α → Int} {A : Nat → α} {n : Nat} (h : heapTo key A (n + 1)) : downAt key (swapF A 0 n) 0 0 n :=
  ⟨Nat.le_refl _, fun k h0 hk _ e => by
    have hp : par k < k := by unfold par; omega
    rw [swapF_o A e (by omega), swapF_o A (by omega) (by omega)]
    exact h k h0 (by omega), fun k h0 hk e h1 => by omega⟩
/-- a heap is laid from its end on: one item more -/
theorem down_more {key : α → Int} {A : Nat → α} {i n : Nat} (h : heapFrom key A (i + 1) n) : downAt key A i i n :=
  ⟨Nat.le_refl _, fun k h0 hk h1 e => h k h0 hk (by omega), fun k h0 hk e h1 => by omega⟩
theorem heap_half {key : α → Int} {A : Nat → α} {n : Nat} : heapFrom key A (n / 2) n := fun k h0 hk h1 => by unfold par at h1; omega
/-- item i is another one: it goes down ... -/
theorem fix_down {key : α → Int} {A B : Nat → α} {n i : Nat} (h : heapTo key A n) (hb : ∀ k, k < n → k ≠ i → B k = A k) : downAt key B i i n :=
  ⟨Nat.le_refl _, fun k h0 hk h1 e => by
    have hp : par k < k := by unfold par; omega
    by_cases e2 : k = i
    · omega
    · rw [hb k hk e2, hb (par k) (by omega) e]; exact h k h0 hk, fun k h0 hk e h1 => by omega⟩
/-- .. or, if it stays there, up -/
theorem fix_up {key : α → Int} {A B : Nat → α} {n i : Nat} (h : heapTo key A n) (hb : ∀ k, k < n → k ≠ i → B k = A k) (hd : heapFrom key B i n) : upAt key B n i :=
  ⟨fun k h0 hk e => by
    have hp : par k < k := by unfold par; omega
    by_cases e2 : par k = i
    · exact hd k h0 hk (by omega)
    · rw [hb k hk e, hb (par k) (by omega) e2]; exact h k h0 hk, fun k h0 hk e h1 => by
    have hp : par k < k := by unfold par; omega
    have hp2 : par i < i := by unfold par; omega
    rw [hb k hk (by omega), hb (par i) (by omega) (by omega)]
    have g1 := h k h0 hk
    have g2 := h i h1 (by omega)
    rw [e] at g1
    omega⟩
/-- what a way down leaves as it was: all but i0 and what lies below it -/
theorem keep_swap {A B : Nat → α} {i0 i c : Nat} (h : ∀ k, k ≠ i0 → par k < i0 → A k = B k) (hi : i = i0 ∨ i0 ≤ par i) (hc : par c = i) (hci : i < c) (hlo : i0 ≤ i) : ∀ k, k ≠ i0 → par k < i0 → swapF A i c k = B k := fun k h1 h2 => by
  have e1 : k ≠ i := fun e => by
    rcases hi with hi | hi
    · omega
    · rw [e] at h2; omega
  have e2 : k ≠ c := fun e => by rw [e, hc] at h2; omega
  rw [swapF_o A e1 e2]; exact h k h1 h2
theorem fix_moved {key : α → Int} {A B C : Nat → α} {n i : Nat} (h : heapTo key A n) (hb : ∀ k, k < n → k ≠ i → B k = A k) (hk : ∀ k, k ≠ i → par k < i → C k = B k) (hf : heapFrom key C i n) (ht : 0 < i → key (B (par i)) ≤ key (C i)) : heapTo key C n := fun k h0 hkn => by
  have hp : par k < k := by unfold par; omega
  by_cases h1 : i ≤ par k
  · exact hf k h0 hkn h1
  · by_cases e : k = i
    · subst e
      have hpp : par (par k) < k := by unfold par at *; omega
      rw [hk (par k) (by omega) hpp]
      exact ht h0
    · have hpp : par (par k) < i := by unfold par at *; omega
      rw [hk k e (by omega), hk (par k) (by omega) hpp, hb k hkn e, hb (par k) (by omega) (by omega)]
      exact h k h0 hkn
end
end Go.Proofs.YtehjobjjlldckaaGreat
