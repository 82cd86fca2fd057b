/- How many: the mathematics of RunsCount. -/
import Derived.Test.YtmdkekbhondkbaaRCount
namespace Go.Proofs.Ytmdkekbhondkbaa
set_option linter.unusedVariables false

def cntN (f : Nat → Bool) : Nat → Nat
  | 0 => 0
  | n + 1 => cntN f n + (f n).toNat
theorem cnt_congr {f g : Nat → Bool} : ∀ n, (∀ i < n, f i = g i) → cntN f n = cntN g n
  | 0, _ => rfl
  | n + 1, h => by rw [cntN, cntN, cnt_congr n fun i hi => h i (by omega), h n (by omega)]
theorem cnt_or_and (f g : Nat → Bool) : ∀ n, cntN (fun i => f i || g i) n + cntN (fun i => f i && g i) n = cntN f n + cntN g n
  | 0 => rfl
  | n + 1 => by
    have := cnt_or_and f g n
    simp only [cntN]
    cases f n <;> cases g n <;> simp only [Bool.or_true, Bool.or_false, Bool.and_true, Bool.and_false, Bool.not_true, Bool.not_false, Bool.toNat_true, Bool.toNat_false, Bool.or_self, Bool.and_self] <;> omega
theorem cnt_split (f g : Nat → Bool) : ∀ n, cntN (fun i => f i && !g i) n + cntN (fun i => f i && g i) n = cntN f n
  | 0 => rfl
  | n + 1 => by
    have := cnt_split f g n
    simp only [cntN]
    cases f n <;> cases g n <;> simp only [Bool.or_true, Bool.or_false, Bool.and_true, Bool.and_false, Bool.not_true, Bool.not_false, Bool.toNat_true, Bool.toNat_false, Bool.or_self, Bool.and_self] <;> omega
theorem cnt_none {f : Nat → Bool} : ∀ n, (∀ i < n, f i = false) → cntN f n = 0
  | 0, _ => rfl
  | n + 1, h => by rw [cntN, cnt_none n fun i hi => h i (by omega), h n (by omega)]; rfl
theorem cnt_all {f : Nat → Bool} : ∀ n, (∀ i < n, f i = true) → cntN f n = n
  | 0, _ => rfl
  | n + 1, h => by rw [cntN, cnt_all n fun i hi => h i (by omega), h n (by omega)]; rfl
theorem cnt_le (f : Nat → Bool) : ∀ n, cntN f n ≤ n
  | 0 => Nat.le_refl _
  | n + 1 => by have := cnt_le f n; have := Bool.toNat_le (f n); rw [cntN]; omega
theorem cnt_between {a b : Int} (ha : 0 ≤ a) : ∀ n : Nat, (cntN (fun i => decide (a ≤ (i : Int) ∧ (i : Int) < b)) n : Int) = max 0 (min b (n : Int) - a)
  | 0 => by simp only [cntN]; omega
  | n + 1 => by
    have := cnt_between ha (b := b) n
    rw [cntN, Int.natCast_add, this]
    by_cases h : a ≤ (n : Int) ∧ (n : Int) < b
    · rw [decide_eq_true h]; show _ + ((1 : Nat) : Int) = _; omega
    · rw [decide_eq_false h]; show _ + ((0 : Nat) : Int) = _; omega
/-- a list in order has as many as it says -/
theorem sum_cnt {N : Nat} : ∀ {e : Int} {l : List (Int × Int)}, Norm e l → (∀ r ∈ l, r.1 + r.2 ≤ (N : Int)) → sumR l = (cntN (fun i => decide (elemR l (i : Int))) N : Int)
  | _, _, .nil _, _ => by rw [cnt_none N fun i _ => decide_eq_false (elemR_nil _)]; rfl
  | e, _, .cons (r := r) (l := l) a b c, h => by
    have ih := sum_cnt c (fun q hq => h q (List.mem_cons_of_mem _ hq))
    have hr := h r (by simp)
    have b0 := b.1
    have b1 := b.2.1
    have h1 := cnt_or_and (fun i => decide (r.1 ≤ (i : Int) ∧ (i : Int) < r.1 + r.2)) (fun i => decide (elemR l (i : Int))) N
    have h2 : cntN (fun i => decide (r.1 ≤ (i : Int) ∧ (i : Int) < r.1 + r.2) && decide (elemR l (i : Int))) N = 0 := cnt_none N fun i _ => by
      rw [Bool.and_eq_false_iff]
      by_cases hi : elemR l (i : Int)
      · left; rw [decide_eq_false_iff_not]; intro h; have := c.elem hi; omega
      · right; exact decide_eq_false hi
    have h3 : cntN (fun i => decide (elemR (r :: l) (i : Int))) N = cntN (fun i => decide (r.1 ≤ (i : Int) ∧ (i : Int) < r.1 + r.2) || decide (elemR l (i : Int))) N := cnt_congr N fun i _ => by
      rw [Bool.eq_iff_iff]; simp only [Bool.or_eq_true, decide_eq_true_eq]; rw [elemR_cons]; unfold inR; simp only [b, true_and]
    have h4 := cnt_between b0 (b := r.1 + r.2) N
    rw [sumR, ih, h3]
    omega
/-- all ends are at most N, if all elements lie below -/
theorem ends_le {e N : Int} {l : List (Int × Int)} (h : Norm e l) (he : ∀ i, elemR l i → i < N) : ∀ r ∈ l, r.1 + r.2 ≤ N := fun r hr => by
  have hok := (h.mem r hr).1
  have h1 := hok.2.1
  have := he (r.1 + r.2 - 1) ⟨r, hr, hok, by omega, by omega⟩
  omega
theorem dec_elem {a b : List (Int × Int)} {i : Int} (h : elemR a i ↔ elemR b i) : decide (elemR a i) = decide (elemR b i) := decide_eq_decide.2 h
theorem card1 {x y : List (Int × Int)} {N : Nat} (hx : Norm (-1) x) (hy : Norm (-1) y) (ex : ∀ i, elemR x i → i < (N : Int)) (ey : ∀ i, elemR y i → i < (N : Int)) : sumR (unionR x y) + sumR (meetR x y) = sumR x + sumR y := by
  rw [sum_cnt hx (ends_le hx ex), sum_cnt hy (ends_le hy ey)]
  rw [sum_cnt (norm_norm (x ++ y)) (ends_le (norm_norm _) fun i hi => ((union_elem x y i).1 hi).elim (ex i) (ey i)) (l := unionR x y)]
  rw [sum_cnt (minus_norm x (minusR x y)) (ends_le (minus_norm _ _) fun i hi => ex i ((meet_elem x y i).1 hi).1) (l := meetR x y)]
  rw [cnt_congr (g := fun i => decide (elemR x (i : Int)) || decide (elemR y (i : Int))) N fun i _ => by
    rw [Bool.eq_iff_iff]; simp only [Bool.or_eq_true, decide_eq_true_eq]; exact union_elem x y _]
  rw [cnt_congr (f := fun i => decide (elemR (meetR x y) (i : Int))) (g := fun i => decide (elemR x (i : Int)) && decide (elemR y (i : Int))) N fun i _ => by
    rw [Bool.eq_iff_iff]; simp only [Bool.and_eq_true, decide_eq_true_eq]; exact meet_elem x y _]
  have := cnt_or_and (fun i => decide (elemR x (i : Int))) (fun i => decide (elemR y (i : Int))) N
  omega
theorem card2 {x y : List (Int × Int)} {N : Nat} (hx : Norm (-1) x) (ex : ∀ i, elemR x i → i < (N : Int)) : sumR (minusR x y) + sumR (meetR x y) = sumR x := by
  rw [sum_cnt hx (ends_le hx ex)]
  rw [sum_cnt (minus_norm x y) (ends_le (minus_norm _ _) fun i hi => ex i ((minus_elem x y i).1 hi).1)]
  rw [sum_cnt (minus_norm x (minusR x y)) (ends_le (minus_norm _ _) fun i hi => ex i ((meet_elem x y i).1 hi).1) (l := meetR x y)]
  rw [cnt_congr (f := fun i => decide (elemR (minusR x y) (i : Int))) (g := fun i => decide (elemR x (i : Int)) && !decide (elemR y (i : Int))) N fun i _ => by
    rw [Bool.eq_iff_iff]; simp only [Bool.and_eq_true, Bool.not_eq_true', decide_eq_true_eq, decide_eq_false_iff_not]; exact minus_elem x y _]
  rw [cnt_congr (f := fun i => decide (elemR (meetR x y) (i : Int))) (g := fun i => decide (elemR x (i : Int)) && decide (elemR y (i : Int))) N fun i _ => by
    rw [Bool.eq_iff_iff]; simp only [Bool.and_eq_true, decide_eq_true_eq]; exact meet_elem x y _]
  have := cnt_split (fun i => decide (elemR x (i : Int))) (fun i => decide (elemR y (i : Int))) N
  omega
theorem card3 {x : List (Int × Int)} {N : Nat} (hN : (N : Int) ≤ 9223372036854775807) (hx : Norm (-1) x) (ex : ∀ i, elemR x i → i < (N : Int)) : sumR x + sumR (complR x (N : Int)) = (N : Int) := by
  rw [sum_cnt hx (ends_le hx ex)]
  rw [sum_cnt (compl_norm x N) (ends_le (compl_norm _ _) fun i hi => ((compl_elem x hN i).1 hi).2.1)]
  rw [cnt_congr (f := fun i => decide (elemR (complR x (N : Int)) (i : Int))) (g := fun i => true && !decide (elemR x (i : Int))) N fun i hi => by
    rw [Bool.eq_iff_iff]; simp only [Bool.true_and, Bool.not_eq_true', decide_eq_true_eq, decide_eq_false_iff_not]; rw [compl_elem x hN]
    exact ⟨fun h => h.2.2, fun h => ⟨by omega, by omega, h⟩⟩]
  have := cnt_split (fun _ => true) (fun i => decide (elemR x (i : Int))) N
  simp only [Bool.true_and] at this ⊢
  rw [cnt_all (f := fun _ => true) N fun _ _ => rfl] at this
  omega
theorem sum_below {x : List (Int × Int)} {N : Nat} (hx : Norm (-1) x) (ex : ∀ i, elemR x i → i < (N : Int)) : 0 ≤ sumR x ∧ sumR x ≤ (N : Int) := by
  rw [sum_cnt hx (ends_le hx ex)]
  have := cnt_le (fun i => decide (elemR x (i : Int))) N
  omega
/-- the lengths -/
def sumI : List Int → Int
  | [] => 0
  | x :: l => x + sumI l
theorem sumI_append : ∀ a b, sumI (a ++ b) = sumI a + sumI b
  | [], b => by simp [sumI]
  | x :: a, b => by rw [List.cons_append, sumI, sumI, sumI_append a b]; omega
theorem sumI_perm {a b : List Int} (h : a.Perm b) : sumI a = sumI b := by
  induction h with
  | nil => rfl
  | cons x _ ih => rw [sumI, sumI, ih]
  | swap x y l => simp only [sumI]; omega
  | trans _ _ h1 h2 => rw [h1, h2]
theorem sumI_map : ∀ l : List (Int × Int), sumI (l.map (·.2)) = sumR l
  | [] => rfl
  | r :: l => by rw [List.map_cons, sumI, sumR, sumI_map l]
theorem lens_perm (l : List (Int × Int)) : (lensR l).Perm (l.map (·.2)) := List.mergeSort_perm _ _
theorem lens_sum (l : List (Int × Int)) : sumI (lensR l) = sumR l := by rw [sumI_perm (lens_perm l), sumI_map]
theorem lens_len (l : List (Int × Int)) : (lensR l).length = l.length := by rw [(lens_perm l).length_eq, List.length_map]
theorem lens_sorted (l : List (Int × Int)) : (lensR l).Pairwise (· ≤ ·) := by
  have h := List.pairwise_mergeSort (le := fun x y : Int => decide (x ≤ y)) (fun a b c h1 h2 => by simp only [decide_eq_true_eq] at *; omega) (fun a b => by simp only [Bool.or_eq_true, decide_eq_true_eq]; omega) (l.map (·.2))
  exact h.imp fun h => by simpa using h
theorem lens_rise (l : List (Int × Int)) (k : Nat) (h : k + 1 < (lensR l).length) : (lensR l)[k] ≤ (lensR l)[k + 1] := (List.pairwise_iff_getElem.1 (lens_sorted l)) k (k + 1) (by omega) h (by omega)
theorem maxR_fact : ∀ l : List (Int × Int), (∀ r ∈ l, r.2 ≤ maxR l) ∧ (maxR l = 0 ∨ ∃ r ∈ l, r.2 = maxR l) ∧ 0 ≤ maxR l := by
  intro l
  suffices h : ∀ (l : List (Int × Int)) (m : Int), (∀ r ∈ l, r.2 ≤ l.foldl (fun m r => max m r.2) m) ∧ (l.foldl (fun m r => max m r.2) m = m ∨ ∃ r ∈ l, r.2 = l.foldl (fun m r => max m r.2) m) ∧ m ≤ l.foldl (fun m r => max m r.2) m from h l 0
  intro l
  induction l with
  | nil => intro m; exact ⟨fun r hr => by simp at hr, .inl rfl, Int.le_refl _⟩
  | cons q l ih =>
    intro m
    rw [List.foldl_cons]
    obtain ⟨h1, h2, h3⟩ := ih (max m q.2)
    refine ⟨fun r hr => ?_, ?_, by omega⟩
    · rcases List.mem_cons.1 hr with rfl | hr
      · omega
      · exact h1 r hr
    · rcases h2 with h2 | ⟨r, hr, h2⟩
      · rw [h2]
        rcases Int.le_total m q.2 with h | h
        · right; exact ⟨q, by simp, by omega⟩
        · left; omega
      · right; exact ⟨r, by simp [hr], h2⟩
theorem lens_last (l : List (Int × Int)) (hok : ∀ r ∈ l, okR r) (h : 0 < (lensR l).length) : (lensR l)[(lensR l).length - 1] = maxR l := by
  obtain ⟨h1, h2, h3⟩ := maxR_fact l
  have hm : (lensR l)[(lensR l).length - 1] ∈ l.map (·.2) := (lens_perm l).mem_iff.1 (List.getElem_mem _)
  obtain ⟨r, hr, e⟩ := List.mem_map.1 hm
  have h4 := h1 r hr
  have h5 := (hok r hr).2.1
  rcases h2 with h2 | ⟨q, hq, h2⟩
  · omega
  · have hq' : q.2 ∈ lensR l := (lens_perm l).mem_iff.2 (List.mem_map.2 ⟨q, hq, rfl⟩)
    obtain ⟨j, hj, ej⟩ := List.getElem_of_mem hq'
    have : (lensR l)[j] ≤ (lensR l)[(lensR l).length - 1] := by
      by_cases e : j = (lensR l).length - 1
      · subst e; exact Int.le_refl _
      · exact (List.pairwise_iff_getElem.1 (lens_sorted l)) j _ hj (by omega) (by omega)
    omega
theorem lens_none (l : List (Int × Int)) (h : (lensR l).length = 0) : maxR l = 0 := by
  rw [lens_len] at h
  have : l = [] := List.length_eq_zero_iff.1 h
  subst this; rfl
end Go.Proofs.Ytmdkekbhondkbaa
