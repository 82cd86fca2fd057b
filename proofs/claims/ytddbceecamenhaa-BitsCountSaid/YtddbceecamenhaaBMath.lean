/- Bits of a text, their runs, what fits: over Nat, without the program. -/
import Derived.WalkKit
namespace Go.Proofs.Ytddbceecamenhaa
set_option linter.unusedVariables false

/-- byte k of a text, 0 where there is none -/
def byteAt (s : ByteArray) (k : Nat) : Nat := (s.data.toList[k]?.getD 0).toNat
/-- bit i of a text, false where there is none -/
def bitAt (s : ByteArray) (i : Nat) : Bool := (byteAt s (i / 8)).testBit (i % 8)

theorem byteAt_eq (s : ByteArray) (k : Nat) (h : k < s.size) : byteAt s k = s[k].toNat := by
  unfold byteAt
  rw [List.getElem?_eq_getElem (show k < s.data.toList.length from h)]; rfl
theorem byteAt_lt (s : ByteArray) (k : Nat) : byteAt s k < 256 := by unfold byteAt; exact UInt8.toNat_lt _
theorem bitAt_out (s : ByteArray) (i : Nat) (h : 8 * s.size ≤ i) : bitAt s i = false := by
  unfold bitAt byteAt
  rw [List.getElem?_eq_none (by show s.size ≤ _; omega)]
  simp

/-- how many of the first n are true -/
def cnt (f : Nat → Bool) : Nat → Nat
  | 0 => 0
  | n + 1 => cnt f n + (f n).toNat
theorem cnt_le (f : Nat → Bool) : ∀ n, cnt f n ≤ n
  | 0 => Nat.le_refl _
  | n + 1 => by have := cnt_le f n; have := Bool.toNat_le (f n); unfold cnt; omega
theorem cnt_congr {f g : Nat → Bool} : ∀ {n}, (∀ i < n, f i = g i) → cnt f n = cnt g n
  | 0, _ => rfl
  | n + 1, h => by unfold cnt; rw [cnt_congr (fun i hi => h i (by omega)), h n (by omega)]
theorem cnt_add (f : Nat → Bool) (m : Nat) : ∀ n, cnt f (m + n) = cnt f m + cnt (fun i => f (m + i)) n
  | 0 => rfl
  | n + 1 => by rw [show m + (n + 1) = (m + n) + 1 from rfl, cnt, cnt, cnt_add f m n]; omega
/-- one that is set among the first n -/
theorem cnt_set {f g : Nat → Bool} {k : Nat} (hf : f k = false) (hg : g k = true) (h : ∀ i, i ≠ k → g i = f i) : ∀ n, cnt g n = cnt f n + (if k < n then 1 else 0)
  | 0 => by simp [cnt]
  | n + 1 => by
    unfold cnt
    rw [cnt_set hf hg h n]
    by_cases e : n = k
    · subst e; rw [hf, hg]; simp
    · rw [h n e]; split <;> split <;> omega

/-- the lowest from i on at which f is b, or i + k if none of k is -/
def nxt (f : Nat → Bool) (b : Bool) (i : Nat) : Nat → Nat
  | 0 => i
  | k + 1 => if f i = b then i else nxt f b (i + 1) k
theorem nxt_is (f : Nat → Bool) (b : Bool) : ∀ (k i j : Nat), i ≤ j → j ≤ i + k → (∀ m, i ≤ m → m < j → f m = !b) → (j = i + k ∨ f j = b) → nxt f b i k = j
  | 0, i, j, h1, h2, _, _ => by unfold nxt; omega
  | k + 1, i, j, h1, h2, h3, h4 => by
    unfold nxt
    by_cases e : i = j
    · subst e
      rcases h4 with h4 | h4
      · omega
      · rw [if_pos h4]
    · rw [if_neg (by rw [h3 i (Nat.le_refl _) (by omega)]; simp)]
      exact nxt_is f b k (i + 1) j (by omega) (by omega) (fun m hm hj => h3 m (by omega) hj) (h4.elim (fun h => .inl (by omega)) .inr)
theorem nxt_fact (f : Nat → Bool) (b : Bool) : ∀ (k i : Nat), i ≤ nxt f b i k ∧ nxt f b i k ≤ i + k ∧ (∀ m, i ≤ m → m < nxt f b i k → f m = !b) ∧ (nxt f b i k = i + k ∨ f (nxt f b i k) = b)
  | 0, i => by unfold nxt; exact ⟨Nat.le_refl _, Nat.le_refl _, fun m h1 h2 => by omega, .inl rfl⟩
  | k + 1, i => by
    unfold nxt
    by_cases e : f i = b
    · rw [if_pos e]; exact ⟨Nat.le_refl _, by omega, fun m h1 h2 => by omega, .inr e⟩
    · rw [if_neg e]
      obtain ⟨h1, h2, h3, h4⟩ := nxt_fact f b k (i + 1)
      refine ⟨by omega, by omega, fun m hm1 hm2 => ?_, h4.elim (fun h => .inl (by omega)) .inr⟩
      by_cases em : m = i
      · subst em; revert e; cases f m <;> cases b <;> simp
      · exact h3 m (by omega) hm2

/-- how many directly ahead of n are false -/
def pend (f : Nat → Bool) : Nat → Nat
  | 0 => 0
  | n + 1 => if f n then 0 else pend f n + 1
/-- the runs that have ended ahead of n -/
def closed (f : Nat → Bool) : Nat → List (Nat × Nat)
  | 0 => []
  | n + 1 => if f n then closed f n ++ (if 0 < pend f n then [(n - pend f n, pend f n)] else []) else closed f n
/-- the greatest runs of false among the first n, as (start, length) -/
def runs (f : Nat → Bool) (n : Nat) : List (Nat × Nat) := closed f n ++ (if 0 < pend f n then [(n - pend f n, pend f n)] else [])

theorem pend_one {f : Nat → Bool} {n : Nat} (h : f n = true) : pend f (n + 1) = 0 := by unfold pend; rw [if_pos h]
theorem pend_more {f : Nat → Bool} {n : Nat} (h : f n = false) : pend f (n + 1) = pend f n + 1 := by
  show (if f n then 0 else pend f n + 1) = _; rw [if_neg (by simp [h])]
theorem closed_more {f : Nat → Bool} {n : Nat} (h : f n = false) : closed f (n + 1) = closed f n := by
  show (if f n then closed f n ++ (if 0 < pend f n then [(n - pend f n, pend f n)] else []) else closed f n) = _; rw [if_neg (by simp [h])]
theorem closed_one {f : Nat → Bool} {n : Nat} (h : f n = true) : closed f (n + 1) = runs f n := by
  show (if f n then closed f n ++ (if 0 < pend f n then [(n - pend f n, pend f n)] else []) else closed f n) = _; rw [if_pos h]; rfl
theorem runs_pend {f : Nat → Bool} {n : Nat} (h : 0 < pend f n) : runs f n = closed f n ++ [(n - pend f n, pend f n)] := by unfold runs; rw [if_pos h]
theorem runs_no {f : Nat → Bool} {n : Nat} (h : pend f n = 0) : runs f n = closed f n := by unfold runs; rw [h]; simp
theorem pend_le (f : Nat → Bool) : ∀ n, pend f n ≤ n
  | 0 => Nat.le_refl _
  | n + 1 => by have := pend_le f n; unfold pend; split <;> omega
theorem runs_one {f : Nat → Bool} {n : Nat} (h : f n = true) : runs f (n + 1) = runs f n := by
  rw [runs_no (pend_one h), closed_one h]
theorem runs_new {f : Nat → Bool} {n : Nat} (h : f n = false) (hp : pend f n = 0) : runs f (n + 1) = runs f n ++ [(n, 1)] := by
  rw [runs_pend (by rw [pend_more h]; omega), closed_more h, pend_more h, hp, runs_no hp]; simp
theorem runs_more {f : Nat → Bool} {n : Nat} (h : f n = false) (hp : 0 < pend f n) : runs f n = closed f n ++ [(n - pend f n, pend f n)] ∧ runs f (n + 1) = closed f n ++ [(n - pend f n, pend f n + 1)] := by
  refine ⟨runs_pend hp, ?_⟩
  rw [runs_pend (by rw [pend_more h]; omega), closed_more h, pend_more h, show n + 1 - (pend f n + 1) = n - pend f n by omega]
theorem pend_zero {f : Nat → Bool} {n : Nat} (h : n = 0 ∨ f (n - 1) = true) : pend f n = 0 := by
  cases n with
  | zero => rfl
  | succ n =>
    rcases h with h | h
    · omega
    · unfold pend; rw [if_pos (by simpa using h)]

/-- ones leave the runs -/
theorem runs_ones {f : Nat → Bool} {e : Nat} : ∀ k, (∀ m, e ≤ m → m < e + k → f m = true) → runs f (e + k) = runs f e
  | 0, _ => rfl
  | k + 1, h => by rw [show e + (k + 1) = (e + k) + 1 from rfl, runs_one (h _ (by omega) (by omega)), runs_ones k (fun m h1 h2 => h m h1 (by omega))]
/-- zeros behind a one are one run -/
theorem runs_zeros {f : Nat → Bool} {e : Nat} (hp : pend f e = 0) : ∀ k, (∀ m, e ≤ m → m < e + (k + 1) → f m = false) → runs f (e + (k + 1)) = runs f e ++ [(e, k + 1)] ∧ pend f (e + (k + 1)) = k + 1 ∧ closed f (e + (k + 1)) = runs f e
  | 0, h => by
    have h0 := h e (Nat.le_refl _) (by omega)
    refine ⟨runs_new h0 hp, ?_, ?_⟩
    · show pend f (e + 1) = 1
      rw [pend_more h0, hp]
    · show closed f (e + 1) = _
      rw [closed_more h0, runs_no hp]
  | k + 1, h => by
    obtain ⟨h1, h2, h3⟩ := runs_zeros hp k (fun m a b => h m a (by omega))
    have h0 := h (e + (k + 1)) (by omega) (by omega)
    have hm := runs_more h0 (by omega)
    rw [show e + (k + 1 + 1) = (e + (k + 1)) + 1 from rfl]
    refine ⟨?_, ?_, ?_⟩
    · rw [hm.2, h2, h3, show e + (k + 1) - (k + 1) = e by omega]
    · rw [pend_more h0, h2]
    · rw [closed_more h0, h3]

/-- what the closed ones are: false throughout, each with a one behind it, rising -/
theorem closed_facts (f : Nat → Bool) : ∀ n, (∀ r ∈ closed f n, 1 ≤ r.2 ∧ r.1 + r.2 < n ∧ f (r.1 + r.2) = true) ∧ (∀ m, n - pend f n ≤ m → m < n → f m = false) ∧ (pend f n < n → f (n - pend f n - 1) = true)
  | 0 => ⟨by simp [closed], fun m h1 h2 => by omega, fun h => by omega⟩
  | n + 1 => by
    obtain ⟨h1, h2, h3⟩ := closed_facts f n
    have hp := pend_le f n
    cases hf : f n with
    | true =>
      rw [closed_one hf, pend_one hf]
      refine ⟨fun r hr => ?_, fun m a b => by omega, fun _ => by simpa using hf⟩
      unfold runs at hr
      rcases List.mem_append.1 hr with hr | hr
      · obtain ⟨a, b, c⟩ := h1 r hr; exact ⟨a, by omega, c⟩
      · split at hr
        · simp only [List.mem_singleton] at hr
          subst hr
          refine ⟨by omega, by show n - pend f n + pend f n < n + 1; omega, ?_⟩
          show f (n - pend f n + pend f n) = true
          rw [Nat.sub_add_cancel hp]; exact hf
        · simp at hr
    | false =>
      rw [closed_more hf, pend_more hf]
      refine ⟨fun r hr => ?_, fun m a b => ?_, fun h => ?_⟩
      · obtain ⟨a, b, c⟩ := h1 r hr; exact ⟨a, by omega, c⟩
      · by_cases e : m = n
        · subst e; exact hf
        · exact h2 m (by omega) (by omega)
      · rw [show n + 1 - (pend f n + 1) - 1 = n - pend f n - 1 by omega]; exact h3 (by omega)

/-- the last of the runs ends at n just if there is something pending -/
theorem last_ends (f : Nat → Bool) (n : Nat) {r : Nat × Nat} (h : (runs f n).getLast? = some r) : r.1 + r.2 = n ↔ 0 < pend f n := by
  have hp := pend_le f n
  unfold runs at h
  by_cases hq : 0 < pend f n
  · rw [if_pos hq, List.getLast?_concat] at h
    simp only [Option.some.injEq] at h
    subst h
    simp only [hq, iff_true]; omega
  · rw [if_neg hq, List.append_nil] at h
    have := (closed_facts f n).1 r (List.mem_of_getLast? h)
    constructor
    · intro e; omega
    · intro e; omega

/-- runs lie below n, apart, rising; from e on -/
inductive Rising (n : Nat) : Int → List (Nat × Nat) → Prop
  | nil (e) : Rising n e []
  | cons {e : Int} {r : Nat × Nat} {l} : e < r.1 → 1 ≤ r.2 → r.1 + r.2 ≤ n → Rising n ((r.1 + r.2 : Nat) : Int) l → Rising n e (r :: l)

theorem Rising.snoc {n : Nat} : ∀ {e : Int} {l : List (Nat × Nat)} {r : Nat × Nat}, Rising n e l → (l = [] → e < r.1) → (∀ q ∈ l, q.1 + q.2 < r.1) → 1 ≤ r.2 → r.1 + r.2 ≤ n → Rising n e (l ++ [r])
  | _, _, _, .nil e, h1, _, h3, h4 => .cons (h1 rfl) h3 h4 (.nil _)
  | _, _, _, .cons (r := q) a b c d, _, h2, h3, h4 => .cons a b c (d.snoc (fun _ => by have := h2 q (by simp); omega) (fun x hx => h2 x (by simp [hx])) h3 h4)

theorem rising_closed (f : Nat → Bool) : ∀ n N, n ≤ N → Rising N (-1) (closed f n) ∧ (∀ q ∈ closed f n, q.1 + q.2 < n - pend f n)
  | 0, N, _ => ⟨.nil _, by simp [closed]⟩
  | n + 1, N, hN => by
    obtain ⟨h1, h2⟩ := rising_closed f n N (by omega)
    have hp := pend_le f n
    cases hf : f n with
    | true =>
      rw [closed_one hf, pend_one hf]
      by_cases hq : 0 < pend f n
      · rw [runs_pend hq]
        refine ⟨h1.snoc (fun _ => by show (-1 : Int) < ((n - pend f n : Nat) : Int); omega) h2 hq (by show n - pend f n + pend f n ≤ N; omega), fun q hq' => ?_⟩
        rcases List.mem_append.1 hq' with hr | hr
        · have := h2 q hr; omega
        · simp only [List.mem_singleton] at hr
          subst hr
          show n - pend f n + pend f n < n + 1 - 0; omega
      · rw [runs_no (by omega)]
        exact ⟨h1, fun q hq' => by have := h2 q hq'; omega⟩
    | false =>
      rw [closed_more hf, pend_more hf]
      exact ⟨h1, fun q hq' => by have := h2 q hq'; omega⟩
theorem rising_runs (f : Nat → Bool) (n : Nat) : Rising n (-1) (runs f n) := by
  obtain ⟨h1, h2⟩ := rising_closed f n n (Nat.le_refl _)
  have hp := pend_le f n
  by_cases hq : 0 < pend f n
  · rw [runs_pend hq]
    exact h1.snoc (fun _ => by show (-1 : Int) < ((n - pend f n : Nat) : Int); omega) h2 hq (by show n - pend f n + pend f n ≤ n; omega)
  · rw [runs_no (by omega)]; exact h1
theorem Rising.mem {n : Nat} : ∀ {e : Int} {l : List (Nat × Nat)}, Rising n e l → ∀ r ∈ l, e < r.1 ∧ 1 ≤ r.2 ∧ r.1 + r.2 ≤ n
  | _, _, .nil _, r, h => by simp at h
  | _, _, .cons a b c d, r, h => by
    rcases List.mem_cons.1 h with rfl | h
    · exact ⟨a, b, c⟩
    · obtain ⟨x, y, z⟩ := d.mem r h; exact ⟨by omega, y, z⟩
theorem closed_len (f : Nat → Bool) : ∀ n, (closed f n).length + (if 0 < pend f n then 1 else 0) ≤ n
  | 0 => by simp [closed, pend]
  | n + 1 => by
    have h := closed_len f n
    cases hf : f n with
    | true =>
      rw [closed_one hf, pend_one hf]
      by_cases hq : 0 < pend f n
      · rw [runs_pend hq, List.length_append]; rw [if_pos hq] at h; simp; omega
      · rw [runs_no (by omega)]; rw [if_neg hq] at h; simp; omega
    | false => rw [closed_more hf]; split <;> split at h <;> omega
theorem runs_len (f : Nat → Bool) (n : Nat) : (runs f n).length ≤ n := by
  have h := closed_len f n
  by_cases hq : 0 < pend f n
  · rw [runs_pend hq, List.length_append]; rw [if_pos hq] at h; simpa using h
  · rw [runs_no (by omega)]; rw [if_neg hq] at h; simpa using h

/-- the lengths of the runs and the ones are all -/
def sumLen : List (Nat × Nat) → Nat
  | [] => 0
  | r :: l => r.2 + sumLen l
theorem sumLen_append : ∀ a b, sumLen (a ++ b) = sumLen a + sumLen b
  | [], b => by simp [sumLen]
  | r :: a, b => by rw [List.cons_append, sumLen, sumLen, sumLen_append a b]; omega
theorem sum_closed (f : Nat → Bool) : ∀ n, sumLen (closed f n) + pend f n + cnt f n = n
  | 0 => rfl
  | n + 1 => by
    have h := sum_closed f n
    cases hf : f n with
    | true =>
      rw [closed_one hf, pend_one hf, cnt, hf]
      by_cases hq : 0 < pend f n
      · rw [runs_pend hq, sumLen_append]; simp [sumLen]; omega
      · rw [runs_no (by omega)]; simp; omega
    | false => rw [closed_more hf, pend_more hf, cnt, hf]; simp; omega
theorem sum_runs (f : Nat → Bool) (n : Nat) : sumLen (runs f n) + cnt f n = n := by
  have h := sum_closed f n
  by_cases hq : 0 < pend f n
  · rw [runs_pend hq, sumLen_append]; simp [sumLen]; omega
  · rw [runs_no (by omega)]; omega

/-- size false bits at p, all among the first n -/
def Hit (f : Nat → Bool) (n size p : Nat) : Prop := p + size ≤ n ∧ ∀ i < size, f (p + i) = false
/-- the runs hold just false bits -/
theorem runs_false (f : Nat → Bool) : ∀ n, ∀ r ∈ runs f n, ∀ i < r.2, f (r.1 + i) = false := by
  have hc : ∀ n, ∀ r ∈ closed f n, ∀ i < r.2, f (r.1 + i) = false := by
    intro n
    induction n with
    | zero => simp [closed]
    | succ n ih =>
      cases hf : f n with
      | true =>
        rw [closed_one hf]
        intro r hr
        unfold runs at hr
        rcases List.mem_append.1 hr with hr | hr
        · exact ih r hr
        · split at hr
          · simp only [List.mem_singleton] at hr
            subst hr
            intro i hi
            have := pend_le f n
            exact (closed_facts f n).2.1 _ (by show n - pend f n ≤ n - pend f n + i; omega) (by show n - pend f n + i < n; have : i < pend f n := hi; omega)
          · simp at hr
      | false => rw [closed_more hf]; exact ih
  intro n r hr
  unfold runs at hr
  rcases List.mem_append.1 hr with hr | hr
  · exact hc n r hr
  · split at hr
    · simp only [List.mem_singleton] at hr
      subst hr
      intro i hi
      have := pend_le f n
      exact (closed_facts f n).2.1 _ (by show n - pend f n ≤ n - pend f n + i; omega) (by show n - pend f n + i < n; have : i < pend f n := hi; omega)
    · simp at hr
/-- whatever is false throughout lies in one of the runs -/
theorem hit_in (f : Nat → Bool) : ∀ n p size, 1 ≤ size → Hit f n size p → ∃ r ∈ runs f n, r.1 ≤ p ∧ p + size ≤ r.1 + r.2 := by
  intro n
  induction n with
  | zero => intro p size h1 h; have := h.1; omega
  | succ n ih =>
    intro p size h1 h
    have hp := pend_le f n
    by_cases he : p + size = n + 1
    · have hf : f n = false := by have := h.2 (size - 1) (by omega); rwa [show p + (size - 1) = n by omega] at this
      have hq : n - pend f n ≤ p := by
        apply Decidable.byContradiction
        intro hlt
        have h3 := (closed_facts f n).2.2 (by omega)
        have := h.2 (n - pend f n - 1 - p) (by omega)
        rw [show p + (n - pend f n - 1 - p) = n - pend f n - 1 by omega, h3] at this
        cases this
      refine ⟨(n - pend f n, pend f n + 1), ?_, hq, by show p + size ≤ n - pend f n + (pend f n + 1); omega⟩
      by_cases hz : 0 < pend f n
      · rw [(runs_more hf hz).2]; simp
      · rw [runs_new hf (by omega), show pend f n = 0 by omega]; simp
    · obtain ⟨r, hr, h2, h3⟩ := ih p size h1 ⟨by have := h.1; omega, h.2⟩
      cases hf : f n with
      | true => rw [runs_one hf]; exact ⟨r, hr, h2, h3⟩
      | false =>
        by_cases hz : 0 < pend f n
        · obtain ⟨e1, e2⟩ := runs_more hf hz
          rw [e1] at hr
          rw [e2]
          rcases List.mem_append.1 hr with hr | hr
          · exact ⟨r, by simp [hr], h2, h3⟩
          · simp only [List.mem_singleton] at hr
            subst hr
            exact ⟨(n - pend f n, pend f n + 1), by simp, h2, by show p + size ≤ n - pend f n + (pend f n + 1); have : p + size ≤ n - pend f n + pend f n := h3; omega⟩
        · rw [runs_new hf (by omega)]; exact ⟨r, by simp [hr], h2, h3⟩

end Go.Proofs.Ytddbceecamenhaa
