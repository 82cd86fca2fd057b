/- Images: blocks one behind the other; which blocks are pending, counted. Without the program. -/
import Derived.Laws.Bits64b
namespace Go.Proofs.YtehjobjjlldckaaGreat
set_option linter.unusedVariables false

/-! ### texts one behind the other -/
/-- the first n of the texts f, one behind the other -/
def cat (f : Nat → ByteArray) : Nat → ByteArray
  | 0 => ⟨#[]⟩
  | n + 1 => cat f n ++ f n
theorem cat_congr {f g : Nat → ByteArray} : ∀ {n : Nat}, (∀ i < n, f i = g i) → cat f n = cat g n
  | 0, _ => rfl
  | n + 1, h => by rw [cat, cat, cat_congr fun i hi => h i (by omega), h n (by omega)]
theorem cat_size {f : Nat → ByteArray} {z : Nat} : ∀ {n : Nat}, (∀ i < n, (f i).size = z) → (cat f n).size = n * z
  | 0, _ => by show (0 : Nat) = _; omega
  | n + 1, h => by rw [cat, ByteArray.size_append, cat_size fun i hi => h i (by omega), h n (by omega), Nat.add_mul]; omega
theorem extract_full (s : ByteArray) : s.extract 0 s.size = s := by
  have h : (s ++ ByteArray.empty).extract 0 s.size = s := ByteArray.extract_append_eq_left rfl
  rwa [ByteArray.append_empty] at h
theorem cat_at {f : Nat → ByteArray} {z : Nat} : ∀ {n : Nat}, (∀ i < n, (f i).size = z) → ∀ {i}, i < n → (cat f n).extract (i * z) ((i + 1) * z) = f i
  | 0, _, i, hi => by omega
  | n + 1, h, i, hi => by
    have hs := cat_size (n := n) fun i hi => h i (by omega)
    have hz : (i + 1) * z = i * z + z := by rw [Nat.add_mul]; omega
    by_cases e : i = n
    · subst e
      rw [cat]
      exact ByteArray.extract_append_eq_right hs.symm (by rw [hs, h i (by omega)]; exact hz)
    · have hle : (i + 1) * z ≤ n * z := Nat.mul_le_mul_right z (by omega)
      have h0 : (f n).extract (i * z - n * z) ((i + 1) * z - n * z) = ByteArray.empty := by
        apply ByteArray.ext_getElem
        · rw [ByteArray.size_extract]; show _ = 0; omega
        · intro j hj; rw [ByteArray.size_extract] at hj; omega
      rw [cat, ByteArray.extract_append, cat_at (fun i hi => h i (by omega)) (by omega), hs, h0, ByteArray.append_empty]
theorem cat_inj {f g : Nat → ByteArray} {z n : Nat} (hf : ∀ i < n, (f i).size = z) (hg : ∀ i < n, (g i).size = z) (h : cat f n = cat g n) : ∀ i < n, f i = g i := fun i hi => by
  rw [← cat_at hf hi, ← cat_at hg hi, h]
/-- block i of a text -/
def blkOf (z : Nat) (s : ByteArray) (i : Nat) : ByteArray := s.extract (i * z) ((i + 1) * z)
theorem blkOf_size {z n : Nat} {s : ByteArray} (h : s.size = n * z) {i : Nat} (hi : i < n) : (blkOf z s i).size = z := by
  have hz : (i + 1) * z = i * z + z := by rw [Nat.add_mul]; omega
  have hle : (i + 1) * z ≤ n * z := Nat.mul_le_mul_right z (by omega)
  unfold blkOf
  rw [ByteArray.size_extract]; omega
theorem cat_upto (z : Nat) (s : ByteArray) : ∀ n, n * z ≤ s.size → cat (blkOf z s) n = s.extract 0 (n * z)
  | 0, _ => by
    apply ByteArray.ext_getElem
    · rw [ByteArray.size_extract]; show 0 = _; omega
    · intro j hj; have : j < 0 := hj; omega
  | n + 1, h => by
    have hz : (n + 1) * z = n * z + z := by rw [Nat.add_mul]; omega
    rw [cat, cat_upto z s n (by omega)]
    unfold blkOf
    apply ByteArray.ext_getElem
    · rw [ByteArray.size_append, ByteArray.size_extract, ByteArray.size_extract, ByteArray.size_extract]; omega
    · intro j hj hj'
      rw [ByteArray.getElem_extract]
      rw [ByteArray.size_extract] at hj'
      have hl : (s.extract 0 (n * z)).size = n * z := by rw [ByteArray.size_extract]; omega
      by_cases hlt : j < n * z
      · have e : ((s.extract 0 (n * z)) ++ (s.extract (n * z) ((n + 1) * z)))[j] = (s.extract 0 (n * z))[j]'(by omega) := ByteArray.getElem_append_left _
        rw [e, ByteArray.getElem_extract]
      · have e : ((s.extract 0 (n * z)) ++ (s.extract (n * z) ((n + 1) * z)))[j] = (s.extract (n * z) ((n + 1) * z))[j - (s.extract 0 (n * z)).size]'(by rw [hl, ByteArray.size_extract]; omega) := ByteArray.getElem_append_right (by omega)
        rw [e, ByteArray.getElem_extract]
        congr 1
        rw [hl]; omega
theorem cat_blocks {z n : Nat} {s : ByteArray} (h : s.size = n * z) : cat (blkOf z s) n = s := by
  rw [cat_upto z s n (by omega), ← h, extract_full]

/-! ### what is pending, counted -/
/-- how many of the first i are -/
def cntT (p : Nat → Bool) : Nat → Nat
  | 0 => 0
  | i + 1 => cntT p i + (if p i then 1 else 0)
theorem cntT_le (p : Nat → Bool) : ∀ n, cntT p n ≤ n
  | 0 => Nat.le_refl _
  | n + 1 => by have := cntT_le p n; unfold cntT; split <;> omega
theorem cntT_mono (p : Nat → Bool) {i : Nat} : ∀ {n : Nat}, i ≤ n → cntT p i ≤ cntT p n
  | 0, h => by obtain rfl : i = 0 := by omega
               exact Nat.le_refl _
  | n + 1, h => by
    by_cases e : i = n + 1
    · subst e; exact Nat.le_refl _
    · have := cntT_mono p (i := i) (n := n) (by omega)
      exact Nat.le_trans this (Nat.le_add_right _ _)
theorem cntT_lt (p : Nat → Bool) {i n : Nat} (h : i < n) (hp : p i = true) : cntT p i < cntT p n := by
  have h1 := cntT_mono p (show i + 1 ≤ n by omega)
  have h2 : cntT p (i + 1) = cntT p i + 1 := by show cntT p i + (if p i then 1 else 0) = _; rw [if_pos hp]
  omega
/-- which of the first n are, rising -/
def pendL (p : Nat → Bool) : Nat → List Nat
  | 0 => []
  | n + 1 => if p n then pendL p n ++ [n] else pendL p n
theorem pendL_length (p : Nat → Bool) : ∀ n, (pendL p n).length = cntT p n
  | 0 => rfl
  | n + 1 => by
    unfold pendL cntT
    split
    · rw [List.length_append, pendL_length p n]; rfl
    · rw [pendL_length p n]; rfl
theorem pendL_lt (p : Nat → Bool) : ∀ {n x : Nat}, x ∈ pendL p n → x < n ∧ p x = true
  | 0, x, h => by simp [pendL] at h
  | n + 1, x, h => by
    unfold pendL at h
    split at h
    · rename_i hp
      rcases List.mem_append.1 h with h | h
      · have := pendL_lt p h; exact ⟨by omega, this.2⟩
      · obtain rfl : x = n := by simpa using h
        exact ⟨by omega, hp⟩
    · have := pendL_lt p h; exact ⟨by omega, this.2⟩
theorem pendL_at (p : Nat → Bool) : ∀ {n i : Nat}, i < n → p i = true → (pendL p n)[cntT p i]? = some i
  | 0, i, h, _ => by omega
  | n + 1, i, h, hp => by
    unfold pendL
    by_cases e : i = n
    · subst e
      rw [if_pos hp, List.getElem?_append_right (by rw [pendL_length]; exact Nat.le_refl _), pendL_length, Nat.sub_self]; rfl
    · have := pendL_at p (n := n) (by omega) hp
      split
      · rw [List.getElem?_append_left (by rw [pendL_length]; exact cntT_lt p (by omega) hp)]; exact this
      · exact this
/-- what stands at the count of i is beyond i, if i is not pending -/
theorem pendL_not (p : Nat → Bool) {n i : Nat} (h : i < n) (hp : p i = false) : (pendL p n)[cntT p i]? ≠ some i := fun h2 => by
  have hm := List.mem_of_getElem? h2
  have := (pendL_lt p hm).2
  rw [hp] at this; cases this
theorem pendL_none {p : Nat → Bool} : ∀ {n : Nat}, (∀ i < n, p i = false) → pendL p n = []
  | 0, _ => rfl
  | n + 1, h => by
    unfold pendL
    rw [if_neg (by rw [h n (by omega)]; exact Bool.false_ne_true)]
    exact pendL_none fun i hi => h i (by omega)
theorem pendL_congr {p q : Nat → Bool} : ∀ {n : Nat}, (∀ i < n, p i = q i) → pendL p n = pendL q n
  | 0, _ => rfl
  | n + 1, h => by unfold pendL; rw [pendL_congr fun i hi => h i (by omega), h n (by omega)]
theorem cntT_congr {p q : Nat → Bool} : ∀ {n : Nat}, (∀ i < n, p i = q i) → cntT p n = cntT q n
  | 0, _ => rfl
  | n + 1, h => by unfold cntT; rw [cntT_congr fun i hi => h i (by omega), h n (by omega)]

/-! ### what a crash leaves -/
/-- P6.4: block i behind a crash -/
def crashAt (now was : Nat → ByteArray) (p : Nat → Bool) (keep : Nat → Bool) (i : Nat) : ByteArray := if p i && keep (cntT p i) then now i else was i
theorem crash_none (now was : Nat → ByteArray) (p : Nat → Bool) (i : Nat) : crashAt now was p (fun _ => false) i = was i := by unfold crashAt; simp
theorem crash_all {now was : Nat → ByteArray} {p keep : Nat → Bool} {i : Nat} (h : p i = false → now i = was i) (hk : keep (cntT p i) = true) : crashAt now was p keep i = now i := by
  unfold crashAt
  cases hp : p i with
  | true => simp [hk]
  | false => simp [h hp]
theorem crash_size {now was : Nat → ByteArray} {p keep : Nat → Bool} {i z : Nat} (h1 : (now i).size = z) (h2 : (was i).size = z) : (crashAt now was p keep i).size = z := by
  unfold crashAt; split <;> assumption
end Go.Proofs.YtehjobjjlldckaaGreat
