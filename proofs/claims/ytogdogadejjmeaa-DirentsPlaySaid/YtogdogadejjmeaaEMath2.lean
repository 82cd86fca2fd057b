/- A directory's block, read: what the program's reader makes of whatever bytes. No program is named here. -/
import Derived.Test.YtogdogadejjmeaaEMath
namespace Go.Proofs.Ytogdogadejjmeaa
set_option linter.unusedVariables false

/-- the entries up to the first that has no name, or is not there as a whole -/
def readL : List UInt8 → List Den
  | [] => []
  | c :: r => if c = 0 then [] else if 4 + c.toNat ≤ r.length then ⟨bs ((r.drop 4).take c.toNat), (leN (r.take 4) : Int)⟩ :: readL (r.drop (4 + c.toNat)) else []
termination_by l => l.length
decreasing_by simp only [List.length_drop, List.length_cons]; omega
def readB (b : ByteArray) : List Den := readL b.data.toList
theorem read_of_parse : ∀ (n : Nat) (x : List UInt8), x.length = n → ∀ l, parseL x = some l → readL x = l := by
  intro n
  induction n using Nat.strongRecOn with
  | ind n ih =>
    intro x hx l h
    cases x with
    | nil => simp [parseL] at h; subst h; simp [readL]
    | cons c r =>
      rw [parseL] at h
      rw [readL]
      by_cases h0 : c = 0
      · rw [if_pos h0] at h ⊢; simpa using h
      · rw [if_neg h0] at h ⊢
        by_cases h1 : 4 + c.toNat ≤ r.length
        · rw [if_pos h1] at h ⊢
          rw [Option.map_eq_some_iff] at h
          obtain ⟨m, hm, rfl⟩ := h
          rw [ih _ (by rw [← hx]; simp only [List.length_drop, List.length_cons]; omega) _ rfl m hm]
        · rw [if_neg h1] at h; cases h
theorem readB_pack {l : List Den} (h : ListOk l) : readB (pack l) = l := read_of_parse _ _ rfl l (parse_pack h)
/-- what Parse tells, by what is read -/
theorem isDir_read (b : ByteArray) : IsDir b ↔ packE (readB b) = 0 ∧ pack (readB b) = b := by
  constructor
  · rintro ⟨l, h, rfl⟩
    rw [readB_pack h, packE_zero]; exact ⟨h, rfl⟩
  · rintro ⟨h1, h2⟩; exact ⟨_, (packE_zero _).1 h1, h2⟩
theorem readB_dir {b : ByteArray} (h : IsDir b) : readB b = listOf b := by
  obtain ⟨l, h, rfl⟩ := h
  rw [readB_pack h, listOf_pack h]
/-- the same of a text from a place on: what the document's reader has read there -/
theorem parse_len : ∀ (n : Nat) (x : List UInt8), x.length = n → ∀ l, parseL x = some l → l.length ≤ n := by
  intro n
  induction n using Nat.strongRecOn with
  | ind n ih =>
    intro x hx l h
    cases x with
    | nil => simp [parseL] at h; subst h; simp
    | cons c r =>
      rw [parseL] at h
      by_cases h0 : c = 0
      · rw [if_pos h0] at h; injection h with h; subst h; simp
      · rw [if_neg h0] at h
        by_cases h1 : 4 + c.toNat ≤ r.length
        · rw [if_pos h1] at h
          rw [Option.map_eq_some_iff] at h
          obtain ⟨m, hm, rfl⟩ := h
          have hl : (r.drop (4 + c.toNat)).length < n := by rw [← hx]; simp only [List.length_drop, List.length_cons]; omega
          have := ih _ hl _ rfl m hm
          simp; omega
        · rw [if_neg h1] at h; cases h

/-! ### the program's reader, a step at a time -/
theorem first_byte {s : ByteArray} (h : 0 < s.size) : s.data.toList = s[0] :: s.data.toList.drop 1 := by
  have := drop_at h
  simpa using this
theorem readB_nil {s : ByteArray} (h : s.size = 0) : readB s = [] := by
  unfold readB
  have e : s.data.toList = [] := List.eq_nil_of_length_eq_zero (by rw [bsize]; exact h)
  rw [e]; simp [readL]
theorem readB_zero {s : ByteArray} (h : 0 < s.size) (h0 : s[0] = 0) : readB s = [] := by
  unfold readB; rw [first_byte h, readL, if_pos h0]
theorem readB_cut {s : ByteArray} (h : 0 < s.size) (h1 : s.size < 5 + s[0].toNat) : readB s = [] := by
  unfold readB; rw [first_byte h, readL]
  split
  · rfl
  · rw [if_neg (by rw [List.length_drop, bsize]; omega)]
theorem readB_more {s : ByteArray} (h : 0 < s.size) (h0 : s[0] ≠ 0) (h1 : 5 + s[0].toNat ≤ s.size) :
    readB s = ⟨s.extract 5 (5 + s[0].toNat), (leN (fieldAt s 1 4) : Int)⟩ :: readB (s.extract (5 + s[0].toNat) s.size) := by
  unfold readB
  rw [first_byte h, readL, if_neg h0, if_pos (by rw [List.length_drop, bsize]; omega), List.drop_drop, List.drop_drop, ext_bs, show 1 + 4 = 5 from rfl, show 1 + (4 + s[0].toNat) = 5 + s[0].toNat by omega]
  congr 2
  have := ext_bs s (5 + s[0].toNat) (s.size - (5 + s[0].toNat))
  rw [show 5 + s[0].toNat + (s.size - (5 + s[0].toNat)) = s.size by omega] at this
  rw [this, bs_list, List.take_of_length_le (by rw [List.length_drop, bsize]; omega)]
end Go.Proofs.Ytogdogadejjmeaa
