/- What is read of bytes, whether or not they are an inode's: no program is named here. -/
import Derived.Test.YtfepjjjoikcljaaINum
import Derived.Test.YtfepjjjoikcljaaWGet
namespace Go.Proofs.Ytfepjjjoikcljaa
set_option linter.unusedVariables false
open Go.RowKit

def entG (N : Int → Int → Int) (i : Nat) : Ent := ⟨N (14 + 12 * (i : Int)) 4, N (18 + 12 * (i : Int)) 4, N (22 + 12 * (i : Int)) 4⟩
def entsG (N : Int → Int → Int) (n : Nat) : List Ent := (List.range n).map (entG N)
theorem entsG_length (N : Int → Int → Int) (n : Nat) : (entsG N n).length = n := by unfold entsG; simp
theorem entsG_succ (N : Int → Int → Int) (n : Nat) : entsG N (n + 1) = entsG N n ++ [entG N n] := by unfold entsG; rw [List.range_succ, List.map_append]; rfl
def readG (N : Int → Int → Int) (n : Nat) : Ino := ⟨N 0 1, (N 1 1 == 1), N 2 2, N 4 8, N 12 1, entsG N n⟩
/-- the program's number, the document's -/
def numP (s : ByteArray) (a z : Int) : Int := (intV s a z : Nat)
def numR (s : ByteArray) (a z : Int) : Int := if intOk s a z then (intV s a z : Nat) else -1
theorem intV_lt (s : ByteArray) (a z : Int) : intV s a z < 9223372036854775808 := by
  unfold intV intOk
  split
  · rename_i h; simp at h; exact h.2
  · omega
theorem numP_fit (s : ByteArray) (a z : Int) : I64 (numP s a z) := by have := intV_lt s a z; unfold numP; exact ⟨by omega, by omega⟩
theorem numR_fit (s : ByteArray) (a z : Int) : I64 (numR s a z) := by
  have := intV_lt s a z
  unfold numR; split
  · exact ⟨by omega, by omega⟩
  · exact ⟨by omega, by omega⟩
theorem fitG {N : Int → Int → Int} (h : ∀ a z, I64 (N a z)) (n : Nat) : fitE (entsG N n) := by
  intro e he
  unfold entsG at he
  obtain ⟨i, -, rfl⟩ := List.mem_map.1 he
  exact ⟨h _ _, h _ _, h _ _⟩
theorem intV_byte (s : ByteArray) (a : Int) : intV s a 1 < 256 := by
  unfold intV
  split
  · unfold getV
    split
    · have h1 := leN_lt (fieldAt s a.toNat (1 : Int).toNat)
      have h2 : (fieldAt s a.toNat (1 : Int).toNat).length ≤ 1 := by unfold fieldAt; rw [List.length_take]; simp; omega
      exact Nat.lt_of_lt_of_le h1 (Nat.pow_le_pow_right (n := 256) (by decide) h2)
    · omega
  · omega
/-- within the bytes both read the number that stands there -/
theorem int_in {s : ByteArray} {a z : Nat} (hz : z = 1 ∨ z = 2 ∨ z = 4 ∨ z = 8) (ha : a + z ≤ s.size) (hlt : leN (fieldAt s a z) < 9223372036854775808) : intOk s a z = true ∧ intV s a z = leN (fieldAt s a z) := by
  have hok : fieldOk s.size (a : Int) (z : Int) = true := by unfold fieldOk; simp; omega
  have h1 : intOk s a z = true := by unfold intOk; rw [hok, getV_yes hok, decide_eq_true hlt]; rfl
  refine ⟨h1, ?_⟩
  unfold intV
  rw [if_pos h1, getV_yes hok]
theorem field4_lt (s : ByteArray) (a : Nat) : leN (fieldAt s a 4) < 4294967296 := by
  have h1 := leN_lt (fieldAt s a 4)
  have h2 : (fieldAt s a 4).length ≤ 4 := by unfold fieldAt; rw [List.length_take]; omega
  exact Nat.lt_of_lt_of_le h1 (Nat.pow_le_pow_right (n := 256) (by decide) h2)
theorem field_le (s : ByteArray) (a z : Nat) (hz : z ≤ 4) : leN (fieldAt s a z) < 4294967296 := by
  have h1 := leN_lt (fieldAt s a z)
  have h2 : (fieldAt s a z).length ≤ 4 := by unfold fieldAt; rw [List.length_take]; omega
  exact Nat.lt_of_lt_of_le h1 (Nat.pow_le_pow_right (n := 256) (by decide) h2)
/-- both read an inode's bytes as they are -/
theorem readG_is {s : ByteArray} (h : IsIno s) {N : Int → Int → Int} (hN : ∀ a z : Nat, (z = 1 ∨ z = 2 ∨ z = 4 ∨ z = 8) → a + z ≤ s.size → leN (fieldAt s a z) < 9223372036854775808 → N a z = (leN (fieldAt s a z) : Nat)) : readG N (leN (fieldAt s 13 1)) = readI s := by
  have hs := isIno_size h
  have h4 : leN (fieldAt s 13 1) ≤ 4 := by
    have := ok_short h.1
    have e : (readI s).root.length = leN (fieldAt s 13 1) := entsOf_length _ _
    omega
  have n8 : leN (fieldAt s 4 8) < 9223372036854775808 := by
    have := (ok_nums h.1).2.2.1
    have e : (readI s).size = (leN (fieldAt s 4 8) : Nat) := rfl
    rw [e] at this; omega
  have e0 : N 0 1 = _ := hN 0 1 (by omega) (by omega) (by have := field_le s 0 1 (by omega); omega)
  have e1 : N 1 1 = _ := hN 1 1 (by omega) (by omega) (by have := field_le s 1 1 (by omega); omega)
  have e2 : N 2 2 = _ := hN 2 2 (by omega) (by omega) (by have := field_le s 2 2 (by omega); omega)
  have e3 : N 4 8 = _ := hN 4 8 (by omega) (by omega) n8
  have e4 : N 12 1 = _ := hN 12 1 (by omega) (by omega) (by have := field_le s 12 1 (by omega); omega)
  refine Ino.ext' e0 ?_ e2 e3 e4 ?_
  · show (N 1 1 == 1) = decide (ubyte s 1 1 = 1)
    rw [e1, Bool.eq_iff_iff, beq_iff_eq, decide_eq_true_iff]; exact Iff.rfl
  · show entsG N _ = entsOf s _
    unfold entsG entsOf
    refine List.map_congr_left fun i hi => ?_
    rw [List.mem_range] at hi
    have f : ∀ b : Nat, b ≤ 22 → N ((b : Int) + 12 * (i : Int)) 4 = ubyte s (b + 12 * i) 4 := fun b hb => by
      have := hN (b + 12 * i) 4 (by omega) (by omega) (by have := field4_lt s (b + 12 * i); omega)
      rw [show ((b + 12 * i : Nat) : Int) = (b : Int) + 12 * (i : Int) by omega] at this
      exact this
    exact Ent.ext' (f 14 (by omega)) (f 18 (by omega)) (f 22 (by omega))
def readP (s : ByteArray) : Ino := readG (numP s) (intV s 13 1)
def cntR (s : ByteArray) : Nat := min (numR s 13 1).toNat 10
def readD (s : ByteArray) : Ino := readG (numR s) (cntR s)
theorem count_in {s : ByteArray} (h : s.size = 64) : intOk s 13 1 = true ∧ intV s 13 1 = leN (fieldAt s 13 1) := int_in (a := 13) (z := 1) (by omega) (by omega) (by have := field_le s 13 1 (by omega); omega)
theorem readP_is {s : ByteArray} (h : IsIno s) : readP s = readI s := by
  unfold readP
  rw [(count_in (isIno_size h)).2]
  exact readG_is h fun a z hz ha hl => by unfold numP; rw [(int_in hz ha hl).2]
theorem readD_is {s : ByteArray} (h : IsIno s) : readD s = readI s := by
  have h4 : leN (fieldAt s 13 1) ≤ 4 := by
    have := ok_short h.1
    have e : (readI s).root.length = leN (fieldAt s 13 1) := entsOf_length _ _
    omega
  have hc := count_in (isIno_size h)
  have e : cntR s = leN (fieldAt s 13 1) := by unfold cntR numR; rw [if_pos hc.1, hc.2]; omega
  unfold readD
  rw [e]
  exact readG_is h fun a z hz ha hl => by unfold numR; rw [if_pos (int_in hz ha hl).1, (int_in hz ha hl).2]
/-- whoever reads, and finds the text again -/
theorem readP_iff (s : ByteArray) : (InoOk (readP s) ∧ ino (readP s) = s) ↔ IsIno s := by
  constructor
  · rintro ⟨h1, h2⟩; exact (isIno_any h1 h2).1
  · intro h; rw [readP_is h]; exact h
theorem readD_iff (s : ByteArray) : (InoOk (readD s) ∧ ino (readD s) = s) ↔ IsIno s := by
  constructor
  · rintro ⟨h1, h2⟩; exact (isIno_any h1 h2).1
  · intro h; rw [readD_is h]; exact h
end Go.Proofs.Ytfepjjjoikcljaa
