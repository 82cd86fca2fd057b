/- Plain facts on what is put and got: no walk. -/
import Derived.Test.YtefgjapclkdkoaaWPut
namespace Go.Proofs.Ytefgjapclkdkoaa
open Go.RowKit

theorem putL_get (l : List UInt8) (a k n j : Nat) (h : a + k ≤ l.length) : (putL l a k n)[j]? = if a ≤ j ∧ j < a + k then (leB k n)[j - a]? else l[j]? := by
  unfold putL
  have hl := leB_length k n
  have ht : (l.take a).length = a := by rw [List.length_take]; omega
  rw [List.append_assoc]
  by_cases h1 : j < a
  · rw [List.getElem?_append_left (by omega), if_neg (by omega), List.getElem?_take_of_lt h1]
  · rw [List.getElem?_append_right (by omega), ht]
    by_cases h2 : j < a + k
    · rw [List.getElem?_append_left (by omega), if_pos ⟨by omega, h2⟩]
    · rw [List.getElem?_append_right (by omega), if_neg (by omega), List.getElem?_drop, hl]
      congr 1; omega

theorem putL_comm (l : List UInt8) (a k n b y m : Nat) (h1 : a + k ≤ l.length) (h2 : b + y ≤ l.length) (hd : a + k ≤ b ∨ b + y ≤ a) :
    putL (putL l a k n) b y m = putL (putL l b y m) a k n := by
  apply List.ext_getElem?
  intro j
  have e1 := putL_get (putL l a k n) b y m j (by rw [putL_length _ _ _ _ h1]; exact h2)
  have e2 := putL_get (putL l b y m) a k n j (by rw [putL_length _ _ _ _ h2]; exact h1)
  have e3 := putL_get l a k n j h1
  have e4 := putL_get l b y m j h2
  rw [e1, e2, e3, e4]
  by_cases c1 : a ≤ j ∧ j < a + k
  · rw [if_pos c1, if_neg (by omega), if_pos c1]
  · rw [if_neg c1, if_neg c1]

theorem putS_size (s : ByteArray) (a k n : Nat) (h : a + k ≤ s.size) : (putS s a k n).size = s.size := by
  have : (putS s a k n).size = (putL s.data.toList a k n).length := by unfold putS; simp [ByteArray.size]
  rw [this, putL_length _ _ _ _ h]; rfl

theorem putS_list (s : ByteArray) (a k n : Nat) : (putS s a k n).data.toList = putL s.data.toList a k n := by unfold putS; simp

theorem putS_comm (s : ByteArray) (a k n b y m : Nat) (h1 : a + k ≤ s.size) (h2 : b + y ≤ s.size) (hd : a + k ≤ b ∨ b + y ≤ a) :
    putS (putS s a k n) b y m = putS (putS s b y m) a k n := by
  apply ByteArray.ext
  apply Array.toList_inj.1
  rw [putS_list, putS_list, putS_list, putS_list]
  exact putL_comm _ _ _ _ _ _ _ h1 h2 hd

theorem field_put (s : ByteArray) (a k n : Nat) (h : a + k ≤ s.size) : fieldAt (putS s a k n) a k = leB k n := by
  have e : s.data.toList.length = s.size := rfl
  have hl := leB_length k n
  have ht : (s.data.toList.take a).length = a := by rw [List.length_take]; omega
  unfold fieldAt
  rw [putS_list]
  unfold putL
  rw [List.append_assoc, List.drop_append_of_le_length (by omega), List.drop_of_length_le (by omega), List.nil_append, List.take_append_of_le_length (by omega), List.take_of_length_le (by omega)]

theorem put_field (s : ByteArray) (a k : Nat) (h : a + k ≤ s.size) : putS s a k (leN (fieldAt s a k)) = s := by
  apply ByteArray.ext
  apply Array.toList_inj.1
  rw [putS_list]
  unfold putL
  have hl : (fieldAt s a k).length = k := fieldAt_length s a k h
  have hb : leB k (leN (fieldAt s a k)) = fieldAt s a k := by
    have := leB_leN (fieldAt s a k); rw [hl] at this; exact this
  rw [hb]
  unfold fieldAt
  rw [List.append_assoc, ← List.drop_drop, List.take_append_drop, List.take_append_drop]

theorem field_halves (s : ByteArray) (a k : Nat) : fieldAt s a (k + k) = fieldAt s a k ++ fieldAt s (a + k) k := by
  unfold fieldAt
  rw [← List.drop_drop, List.take_add]

theorem head_put (s : ByteArray) (a k n : Nat) (h : a + k ≤ s.size) : (putS s a k n).extract 0 a = s.extract 0 a := by
  have e : s.data.toList.length = s.size := rfl
  rw [Lib.extract_eq, Lib.extract_eq, putS_list]
  unfold putL
  rw [List.append_assoc, List.drop_zero, List.drop_zero, Nat.sub_zero, List.take_append_of_le_length (by rw [List.length_take]; omega), List.take_take, Nat.min_self]

theorem tail_put (s : ByteArray) (a k n : Nat) (h : a + k ≤ s.size) : (putS s a k n).extract (a + k) (putS s a k n).size = s.extract (a + k) s.size := by
  have e : s.data.toList.length = s.size := rfl
  have hl := leB_length k n
  rw [putS_size s a k n h, Lib.extract_eq, Lib.extract_eq, putS_list]
  unfold putL
  have ht : (s.data.toList.take a ++ leB k n).length = a + k := by rw [List.length_append, List.length_take]; omega
  rw [List.drop_append_of_le_length (by omega), List.drop_of_length_le (by omega), List.nil_append]

end Go.Proofs.Ytefgjapclkdkoaa
