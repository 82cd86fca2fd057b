/- What is masked, as bytes: no program is named here. -/
import Derived.Test.YtonfloehobcfbaaKMask
namespace Go.Proofs.Ytonfloehobcfbaa
set_option linter.unusedVariables false
open Go.RowKit

theorem ext_list (s : ByteArray) (a b : Nat) : (s.extract a b).toList = (s.data.toList.drop a).take (b - a) := by
  rw [Lib.extract_eq, ByteArray.toList_eq]
theorem text_same {a b : ByteArray} (h : a.data.toList = b.data.toList) : a = b := by cases a; cases b; simp at h; rw [h]
/-- what is masked is unmasked to what it was -/
theorem mask_list (s : ByteArray) : (maskS s).data.toList = [0, 0, 0, 0] ++ s.data.toList.drop 4 := by
  unfold maskS
  rw [Lib.extract_eq, ByteArray.mk_append_mk]
  have e : (s.data.toList.drop 4).take (s.size - 4) = s.data.toList.drop 4 := by
    apply List.take_of_length_le
    have : s.data.toList.length = s.size := rfl
    rw [List.length_drop, this]; exact Nat.le_refl _
  rw [e]
theorem unmask_list (s : ByteArray) : (unmaskS s).data.toList = [71, 76, 74, 119] ++ s.data.toList.drop 4 := by
  unfold unmaskS
  rw [Lib.extract_eq, ByteArray.mk_append_mk]
  have e : (s.data.toList.drop 4).take (s.size - 4) = s.data.toList.drop 4 := by
    apply List.take_of_length_le
    have : s.data.toList.length = s.size := rfl
    rw [List.length_drop, this]; exact Nat.le_refl _
  rw [e]
theorem size_list (s : ByteArray) : s.data.toList.length = s.size := rfl
theorem begins_list {s : ByteArray} (h : Begins s) : s.data.toList = [71, 76, 74, 119] ++ s.data.toList.drop 4 := by
  have h1 : (s.extract 0 4).toList = [71, 76, 74, 119] := by have := h.2; unfold begB at this; exact beq_iff_eq.1 this
  rw [ext_list] at h1
  have h2 : (s.data.toList.drop 0).take (4 - 0) = s.data.toList.take 4 := rfl
  rw [h2] at h1
  rw [← h1, List.take_append_drop]
theorem begins_of {s : ByteArray} {l : List UInt8} (h : s.data.toList = [71, 76, 74, 119] ++ l) : Begins s := by
  refine ⟨?_, ?_⟩
  · rw [← size_list, h]; simp
  · unfold begB; rw [ext_list, h]; rfl
theorem maskS_size {s : ByteArray} (h : 4 ≤ s.size) : (maskS s).size = s.size := by
  rw [← size_list, mask_list, List.length_append, List.length_drop, size_list]; simp; omega
theorem mask_back {s : ByteArray} (h : Begins s) : unmaskV (maskS s) = s := by
  unfold unmaskV
  rw [if_pos (by rw [maskS_size h.1]; exact h.1)]
  apply text_same
  rw [unmask_list, mask_list]
  exact (begins_list h).symm
theorem mask_off (s : ByteArray) : ¬ Begins (maskS s) := by
  intro h
  have := begins_list h
  rw [mask_list] at this
  simp at this
theorem blk_begins (r : Rec) : Begins (blk r) := begins_of (l := leB 1 r.kind.toNat ++ (leB 8 r.seq ++ (fieldsB r ++ List.replicate (128 - (bodyB r).length) 0))) (blk_list r)
theorem isBlk_begins {s : ByteArray} (h : IsBlk s) : Begins s := by rw [← h.2.2]; exact blk_begins _
end Go.Proofs.Ytonfloehobcfbaa
