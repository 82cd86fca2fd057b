/- New, Open. -/
import Derived.Test.YtgdnlkoncajaoaaDMade
namespace Go.Proofs.Ytgdnlkoncajaoaa
set_option linter.unusedVariables false
open Go.RowKit

theorem len_of (s : ByteArray) : s.toList.length = s.size := by rw [ByteArray.toList_eq]; simp
theorem ne_empty {s : ByteArray} (h : s.size ≠ 0) : (s.toList == []) = false := by
  rw [beq_eq_false_iff_ne]; intro e
  have := len_of s
  rw [e] at this; exact h this.symm
theorem text_eq {s t : ByteArray} (h : s.toList = t.toList) : s = t := by
  rw [ByteArray.toList_eq, ByteArray.toList_eq] at h
  cases s; cases t
  simp at h; rw [h]
def zeros : ByteArray := ⟨Array.replicate 128 0⟩
def zeroB : Nat → ByteArray := fun _ => zeros
theorem zeros_size : zeros.size = 128 := by simp [zeros, ByteArray.size]
theorem zeros_at (j : Nat) : byteAt zeros j = 0 := by
  unfold byteAt zeros
  by_cases h : j < 128
  · simp [h]
  · simp [Array.getElem?_eq_none, show 128 ≤ j by omega]
theorem byF_zero (k : Nat) : byF zeroB k = .int .u8 0 := by unfold byF zeroB; rw [zeros_at]
set_option maxHeartbeats 1000000 in
theorem new_yes (n : Nat) (h1 : 1 ≤ n) (h2 : n ≤ 4096) (w : World) :
    Calls Try.prog 11 #[.int .i64 (n : Int)] w fun e w' => ∃ d, e = .returned (.tuple #[.pointer (some ⟨d, 0, none⟩), .int .i64 0]) ∧ DevAt d w.heap.size w'.heap.size (freshSt n zeroB) w' ∧ Below w.heap.size w w' := by
  have hm : (Instr.makeSlice 54 (.int .i64 ((n : Int) * 128)) (.int .i64 ((n : Int) * 128))).run Try.prog w = .ok (.slice (some ⟨w.heap.size, 0, none⟩) (n * 128) (n * 128)) (w.alloc (.cells (madeCells #[.int .u8 0] (n * 128)) 5)) := by
    have := u8s_made (n * 128) (by omega) w
    simpa using this
  have hc : CellsAt w.heap.size (n * 128) (byF zeroB) (w.alloc (.cells (madeCells #[.int .u8 0] (n * 128)) 5)) :=
    CellsAt.alloc_new _ _ _ _ _ fun j hj => by rw [byF_zero]; exact madeCells_at _ _ _ hj
  have hb : Below w.heap.size w (w.alloc (.cells (madeCells #[.int .u8 0] (n * 128)) 5)) := balloc1 _ _
  generalize (w.alloc (.cells (madeCells #[.int .u8 0] (n * 128)) 5)) = w1 at *
  have M := Lib.hid (made_any w.heap.size n (n * 128) zeroB h1 h2 (fun _ _ => zeros_size) ⟨Nat.le_refl _, by omega⟩ w1 hc)
  clear hc
  go_enter Try.func11, Try.ntmps11
  go_wp2_with fail
  refine M.out.mono ?_; rintro e w2 ⟨d, rfl, hd, b⟩
  have hb2 := bnext hb b
  have HD := Lib.hid hd
  clear b M hd
  go_wp2
  go_ret2
  exact ⟨d, rfl, HD.out, hb2⟩
theorem new_no (n : Int) (h : n < 1 ∨ 4096 < n) (w : World) :
    Calls Try.prog 11 #[.int .i64 n] w fun e w' => e = .returned (.tuple #[.pointer none, .int .i64 2]) ∧ w = w' := by
  rcases h with h | h
  · go_enter Try.func11, Try.ntmps11
    go_wp2
    go_ret2
    exact ⟨rfl, rfl⟩
  · have h1 : 1 ≤ n := by omega
    go_enter Try.func11, Try.ntmps11
    go_wp2
    go_ret2
    exact ⟨rfl, rfl⟩
theorem bytes_cells (w : World) (s : ByteArray) (n cap : Nat) (hs : s.size = n * 128) (fr : Nat) (hf : s.size ≤ fr) : CellsAt w.heap.size (n * 128) (byF (blkOf 128 s)) (w.alloc (.cells (bytesRow s cap) 5 (fr, fr + 1))) :=
  ⟨by rw [size_alloc]; omega, fun j hj => by
    have hj2 : j < s.data.size := by have : s.data.size = s.size := rfl; omega
    refine ⟨?_, ?_⟩
    · rw [World.cell?_alloc_mark, bytesRow_at s cap j hj2]
      unfold byF
      have hz : blkOf 128 s (j / 128) = s.extract (j / 128 * 128) ((j / 128 + 1) * 128) := rfl
      have e : cat (blkOf 128 s) n = s := cat_blocks hs
      have h3 := cat_byte (f := blkOf 128 s) (n := n) (fun i hi => blkOf_size hs hi) j hj
      rw [e] at h3
      unfold byteAt
      rw [← h3, Array.getElem?_eq_getElem hj2]; rfl
    · rw [World.frozen?_alloc_mark]
      simp; omega⟩
theorem bytesRow_size (s : ByteArray) (cap : Nat) (h : s.size ≤ cap) : (bytesRow s cap).size = cap := by
  have : s.data.size = s.size := rfl
  simp [bytesRow]; omega
set_option maxHeartbeats 1000000 in
theorem open_yes (n : Nat) (s : ByteArray) (h1 : 1 ≤ n) (h2 : n ≤ 4096) (hs : s.size = n * 128) (w : World) :
    Calls Try.prog 35 #[.string s] w fun e w' => ∃ d, e = .returned (.tuple #[.pointer (some ⟨d, 0, none⟩), .int .i64 0]) ∧ DevAt d w.heap.size w'.heap.size (freshSt n (blkOf 128 s)) w' ∧ Below w.heap.size w w' := by
  have hm := run_bytes_of_string (P := Try.prog) w 9 54 5 s Try.underlying9 Try.underlying54 Try.underlying5
  have g1 := grownCap_ge w s.size 0 5
  have g2 := grownCap_le_maxLen w s.size 0 5 (by unfold maxLen; omega)
  unfold maxLen at g2
  have hc := bytes_cells w.drew s n (grownCap w s.size 0 5) hs (bytesRow s (grownCap w s.size 0 5)).size (by rw [bytesRow_size _ _ g1]; exact g1)
  have hb : Below w.heap.size w (w.drew.alloc (.cells (bytesRow s (grownCap w s.size 0 5)) 5 ((bytesRow s (grownCap w s.size 0 5)).size, (bytesRow s (grownCap w s.size 0 5)).size + 1))) := balloc (Below.refl _ _).drew _
  generalize (w.drew.alloc (.cells (bytesRow s (grownCap w s.size 0 5)) 5 ((bytesRow s (grownCap w s.size 0 5)).size, (bytesRow s (grownCap w s.size 0 5)).size + 1))) = w1 at *
  generalize grownCap w s.size 0 5 = cap at *
  have hc : CellsAt w.heap.size (n * 128) (byF (blkOf 128 s)) w1 := hc
  have M := Lib.hid (made_any w.heap.size n cap (blkOf 128 s) h1 h2 (fun i hi => blkOf_size hs hi) ⟨by omega, by omega⟩ w1 hc)
  have t1 : (s.toList == []) = false := ne_empty (by omega)
  have t2 : (s.size : Int) % 128 = 0 := by omega
  have t3 : ((s.size : Int) / 128) = (n : Int) := by omega
  have HS := Lib.hid hs
  have hs2 : ((s.size : Int)) = (n : Int) * 128 := by omega
  rw [hs] at hm
  clear hc hs g1 g2
  go_enter Try.func35, Try.ntmps35
  go_wp2_with fail
  refine M.out.mono ?_; rintro e w2 ⟨d, rfl, hd, b⟩
  have hb2 := bnext hb b
  have HD := Lib.hid hd
  clear b M hd
  go_wp2
  go_ret2
  exact ⟨d, rfl, HD.out, hb2⟩
theorem open_no (s : ByteArray) (h : s.size = 0 ∨ s.size % 128 ≠ 0 ∨ 4096 < s.size / 128) (hs : s.size ≤ maxLen) (w : World) :
    Calls Try.prog 35 #[.string s] w fun e w' => e = .returned (.tuple #[.pointer none, .int .i64 2]) ∧ w = w' := by
  by_cases h0 : s.size = 0
  · obtain rfl : s = ⟨#[]⟩ := by
      have : s.data.size = 0 := h0
      cases s; simp at this; subst this; rfl
    go_enter Try.func35, Try.ntmps35
    go_wp2
    go_ret2
    exact ⟨rfl, rfl⟩
  · have t1 : (s.toList == []) = false := ne_empty h0
    unfold maxLen at hs
    by_cases h3 : s.size % 128 = 0
    · have t2 : (s.size : Int) % 128 = 0 := by omega
      have t3 : 4096 < ((s.size : Int) / 128) := by omega
      go_enter Try.func35, Try.ntmps35
      go_wp2
      go_ret2
      exact ⟨rfl, rfl⟩
    · have t2 : ((s.size : Int) % 128 != 0) = true := by rw [bne_iff_ne]; omega
      go_enter Try.func35, Try.ntmps35
      go_wp2
      go_ret2
      exact ⟨rfl, rfl⟩
end Go.Proofs.Ytgdnlkoncajaoaa
