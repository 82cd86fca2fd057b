/- New. -/
import Derived.Test.YtehjobjjlldckaaGreatDMade
namespace Go.Proofs.YtehjobjjlldckaaGreat
set_option linter.unusedVariables false
open Go.RowKit

theorem len_of (s : ByteArray) : s.toList.length = s.size := by rw [ByteArray.toList_eq]; simp
theorem ne_empty {s : ByteArray} (h : s.size ≠ 0) : (s.toList == []) = false := by
  rw [beq_eq_false_iff_ne]; intro e
  have := len_of s
  rw [e] at this; exact h this.symm
theorem text_eq {s t : ByteArray} (h : s.toList = t.toList) : s = t := by
  rw [ByteArray.toList_eq, ByteArray.toList_eq] at h
  cases s; cases t
  simp at h; rw [h]
def zeros : ByteArray := ⟨Array.replicate 128 0⟩
def zeroB : Nat → ByteArray := fun _ => zeros
theorem zeros_size : zeros.size = 128 := by simp [zeros, ByteArray.size]
theorem zeros_at (j : Nat) : byteAt zeros j = 0 := by
  unfold byteAt zeros
  by_cases h : j < 128
  · simp [h]
  · simp [show 128 ≤ j by omega]
theorem byF_zero (k : Nat) : byF zeroB k = .int .u8 0 := by unfold byF zeroB; rw [zeros_at]
set_option maxRecDepth 100000 in
set_option maxHeartbeats 1000000 in
theorem new_yes (n : Nat) (h1 : 1 ≤ n) (h2 : n ≤ 4096) (w : World) :
    Calls Tryz.prog 5 #[.int .i64 (n : Int)] w fun e w' => ∃ d, e = .returned (.tuple #[.pointer (some ⟨d, 0, none⟩), .int .i64 0]) ∧ DevAt d w.heap.size w'.heap.size (freshSt n zeroB) w' ∧ Below w.heap.size w w' := by
  have hm : (Instr.makeSlice 61 (.int .i64 ((n : Int) * 128)) (.int .i64 ((n : Int) * 128))).run Tryz.prog w = .ok (.slice (some ⟨w.heap.size, 0, none⟩) (n * 128) (n * 128)) (w.alloc (.cells (madeCells #[.int .u8 0] (n * 128)) 5)) := by
    have := u8s_made (n * 128) (by omega) w
    simpa using this
  have hc : CellsAt w.heap.size (n * 128) (byF zeroB) (w.alloc (.cells (madeCells #[.int .u8 0] (n * 128)) 5)) :=
    CellsAt.alloc_new _ _ _ _ _ fun j hj => by rw [byF_zero]; exact madeCells_at _ _ _ hj
  have hb : Below w.heap.size w (w.alloc (.cells (madeCells #[.int .u8 0] (n * 128)) 5)) := balloc1 _ _
  generalize (w.alloc (.cells (madeCells #[.int .u8 0] (n * 128)) 5)) = w1 at *
  have M := Lib.hid (made_any w.heap.size n (n * 128) zeroB h1 h2 (fun _ _ => zeros_size) ⟨Nat.le_refl _, by omega⟩ w1 hc)
  clear hc
  go_enter Tryz.func5, Tryz.ntmps5
  go_wp2_with fail
  refine M.out.mono ?_; rintro e w2 ⟨d, rfl, hd, b⟩
  have hb2 := bnext hb b
  have HD := Lib.hid hd
  clear b M hd
  go_wp2
  go_ret2
  exact ⟨d, rfl, HD.out, hb2⟩
theorem new_no (n : Int) (h : n < 1 ∨ 4096 < n) (w : World) :
    Calls Tryz.prog 5 #[.int .i64 n] w fun e w' => e = .returned (.tuple #[.pointer none, .int .i64 2]) ∧ w = w' := by
  rcases h with h | h
  · go_enter Tryz.func5, Tryz.ntmps5
    go_wp2
    go_ret2
    exact ⟨rfl, rfl⟩
  · have h1 : 1 ≤ n := by omega
    go_enter Tryz.func5, Tryz.ntmps5
    go_wp2
    go_ret2
    exact ⟨rfl, rfl⟩
end Go.Proofs.YtehjobjjlldckaaGreat
