/- The contracts of Where, InodeAt, Fixed. -/
import Derived.Test.YtpgpglnbpahcjaaGValid
namespace Go.Proofs.Ytpgpglnbpahcjaa
set_option linter.unusedVariables false
open Go.RowKit

theorem isG_self {b l i m t : Nat} (h : okN b l i m t) : isG b l i 1 (1 + l) m (1 + l + m) t (1 + l + m + t) := (isG_lay h _ _ _ _ _ _).2 ⟨rfl, rfl, rfl, rfl, rfl, rfl⟩
/-- P5.2: the region of a block -/
def whereL (l m t : Nat) (p : Int) : Int := if p < 1 then 0 else if p < 1 + l then 1 else if p < 1 + l + m then 2 else if p < 1 + l + m + t then 3 else 4

/-! ### Where -/
theorem where_off (b l i la ma ml ta tl da p : Int) (h : ¬ isG b l i la ma ml ta tl da) (w : World) :
    Calls Try.prog 15 #[geo b l i la ma ml ta tl da, .int .i64 p] w fun e w' => e = .returned (.int .i64 (-1)) ∧ Below w.heap.size w w' := by
  have V := valid_any b l i la ma ml ta tl da (w.alloc (.cells (cellsG b l i la ma ml ta tl da) 23))
  rw [decide_eq_false h] at V
  have V := Lib.hid V
  clear h
  go_enter Try.func15, Try.ntmps15
  go_wp2_with fail
  refine V.out.mono ?_; rintro e w1 ⟨rfl, hb⟩
  have hbb := below_boxed hb
  go_wp2
  go_ret
  exact ⟨rfl, hbb⟩
theorem where_out (b l i m t : Nat) (h : okN b l i m t) (p : Int) (hp : p < 0 ∨ (b : Int) ≤ p) (w : World) :
    Calls Try.prog 15 #[lay b l i m t, .int .i64 p] w fun e w' => e = .returned (.int .i64 (-1)) ∧ Below w.heap.size w w' := by
  have V := valid_any b l i 1 (1 + l) m (1 + l + m) t (1 + l + m + t) (w.alloc (.cells (cellsG b l i 1 (1 + l) m (1 + l + m) t (1 + l + m + t)) 23))
  rw [decide_eq_true (isG_self h)] at V
  have V := Lib.hid V
  have hb1 : 256 ≤ b := h.1
  have hb2 : b ≤ 4096 := h.2.1
  have W1 := Lib.hid (within_no p 0 ((b : Int) - 1) (by omega))
  clear h
  go_enter Try.func15, Try.ntmps15
  go_wp2_with fail
  refine V.out.mono ?_; rintro e w1 ⟨rfl, hb⟩
  have hbb := below_boxed hb
  have hg := (GeoAt.new b l i 1 (1 + l) m (1 + l + m) t (1 + l + m + t) w).kept1 hb
  obtain ⟨c0, c1, c2, c3, c4, c5, c6, c7, c8⟩ := hg.cells
  have hlt := hg.lt
  clear hg hb
  go_wp2_with fail
  refine (W1.out _).mono ?_; rintro e w' ⟨rfl, rfl⟩
  go_wp2
  go_ret
  exact ⟨rfl, hbb⟩
theorem where_in (b l i m t : Nat) (h : okN b l i m t) (p : Int) (hp1 : 0 ≤ p) (hp2 : p < (b : Int)) (w : World) :
    Calls Try.prog 15 #[lay b l i m t, .int .i64 p] w fun e w' => e = .returned (.int .i64 (whereL l m t p)) ∧ Below w.heap.size w w' := by
  have V := valid_any b l i 1 (1 + l) m (1 + l + m) t (1 + l + m + t) (w.alloc (.cells (cellsG b l i 1 (1 + l) m (1 + l + m) t (1 + l + m + t)) 23))
  rw [decide_eq_true (isG_self h)] at V
  have V := Lib.hid V
  have hb1 : 256 ≤ b := h.1
  have hb2 : b ≤ 4096 := h.2.1
  have W1 := Lib.hid (within_yes p 0 ((b : Int) - 1) (by omega) (by omega))
  clear h
  go_enter Try.func15, Try.ntmps15
  go_wp2_with fail
  refine V.out.mono ?_; rintro e w1 ⟨rfl, hb⟩
  have hbb := below_boxed hb
  have hg := (GeoAt.new b l i 1 (1 + l) m (1 + l + m) t (1 + l + m + t) w).kept1 hb
  obtain ⟨c0, c1, c2, c3, c4, c5, c6, c7, c8⟩ := hg.cells
  have hlt := hg.lt
  clear hg hb
  go_wp2_with fail
  refine (W1.out _).mono ?_; rintro e w' ⟨rfl, rfl⟩
  go_wp2
  all_goals go_ret
  all_goals refine ⟨ret_int (Eq.symm ?_), hbb⟩
  all_goals unfold whereL
  all_goals repeat (first | rw [if_pos (by omega)] | rw [if_neg (by omega)])

/-! ### InodeAt -/
theorem inode_off (b l i la ma ml ta tl da n : Int) (h : ¬ isG b l i la ma ml ta tl da) (w : World) :
    Calls Try.prog 11 #[geo b l i la ma ml ta tl da, .int .i64 n] w fun e w' => e = .returned (.tuple #[.int .i64 0, .int .i64 0, .int .i64 2]) ∧ Below w.heap.size w w' := by
  have V := valid_any b l i la ma ml ta tl da (w.alloc (.cells (cellsG b l i la ma ml ta tl da) 23))
  rw [decide_eq_false h] at V
  have V := Lib.hid V
  clear h
  go_enter Try.func11, Try.ntmps11
  go_wp2_with fail
  refine V.out.mono ?_; rintro e w1 ⟨rfl, hb⟩
  have hbb := below_boxed hb
  go_wp2
  go_ret3
  exact ⟨rfl, hbb⟩
theorem inode_out (b l i m t : Nat) (h : okN b l i m t) (p : Int) (hp : p < 0 ∨ (i : Int) ≤ p) (w : World) :
    Calls Try.prog 11 #[lay b l i m t, .int .i64 p] w fun e w' => e = .returned (.tuple #[.int .i64 0, .int .i64 0, .int .i64 4]) ∧ Below w.heap.size w w' := by
  have V := valid_any b l i 1 (1 + l) m (1 + l + m) t (1 + l + m + t) (w.alloc (.cells (cellsG b l i 1 (1 + l) m (1 + l + m) t (1 + l + m + t)) 23))
  rw [decide_eq_true (isG_self h)] at V
  have V := Lib.hid V
  have hb1 : 8 ≤ i := h.2.2.2.2.1
  have hb2 : i ≤ 512 := h.2.2.2.2.2.1
  have W1 := Lib.hid (within_no p 0 ((i : Int) - 1) (by omega))
  clear h
  go_enter Try.func11, Try.ntmps11
  go_wp2_with fail
  refine V.out.mono ?_; rintro e w1 ⟨rfl, hb⟩
  have hbb := below_boxed hb
  have hg := (GeoAt.new b l i 1 (1 + l) m (1 + l + m) t (1 + l + m + t) w).kept1 hb
  obtain ⟨c0, c1, c2, c3, c4, c5, c6, c7, c8⟩ := hg.cells
  have hlt := hg.lt
  clear hg hb
  go_wp2_with fail
  refine (W1.out _).mono ?_; rintro e w' ⟨rfl, rfl⟩
  go_wp2
  go_ret3
  exact ⟨rfl, hbb⟩
theorem inode_in (b l i m t : Nat) (h : okN b l i m t) (p : Nat) (hp : p < i) (w : World) :
    Calls Try.prog 11 #[lay b l i m t, .int .i64 (p : Int)] w fun e w' => e = .returned (.tuple #[.int .i64 (1 + (l : Int) + m + (p / 2 : Nat)), .int .i64 ((p % 2 * 64 : Nat) : Int), .int .i64 0]) ∧ Below w.heap.size w w' := by
  have V := valid_any b l i 1 (1 + l) m (1 + l + m) t (1 + l + m + t) (w.alloc (.cells (cellsG b l i 1 (1 + l) m (1 + l + m) t (1 + l + m + t)) 23))
  rw [decide_eq_true (isG_self h)] at V
  have V := Lib.hid V
  have hb1 : 8 ≤ i := h.2.2.2.2.1
  have hb2 : i ≤ 512 := h.2.2.2.2.2.1
  have hb3 : l ≤ 512 := h.2.2.2.1
  have hb4 : m ≤ 4 := by unfold okN at h; omega
  obtain ⟨q, hq⟩ : ∃ q, p / 2 = q := ⟨_, rfl⟩
  obtain ⟨r, hr⟩ : ∃ r, p % 2 = r := ⟨_, rfl⟩
  have q1 : (p : Int) / 2 = (q : Int) := by omega
  have r1 : (p : Int) % 2 = (r : Int) := by omega
  have q2 : q ≤ 256 := by omega
  have r2 : r ≤ 1 := by omega
  rw [hq, hr]
  have W1 := Lib.hid (within_yes p 0 ((i : Int) - 1) (by omega) (by omega))
  clear h hq hr
  go_enter Try.func11, Try.ntmps11
  go_wp2_with fail
  refine V.out.mono ?_; rintro e w1 ⟨rfl, hb⟩
  have hbb := below_boxed hb
  have hg := (GeoAt.new b l i 1 (1 + l) m (1 + l + m) t (1 + l + m + t) w).kept1 hb
  obtain ⟨c0, c1, c2, c3, c4, c5, c6, c7, c8⟩ := hg.cells
  have hlt := hg.lt
  clear hg hb
  go_wp2_with fail
  refine (W1.out _).mono ?_; rintro e w' ⟨rfl, rfl⟩
  go_wp2
  go_ret3
  exact ⟨rfl, hbb⟩

/-! ### Fixed -/
theorem fixed_off (b l i la ma ml ta tl da : Int) (h : ¬ isG b l i la ma ml ta tl da) (w : World) :
    Calls Try.prog 13 #[geo b l i la ma ml ta tl da] w fun e w' => e = .returned (.slice none 0 0) ∧ Below w.heap.size w w' := by
  have V := valid_any b l i la ma ml ta tl da (w.alloc (.cells (cellsG b l i la ma ml ta tl da) 23))
  rw [decide_eq_false h] at V
  have V := Lib.hid V
  clear h
  go_enter Try.func13, Try.ntmps13
  go_wp2_with fail
  refine V.out.mono ?_; rintro e w1 ⟨rfl, hb⟩
  have hbb := below_boxed hb
  go_wp2
  go_ret
  exact ⟨rfl, hbb⟩
theorem fixed_on (b l i m t : Nat) (h : okN b l i m t) (w : World) :
    Calls Try.prog 13 #[lay b l i m t] w fun e w' => ∃ g, e = .returned (.slice (some ⟨g, 0, none⟩) 1 1) ∧ w.heap.size ≤ g ∧ w'.heap[g]? = some (.cells #[.int .i64 0, .int .i64 (1 + (l : Int) + m + t)] 36 (0, 0)) ∧ Below w.heap.size w w' := by
  have V := valid_any b l i 1 (1 + l) m (1 + l + m) t (1 + l + m + t) (w.alloc (.cells (cellsG b l i 1 (1 + l) m (1 + l + m) t (1 + l + m + t)) 23))
  rw [decide_eq_true (isG_self h)] at V
  have V := Lib.hid V
  clear h
  go_enter Try.func13, Try.ntmps13
  go_wp2_with fail
  refine V.out.mono ?_; rintro e w1 ⟨rfl, hb⟩
  have hbb := below_boxed hb
  have hg := (GeoAt.new b l i 1 (1 + l) m (1 + l + m) t (1 + l + m + t) w).kept1 hb
  obtain ⟨c0, c1, c2, c3, c4, c5, c6, c7, c8⟩ := hg.cells
  clear hg hb
  go_wp2
  go_ret
  exact ⟨_, rfl, hbb.size, heap_alloc_new _ _, balloc hbb _⟩
end Go.Proofs.Ytpgpglnbpahcjaa
