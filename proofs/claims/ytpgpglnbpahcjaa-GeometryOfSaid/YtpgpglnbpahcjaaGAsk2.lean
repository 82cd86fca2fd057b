/- The contracts of Where, InodeAt, Fixed, of the document. -/
import Derived.Test.YtpgpglnbpahcjaaGAsk
namespace Go.Proofs.Ytpgpglnbpahcjaa
set_option linter.unusedVariables false
open Go.RowKit


/-! ### Where -/
theorem rwhere_off (b l i la ma ml ta tl da p : Int) (h : ¬ isG b l i la ma ml ta tl da) (w : World) :
    Calls Try.prog 16 #[geo b l i la ma ml ta tl da, .int .i64 p] w fun e w' => e = .returned (.int .i64 (-1)) ∧ Below w.heap.size w w' := by
  have V := may_any b l i la ma ml ta tl da (w.alloc (.cells (cellsG b l i la ma ml ta tl da) 23))
  rw [decide_eq_false h] at V
  have V := Lib.hid V
  clear h
  go_enter Try.func16, Try.ntmps16
  go_wp2_with fail
  refine V.out.mono ?_; rintro e w1 ⟨rfl, hb⟩
  have hbb := below_boxed hb
  go_wp2
  go_ret
  exact ⟨rfl, hbb⟩
theorem rwhere_out (b l i m t : Nat) (h : okN b l i m t) (p : Int) (hp : p < 0 ∨ (b : Int) ≤ p) (w : World) :
    Calls Try.prog 16 #[lay b l i m t, .int .i64 p] w fun e w' => e = .returned (.int .i64 (-1)) ∧ Below w.heap.size w w' := by
  have V := may_any b l i 1 (1 + l) m (1 + l + m) t (1 + l + m + t) (w.alloc (.cells (cellsG b l i 1 (1 + l) m (1 + l + m) t (1 + l + m + t)) 23))
  rw [decide_eq_true (isG_self h)] at V
  have V := Lib.hid V
  have hb1 : 256 ≤ b := h.1
  have hb2 : b ≤ 4096 := h.2.1
  
  clear h
  go_enter Try.func16, Try.ntmps16
  go_wp2_with fail
  refine V.out.mono ?_; rintro e w1 ⟨rfl, hb⟩
  have hbb := below_boxed hb
  have hg := (GeoAt.new b l i 1 (1 + l) m (1 + l + m) t (1 + l + m + t) w).kept1 hb
  obtain ⟨c0, c1, c2, c3, c4, c5, c6, c7, c8⟩ := hg.cells
  have hlt := hg.lt
  clear hg hb
  rcases hp with hp | hp
  · go_wp2
    go_ret
    exact ⟨rfl, hbb⟩
  · have hp0 : 0 ≤ p := by omega
    go_wp2
    go_ret
    exact ⟨rfl, hbb⟩
theorem rwhere_in (b l i m t : Nat) (h : okN b l i m t) (p : Int) (hp1 : 0 ≤ p) (hp2 : p < (b : Int)) (w : World) :
    Calls Try.prog 16 #[lay b l i m t, .int .i64 p] w fun e w' => e = .returned (.int .i64 (whereL l m t p)) ∧ Below w.heap.size w w' := by
  have V := may_any b l i 1 (1 + l) m (1 + l + m) t (1 + l + m + t) (w.alloc (.cells (cellsG b l i 1 (1 + l) m (1 + l + m) t (1 + l + m + t)) 23))
  rw [decide_eq_true (isG_self h)] at V
  have V := Lib.hid V
  have hb1 : 256 ≤ b := h.1
  have hb2 : b ≤ 4096 := h.2.1
  
  clear h
  go_enter Try.func16, Try.ntmps16
  go_wp2_with fail
  refine V.out.mono ?_; rintro e w1 ⟨rfl, hb⟩
  have hbb := below_boxed hb
  have hg := (GeoAt.new b l i 1 (1 + l) m (1 + l + m) t (1 + l + m + t) w).kept1 hb
  obtain ⟨c0, c1, c2, c3, c4, c5, c6, c7, c8⟩ := hg.cells
  have hlt := hg.lt
  clear hg hb
  go_wp2
  all_goals go_ret
  all_goals refine ⟨ret_int (Eq.symm ?_), hbb⟩
  all_goals unfold whereL
  all_goals repeat (first | rw [if_pos (by omega)] | rw [if_neg (by omega)])

/-! ### InodeAt -/
theorem rinode_off (b l i la ma ml ta tl da n : Int) (h : ¬ isG b l i la ma ml ta tl da) (w : World) :
    Calls Try.prog 12 #[geo b l i la ma ml ta tl da, .int .i64 n] w fun e w' => e = .returned (.tuple #[.int .i64 0, .int .i64 0, .int .i64 2]) ∧ Below w.heap.size w w' := by
  have V := may_any b l i la ma ml ta tl da (w.alloc (.cells (cellsG b l i la ma ml ta tl da) 23))
  rw [decide_eq_false h] at V
  have V := Lib.hid V
  clear h
  go_enter Try.func12, Try.ntmps12
  go_wp2_with fail
  refine V.out.mono ?_; rintro e w1 ⟨rfl, hb⟩
  have hbb := below_boxed hb
  go_wp2
  go_ret3
  exact ⟨rfl, hbb⟩
theorem rinode_out (b l i m t : Nat) (h : okN b l i m t) (p : Int) (hp : p < 0 ∨ (i : Int) ≤ p) (w : World) :
    Calls Try.prog 12 #[lay b l i m t, .int .i64 p] w fun e w' => e = .returned (.tuple #[.int .i64 0, .int .i64 0, .int .i64 4]) ∧ Below w.heap.size w w' := by
  have V := may_any b l i 1 (1 + l) m (1 + l + m) t (1 + l + m + t) (w.alloc (.cells (cellsG b l i 1 (1 + l) m (1 + l + m) t (1 + l + m + t)) 23))
  rw [decide_eq_true (isG_self h)] at V
  have V := Lib.hid V
  have hb1 : 8 ≤ i := h.2.2.2.2.1
  have hb2 : i ≤ 512 := h.2.2.2.2.2.1
  
  clear h
  go_enter Try.func12, Try.ntmps12
  go_wp2_with fail
  refine V.out.mono ?_; rintro e w1 ⟨rfl, hb⟩
  have hbb := below_boxed hb
  have hg := (GeoAt.new b l i 1 (1 + l) m (1 + l + m) t (1 + l + m + t) w).kept1 hb
  obtain ⟨c0, c1, c2, c3, c4, c5, c6, c7, c8⟩ := hg.cells
  have hlt := hg.lt
  clear hg hb
  rcases hp with hp | hp
  · go_wp2
    go_ret3
    exact ⟨rfl, hbb⟩
  · have hp0 : 0 ≤ p := by omega
    go_wp2
    go_ret3
    exact ⟨rfl, hbb⟩
theorem rinode_in (b l i m t : Nat) (h : okN b l i m t) (p : Nat) (hp : p < i) (w : World) :
    Calls Try.prog 12 #[lay b l i m t, .int .i64 (p : Int)] w fun e w' => e = .returned (.tuple #[.int .i64 (1 + (l : Int) + m + (p / 2 : Nat)), .int .i64 ((p % 2 * 64 : Nat) : Int), .int .i64 0]) ∧ Below w.heap.size w w' := by
  have V := may_any b l i 1 (1 + l) m (1 + l + m) t (1 + l + m + t) (w.alloc (.cells (cellsG b l i 1 (1 + l) m (1 + l + m) t (1 + l + m + t)) 23))
  rw [decide_eq_true (isG_self h)] at V
  have V := Lib.hid V
  have hb1 : 8 ≤ i := h.2.2.2.2.1
  have hb2 : i ≤ 512 := h.2.2.2.2.2.1
  have hb3 : l ≤ 512 := h.2.2.2.1
  have hb4 : m ≤ 4 := by unfold okN at h; omega
  obtain ⟨q, hq⟩ : ∃ q, p / 2 = q := ⟨_, rfl⟩
  obtain ⟨r, hr⟩ : ∃ r, p % 2 = r := ⟨_, rfl⟩
  have q1 : (p : Int) / 2 = (q : Int) := by omega
  have r1 : (p : Int) % 2 = (r : Int) := by omega
  have q2 : q ≤ 256 := by omega
  have r2 : r ≤ 1 := by omega
  rw [hq, hr]
  
  clear h hq hr
  go_enter Try.func12, Try.ntmps12
  go_wp2_with fail
  refine V.out.mono ?_; rintro e w1 ⟨rfl, hb⟩
  have hbb := below_boxed hb
  have hg := (GeoAt.new b l i 1 (1 + l) m (1 + l + m) t (1 + l + m + t) w).kept1 hb
  obtain ⟨c0, c1, c2, c3, c4, c5, c6, c7, c8⟩ := hg.cells
  have hlt := hg.lt
  clear hg hb
  go_wp2
  go_ret3
  exact ⟨rfl, hbb⟩

/-! ### Fixed -/
theorem rfixed_off (b l i la ma ml ta tl da : Int) (h : ¬ isG b l i la ma ml ta tl da) (w : World) :
    Calls Try.prog 14 #[geo b l i la ma ml ta tl da] w fun e w' => e = .returned (.slice none 0 0) ∧ Below w.heap.size w w' := by
  have V := may_any b l i la ma ml ta tl da (w.alloc (.cells (cellsG b l i la ma ml ta tl da) 23))
  rw [decide_eq_false h] at V
  have V := Lib.hid V
  clear h
  go_enter Try.func14, Try.ntmps14
  go_wp2_with fail
  refine V.out.mono ?_; rintro e w1 ⟨rfl, hb⟩
  have hbb := below_boxed hb
  go_wp2
  go_ret
  exact ⟨rfl, hbb⟩
theorem rfixed_on (b l i m t : Nat) (h : okN b l i m t) (w : World) :
    Calls Try.prog 14 #[lay b l i m t] w fun e w' => ∃ g, e = .returned (.slice (some ⟨g, 0, none⟩) 1 1) ∧ w.heap.size ≤ g ∧ w'.heap[g]? = some (.cells #[.int .i64 0, .int .i64 (1 + (l : Int) + m + t)] 36 (0, 0)) ∧ Below w.heap.size w w' := by
  have V := may_any b l i 1 (1 + l) m (1 + l + m) t (1 + l + m + t) (w.alloc (.cells (cellsG b l i 1 (1 + l) m (1 + l + m) t (1 + l + m + t)) 23))
  rw [decide_eq_true (isG_self h)] at V
  have V := Lib.hid V
  clear h
  go_enter Try.func14, Try.ntmps14
  go_wp2_with fail
  refine V.out.mono ?_; rintro e w1 ⟨rfl, hb⟩
  have hbb := below_boxed hb
  have hg := (GeoAt.new b l i 1 (1 + l) m (1 + l + m) t (1 + l + m + t) w).kept1 hb
  obtain ⟨c0, c1, c2, c3, c4, c5, c6, c7, c8⟩ := hg.cells
  clear hg hb
  go_wp2
  go_ret
  exact ⟨_, rfl, hbb.size, heap_alloc_new _ _, balloc hbb _⟩
end Go.Proofs.Ytpgpglnbpahcjaa
