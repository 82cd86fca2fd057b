/- The walk of GeometryOdd. -/
import Derived.Test.YtpgpglnbpahcjaaGLaw4
namespace Go.Proofs.Ytpgpglnbpahcjaa
set_option linter.unusedVariables false
open Go.RowKit

set_option maxHeartbeats 4000000 in
theorem odd_off (b l i : Int) (k : Nat) (n : Int) (h : ¬ okG b l i) (w : World) :
    Calls Try.prog 7 #[threeV b l i, .int .u8 (k : Int), .int .i64 n] w fun e w' => e = .returned (.bool true) ∧ Below w.heap.size w w' := by
  have AL := Lib.hid alive_any
  have O1 := Lib.hid (of_off b l i h)
  clear h
  go_enter Try.func7, Try.ntmps7
  go_wp2_with fail
  refine (O1.out _).mono ?_; rintro e w1 ⟨rfl, hb⟩
  have hb := below_boxed hb
  have hb := balloc hb (.cells (cellsG 0 0 0 0 0 0 0 0 0) 23)
  go_wp2_with fail
  refine (AL.out _).mono ?_; rintro e w3 ⟨rfl, b⟩
  have hb := bnext hb b
  clear b AL
  go_wp2
  go_ret
  exact ⟨rfl, hb⟩
theorem fixed_len (b l i m t : Nat) (h : okN b l i m t) (w : World) :
    Calls Try.prog 13 #[lay b l i m t] w fun e w' => ∃ g, e = .returned (.slice (some ⟨g, 0, none⟩) 1 1) ∧ Below w.heap.size w w' :=
  (fixed_on b l i m t h w).mono fun e w' ⟨g, he, _, _, hb⟩ => ⟨g, he, hb⟩

set_option maxHeartbeats 8000000 in
set_option maxRecDepth 100000 in
theorem odd_0_same (b l i m t k : Nat) (hk : k % 6 = 0) (hk8 : k < 256) (h : okN b l i m t) (w : World) :
    Calls Try.prog 7 #[threeV b l i, .int .u8 (k : Int), .int .i64 1] w fun e w' => e = .returned (.bool true) ∧ Below w.heap.size w w' := by
  have AL := Lib.hid alive_any
  have O1 := Lib.hid (of_yes b l i m t h)
  have I1 := Lib.hid (inode_in b l i m t h 0 (by unfold okN at h; omega))
  have W1 := Lib.hid (where_in b l i m t h 0 (by omega) (by unfold okN at h; omega))
  have F1 := Lib.hid (fixed_len b l i m t h)
  have e1 : (k : Int) % 6 = 0 := by omega
  have gh := geo_held
  clear h hk
  go_enter Try.func7, Try.ntmps7
  go_wp2_with fail
  refine (O1.out _).mono ?_; rintro e w1 ⟨rfl, hb⟩
  have hb := below_boxed hb
  have G := (GeoAt.new b l i 1 (1 + l) m (1 + l + m) t (1 + l + m + t) w1).kept1 (balloc1 _ (.cells (cellsG b l i 1 (1 + l) m (1 + l + m) t (1 + l + m + t)) 23))
  have H : GeoAt (w1.heap.size + 1) b l i 1 (1 + l) m (1 + l + m) t (1 + l + m + t) ((w1.alloc (.cells (cellsG b l i 1 (1 + l) m (1 + l + m) t (1 + l + m + t)) 23)).alloc (.cells (cellsG b l i 1 (1 + l) m (1 + l + m) t (1 + l + m + t)) 23)) := heap_alloc_at _ _ (size_alloc _ _)
  have hb := balloc (balloc hb (.cells (cellsG b l i 1 (1 + l) m (1 + l + m) t (1 + l + m + t)) 23)) (.cells (cellsG b l i 1 (1 + l) m (1 + l + m) t (1 + l + m + t)) 23)
  clear O1
  go_wp2_with fail
  refine (I1.out _).mono ?_; rintro e w2 ⟨rfl, b1⟩
  have G := G.kept1 b1
  have H := H.kept1 b1
  have hb := bnext hb b1
  obtain ⟨c0, c1, c2, c3, c4, c5, c6, c7, c8⟩ := G.cells
  obtain ⟨d0, d1, d2, d3, d4, d5, d6, d7, d8⟩ := H.cells
  clear b1 I1
  go_wp2_with fail
  refine (W1.out _).mono ?_; rintro e w3 ⟨rfl, b1⟩
  have H := H.kept1 b1
  have hb := bnext hb b1
  clear b1 W1 c0 c1 c2 c3 c4 c5 c6 c7 c8 d0 d1 d2 d3 d4 d5 d6 d7 d8 G
  obtain ⟨d0, d1, d2, d3, d4, d5, d6, d7, d8⟩ := H.cells
  go_wp2_with fail
  refine (F1.out _).mono ?_; rintro e w4 ⟨g, rfl, b1⟩
  have hb := bnext hb b1
  clear b1 F1 d0 d1 d2 d3 d4 d5 d6 d7 d8 H
  go_wp2_with fail
  refine (AL.out _).mono ?_; rintro e w5 ⟨rfl, b1⟩
  have hb := bnext hb b1
  clear b1 AL
  go_wp2
  go_ret
  exact ⟨rfl, hb⟩

set_option maxHeartbeats 8000000 in
set_option maxRecDepth 100000 in
theorem odd_0_other (b l i m t k : Nat) (hk : k % 6 = 0) (hk8 : k < 256) (n : Int) (h : okN b l i m t) (hn : n ≠ 1) (w : World) :
    Calls Try.prog 7 #[threeV b l i, .int .u8 (k : Int), .int .i64 n] w fun e w' => e = .returned (.bool true) ∧ Below w.heap.size w w' := by
  have AL := Lib.hid alive_any
  have O1 := Lib.hid (of_yes b l i m t h)
  have hno : ¬ isG (b : Int) (l : Int) (i : Int) n (1 + (l : Int)) (m : Int) (1 + (l : Int) + m) (t : Int) (1 + (l : Int) + m + t) := fun h2 => hn (by have := (isG_lay h _ _ _ _ _ _).1 h2; omega)
  have I1 := Lib.hid (inode_off (b : Int) (l : Int) (i : Int) n (1 + (l : Int)) (m : Int) (1 + (l : Int) + m) (t : Int) (1 + (l : Int) + m + t) 0 hno)
  have W1 := Lib.hid (where_off (b : Int) (l : Int) (i : Int) n (1 + (l : Int)) (m : Int) (1 + (l : Int) + m) (t : Int) (1 + (l : Int) + m + t) 0 hno)
  have F1 := Lib.hid (fixed_off (b : Int) (l : Int) (i : Int) n (1 + (l : Int)) (m : Int) (1 + (l : Int) + m) (t : Int) (1 + (l : Int) + m + t) hno)
  have e2 : (n == 1) = false := by rw [beq_eq_false_iff_ne]; exact hn
  have e1 : (k : Int) % 6 = 0 := by omega
  have gh := geo_held
  clear h hk hn hno
  go_enter Try.func7, Try.ntmps7
  go_wp2_with fail
  refine (O1.out _).mono ?_; rintro e w1 ⟨rfl, hb⟩
  have hb := below_boxed hb
  have G := (GeoAt.new b l i 1 (1 + l) m (1 + l + m) t (1 + l + m + t) w1).kept1 (balloc1 _ (.cells (cellsG b l i n (1 + l) m (1 + l + m) t (1 + l + m + t)) 23))
  have H : GeoAt (w1.heap.size + 1) b l i n (1 + l) m (1 + l + m) t (1 + l + m + t) ((w1.alloc (.cells (cellsG b l i 1 (1 + l) m (1 + l + m) t (1 + l + m + t)) 23)).alloc (.cells (cellsG b l i n (1 + l) m (1 + l + m) t (1 + l + m + t)) 23)) := heap_alloc_at _ _ (size_alloc _ _)
  have hb := balloc (balloc hb (.cells (cellsG b l i 1 (1 + l) m (1 + l + m) t (1 + l + m + t)) 23)) (.cells (cellsG b l i n (1 + l) m (1 + l + m) t (1 + l + m + t)) 23)
  clear O1
  go_wp2_with fail
  refine (I1.out _).mono ?_; rintro e w2 ⟨rfl, b1⟩
  have G := G.kept1 b1
  have H := H.kept1 b1
  have hb := bnext hb b1
  obtain ⟨c0, c1, c2, c3, c4, c5, c6, c7, c8⟩ := G.cells
  obtain ⟨d0, d1, d2, d3, d4, d5, d6, d7, d8⟩ := H.cells
  clear b1 I1
  go_wp2_with fail
  refine (W1.out _).mono ?_; rintro e w3 ⟨rfl, b1⟩
  have H := H.kept1 b1
  have hb := bnext hb b1
  clear b1 W1 c0 c1 c2 c3 c4 c5 c6 c7 c8 d0 d1 d2 d3 d4 d5 d6 d7 d8 G
  obtain ⟨d0, d1, d2, d3, d4, d5, d6, d7, d8⟩ := H.cells
  go_wp2_with fail
  refine (F1.out _).mono ?_; rintro e w4 ⟨rfl, b1⟩
  have hb := bnext hb b1
  clear b1 F1 d0 d1 d2 d3 d4 d5 d6 d7 d8 H
  go_wp2_with fail
  refine (AL.out _).mono ?_; rintro e w5 ⟨rfl, b1⟩
  have hb := bnext hb b1
  clear b1 AL
  go_wp2
  go_ret
  exact ⟨rfl, hb⟩

set_option maxHeartbeats 8000000 in
set_option maxRecDepth 100000 in
theorem odd_1_same (b l i m t k : Nat) (hk : k % 6 = 1) (hk8 : k < 256) (h : okN b l i m t) (w : World) :
    Calls Try.prog 7 #[threeV b l i, .int .u8 (k : Int), .int .i64 (1 + (l : Int))] w fun e w' => e = .returned (.bool true) ∧ Below w.heap.size w w' := by
  have AL := Lib.hid alive_any
  have O1 := Lib.hid (of_yes b l i m t h)
  have I1 := Lib.hid (inode_in b l i m t h 0 (by unfold okN at h; omega))
  have W1 := Lib.hid (where_in b l i m t h 0 (by omega) (by unfold okN at h; omega))
  have F1 := Lib.hid (fixed_len b l i m t h)
  have e1 : (k : Int) % 6 = 1 := by omega
  have gh := geo_held
  clear h hk
  go_enter Try.func7, Try.ntmps7
  go_wp2_with fail
  refine (O1.out _).mono ?_; rintro e w1 ⟨rfl, hb⟩
  have hb := below_boxed hb
  have G := (GeoAt.new b l i 1 (1 + l) m (1 + l + m) t (1 + l + m + t) w1).kept1 (balloc1 _ (.cells (cellsG b l i 1 (1 + l) m (1 + l + m) t (1 + l + m + t)) 23))
  have H : GeoAt (w1.heap.size + 1) b l i 1 (1 + l) m (1 + l + m) t (1 + l + m + t) ((w1.alloc (.cells (cellsG b l i 1 (1 + l) m (1 + l + m) t (1 + l + m + t)) 23)).alloc (.cells (cellsG b l i 1 (1 + l) m (1 + l + m) t (1 + l + m + t)) 23)) := heap_alloc_at _ _ (size_alloc _ _)
  have hb := balloc (balloc hb (.cells (cellsG b l i 1 (1 + l) m (1 + l + m) t (1 + l + m + t)) 23)) (.cells (cellsG b l i 1 (1 + l) m (1 + l + m) t (1 + l + m + t)) 23)
  clear O1
  go_wp2_with fail
  refine (I1.out _).mono ?_; rintro e w2 ⟨rfl, b1⟩
  have G := G.kept1 b1
  have H := H.kept1 b1
  have hb := bnext hb b1
  obtain ⟨c0, c1, c2, c3, c4, c5, c6, c7, c8⟩ := G.cells
  obtain ⟨d0, d1, d2, d3, d4, d5, d6, d7, d8⟩ := H.cells
  clear b1 I1
  go_wp2_with fail
  refine (W1.out _).mono ?_; rintro e w3 ⟨rfl, b1⟩
  have H := H.kept1 b1
  have hb := bnext hb b1
  clear b1 W1 c0 c1 c2 c3 c4 c5 c6 c7 c8 d0 d1 d2 d3 d4 d5 d6 d7 d8 G
  obtain ⟨d0, d1, d2, d3, d4, d5, d6, d7, d8⟩ := H.cells
  go_wp2_with fail
  refine (F1.out _).mono ?_; rintro e w4 ⟨g, rfl, b1⟩
  have hb := bnext hb b1
  clear b1 F1 d0 d1 d2 d3 d4 d5 d6 d7 d8 H
  go_wp2_with fail
  refine (AL.out _).mono ?_; rintro e w5 ⟨rfl, b1⟩
  have hb := bnext hb b1
  clear b1 AL
  go_wp2
  go_ret
  exact ⟨rfl, hb⟩

set_option maxHeartbeats 8000000 in
set_option maxRecDepth 100000 in
theorem odd_1_other (b l i m t k : Nat) (hk : k % 6 = 1) (hk8 : k < 256) (n : Int) (h : okN b l i m t) (hn : n ≠ (1 + (l : Int))) (w : World) :
    Calls Try.prog 7 #[threeV b l i, .int .u8 (k : Int), .int .i64 n] w fun e w' => e = .returned (.bool true) ∧ Below w.heap.size w w' := by
  have AL := Lib.hid alive_any
  have O1 := Lib.hid (of_yes b l i m t h)
  have hno : ¬ isG (b : Int) (l : Int) (i : Int) 1 n (m : Int) (1 + (l : Int) + m) (t : Int) (1 + (l : Int) + m + t) := fun h2 => hn (by have := (isG_lay h _ _ _ _ _ _).1 h2; omega)
  have I1 := Lib.hid (inode_off (b : Int) (l : Int) (i : Int) 1 n (m : Int) (1 + (l : Int) + m) (t : Int) (1 + (l : Int) + m + t) 0 hno)
  have W1 := Lib.hid (where_off (b : Int) (l : Int) (i : Int) 1 n (m : Int) (1 + (l : Int) + m) (t : Int) (1 + (l : Int) + m + t) 0 hno)
  have F1 := Lib.hid (fixed_off (b : Int) (l : Int) (i : Int) 1 n (m : Int) (1 + (l : Int) + m) (t : Int) (1 + (l : Int) + m + t) hno)
  have e2 : (n == (1 + (l : Int))) = false := by rw [beq_eq_false_iff_ne]; exact hn
  have e1 : (k : Int) % 6 = 1 := by omega
  have gh := geo_held
  clear h hk hn hno
  go_enter Try.func7, Try.ntmps7
  go_wp2_with fail
  refine (O1.out _).mono ?_; rintro e w1 ⟨rfl, hb⟩
  have hb := below_boxed hb
  have G := (GeoAt.new b l i 1 (1 + l) m (1 + l + m) t (1 + l + m + t) w1).kept1 (balloc1 _ (.cells (cellsG b l i 1 n m (1 + l + m) t (1 + l + m + t)) 23))
  have H : GeoAt (w1.heap.size + 1) b l i 1 n m (1 + l + m) t (1 + l + m + t) ((w1.alloc (.cells (cellsG b l i 1 (1 + l) m (1 + l + m) t (1 + l + m + t)) 23)).alloc (.cells (cellsG b l i 1 n m (1 + l + m) t (1 + l + m + t)) 23)) := heap_alloc_at _ _ (size_alloc _ _)
  have hb := balloc (balloc hb (.cells (cellsG b l i 1 (1 + l) m (1 + l + m) t (1 + l + m + t)) 23)) (.cells (cellsG b l i 1 n m (1 + l + m) t (1 + l + m + t)) 23)
  clear O1
  go_wp2_with fail
  refine (I1.out _).mono ?_; rintro e w2 ⟨rfl, b1⟩
  have G := G.kept1 b1
  have H := H.kept1 b1
  have hb := bnext hb b1
  obtain ⟨c0, c1, c2, c3, c4, c5, c6, c7, c8⟩ := G.cells
  obtain ⟨d0, d1, d2, d3, d4, d5, d6, d7, d8⟩ := H.cells
  clear b1 I1
  go_wp2_with fail
  refine (W1.out _).mono ?_; rintro e w3 ⟨rfl, b1⟩
  have H := H.kept1 b1
  have hb := bnext hb b1
  clear b1 W1 c0 c1 c2 c3 c4 c5 c6 c7 c8 d0 d1 d2 d3 d4 d5 d6 d7 d8 G
  obtain ⟨d0, d1, d2, d3, d4, d5, d6, d7, d8⟩ := H.cells
  go_wp2_with fail
  refine (F1.out _).mono ?_; rintro e w4 ⟨rfl, b1⟩
  have hb := bnext hb b1
  clear b1 F1 d0 d1 d2 d3 d4 d5 d6 d7 d8 H
  go_wp2_with fail
  refine (AL.out _).mono ?_; rintro e w5 ⟨rfl, b1⟩
  have hb := bnext hb b1
  clear b1 AL
  go_wp2
  go_ret
  exact ⟨rfl, hb⟩

set_option maxHeartbeats 8000000 in
set_option maxRecDepth 100000 in
theorem odd_2_same (b l i m t k : Nat) (hk : k % 6 = 2) (hk8 : k < 256) (h : okN b l i m t) (w : World) :
    Calls Try.prog 7 #[threeV b l i, .int .u8 (k : Int), .int .i64 (m : Int)] w fun e w' => e = .returned (.bool true) ∧ Below w.heap.size w w' := by
  have AL := Lib.hid alive_any
  have O1 := Lib.hid (of_yes b l i m t h)
  have I1 := Lib.hid (inode_in b l i m t h 0 (by unfold okN at h; omega))
  have W1 := Lib.hid (where_in b l i m t h 0 (by omega) (by unfold okN at h; omega))
  have F1 := Lib.hid (fixed_len b l i m t h)
  have e1 : (k : Int) % 6 = 2 := by omega
  have gh := geo_held
  clear h hk
  go_enter Try.func7, Try.ntmps7
  go_wp2_with fail
  refine (O1.out _).mono ?_; rintro e w1 ⟨rfl, hb⟩
  have hb := below_boxed hb
  have G := (GeoAt.new b l i 1 (1 + l) m (1 + l + m) t (1 + l + m + t) w1).kept1 (balloc1 _ (.cells (cellsG b l i 1 (1 + l) m (1 + l + m) t (1 + l + m + t)) 23))
  have H : GeoAt (w1.heap.size + 1) b l i 1 (1 + l) m (1 + l + m) t (1 + l + m + t) ((w1.alloc (.cells (cellsG b l i 1 (1 + l) m (1 + l + m) t (1 + l + m + t)) 23)).alloc (.cells (cellsG b l i 1 (1 + l) m (1 + l + m) t (1 + l + m + t)) 23)) := heap_alloc_at _ _ (size_alloc _ _)
  have hb := balloc (balloc hb (.cells (cellsG b l i 1 (1 + l) m (1 + l + m) t (1 + l + m + t)) 23)) (.cells (cellsG b l i 1 (1 + l) m (1 + l + m) t (1 + l + m + t)) 23)
  clear O1
  go_wp2_with fail
  refine (I1.out _).mono ?_; rintro e w2 ⟨rfl, b1⟩
  have G := G.kept1 b1
  have H := H.kept1 b1
  have hb := bnext hb b1
  obtain ⟨c0, c1, c2, c3, c4, c5, c6, c7, c8⟩ := G.cells
  obtain ⟨d0, d1, d2, d3, d4, d5, d6, d7, d8⟩ := H.cells
  clear b1 I1
  go_wp2_with fail
  refine (W1.out _).mono ?_; rintro e w3 ⟨rfl, b1⟩
  have H := H.kept1 b1
  have hb := bnext hb b1
  clear b1 W1 c0 c1 c2 c3 c4 c5 c6 c7 c8 d0 d1 d2 d3 d4 d5 d6 d7 d8 G
  obtain ⟨d0, d1, d2, d3, d4, d5, d6, d7, d8⟩ := H.cells
  go_wp2_with fail
  refine (F1.out _).mono ?_; rintro e w4 ⟨g, rfl, b1⟩
  have hb := bnext hb b1
  clear b1 F1 d0 d1 d2 d3 d4 d5 d6 d7 d8 H
  go_wp2_with fail
  refine (AL.out _).mono ?_; rintro e w5 ⟨rfl, b1⟩
  have hb := bnext hb b1
  clear b1 AL
  go_wp2
  go_ret
  exact ⟨rfl, hb⟩

set_option maxHeartbeats 8000000 in
set_option maxRecDepth 100000 in
theorem odd_2_other (b l i m t k : Nat) (hk : k % 6 = 2) (hk8 : k < 256) (n : Int) (h : okN b l i m t) (hn : n ≠ (m : Int)) (w : World) :
    Calls Try.prog 7 #[threeV b l i, .int .u8 (k : Int), .int .i64 n] w fun e w' => e = .returned (.bool true) ∧ Below w.heap.size w w' := by
  have AL := Lib.hid alive_any
  have O1 := Lib.hid (of_yes b l i m t h)
  have hno : ¬ isG (b : Int) (l : Int) (i : Int) 1 (1 + (l : Int)) n (1 + (l : Int) + m) (t : Int) (1 + (l : Int) + m + t) := fun h2 => hn (by have := (isG_lay h _ _ _ _ _ _).1 h2; omega)
  have I1 := Lib.hid (inode_off (b : Int) (l : Int) (i : Int) 1 (1 + (l : Int)) n (1 + (l : Int) + m) (t : Int) (1 + (l : Int) + m + t) 0 hno)
  have W1 := Lib.hid (where_off (b : Int) (l : Int) (i : Int) 1 (1 + (l : Int)) n (1 + (l : Int) + m) (t : Int) (1 + (l : Int) + m + t) 0 hno)
  have F1 := Lib.hid (fixed_off (b : Int) (l : Int) (i : Int) 1 (1 + (l : Int)) n (1 + (l : Int) + m) (t : Int) (1 + (l : Int) + m + t) hno)
  have e2 : (n == (m : Int)) = false := by rw [beq_eq_false_iff_ne]; exact hn
  have e1 : (k : Int) % 6 = 2 := by omega
  have gh := geo_held
  clear h hk hn hno
  go_enter Try.func7, Try.ntmps7
  go_wp2_with fail
  refine (O1.out _).mono ?_; rintro e w1 ⟨rfl, hb⟩
  have hb := below_boxed hb
  have G := (GeoAt.new b l i 1 (1 + l) m (1 + l + m) t (1 + l + m + t) w1).kept1 (balloc1 _ (.cells (cellsG b l i 1 (1 + l) n (1 + l + m) t (1 + l + m + t)) 23))
  have H : GeoAt (w1.heap.size + 1) b l i 1 (1 + l) n (1 + l + m) t (1 + l + m + t) ((w1.alloc (.cells (cellsG b l i 1 (1 + l) m (1 + l + m) t (1 + l + m + t)) 23)).alloc (.cells (cellsG b l i 1 (1 + l) n (1 + l + m) t (1 + l + m + t)) 23)) := heap_alloc_at _ _ (size_alloc _ _)
  have hb := balloc (balloc hb (.cells (cellsG b l i 1 (1 + l) m (1 + l + m) t (1 + l + m + t)) 23)) (.cells (cellsG b l i 1 (1 + l) n (1 + l + m) t (1 + l + m + t)) 23)
  clear O1
  go_wp2_with fail
  refine (I1.out _).mono ?_; rintro e w2 ⟨rfl, b1⟩
  have G := G.kept1 b1
  have H := H.kept1 b1
  have hb := bnext hb b1
  obtain ⟨c0, c1, c2, c3, c4, c5, c6, c7, c8⟩ := G.cells
  obtain ⟨d0, d1, d2, d3, d4, d5, d6, d7, d8⟩ := H.cells
  clear b1 I1
  go_wp2_with fail
  refine (W1.out _).mono ?_; rintro e w3 ⟨rfl, b1⟩
  have H := H.kept1 b1
  have hb := bnext hb b1
  clear b1 W1 c0 c1 c2 c3 c4 c5 c6 c7 c8 d0 d1 d2 d3 d4 d5 d6 d7 d8 G
  obtain ⟨d0, d1, d2, d3, d4, d5, d6, d7, d8⟩ := H.cells
  go_wp2_with fail
  refine (F1.out _).mono ?_; rintro e w4 ⟨rfl, b1⟩
  have hb := bnext hb b1
  clear b1 F1 d0 d1 d2 d3 d4 d5 d6 d7 d8 H
  go_wp2_with fail
  refine (AL.out _).mono ?_; rintro e w5 ⟨rfl, b1⟩
  have hb := bnext hb b1
  clear b1 AL
  go_wp2
  go_ret
  exact ⟨rfl, hb⟩

set_option maxHeartbeats 8000000 in
set_option maxRecDepth 100000 in
theorem odd_3_same (b l i m t k : Nat) (hk : k % 6 = 3) (hk8 : k < 256) (h : okN b l i m t) (w : World) :
    Calls Try.prog 7 #[threeV b l i, .int .u8 (k : Int), .int .i64 (1 + (l : Int) + m)] w fun e w' => e = .returned (.bool true) ∧ Below w.heap.size w w' := by
  have AL := Lib.hid alive_any
  have O1 := Lib.hid (of_yes b l i m t h)
  have I1 := Lib.hid (inode_in b l i m t h 0 (by unfold okN at h; omega))
  have W1 := Lib.hid (where_in b l i m t h 0 (by omega) (by unfold okN at h; omega))
  have F1 := Lib.hid (fixed_len b l i m t h)
  have e1 : (k : Int) % 6 = 3 := by omega
  have gh := geo_held
  clear h hk
  go_enter Try.func7, Try.ntmps7
  go_wp2_with fail
  refine (O1.out _).mono ?_; rintro e w1 ⟨rfl, hb⟩
  have hb := below_boxed hb
  have G := (GeoAt.new b l i 1 (1 + l) m (1 + l + m) t (1 + l + m + t) w1).kept1 (balloc1 _ (.cells (cellsG b l i 1 (1 + l) m (1 + l + m) t (1 + l + m + t)) 23))
  have H : GeoAt (w1.heap.size + 1) b l i 1 (1 + l) m (1 + l + m) t (1 + l + m + t) ((w1.alloc (.cells (cellsG b l i 1 (1 + l) m (1 + l + m) t (1 + l + m + t)) 23)).alloc (.cells (cellsG b l i 1 (1 + l) m (1 + l + m) t (1 + l + m + t)) 23)) := heap_alloc_at _ _ (size_alloc _ _)
  have hb := balloc (balloc hb (.cells (cellsG b l i 1 (1 + l) m (1 + l + m) t (1 + l + m + t)) 23)) (.cells (cellsG b l i 1 (1 + l) m (1 + l + m) t (1 + l + m + t)) 23)
  clear O1
  go_wp2_with fail
  refine (I1.out _).mono ?_; rintro e w2 ⟨rfl, b1⟩
  have G := G.kept1 b1
  have H := H.kept1 b1
  have hb := bnext hb b1
  obtain ⟨c0, c1, c2, c3, c4, c5, c6, c7, c8⟩ := G.cells
  obtain ⟨d0, d1, d2, d3, d4, d5, d6, d7, d8⟩ := H.cells
  clear b1 I1
  go_wp2_with fail
  refine (W1.out _).mono ?_; rintro e w3 ⟨rfl, b1⟩
  have H := H.kept1 b1
  have hb := bnext hb b1
  clear b1 W1 c0 c1 c2 c3 c4 c5 c6 c7 c8 d0 d1 d2 d3 d4 d5 d6 d7 d8 G
  obtain ⟨d0, d1, d2, d3, d4, d5, d6, d7, d8⟩ := H.cells
  go_wp2_with fail
  refine (F1.out _).mono ?_; rintro e w4 ⟨g, rfl, b1⟩
  have hb := bnext hb b1
  clear b1 F1 d0 d1 d2 d3 d4 d5 d6 d7 d8 H
  go_wp2_with fail
  refine (AL.out _).mono ?_; rintro e w5 ⟨rfl, b1⟩
  have hb := bnext hb b1
  clear b1 AL
  go_wp2
  go_ret
  exact ⟨rfl, hb⟩

set_option maxHeartbeats 8000000 in
set_option maxRecDepth 100000 in
theorem odd_3_other (b l i m t k : Nat) (hk : k % 6 = 3) (hk8 : k < 256) (n : Int) (h : okN b l i m t) (hn : n ≠ (1 + (l : Int) + m)) (w : World) :
    Calls Try.prog 7 #[threeV b l i, .int .u8 (k : Int), .int .i64 n] w fun e w' => e = .returned (.bool true) ∧ Below w.heap.size w w' := by
  have AL := Lib.hid alive_any
  have O1 := Lib.hid (of_yes b l i m t h)
  have hno : ¬ isG (b : Int) (l : Int) (i : Int) 1 (1 + (l : Int)) (m : Int) n (t : Int) (1 + (l : Int) + m + t) := fun h2 => hn (by have := (isG_lay h _ _ _ _ _ _).1 h2; omega)
  have I1 := Lib.hid (inode_off (b : Int) (l : Int) (i : Int) 1 (1 + (l : Int)) (m : Int) n (t : Int) (1 + (l : Int) + m + t) 0 hno)
  have W1 := Lib.hid (where_off (b : Int) (l : Int) (i : Int) 1 (1 + (l : Int)) (m : Int) n (t : Int) (1 + (l : Int) + m + t) 0 hno)
  have F1 := Lib.hid (fixed_off (b : Int) (l : Int) (i : Int) 1 (1 + (l : Int)) (m : Int) n (t : Int) (1 + (l : Int) + m + t) hno)
  have e2 : (n == (1 + (l : Int) + m)) = false := by rw [beq_eq_false_iff_ne]; exact hn
  have e1 : (k : Int) % 6 = 3 := by omega
  have gh := geo_held
  clear h hk hn hno
  go_enter Try.func7, Try.ntmps7
  go_wp2_with fail
  refine (O1.out _).mono ?_; rintro e w1 ⟨rfl, hb⟩
  have hb := below_boxed hb
  have G := (GeoAt.new b l i 1 (1 + l) m (1 + l + m) t (1 + l + m + t) w1).kept1 (balloc1 _ (.cells (cellsG b l i 1 (1 + l) m n t (1 + l + m + t)) 23))
  have H : GeoAt (w1.heap.size + 1) b l i 1 (1 + l) m n t (1 + l + m + t) ((w1.alloc (.cells (cellsG b l i 1 (1 + l) m (1 + l + m) t (1 + l + m + t)) 23)).alloc (.cells (cellsG b l i 1 (1 + l) m n t (1 + l + m + t)) 23)) := heap_alloc_at _ _ (size_alloc _ _)
  have hb := balloc (balloc hb (.cells (cellsG b l i 1 (1 + l) m (1 + l + m) t (1 + l + m + t)) 23)) (.cells (cellsG b l i 1 (1 + l) m n t (1 + l + m + t)) 23)
  clear O1
  go_wp2_with fail
  refine (I1.out _).mono ?_; rintro e w2 ⟨rfl, b1⟩
  have G := G.kept1 b1
  have H := H.kept1 b1
  have hb := bnext hb b1
  obtain ⟨c0, c1, c2, c3, c4, c5, c6, c7, c8⟩ := G.cells
  obtain ⟨d0, d1, d2, d3, d4, d5, d6, d7, d8⟩ := H.cells
  clear b1 I1
  go_wp2_with fail
  refine (W1.out _).mono ?_; rintro e w3 ⟨rfl, b1⟩
  have H := H.kept1 b1
  have hb := bnext hb b1
  clear b1 W1 c0 c1 c2 c3 c4 c5 c6 c7 c8 d0 d1 d2 d3 d4 d5 d6 d7 d8 G
  obtain ⟨d0, d1, d2, d3, d4, d5, d6, d7, d8⟩ := H.cells
  go_wp2_with fail
  refine (F1.out _).mono ?_; rintro e w4 ⟨rfl, b1⟩
  have hb := bnext hb b1
  clear b1 F1 d0 d1 d2 d3 d4 d5 d6 d7 d8 H
  go_wp2_with fail
  refine (AL.out _).mono ?_; rintro e w5 ⟨rfl, b1⟩
  have hb := bnext hb b1
  clear b1 AL
  go_wp2
  go_ret
  exact ⟨rfl, hb⟩

set_option maxHeartbeats 8000000 in
set_option maxRecDepth 100000 in
theorem odd_4_same (b l i m t k : Nat) (hk : k % 6 = 4) (hk8 : k < 256) (h : okN b l i m t) (w : World) :
    Calls Try.prog 7 #[threeV b l i, .int .u8 (k : Int), .int .i64 (t : Int)] w fun e w' => e = .returned (.bool true) ∧ Below w.heap.size w w' := by
  have AL := Lib.hid alive_any
  have O1 := Lib.hid (of_yes b l i m t h)
  have I1 := Lib.hid (inode_in b l i m t h 0 (by unfold okN at h; omega))
  have W1 := Lib.hid (where_in b l i m t h 0 (by omega) (by unfold okN at h; omega))
  have F1 := Lib.hid (fixed_len b l i m t h)
  have e1 : (k : Int) % 6 = 4 := by omega
  have gh := geo_held
  clear h hk
  go_enter Try.func7, Try.ntmps7
  go_wp2_with fail
  refine (O1.out _).mono ?_; rintro e w1 ⟨rfl, hb⟩
  have hb := below_boxed hb
  have G := (GeoAt.new b l i 1 (1 + l) m (1 + l + m) t (1 + l + m + t) w1).kept1 (balloc1 _ (.cells (cellsG b l i 1 (1 + l) m (1 + l + m) t (1 + l + m + t)) 23))
  have H : GeoAt (w1.heap.size + 1) b l i 1 (1 + l) m (1 + l + m) t (1 + l + m + t) ((w1.alloc (.cells (cellsG b l i 1 (1 + l) m (1 + l + m) t (1 + l + m + t)) 23)).alloc (.cells (cellsG b l i 1 (1 + l) m (1 + l + m) t (1 + l + m + t)) 23)) := heap_alloc_at _ _ (size_alloc _ _)
  have hb := balloc (balloc hb (.cells (cellsG b l i 1 (1 + l) m (1 + l + m) t (1 + l + m + t)) 23)) (.cells (cellsG b l i 1 (1 + l) m (1 + l + m) t (1 + l + m + t)) 23)
  clear O1
  go_wp2_with fail
  refine (I1.out _).mono ?_; rintro e w2 ⟨rfl, b1⟩
  have G := G.kept1 b1
  have H := H.kept1 b1
  have hb := bnext hb b1
  obtain ⟨c0, c1, c2, c3, c4, c5, c6, c7, c8⟩ := G.cells
  obtain ⟨d0, d1, d2, d3, d4, d5, d6, d7, d8⟩ := H.cells
  clear b1 I1
  go_wp2_with fail
  refine (W1.out _).mono ?_; rintro e w3 ⟨rfl, b1⟩
  have H := H.kept1 b1
  have hb := bnext hb b1
  clear b1 W1 c0 c1 c2 c3 c4 c5 c6 c7 c8 d0 d1 d2 d3 d4 d5 d6 d7 d8 G
  obtain ⟨d0, d1, d2, d3, d4, d5, d6, d7, d8⟩ := H.cells
  go_wp2_with fail
  refine (F1.out _).mono ?_; rintro e w4 ⟨g, rfl, b1⟩
  have hb := bnext hb b1
  clear b1 F1 d0 d1 d2 d3 d4 d5 d6 d7 d8 H
  go_wp2_with fail
  refine (AL.out _).mono ?_; rintro e w5 ⟨rfl, b1⟩
  have hb := bnext hb b1
  clear b1 AL
  go_wp2
  go_ret
  exact ⟨rfl, hb⟩

set_option maxHeartbeats 8000000 in
set_option maxRecDepth 100000 in
theorem odd_4_other (b l i m t k : Nat) (hk : k % 6 = 4) (hk8 : k < 256) (n : Int) (h : okN b l i m t) (hn : n ≠ (t : Int)) (w : World) :
    Calls Try.prog 7 #[threeV b l i, .int .u8 (k : Int), .int .i64 n] w fun e w' => e = .returned (.bool true) ∧ Below w.heap.size w w' := by
  have AL := Lib.hid alive_any
  have O1 := Lib.hid (of_yes b l i m t h)
  have hno : ¬ isG (b : Int) (l : Int) (i : Int) 1 (1 + (l : Int)) (m : Int) (1 + (l : Int) + m) n (1 + (l : Int) + m + t) := fun h2 => hn (by have := (isG_lay h _ _ _ _ _ _).1 h2; omega)
  have I1 := Lib.hid (inode_off (b : Int) (l : Int) (i : Int) 1 (1 + (l : Int)) (m : Int) (1 + (l : Int) + m) n (1 + (l : Int) + m + t) 0 hno)
  have W1 := Lib.hid (where_off (b : Int) (l : Int) (i : Int) 1 (1 + (l : Int)) (m : Int) (1 + (l : Int) + m) n (1 + (l : Int) + m + t) 0 hno)
  have F1 := Lib.hid (fixed_off (b : Int) (l : Int) (i : Int) 1 (1 + (l : Int)) (m : Int) (1 + (l : Int) + m) n (1 + (l : Int) + m + t) hno)
  have e2 : (n == (t : Int)) = false := by rw [beq_eq_false_iff_ne]; exact hn
  have e1 : (k : Int) % 6 = 4 := by omega
  have gh := geo_held
  clear h hk hn hno
  go_enter Try.func7, Try.ntmps7
  go_wp2_with fail
  refine (O1.out _).mono ?_; rintro e w1 ⟨rfl, hb⟩
  have hb := below_boxed hb
  have G := (GeoAt.new b l i 1 (1 + l) m (1 + l + m) t (1 + l + m + t) w1).kept1 (balloc1 _ (.cells (cellsG b l i 1 (1 + l) m (1 + l + m) n (1 + l + m + t)) 23))
  have H : GeoAt (w1.heap.size + 1) b l i 1 (1 + l) m (1 + l + m) n (1 + l + m + t) ((w1.alloc (.cells (cellsG b l i 1 (1 + l) m (1 + l + m) t (1 + l + m + t)) 23)).alloc (.cells (cellsG b l i 1 (1 + l) m (1 + l + m) n (1 + l + m + t)) 23)) := heap_alloc_at _ _ (size_alloc _ _)
  have hb := balloc (balloc hb (.cells (cellsG b l i 1 (1 + l) m (1 + l + m) t (1 + l + m + t)) 23)) (.cells (cellsG b l i 1 (1 + l) m (1 + l + m) n (1 + l + m + t)) 23)
  clear O1
  go_wp2_with fail
  refine (I1.out _).mono ?_; rintro e w2 ⟨rfl, b1⟩
  have G := G.kept1 b1
  have H := H.kept1 b1
  have hb := bnext hb b1
  obtain ⟨c0, c1, c2, c3, c4, c5, c6, c7, c8⟩ := G.cells
  obtain ⟨d0, d1, d2, d3, d4, d5, d6, d7, d8⟩ := H.cells
  clear b1 I1
  go_wp2_with fail
  refine (W1.out _).mono ?_; rintro e w3 ⟨rfl, b1⟩
  have H := H.kept1 b1
  have hb := bnext hb b1
  clear b1 W1 c0 c1 c2 c3 c4 c5 c6 c7 c8 d0 d1 d2 d3 d4 d5 d6 d7 d8 G
  obtain ⟨d0, d1, d2, d3, d4, d5, d6, d7, d8⟩ := H.cells
  go_wp2_with fail
  refine (F1.out _).mono ?_; rintro e w4 ⟨rfl, b1⟩
  have hb := bnext hb b1
  clear b1 F1 d0 d1 d2 d3 d4 d5 d6 d7 d8 H
  go_wp2_with fail
  refine (AL.out _).mono ?_; rintro e w5 ⟨rfl, b1⟩
  have hb := bnext hb b1
  clear b1 AL
  go_wp2
  go_ret
  exact ⟨rfl, hb⟩

set_option maxHeartbeats 8000000 in
set_option maxRecDepth 100000 in
theorem odd_5_same (b l i m t k : Nat) (hk : k % 6 = 5) (hk8 : k < 256) (h : okN b l i m t) (w : World) :
    Calls Try.prog 7 #[threeV b l i, .int .u8 (k : Int), .int .i64 (1 + (l : Int) + m + t)] w fun e w' => e = .returned (.bool true) ∧ Below w.heap.size w w' := by
  have AL := Lib.hid alive_any
  have O1 := Lib.hid (of_yes b l i m t h)
  have I1 := Lib.hid (inode_in b l i m t h 0 (by unfold okN at h; omega))
  have W1 := Lib.hid (where_in b l i m t h 0 (by omega) (by unfold okN at h; omega))
  have F1 := Lib.hid (fixed_len b l i m t h)
  have e1 : (k : Int) % 6 = 5 := by omega
  have gh := geo_held
  clear h hk
  go_enter Try.func7, Try.ntmps7
  go_wp2_with fail
  refine (O1.out _).mono ?_; rintro e w1 ⟨rfl, hb⟩
  have hb := below_boxed hb
  have G := (GeoAt.new b l i 1 (1 + l) m (1 + l + m) t (1 + l + m + t) w1).kept1 (balloc1 _ (.cells (cellsG b l i 1 (1 + l) m (1 + l + m) t (1 + l + m + t)) 23))
  have H : GeoAt (w1.heap.size + 1) b l i 1 (1 + l) m (1 + l + m) t (1 + l + m + t) ((w1.alloc (.cells (cellsG b l i 1 (1 + l) m (1 + l + m) t (1 + l + m + t)) 23)).alloc (.cells (cellsG b l i 1 (1 + l) m (1 + l + m) t (1 + l + m + t)) 23)) := heap_alloc_at _ _ (size_alloc _ _)
  have hb := balloc (balloc hb (.cells (cellsG b l i 1 (1 + l) m (1 + l + m) t (1 + l + m + t)) 23)) (.cells (cellsG b l i 1 (1 + l) m (1 + l + m) t (1 + l + m + t)) 23)
  clear O1
  go_wp2_with fail
  refine (I1.out _).mono ?_; rintro e w2 ⟨rfl, b1⟩
  have G := G.kept1 b1
  have H := H.kept1 b1
  have hb := bnext hb b1
  obtain ⟨c0, c1, c2, c3, c4, c5, c6, c7, c8⟩ := G.cells
  obtain ⟨d0, d1, d2, d3, d4, d5, d6, d7, d8⟩ := H.cells
  clear b1 I1
  go_wp2_with fail
  refine (W1.out _).mono ?_; rintro e w3 ⟨rfl, b1⟩
  have H := H.kept1 b1
  have hb := bnext hb b1
  clear b1 W1 c0 c1 c2 c3 c4 c5 c6 c7 c8 d0 d1 d2 d3 d4 d5 d6 d7 d8 G
  obtain ⟨d0, d1, d2, d3, d4, d5, d6, d7, d8⟩ := H.cells
  go_wp2_with fail
  refine (F1.out _).mono ?_; rintro e w4 ⟨g, rfl, b1⟩
  have hb := bnext hb b1
  clear b1 F1 d0 d1 d2 d3 d4 d5 d6 d7 d8 H
  go_wp2_with fail
  refine (AL.out _).mono ?_; rintro e w5 ⟨rfl, b1⟩
  have hb := bnext hb b1
  clear b1 AL
  go_wp2
  go_ret
  exact ⟨rfl, hb⟩

set_option maxHeartbeats 8000000 in
set_option maxRecDepth 100000 in
theorem odd_5_other (b l i m t k : Nat) (hk : k % 6 = 5) (hk8 : k < 256) (n : Int) (h : okN b l i m t) (hn : n ≠ (1 + (l : Int) + m + t)) (w : World) :
    Calls Try.prog 7 #[threeV b l i, .int .u8 (k : Int), .int .i64 n] w fun e w' => e = .returned (.bool true) ∧ Below w.heap.size w w' := by
  have AL := Lib.hid alive_any
  have O1 := Lib.hid (of_yes b l i m t h)
  have hno : ¬ isG (b : Int) (l : Int) (i : Int) 1 (1 + (l : Int)) (m : Int) (1 + (l : Int) + m) (t : Int) n := fun h2 => hn (by have := (isG_lay h _ _ _ _ _ _).1 h2; omega)
  have I1 := Lib.hid (inode_off (b : Int) (l : Int) (i : Int) 1 (1 + (l : Int)) (m : Int) (1 + (l : Int) + m) (t : Int) n 0 hno)
  have W1 := Lib.hid (where_off (b : Int) (l : Int) (i : Int) 1 (1 + (l : Int)) (m : Int) (1 + (l : Int) + m) (t : Int) n 0 hno)
  have F1 := Lib.hid (fixed_off (b : Int) (l : Int) (i : Int) 1 (1 + (l : Int)) (m : Int) (1 + (l : Int) + m) (t : Int) n hno)
  have e2 : (n == (1 + (l : Int) + m + t)) = false := by rw [beq_eq_false_iff_ne]; exact hn
  have e1 : (k : Int) % 6 = 5 := by omega
  have gh := geo_held
  clear h hk hn hno
  go_enter Try.func7, Try.ntmps7
  go_wp2_with fail
  refine (O1.out _).mono ?_; rintro e w1 ⟨rfl, hb⟩
  have hb := below_boxed hb
  have G := (GeoAt.new b l i 1 (1 + l) m (1 + l + m) t (1 + l + m + t) w1).kept1 (balloc1 _ (.cells (cellsG b l i 1 (1 + l) m (1 + l + m) t n) 23))
  have H : GeoAt (w1.heap.size + 1) b l i 1 (1 + l) m (1 + l + m) t n ((w1.alloc (.cells (cellsG b l i 1 (1 + l) m (1 + l + m) t (1 + l + m + t)) 23)).alloc (.cells (cellsG b l i 1 (1 + l) m (1 + l + m) t n) 23)) := heap_alloc_at _ _ (size_alloc _ _)
  have hb := balloc (balloc hb (.cells (cellsG b l i 1 (1 + l) m (1 + l + m) t (1 + l + m + t)) 23)) (.cells (cellsG b l i 1 (1 + l) m (1 + l + m) t n) 23)
  clear O1
  go_wp2_with fail
  refine (I1.out _).mono ?_; rintro e w2 ⟨rfl, b1⟩
  have G := G.kept1 b1
  have H := H.kept1 b1
  have hb := bnext hb b1
  obtain ⟨c0, c1, c2, c3, c4, c5, c6, c7, c8⟩ := G.cells
  obtain ⟨d0, d1, d2, d3, d4, d5, d6, d7, d8⟩ := H.cells
  clear b1 I1
  go_wp2_with fail
  refine (W1.out _).mono ?_; rintro e w3 ⟨rfl, b1⟩
  have H := H.kept1 b1
  have hb := bnext hb b1
  clear b1 W1 c0 c1 c2 c3 c4 c5 c6 c7 c8 d0 d1 d2 d3 d4 d5 d6 d7 d8 G
  obtain ⟨d0, d1, d2, d3, d4, d5, d6, d7, d8⟩ := H.cells
  go_wp2_with fail
  refine (F1.out _).mono ?_; rintro e w4 ⟨rfl, b1⟩
  have hb := bnext hb b1
  clear b1 F1 d0 d1 d2 d3 d4 d5 d6 d7 d8 H
  go_wp2_with fail
  refine (AL.out _).mono ?_; rintro e w5 ⟨rfl, b1⟩
  have hb := bnext hb b1
  clear b1 AL
  go_wp2
  go_ret
  exact ⟨rfl, hb⟩

theorem odd_walk (b l i : Int) (k : Nat) (hk8 : k < 256) (n : Int) (w : World) :
    Calls Try.prog 7 #[threeV b l i, .int .u8 (k : Int), .int .i64 n] w fun e w' => e = .returned (.bool true) ∧ Below w.heap.size w w' := by
  by_cases h : okG b l i
  · obtain ⟨b', l', i', m, t, rfl, rfl, rfl, h2⟩ := okG_yes h
    rcases (show k % 6 = 0 ∨ k % 6 = 1 ∨ k % 6 = 2 ∨ k % 6 = 3 ∨ k % 6 = 4 ∨ k % 6 = 5 by omega) with e | e | e | e | e | e
    · by_cases hn : n = 1
      · subst hn; exact odd_0_same b' l' i' m t k e hk8 h2 w
      · exact odd_0_other b' l' i' m t k e hk8 n h2 hn w
    · by_cases hn : n = (1 + (l' : Int))
      · subst hn; exact odd_1_same b' l' i' m t k e hk8 h2 w
      · exact odd_1_other b' l' i' m t k e hk8 n h2 hn w
    · by_cases hn : n = (m : Int)
      · subst hn; exact odd_2_same b' l' i' m t k e hk8 h2 w
      · exact odd_2_other b' l' i' m t k e hk8 n h2 hn w
    · by_cases hn : n = (1 + (l' : Int) + m)
      · subst hn; exact odd_3_same b' l' i' m t k e hk8 h2 w
      · exact odd_3_other b' l' i' m t k e hk8 n h2 hn w
    · by_cases hn : n = (t : Int)
      · subst hn; exact odd_4_same b' l' i' m t k e hk8 h2 w
      · exact odd_4_other b' l' i' m t k e hk8 n h2 hn w
    · by_cases hn : n = (1 + (l' : Int) + m + t)
      · subst hn; exact odd_5_same b' l' i' m t k e hk8 h2 w
      · exact odd_5_other b' l' i' m t k e hk8 n h2 hn w
  · exact odd_off b l i k n h w
end Go.Proofs.Ytpgpglnbpahcjaa
