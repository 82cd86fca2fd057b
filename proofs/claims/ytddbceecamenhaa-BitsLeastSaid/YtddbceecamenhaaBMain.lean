/- The walk of BitsLeast. -/
import Derived.Test.YtddbceecamenhaaBTaken
namespace Go.Proofs.Ytddbceecamenhaa
set_option linter.unusedVariables false
open Go.RowKit

theorem has_at (s : ByteArray) (hs : s.size ≤ 2000) (a b : Nat) (w : World) :
    Calls Try.prog 10 #[.string s, .int .i64 ((a : Int) + (b : Int))] w fun e w' => e = .returned (.bool (bitAt s (a + b))) ∧ w = w' := by
  have h := has_any s hs ((a : Int) + (b : Int)) w
  rw [show ((a : Int) + (b : Int)) = ((a + b : Nat) : Int) by omega, hasV_nat] at h
  rw [show ((a : Int) + (b : Int)) = ((a + b : Nat) : Int) by omega]
  exact h

set_option maxHeartbeats 2000000 in
theorem least_none (s : ByteArray) (hs : s.size ≤ 300) (n size «from» : Int)
    (C1 : ∀ w, Calls Try.prog 22 #[.string s, .int .i64 n, .int .i64 size, .int .i64 «from»] w fun e w' => e = .returned (.tuple #[.agg #[.int .i64 0, .int .i64 0], .bool false]) ∧ Below w.heap.size w w') (w : World) :
    Calls Try.prog 8 #[.string s, .int .i64 n, .agg #[.int .i64 size, .int .i64 «from»]] w fun e w' => e = .returned (.bool true) ∧ Below w.heap.size w w' := by
  have C1 := Lib.hid C1
  have AL := Lib.hid alive_any
  have hbox : Below w.heap.size w (w.alloc (.cells #[.int .i64 size, .int .i64 «from»] 33)) := (Below.refl _ _).alloc (Nat.le_refl _) _
  go_enter Try.func8, Try.ntmps8
  go_wp2_with fail
  refine (C1.out _).mono ?_; rintro e w1 ⟨rfl, b1⟩
  go_wp2_with fail
  refine (AL.out _).mono ?_; rintro e w2 ⟨rfl, b2⟩
  go_wp2
  go_ret
  exact ⟨rfl, bnext (balloc (bnext hbox b1) _) b2⟩

set_option maxRecDepth 100000 in
set_option maxHeartbeats 8000000 in
theorem least_at0 (s : ByteArray) (hs : s.size ≤ 300) (n «from» : Int) (z p : Nat) (hf : «from» < 0) (hz : 1 ≤ z) (hp : p + z ≤ 8 * s.size) (hn : (p : Int) + (z : Int) ≤ n) (hn2 : n ≤ 9223372036854775807)
    (hall : ∀ j < z, bitAt s (p + j) = false) (hno : ∀ q, 0 ≤ q → q < p → ¬ ∀ j < z, bitAt s (q + j) = false)
    (C1 : ∀ w, Calls Try.prog 22 #[.string s, .int .i64 n, .int .i64 (z : Int), .int .i64 «from»] w fun e w' => e = .returned (.tuple #[.agg #[.int .i64 (p : Int), .int .i64 (z : Int)], .bool true]) ∧ Below w.heap.size w w')
 (w : World) :
    Calls Try.prog 8 #[.string s, .int .i64 n, .agg #[.int .i64 (z : Int), .int .i64 «from»]] w fun e w' => e = .returned (.bool true) ∧ Below w.heap.size w w' := by
  have C1 := Lib.hid C1
  have AL := Lib.hid alive_any
  have HA := Lib.hid hall
  have HN := Lib.hid hno
  have HB := Lib.hid (has_at s (by omega))
  clear hall hno
  have hbox : Below w.heap.size w (w.alloc (.cells #[.int .i64 (z : Int), .int .i64 «from»] 33)) := (Below.refl _ _).alloc (Nat.le_refl _) _
  have hbx : (w.alloc (.cells #[.int .i64 (z : Int), .int .i64 «from»] 33)).heap[w.heap.size]? = some (.cells #[.int .i64 (z : Int), .int .i64 «from»] 33 (0, 0)) := heap_alloc_new _ _
  obtain ⟨i1, i2, _, _⟩ := cell_two hbx
  go_enter Try.func8, Try.ntmps8
  go_wp2_with fail
  refine (C1.out _).mono ?_; rintro e w1 ⟨rfl, b1⟩
  have ho := block_past (p := .cells #[.int .i64 (p : Int), .int .i64 (z : Int)] 31) (block_kept hbx b1)
  have hx := heap_alloc_new w1 (.cells #[.int .i64 (p : Int), .int .i64 (z : Int)] 31)
  obtain ⟨o1, o2, _, _⟩ := cell_two ho
  obtain ⟨x1, x2, _, _⟩ := cell_two hx
  have hb1 := balloc (bnext hbox b1) (.cells #[.int .i64 (p : Int), .int .i64 (z : Int)] 31)
  clear i1 i2 b1 hbx hbox C1
  go_wp2
  go_loop [9] (fun a => ∃ j : Nat, a = .int .i64 j ∧ j ≤ z) (fun a => z - (intOf a).toNat)
  case atStart => exact ⟨0, rfl, Nat.zero_le _⟩
  case round =>
    obtain ⟨j, rfl, hj⟩ := hrel
    by_cases hlt : j < z
    · have H := HB.out p j
      rw [HA.out j hlt] at H
      have H := Lib.hid H
      clear HB
      go_wp2_with fail
      refine (H.out _).mono ?_; rintro e w' ⟨rfl, rfl⟩
      go_wp2
      exact ⟨⟨j + 1, by go_num, by omega⟩, by simp [intOf]; omega⟩
    · obtain rfl : j = z := by omega
      go_wp2
      go_loop [15] (fun a => ∃ q : Nat, a = .int .i64 q ∧ 0 ≤ q ∧ q ≤ p) (fun a => p - (intOf a).toNat)
      case atStart => exact ⟨0, rfl, Nat.le_refl _, by omega⟩
      case round =>
        obtain ⟨q, rfl, hq1, hq2⟩ := hrel
        by_cases hq : q < p
        · have HQ := Lib.hid (HN.out q hq1 hq)
          go_wp2
          go_loop [16, 17] (fun b i => ∃ (k : Nat) (d : Bool), b = .bool d ∧ i = .int .i64 k ∧ k ≤ j ∧ Hid (d = true → ∀ m < k, bitAt s (q + m) = false)) (fun _ i => j - (intOf i).toNat)
          case atStart => exact ⟨0, true, rfl, rfl, Nat.zero_le _, Lib.hid (fun _ m hm => by omega)⟩
          case round =>
            obtain ⟨k, d, rfl, rfl, hk, HK⟩ := hrel
            cases d
            · by_cases hkj : k < j
              all_goals
                go_wp2
                exact ⟨⟨q + 1, by go_num, by omega, by omega⟩, by simp [intOf]; omega⟩
            · by_cases hkj : k < j
              · have H := Lib.hid (HB.out q k)
                have HS : Hid ((!bitAt s (q + k)) = true → ∀ m < k + 1, bitAt s (q + m) = false) := Lib.hid fun h m hm => by
                  by_cases e : m = k
                  · subst e; simpa using h
                  · exact HK.out rfl m (by omega)
                generalize bitAt s (q + k) = b at *
                clear HB
                go_wp2_with fail
                refine (H.out _).mono ?_; rintro e w' ⟨rfl, rfl⟩
                go_wp2
                exact ⟨⟨k + 1, !b, rfl, by go_num, by omega, HS⟩, by simp [intOf]; omega⟩
              · exfalso
                obtain rfl : k = j := by omega
                exact HQ.out (HK.out rfl)
        · obtain rfl : q = p := by omega
          go_wp2_with fail
          refine (AL.out _).mono ?_; rintro e w9 ⟨rfl, b9⟩
          go_wp2
          go_ret
          exact ⟨rfl, bnext hb1 b9⟩

set_option maxRecDepth 100000 in
set_option maxHeartbeats 8000000 in
theorem least_at (s : ByteArray) (hs : s.size ≤ 300) (n : Int) (z p : Nat) (φ : Nat) (hφ : φ ≤ p) (hz : 1 ≤ z) (hp : p + z ≤ 8 * s.size) (hn : (p : Int) + (z : Int) ≤ n) (hn2 : n ≤ 9223372036854775807)
    (hall : ∀ j < z, bitAt s (p + j) = false) (hno : ∀ q, φ ≤ q → q < p → ¬ ∀ j < z, bitAt s (q + j) = false)
    (C1 : ∀ w, Calls Try.prog 22 #[.string s, .int .i64 n, .int .i64 (z : Int), .int .i64 (φ : Int)] w fun e w' => e = .returned (.tuple #[.agg #[.int .i64 (p : Int), .int .i64 (z : Int)], .bool true]) ∧ Below w.heap.size w w')
 (w : World) :
    Calls Try.prog 8 #[.string s, .int .i64 n, .agg #[.int .i64 (z : Int), .int .i64 (φ : Int)]] w fun e w' => e = .returned (.bool true) ∧ Below w.heap.size w w' := by
  have C1 := Lib.hid C1
  have AL := Lib.hid alive_any
  have HA := Lib.hid hall
  have HN := Lib.hid hno
  have HB := Lib.hid (has_at s (by omega))
  clear hall hno
  have hbox : Below w.heap.size w (w.alloc (.cells #[.int .i64 (z : Int), .int .i64 (φ : Int)] 33)) := (Below.refl _ _).alloc (Nat.le_refl _) _
  have hbx : (w.alloc (.cells #[.int .i64 (z : Int), .int .i64 (φ : Int)] 33)).heap[w.heap.size]? = some (.cells #[.int .i64 (z : Int), .int .i64 (φ : Int)] 33 (0, 0)) := heap_alloc_new _ _
  obtain ⟨i1, i2, _, _⟩ := cell_two hbx
  go_enter Try.func8, Try.ntmps8
  go_wp2_with fail
  refine (C1.out _).mono ?_; rintro e w1 ⟨rfl, b1⟩
  have ho := block_past (p := .cells #[.int .i64 (p : Int), .int .i64 (z : Int)] 31) (block_kept hbx b1)
  have hx := heap_alloc_new w1 (.cells #[.int .i64 (p : Int), .int .i64 (z : Int)] 31)
  obtain ⟨o1, o2, _, _⟩ := cell_two ho
  obtain ⟨x1, x2, _, _⟩ := cell_two hx
  have hb1 := balloc (bnext hbox b1) (.cells #[.int .i64 (p : Int), .int .i64 (z : Int)] 31)
  clear i1 i2 b1 hbx hbox C1
  go_wp2
  go_loop [9] (fun a => ∃ j : Nat, a = .int .i64 j ∧ j ≤ z) (fun a => z - (intOf a).toNat)
  case atStart => exact ⟨0, rfl, Nat.zero_le _⟩
  case round =>
    obtain ⟨j, rfl, hj⟩ := hrel
    by_cases hlt : j < z
    · have H := HB.out p j
      rw [HA.out j hlt] at H
      have H := Lib.hid H
      clear HB
      go_wp2_with fail
      refine (H.out _).mono ?_; rintro e w' ⟨rfl, rfl⟩
      go_wp2
      exact ⟨⟨j + 1, by go_num, by omega⟩, by simp [intOf]; omega⟩
    · obtain rfl : j = z := by omega
      go_wp2
      go_loop [15] (fun a => ∃ q : Nat, a = .int .i64 q ∧ φ ≤ q ∧ q ≤ p) (fun a => p - (intOf a).toNat)
      case atStart => exact ⟨φ, rfl, Nat.le_refl _, by omega⟩
      case round =>
        obtain ⟨q, rfl, hq1, hq2⟩ := hrel
        by_cases hq : q < p
        · have HQ := Lib.hid (HN.out q hq1 hq)
          go_wp2
          go_loop [16, 17] (fun b i => ∃ (k : Nat) (d : Bool), b = .bool d ∧ i = .int .i64 k ∧ k ≤ j ∧ Hid (d = true → ∀ m < k, bitAt s (q + m) = false)) (fun _ i => j - (intOf i).toNat)
          case atStart => exact ⟨0, true, rfl, rfl, Nat.zero_le _, Lib.hid (fun _ m hm => by omega)⟩
          case round =>
            obtain ⟨k, d, rfl, rfl, hk, HK⟩ := hrel
            cases d
            · by_cases hkj : k < j
              all_goals
                go_wp2
                exact ⟨⟨q + 1, by go_num, by omega, by omega⟩, by simp [intOf]; omega⟩
            · by_cases hkj : k < j
              · have H := Lib.hid (HB.out q k)
                have HS : Hid ((!bitAt s (q + k)) = true → ∀ m < k + 1, bitAt s (q + m) = false) := Lib.hid fun h m hm => by
                  by_cases e : m = k
                  · subst e; simpa using h
                  · exact HK.out rfl m (by omega)
                generalize bitAt s (q + k) = b at *
                clear HB
                go_wp2_with fail
                refine (H.out _).mono ?_; rintro e w' ⟨rfl, rfl⟩
                go_wp2
                exact ⟨⟨k + 1, !b, rfl, by go_num, by omega, HS⟩, by simp [intOf]; omega⟩
              · exfalso
                obtain rfl : k = j := by omega
                exact HQ.out (HK.out rfl)
        · obtain rfl : q = p := by omega
          go_wp2_with fail
          refine (AL.out _).mono ?_; rintro e w9 ⟨rfl, b9⟩
          go_wp2
          go_ret
          exact ⟨rfl, bnext hb1 b9⟩

set_option maxRecDepth 100000 in
set_option maxHeartbeats 8000000 in
theorem least_round (s : ByteArray) (hs : s.size ≤ 300) (n «from» : Int) (z p : Nat) (y y' : Int) (hf : (p : Int) < «from») (hz : 1 ≤ z) (hp : p + z ≤ 8 * s.size) (hn : (p : Int) + (z : Int) ≤ n) (hn2 : n ≤ 9223372036854775807)
    (hall : ∀ j < z, bitAt s (p + j) = false) (hno : ∀ q, 0 ≤ q → q < p → ¬ ∀ j < z, bitAt s (q + j) = false)
    (C1 : ∀ w, Calls Try.prog 22 #[.string s, .int .i64 n, .int .i64 (z : Int), .int .i64 «from»] w fun e w' => e = .returned (.tuple #[.agg #[.int .i64 (p : Int), .int .i64 (z : Int)], .bool true]) ∧ Below w.heap.size w w')
    (C2 : ∀ w, Calls Try.prog 22 #[.string s, .int .i64 n, .int .i64 (z : Int), .int .i64 ((p : Int) + 1)] w fun e w' => e = .returned (.tuple #[.agg #[.int .i64 y, .int .i64 y'], .bool true]) ∧ Below w.heap.size w w') (w : World) :
    Calls Try.prog 8 #[.string s, .int .i64 n, .agg #[.int .i64 (z : Int), .int .i64 «from»]] w fun e w' => e = .returned (.bool true) ∧ Below w.heap.size w w' := by
  have C1 := Lib.hid C1
  have AL := Lib.hid alive_any
  have HA := Lib.hid hall
  have HN := Lib.hid hno
  have HB := Lib.hid (has_at s (by omega))
  clear hall hno
  have hbox : Below w.heap.size w (w.alloc (.cells #[.int .i64 (z : Int), .int .i64 «from»] 33)) := (Below.refl _ _).alloc (Nat.le_refl _) _
  have hbx : (w.alloc (.cells #[.int .i64 (z : Int), .int .i64 «from»] 33)).heap[w.heap.size]? = some (.cells #[.int .i64 (z : Int), .int .i64 «from»] 33 (0, 0)) := heap_alloc_new _ _
  obtain ⟨i1, i2, _, _⟩ := cell_two hbx
  have C1' := C1
  have C2 := Lib.hid C2
  have rh := run_held
  go_enter Try.func8, Try.ntmps8
  go_wp2_with fail
  refine (C1.out _).mono ?_; rintro e w1 ⟨rfl, b1⟩
  have ho := block_past (p := .cells #[.int .i64 (p : Int), .int .i64 (z : Int)] 31) (block_kept hbx b1)
  have hx := heap_alloc_new w1 (.cells #[.int .i64 (p : Int), .int .i64 (z : Int)] 31)
  obtain ⟨o1, o2, _, _⟩ := cell_two ho
  obtain ⟨x1, x2, _, _⟩ := cell_two hx
  have hb1 := balloc (bnext hbox b1) (.cells #[.int .i64 (p : Int), .int .i64 (z : Int)] 31)
  clear i1 i2 b1 hbx hbox C1
  go_wp2
  go_loop [9] (fun a => ∃ j : Nat, a = .int .i64 j ∧ j ≤ z) (fun a => z - (intOf a).toNat)
  case atStart => exact ⟨0, rfl, Nat.zero_le _⟩
  case round =>
    obtain ⟨j, rfl, hj⟩ := hrel
    by_cases hlt : j < z
    · have H := HB.out p j
      rw [HA.out j hlt] at H
      have H := Lib.hid H
      clear HB
      go_wp2_with fail
      refine (H.out _).mono ?_; rintro e w' ⟨rfl, rfl⟩
      go_wp2
      exact ⟨⟨j + 1, by go_num, by omega⟩, by simp [intOf]; omega⟩
    · obtain rfl : j = z := by omega
      go_wp2_with fail
      refine (C2.out _).mono ?_; rintro e w2 ⟨rfl, b2⟩
      have ho := block_past (p := .cells #[.int .i64 y, .int .i64 y'] 31) (block_kept ho b2)
      have hx := block_past (p := .cells #[.int .i64 y, .int .i64 y'] 31) (block_kept hx b2)
      clear o1 o2 x1 x2
      obtain ⟨o1, o2, _, _⟩ := cell_two ho
      obtain ⟨x1, x2, _, _⟩ := cell_two hx
      have hb2 := balloc (bnext hb1 b2) (.cells #[.int .i64 y, .int .i64 y'] 31)
      clear b2 hb1
      go_wp2_with fail
      refine (C1'.out _).mono ?_; rintro e w3 ⟨rfl, b3⟩
      have ho := block_past (p := .cells #[.int .i64 (p : Int), .int .i64 (j : Int)] 31) (block_kept ho b3)
      have hx := block_past (p := .cells #[.int .i64 (p : Int), .int .i64 (j : Int)] 31) (block_kept hx b3)
      clear o1 o2 x1 x2
      obtain ⟨o1, o2, _, _⟩ := cell_two ho
      obtain ⟨x1, x2, _, _⟩ := cell_two hx
      have hy := heap_alloc_new w3 (.cells #[.int .i64 (p : Int), .int .i64 (j : Int)] 31)
      obtain ⟨y1, y2, _, _⟩ := cell_two hy
      have hb3 := balloc (bnext hb2 b3) (.cells #[.int .i64 (p : Int), .int .i64 (j : Int)] 31)
      clear b3 hb2
      go_wp2
      go_loop [15] (fun a => ∃ q : Nat, a = .int .i64 q ∧ 0 ≤ q ∧ q ≤ p) (fun a => p - (intOf a).toNat)
      case atStart => exact ⟨0, rfl, Nat.le_refl _, by omega⟩
      case round =>
        obtain ⟨q, rfl, hq1, hq2⟩ := hrel
        by_cases hq : q < p
        · have HQ := Lib.hid (HN.out q hq1 hq)
          go_wp2
          go_loop [16, 17] (fun b i => ∃ (k : Nat) (d : Bool), b = .bool d ∧ i = .int .i64 k ∧ k ≤ j ∧ Hid (d = true → ∀ m < k, bitAt s (q + m) = false)) (fun _ i => j - (intOf i).toNat)
          case atStart => exact ⟨0, true, rfl, rfl, Nat.zero_le _, Lib.hid (fun _ m hm => by omega)⟩
          case round =>
            obtain ⟨k, d, rfl, rfl, hk, HK⟩ := hrel
            cases d
            · by_cases hkj : k < j
              all_goals
                go_wp2
                exact ⟨⟨q + 1, by go_num, by omega, by omega⟩, by simp [intOf]; omega⟩
            · by_cases hkj : k < j
              · have H := Lib.hid (HB.out q k)
                have HS : Hid ((!bitAt s (q + k)) = true → ∀ m < k + 1, bitAt s (q + m) = false) := Lib.hid fun h m hm => by
                  by_cases e : m = k
                  · subst e; simpa using h
                  · exact HK.out rfl m (by omega)
                generalize bitAt s (q + k) = b at *
                clear HB
                go_wp2_with fail
                refine (H.out _).mono ?_; rintro e w' ⟨rfl, rfl⟩
                go_wp2
                exact ⟨⟨k + 1, !b, rfl, by go_num, by omega, HS⟩, by simp [intOf]; omega⟩
              · exfalso
                obtain rfl : k = j := by omega
                exact HQ.out (HK.out rfl)
        · obtain rfl : q = p := by omega
          go_wp2_with fail
          refine (AL.out _).mono ?_; rintro e w9 ⟨rfl, b9⟩
          go_wp2
          go_ret
          exact ⟨rfl, bnext hb3 b9⟩

end Go.Proofs.Ytddbceecamenhaa
