/- The walks of BitsHave, BitsFit, BitsBack, BitsCount. -/
import Derived.Test.YtddbceecamenhaaBAlive
namespace Go.Proofs.Ytddbceecamenhaa
set_option linter.unusedVariables false
open Go.RowKit

theorem below_boxed {w w1 : World} {o : Obj} (h : Below (w.alloc o).heap.size (w.alloc o) w1) : Below w.heap.size w w1 :=
  ((Below.refl _ _).alloc (Nat.le_refl _) _).trans (h.mono (by show _ ≤ (w.heap.push _).size; simp))

set_option maxHeartbeats 2000000 in
theorem have_walk (s : ByteArray) (hm : s.size ≤ maxLen) (i : Int) (hi : i ≤ 9223372036854775807) (on : Bool) (w : World) :
    Calls Try.prog 3 #[.string s, .int .i64 i, .bool on] w fun e w' => e = .returned (.bool true) ∧ Below w.heap.size w w' := by
  unfold maxLen at hm
  by_cases hs : s.size ≤ 2000
  · have C1 := Lib.hid (has_any s hs i)
    have C2 := Lib.hid (rhas_any s hs i hi)
    have C3 := Lib.hid (with_any s hs i on)
    have C4 := Lib.hid (rwith_any s hs i hi on)
    have AL := Lib.hid alive_any
    generalize hasV s i = b at *
    generalize withV s i on = t at *
    have d1 : (b == b) = true := by simp
    have d2 : (t.toList == t.toList) = true := by simp
    go_enter Try.func3, Try.ntmps3
    go_wp2_with fail
    refine (C1.out _).mono ?_; rintro e w' ⟨rfl, rfl⟩
    go_wp2_with fail
    refine (C2.out _).mono ?_; rintro e w' ⟨rfl, rfl⟩
    go_wp2_with fail
    refine (C3.out _).mono ?_; rintro e w1 ⟨rfl, b1⟩
    go_wp2_with fail
    refine (C4.out _).mono ?_; rintro e w2 ⟨rfl, b2⟩
    go_wp2_with fail
    refine (AL.out _).mono ?_; rintro e w3 ⟨rfl, b3⟩
    go_wp2
    go_ret
    exact ⟨rfl, bnext (bnext b1 b2) b3⟩
  · have hs : 2000 < s.size := by omega
    go_enter Try.func3, Try.ntmps3
    go_wp2
    go_ret
    exact ⟨rfl, Below.refl _ _⟩

set_option maxHeartbeats 4000000 in
theorem fit_walk (s : ByteArray) (hm : s.size ≤ maxLen) (n : Int) (hn : n ≤ 9223372036854775807) (size «from» : Int) (hf : «from» ≤ 9223372036854775807) (w : World) :
    Calls Try.prog 5 #[.string s, .int .i64 n, .agg #[.int .i64 size, .int .i64 «from»]] w fun e w' => e = .returned (.bool true) ∧ Below w.heap.size w w' := by
  unfold maxLen at hm
  have hbox : Below w.heap.size w (w.alloc (.cells #[.int .i64 size, .int .i64 «from»] 33)) := (Below.refl _ _).alloc (Nat.le_refl _) _
  by_cases hs : s.size ≤ 600
  · have hs2 : s.size ≤ 2000 := by omega
    have C1 := Lib.hid (ffirst_any s hs2 n «from» hf)
    have C2 := Lib.hid (rffirst_any s hs2 n «from» hn hf)
    have C3 := fit_any s hs2 n size «from» hf
    have C4 := rfit_any s hs2 n size «from» hn hf
    have AL := Lib.hid alive_any
    generalize fitV (runs (bitAt s) (firstV s n)) 1 «from» = o at *
    generalize fitV (runs (bitAt s) (firstV s n)) size «from» = q at *
    unfold fitRes at C3 C4
    generalize fitLen q size = z at *
    generalize q.getD 0 = y at *
    generalize q.isSome = b at *
    generalize o.getD 0 = x at *
    generalize o.isSome = c at *
    have C3 := Lib.hid C3
    have C4 := Lib.hid C4
    have d1 : (b == b) = true := by simp
    have d2 : (c == c) = true := by simp
    have hbx : (w.alloc (.cells #[.int .i64 size, .int .i64 «from»] 33)).heap[w.heap.size]? = some (.cells #[.int .i64 size, .int .i64 «from»] 33 (0, 0)) := heap_alloc_new _ _
    have rh := run_held
    go_enter Try.func5, Try.ntmps5
    go_wp2_with fail
    refine (C1.out _).mono ?_; rintro e w1 ⟨rfl, b1⟩
    have h1 := block_kept hbx b1
    obtain ⟨p1, p2, _, _⟩ := cell_two h1
    go_wp2_with fail
    refine (C2.out _).mono ?_; rintro e w2 ⟨rfl, b2⟩
    have h2 := block_kept h1 b2
    obtain ⟨p3, p4, _, _⟩ := cell_two h2
    clear p1 p2
    go_wp2_with fail
    refine (C3.out _).mono ?_; rintro e w3 ⟨rfl, b3⟩
    have h3 := block_past (p := .cells #[.int .i64 y, .int .i64 z] 31) (block_kept h2 b3)
    obtain ⟨p5, p6, _, _⟩ := cell_two h3
    clear p3 p4
    go_wp2_with fail
    refine (C4.out _).mono ?_; rintro e w4 ⟨rfl, b4⟩
    have h4 := block_past (p := .cells #[.int .i64 y, .int .i64 z] 31) (block_kept (heap_alloc_new w3 (.cells #[.int .i64 y, .int .i64 z] 31)) b4)
    obtain ⟨p7, p8, _, _⟩ := cell_two h4
    have hb := balloc (bnext (balloc (bnext (bnext (bnext hbox b1) b2) b3) _) b4) (.cells #[.int .i64 y, .int .i64 z] 31)
    clear p5 p6 h1 h2 h3 h4 b1 b2 b3 b4
    go_wp2_with fail
    refine (AL.out _).mono ?_; rintro e w5 ⟨rfl, b5⟩
    go_wp2
    go_ret
    exact ⟨rfl, bnext hb b5⟩
  · have hs : 600 < s.size := by omega
    go_enter Try.func5, Try.ntmps5
    go_wp2
    go_ret
    exact ⟨rfl, hbox⟩

set_option maxHeartbeats 2000000 in
theorem back_same (s t : ByteArray) (hs : s.size ≤ 2000) (hsz : t.size = s.size) (k : Nat) (hk8 : k / 8 < s.size) (hk16 : k ≤ 16000) (other : Int) (b : Bool) (he : other = k)
    (C1 : ∀ w, Calls Try.prog 10 #[.string s, .int .i64 k] w fun e w' => e = .returned (.bool b) ∧ w = w')
    (C2 : ∀ w, Calls Try.prog 12 #[.string s, .int .i64 k, .bool !b] w fun e w' => e = .returned (.string t) ∧ Below w.heap.size w w')
    (C3 : ∀ w, Calls Try.prog 10 #[.string t, .int .i64 k] w fun e w' => e = .returned (.bool !b) ∧ w = w')
    (C6 : ∀ w, Calls Try.prog 12 #[.string t, .int .i64 k, .bool b] w fun e w' => e = .returned (.string s) ∧ Below w.heap.size w w')
    (C7 : ∀ w, Calls Try.prog 12 #[.string s, .int .i64 k, .bool b] w fun e w' => e = .returned (.string s) ∧ Below w.heap.size w w') (w : World) :
    Calls Try.prog 6 #[.string s, .int .i64 k, .int .i64 other] w fun e w' => e = .returned (.bool true) ∧ Below w.heap.size w w' := by
  have C1 := Lib.hid C1
  have C2 := Lib.hid C2
  have C3 := Lib.hid C3
  have C6 := Lib.hid C6
  have C7 := Lib.hid C7
  have AL := Lib.hid alive_any
  have d0 : ((t.size : Int) == (s.size : Int)) = true := by rw [hsz]; simp
  have d1 : ((!b) == !b) = true := by simp
  have d2 : (s.toList == s.toList) = true := by simp
  have d3 : ((other : Int) == (k : Int)) = true := by rw [he]; simp
  clear hsz he
  go_enter Try.func6, Try.ntmps6
  go_wp2_with fail
  refine (C1.out _).mono ?_; rintro e w' ⟨rfl, rfl⟩
  go_wp2_with fail
  refine (C2.out _).mono ?_; rintro e w1 ⟨rfl, b1⟩
  go_wp2_with fail
  refine (C3.out _).mono ?_; rintro e w' ⟨rfl, rfl⟩
  go_wp2_with fail
  refine (C6.out _).mono ?_; rintro e w2 ⟨rfl, b2⟩
  go_wp2_with fail
  refine (C7.out _).mono ?_; rintro e w3 ⟨rfl, b3⟩
  go_wp2_with fail
  refine (AL.out _).mono ?_; rintro e w4 ⟨rfl, b4⟩
  go_wp2
  go_ret
  exact ⟨rfl, bnext (bnext (bnext b1 b2) b3) b4⟩

set_option maxHeartbeats 2000000 in
theorem back_other (s t : ByteArray) (hs : s.size ≤ 2000) (hsz : t.size = s.size) (k : Nat) (hk8 : k / 8 < s.size) (hk16 : k ≤ 16000) (other : Int) (b c : Bool) (he : other ≠ k)
    (C1 : ∀ w, Calls Try.prog 10 #[.string s, .int .i64 k] w fun e w' => e = .returned (.bool b) ∧ w = w')
    (C2 : ∀ w, Calls Try.prog 12 #[.string s, .int .i64 k, .bool !b] w fun e w' => e = .returned (.string t) ∧ Below w.heap.size w w')
    (C3 : ∀ w, Calls Try.prog 10 #[.string t, .int .i64 k] w fun e w' => e = .returned (.bool !b) ∧ w = w')
    (C4 : ∀ w, Calls Try.prog 10 #[.string t, .int .i64 other] w fun e w' => e = .returned (.bool c) ∧ w = w')
    (C5 : ∀ w, Calls Try.prog 10 #[.string s, .int .i64 other] w fun e w' => e = .returned (.bool c) ∧ w = w')
    (C6 : ∀ w, Calls Try.prog 12 #[.string t, .int .i64 k, .bool b] w fun e w' => e = .returned (.string s) ∧ Below w.heap.size w w')
    (C7 : ∀ w, Calls Try.prog 12 #[.string s, .int .i64 k, .bool b] w fun e w' => e = .returned (.string s) ∧ Below w.heap.size w w') (w : World) :
    Calls Try.prog 6 #[.string s, .int .i64 k, .int .i64 other] w fun e w' => e = .returned (.bool true) ∧ Below w.heap.size w w' := by
  have C1 := Lib.hid C1
  have C2 := Lib.hid C2
  have C3 := Lib.hid C3
  have C4 := Lib.hid C4
  have C5 := Lib.hid C5
  have C6 := Lib.hid C6
  have C7 := Lib.hid C7
  have AL := Lib.hid alive_any
  have d0 : ((t.size : Int) == (s.size : Int)) = true := by rw [hsz]; simp
  have d1 : ((!b) == !b) = true := by simp
  have d2 : (s.toList == s.toList) = true := by simp
  have d4 : (c == c) = true := by simp
  have d3 : ((other : Int) == (k : Int)) = false := by rw [beq_eq_false_iff_ne]; exact he
  clear hsz he
  go_enter Try.func6, Try.ntmps6
  go_wp2_with fail
  refine (C1.out _).mono ?_; rintro e w' ⟨rfl, rfl⟩
  go_wp2_with fail
  refine (C2.out _).mono ?_; rintro e w1 ⟨rfl, b1⟩
  go_wp2_with fail
  refine (C3.out _).mono ?_; rintro e w' ⟨rfl, rfl⟩
  go_wp2_with fail
  refine (C4.out _).mono ?_; rintro e w' ⟨rfl, rfl⟩
  go_wp2_with fail
  refine (C5.out _).mono ?_; rintro e w' ⟨rfl, rfl⟩
  go_wp2_with fail
  refine (C6.out _).mono ?_; rintro e w2 ⟨rfl, b2⟩
  go_wp2_with fail
  refine (C7.out _).mono ?_; rintro e w3 ⟨rfl, b3⟩
  go_wp2_with fail
  refine (AL.out _).mono ?_; rintro e w4 ⟨rfl, b4⟩
  go_wp2
  go_ret
  exact ⟨rfl, bnext (bnext (bnext b1 b2) b3) b4⟩

set_option maxHeartbeats 2000000 in
theorem back_neg (s : ByteArray) (hs : s.size ≤ 2000) (i : Int) (h0 : i < 0) (other : Int)
    (C1 : ∀ w, Calls Try.prog 10 #[.string s, .int .i64 i] w fun e w' => e = .returned (.bool false) ∧ w = w')
    (C2 : ∀ w, Calls Try.prog 12 #[.string s, .int .i64 i, .bool true] w fun e w' => e = .returned (.string s) ∧ Below w.heap.size w w') (w : World) :
    Calls Try.prog 6 #[.string s, .int .i64 i, .int .i64 other] w fun e w' => e = .returned (.bool true) ∧ Below w.heap.size w w' := by
  have C1 := Lib.hid C1
  have C2 := Lib.hid C2
  have AL := Lib.hid alive_any
  have d2 : (s.toList == s.toList) = true := by simp
  go_enter Try.func6, Try.ntmps6
  go_wp2_with fail
  refine (C1.out _).mono ?_; rintro e w' ⟨rfl, rfl⟩
  go_wp2_with fail
  refine (C2.out _).mono ?_; rintro e w1 ⟨rfl, b1⟩
  go_wp2_with fail
  refine (AL.out _).mono ?_; rintro e w4 ⟨rfl, b4⟩
  go_wp2
  go_ret
  exact ⟨rfl, bnext b1 b4⟩

set_option maxHeartbeats 2000000 in
theorem back_out (s : ByteArray) (hs : s.size ≤ 2000) (i : Nat) (hi : i ≤ 9223372036854775807) (h0 : s.size ≤ i / 8) (other : Int)
    (C1 : ∀ w, Calls Try.prog 10 #[.string s, .int .i64 i] w fun e w' => e = .returned (.bool false) ∧ w = w')
    (C2 : ∀ w, Calls Try.prog 12 #[.string s, .int .i64 i, .bool true] w fun e w' => e = .returned (.string s) ∧ Below w.heap.size w w') (w : World) :
    Calls Try.prog 6 #[.string s, .int .i64 i, .int .i64 other] w fun e w' => e = .returned (.bool true) ∧ Below w.heap.size w w' := by
  have C1 := Lib.hid C1
  have C2 := Lib.hid C2
  have AL := Lib.hid alive_any
  have d2 : (s.toList == s.toList) = true := by simp
  go_enter Try.func6, Try.ntmps6
  go_wp2_with fail
  refine (C1.out _).mono ?_; rintro e w' ⟨rfl, rfl⟩
  go_wp2_with fail
  refine (C2.out _).mono ?_; rintro e w1 ⟨rfl, b1⟩
  go_wp2_with fail
  refine (AL.out _).mono ?_; rintro e w4 ⟨rfl, b4⟩
  go_wp2
  go_ret
  exact ⟨rfl, bnext b1 b4⟩

theorem back_walk (s : ByteArray) (hm : s.size ≤ maxLen) (i other : Int) (hi : i ≤ 9223372036854775807) (w : World) :
    Calls Try.prog 6 #[.string s, .int .i64 i, .int .i64 other] w fun e w' => e = .returned (.bool true) ∧ Below w.heap.size w w' := by
  unfold maxLen at hm
  by_cases hs : s.size ≤ 2000
  · have C1 := has_any s hs i
    have C2 := with_any s hs i (!hasV s i)
    rcases bit_cases s i with ⟨k, rfl, hk⟩ | h
    · rw [withV_yes hk] at C2
      rw [hasV_nat] at C1 C2
      have hsz : (withS s k (!bitAt s k)).size = s.size := withS_size _ _ _
      have C3 := has_any (withS s k (!bitAt s k)) (by rw [hsz]; exact hs) k
      rw [hasV_nat, bit_with s k _ hk, if_pos rfl] at C3
      have C4 := has_any (withS s k (!bitAt s k)) (by rw [hsz]; exact hs) other
      have C5 := has_any s hs other
      have C6 := with_any (withS s k (!bitAt s k)) (by rw [hsz]; exact hs) k (bitAt s k)
      rw [withV_yes (by rw [hsz]; exact hk), with_twice s k _ _ hk, with_same s k hk] at C6
      have C7 := with_any s hs k (bitAt s k)
      rw [withV_yes hk, with_same s k hk] at C7
      have ho : other ≠ k → hasV (withS s k (!bitAt s k)) other = hasV s other := by
        intro hne
        unfold hasV isBit
        rw [hsz]
        by_cases h0 : 0 ≤ other
        · obtain ⟨m, rfl⟩ := Int.eq_ofNat_of_zero_le h0
          show (_ && bitAt _ m) = (_ && bitAt _ m)
          rw [bit_with s k _ hk, if_neg (by omega)]
        · rw [decide_eq_false (by omega)]; rfl
      by_cases he : other = k
      · exact back_same s _ hs hsz k (by omega) (by omega) other _ he C1 C2 C3 C6 C7 w
      · rw [ho he] at C4
        exact back_other s _ hs hsz k (by omega) (by omega) other _ _ he C1 C2 C3 C4 C5 C6 C7 w
    · rw [withV_no h] at C2
      rw [hasV_no h] at C1 C2
      by_cases h0 : i < 0
      · exact back_neg s hs i h0 other C1 C2 w
      · obtain ⟨m, rfl⟩ := Int.eq_ofNat_of_zero_le (show 0 ≤ i by omega)
        exact back_out s hs m (by omega) (by omega) other C1 C2 w
  · have hs : 2000 < s.size := by omega
    go_enter Try.func6, Try.ntmps6
    go_wp2
    go_ret
    exact ⟨rfl, Below.refl _ _⟩
end Go.Proofs.Ytddbceecamenhaa
