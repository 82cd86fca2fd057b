/- The walk of BitsTaken. -/
import Derived.Test.YtddbceecamenhaaBCount
import Derived.Test.YtddbceecamenhaaBLeast
namespace Go.Proofs.Ytddbceecamenhaa
set_option linter.unusedVariables false
open Go.RowKit

set_option maxHeartbeats 2000000 in
theorem taken_none (s : ByteArray) (hs : s.size ≤ 600) (n «from» : Int)
    (C1 : ∀ w, Calls Try.prog 20 #[.string s, .int .i64 n, .int .i64 «from»] w fun e w' => e = .returned (.tuple #[.int .i64 0, .bool false]) ∧ Below w.heap.size w w')
    (C2 : ∀ w, Calls Try.prog 15 #[.string s, .int .i64 n] w fun e w' => ∃ v, e = .returned v ∧ RunsAt w.heap.size v [] w' ∧ Below w.heap.size w w') (w : World) :
    Calls Try.prog 9 #[.string s, .int .i64 n, .int .i64 «from»] w fun e w' => e = .returned (.bool true) ∧ Below w.heap.size w w' := by
  have C1 := Lib.hid C1
  have C2 := Lib.hid C2
  have AL := Lib.hid alive_any
  go_enter Try.func9, Try.ntmps9
  go_wp2_with fail
  refine (C1.out _).mono ?_; rintro e w1 ⟨rfl, b1⟩
  go_wp2_with fail
  refine (C2.out _).mono ?_; rintro e w2 ⟨v, rfl, hr, b2⟩
  obtain ⟨ad, cap, rfl, _⟩ := shape_of hr
  go_wp2_with fail
  refine (AL.out _).mono ?_; rintro e w3 ⟨rfl, b3⟩
  go_wp2
  go_ret
  exact ⟨rfl, bnext (bnext b1 b2) b3⟩

set_option maxHeartbeats 4000000 in
theorem taken_last (s t : ByteArray) (hs : s.size ≤ 600) (n «from» : Int) (k c : Nat) (hk : k ≤ 16000) (hc : c ≤ 16000)
    (C1 : ∀ w, Calls Try.prog 20 #[.string s, .int .i64 n, .int .i64 «from»] w fun e w' => e = .returned (.tuple #[.int .i64 (k : Int), .bool true]) ∧ Below w.heap.size w w')
    (C2 : ∀ w, Calls Try.prog 12 #[.string s, .int .i64 k, .bool true] w fun e w' => e = .returned (.string t) ∧ Below w.heap.size w w')
    (C3 : ∀ w, Calls Try.prog 20 #[.string t, .int .i64 n, .int .i64 «from»] w fun e w' => e = .returned (.tuple #[.int .i64 0, .bool false]) ∧ Below w.heap.size w w')
    (C4 : ∀ w, Calls Try.prog 20 #[.string t, .int .i64 n, .int .i64 ((k : Int) + 1)] w fun e w' => e = .returned (.tuple #[.int .i64 0, .bool false]) ∧ Below w.heap.size w w')
    (C5 : ∀ w, Calls Try.prog 17 #[.string t, .int .i64 n] w fun e w' => e = .returned (.int .i64 ((c + 1 : Nat) : Int)) ∧ w = w')
    (C6 : ∀ w, Calls Try.prog 17 #[.string s, .int .i64 n] w fun e w' => e = .returned (.int .i64 (c : Int)) ∧ w = w')
    (C7 : ∀ w, Calls Try.prog 15 #[.string t, .int .i64 n] w fun e w' => ∃ v, e = .returned v ∧ RunsAt w.heap.size v [] w' ∧ Below w.heap.size w w') (w : World) :
    Calls Try.prog 9 #[.string s, .int .i64 n, .int .i64 «from»] w fun e w' => e = .returned (.bool true) ∧ Below w.heap.size w w' := by
  have C1 := Lib.hid C1
  have C2 := Lib.hid C2
  have C3 := Lib.hid C3
  have C4 := Lib.hid C4
  have C5 := Lib.hid C5
  have C6 := Lib.hid C6
  have C7 := Lib.hid C7
  have AL := Lib.hid alive_any
  go_enter Try.func9, Try.ntmps9
  go_wp2_with fail
  refine (C1.out _).mono ?_; rintro e w1 ⟨rfl, b1⟩
  go_wp2_with fail
  refine (C2.out _).mono ?_; rintro e w2 ⟨rfl, b2⟩
  go_wp2_with fail
  refine (C3.out _).mono ?_; rintro e w3 ⟨rfl, b3⟩
  go_wp2_with fail
  refine (C4.out _).mono ?_; rintro e w4 ⟨rfl, b4⟩
  go_wp2_with fail
  refine (C5.out _).mono ?_; rintro e w' ⟨rfl, rfl⟩
  go_wp2_with fail
  refine (C6.out _).mono ?_; rintro e w' ⟨rfl, rfl⟩
  go_wp2_with fail
  refine (C7.out _).mono ?_; rintro e w5 ⟨v, rfl, hr, b5⟩
  obtain ⟨ad, cap, rfl, _⟩ := shape_of hr
  go_wp2_with fail
  refine (AL.out _).mono ?_; rintro e w6 ⟨rfl, b6⟩
  go_wp2
  go_ret
  exact ⟨rfl, bnext (bnext (bnext (bnext (bnext b1 b2) b3) b4) b5) b6⟩

set_option maxHeartbeats 4000000 in
theorem taken_again (s t : ByteArray) (hs : s.size ≤ 600) (n «from» : Int) (k c : Nat) (hk : k ≤ 16000) (hc : c ≤ 16000) (m m' : Int) (l : List (Nat × Nat)) (hl : 0 < l.length) (hm : m ≠ k) (he : (k : Int) < «from» ∨ («from» ≤ (k : Int) ∧ m = m'))
    (C1 : ∀ w, Calls Try.prog 20 #[.string s, .int .i64 n, .int .i64 «from»] w fun e w' => e = .returned (.tuple #[.int .i64 (k : Int), .bool true]) ∧ Below w.heap.size w w')
    (C2 : ∀ w, Calls Try.prog 12 #[.string s, .int .i64 k, .bool true] w fun e w' => e = .returned (.string t) ∧ Below w.heap.size w w')
    (C3 : ∀ w, Calls Try.prog 20 #[.string t, .int .i64 n, .int .i64 «from»] w fun e w' => e = .returned (.tuple #[.int .i64 m, .bool true]) ∧ Below w.heap.size w w')
    (C4 : ∀ w, Calls Try.prog 20 #[.string t, .int .i64 n, .int .i64 ((k : Int) + 1)] w fun e w' => e = .returned (.tuple #[.int .i64 m', .bool true]) ∧ Below w.heap.size w w')
    (C5 : ∀ w, Calls Try.prog 17 #[.string t, .int .i64 n] w fun e w' => e = .returned (.int .i64 ((c + 1 : Nat) : Int)) ∧ w = w')
    (C6 : ∀ w, Calls Try.prog 17 #[.string s, .int .i64 n] w fun e w' => e = .returned (.int .i64 (c : Int)) ∧ w = w')
    (C7 : ∀ w, Calls Try.prog 15 #[.string t, .int .i64 n] w fun e w' => ∃ v, e = .returned v ∧ RunsAt w.heap.size v l w' ∧ Below w.heap.size w w') (w : World) :
    Calls Try.prog 9 #[.string s, .int .i64 n, .int .i64 «from»] w fun e w' => e = .returned (.bool true) ∧ Below w.heap.size w w' := by
  have C1 := Lib.hid C1
  have C2 := Lib.hid C2
  have C3 := Lib.hid C3
  have C4 := Lib.hid C4
  have C5 := Lib.hid C5
  have C6 := Lib.hid C6
  have C7 := Lib.hid C7
  have AL := Lib.hid alive_any
  have d1 : (m != (k : Int)) = true := by rw [bne_iff_ne]; exact hm
  rcases he with he | ⟨he, rfl⟩
  · go_enter Try.func9, Try.ntmps9
    go_wp2_with fail
    refine (C1.out _).mono ?_; rintro e w1 ⟨rfl, b1⟩
    go_wp2_with fail
    refine (C2.out _).mono ?_; rintro e w2 ⟨rfl, b2⟩
    go_wp2_with fail
    refine (C3.out _).mono ?_; rintro e w3 ⟨rfl, b3⟩
    go_wp2_with fail
    refine (C4.out _).mono ?_; rintro e w4 ⟨rfl, b4⟩
    go_wp2_with fail
    refine (C5.out _).mono ?_; rintro e w' ⟨rfl, rfl⟩
    go_wp2_with fail
    refine (C6.out _).mono ?_; rintro e w' ⟨rfl, rfl⟩
    go_wp2_with fail
    refine (C7.out _).mono ?_; rintro e w5 ⟨v, rfl, hr, b5⟩
    obtain ⟨ad, cap, rfl, _⟩ := shape_of hr
    go_wp2_with fail
    refine (AL.out _).mono ?_; rintro e w6 ⟨rfl, b6⟩
    go_wp2
    go_ret
    exact ⟨rfl, bnext (bnext (bnext (bnext (bnext b1 b2) b3) b4) b5) b6⟩
  · have d2 : (m == m) = true := by simp
    go_enter Try.func9, Try.ntmps9
    go_wp2_with fail
    refine (C1.out _).mono ?_; rintro e w1 ⟨rfl, b1⟩
    go_wp2_with fail
    refine (C2.out _).mono ?_; rintro e w2 ⟨rfl, b2⟩
    go_wp2_with fail
    refine (C3.out _).mono ?_; rintro e w3 ⟨rfl, b3⟩
    go_wp2_with fail
    refine (C4.out _).mono ?_; rintro e w4 ⟨rfl, b4⟩
    go_wp2_with fail
    refine (C5.out _).mono ?_; rintro e w' ⟨rfl, rfl⟩
    go_wp2_with fail
    refine (C6.out _).mono ?_; rintro e w' ⟨rfl, rfl⟩
    go_wp2_with fail
    refine (C7.out _).mono ?_; rintro e w5 ⟨v, rfl, hr, b5⟩
    obtain ⟨ad, cap, rfl, _⟩ := shape_of hr
    go_wp2_with fail
    refine (AL.out _).mono ?_; rintro e w6 ⟨rfl, b6⟩
    go_wp2
    go_ret
    exact ⟨rfl, bnext (bnext (bnext (bnext (bnext b1 b2) b3) b4) b5) b6⟩

theorem hit_size {s t : ByteArray} (h : s.size = t.size) (n : Int) : firstV s n = firstV t n := by unfold firstV; rw [h]

theorem taken_walk (s : ByteArray) (hm : s.size ≤ maxLen) (n «from» : Int) (hf : «from» ≤ 9223372036854775807) (w : World) :
    Calls Try.prog 9 #[.string s, .int .i64 n, .int .i64 «from»] w fun e w' => e = .returned (.bool true) ∧ Below w.heap.size w w' := by
  unfold maxLen at hm
  by_cases hs : s.size ≤ 600
  · have hs2 : s.size ≤ 2000 := by omega
    have hN := firstV_le s n
    have C1 := ffirst_any s hs2 n «from» hf
    have C6 := count_any s hs2 n
    rcases fit_sound (bitAt s) (firstV s n) 1 «from» (Nat.le_refl _) _ rfl with ⟨h1, h2⟩ | ⟨k, h1, h2⟩
    · rw [show ((1 : Nat) : Int) = 1 from rfl] at h1
      rw [h1] at C1
      have C2 := free_any s hs2 n
      rw [runs_empty h2] at C2
      exact taken_none s hs n «from» C1 C2 w
    · rw [show ((1 : Nat) : Int) = 1 from rfl] at h1
      rw [h1] at C1
      have hkN : k < firstV s n := by have := h2.1.1; omega
      have hk8 : k < 8 * s.size := by omega
      have C2 := with_any s hs2 k true
      rw [withV_yes hk8] at C2
      have ht2 : (withS s k true).size ≤ 2000 := by rw [withS_size]; exact hs2
      have hfs : firstV (withS s k true) n = firstV s n := hit_size (withS_size s k true) n
      have C3 := ffirst_any (withS s k true) ht2 n «from» hf
      have C4 := ffirst_any (withS s k true) ht2 n ((k : Int) + 1) (by omega)
      have C5 := count_any (withS s k true) ht2 n
      have C7 := free_any (withS s k true) ht2 n
      have hg : bitAt (withS s k true) k = true := by rw [bit_with s k true hk8, if_pos rfl]
      have ho : ∀ i, i ≠ k → bitAt (withS s k true) i = bitAt s i := fun i hi => by rw [bit_with s k true hk8, if_neg hi]
      have hfk : bitAt s k = false := by have := h2.1.2 0 (by omega); simpa using this
      rw [hfs] at C3 C4 C5 C7
      rw [cnt_set hfk hg ho, if_pos hkN] at C5
      have hc := cnt_le (bitAt s) (firstV s n)
      rcases fit_sound (bitAt (withS s k true)) (firstV s n) 1 «from» (Nat.le_refl _) _ rfl with ⟨g1, g2⟩ | ⟨m, g1, g2⟩
      · rw [show ((1 : Nat) : Int) = 1 from rfl] at g1
        rw [g1] at C3
        have g3 := fit_not (f := bitAt (withS s k true)) (n := firstV s n) («from» := (k : Int) + 1) (Nat.le_refl 1) g2
        rw [show ((1 : Nat) : Int) = 1 from rfl] at g3
        rw [g3] at C4
        rw [runs_empty g2] at C7
        exact taken_last s _ hs n «from» k _ (by omega) (by omega) C1 C2 C3 C4 C5 C6 C7 w
      · rw [show ((1 : Nat) : Int) = 1 from rfl] at g1
        rw [g1] at C3
        have hmk := ((hit_set hg ho).1 g2.1).2
        have hl := runs_full g2.1
        by_cases hlt : (k : Int) < «from»
        · rcases fit_sound (bitAt (withS s k true)) (firstV s n) 1 ((k : Int) + 1) (Nat.le_refl _) _ rfl with ⟨i1, i2⟩ | ⟨m', i1, i2⟩
          · exact absurd g2.1 (i2 m)
          · rw [show ((1 : Nat) : Int) = 1 from rfl] at i1
            rw [i1] at C4
            exact taken_again s _ hs n «from» k _ (by omega) (by omega) m m' _ hl (by omega) (.inl hlt) C1 C2 C3 C4 C5 C6 C7 w
        · have i1 := fit_is (Nat.le_refl 1) (taken_next hg ho h2 (by omega) g2)
          rw [show ((1 : Nat) : Int) = 1 from rfl] at i1
          rw [i1] at C4
          exact taken_again s _ hs n «from» k _ (by omega) (by omega) m m _ hl (by omega) (.inr ⟨by omega, rfl⟩) C1 C2 C3 C4 C5 C6 C7 w
  · have hs : 600 < s.size := by omega
    go_enter Try.func9, Try.ntmps9
    go_wp2
    go_ret
    exact ⟨rfl, Below.refl _ _⟩
end Go.Proofs.Ytddbceecamenhaa
