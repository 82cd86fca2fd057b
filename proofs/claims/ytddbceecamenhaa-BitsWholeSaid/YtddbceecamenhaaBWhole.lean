/- The walk of BitsWhole. -/
import Derived.Test.YtddbceecamenhaaBTaken
namespace Go.Proofs.Ytddbceecamenhaa
open Go.RowKit

def mostL : List (Nat × Nat) → Nat
  | [] => 0
  | r :: l => max r.2 (mostL l)
theorem mostL_append : ∀ a b, mostL (a ++ b) = max (mostL a) (mostL b)
  | [], b => by simp [mostL]
  | r :: a, b => by rw [List.cons_append, mostL, mostL, mostL_append a b]; omega
theorem mostL_in : ∀ (l : List (Nat × Nat)) (size : Nat), 1 ≤ size → (size ≤ mostL l ↔ ∃ r ∈ l, size ≤ r.2)
  | [], size, h => by simp [mostL]; omega
  | r :: l, size, h => by
    rw [mostL]
    have ih := mostL_in l size h
    constructor
    · intro hm
      by_cases hr : size ≤ r.2
      · exact ⟨r, by simp, hr⟩
      · obtain ⟨q, hq, hs⟩ := ih.1 (by omega)
        exact ⟨q, by simp [hq], hs⟩
    · rintro ⟨q, hq, hs⟩
      rcases List.mem_cons.1 hq with rfl | hq
      · omega
      · have := ih.2 ⟨q, hq, hs⟩; omega
theorem mostL_le {n : Nat} : ∀ {e : Int} {l : List (Nat × Nat)}, Rising n e l → mostL l ≤ n
  | _, _, .nil _ => Nat.zero_le _
  | _, _, .cons a b c d => by rw [mostL]; have := mostL_le d; omega
theorem fit_whole (l : List (Nat × Nat)) (size : Int) : (fitV l size 0).isSome = (decide (1 ≤ size) && decide (size ≤ (mostL l : Int))) := by
  by_cases h : size < 1
  · have e : fitV l size 0 = none := by unfold fitV; rw [if_pos h]
    rw [e, decide_eq_false (by omega)]; rfl
  · obtain ⟨z, rfl⟩ := Int.eq_ofNat_of_zero_le (show 0 ≤ size by omega)
    rw [decide_eq_true (by omega), Bool.true_and, Bool.eq_iff_iff, decide_eq_true_eq]
    have hm := mostL_in l z (by omega)
    unfold fitV
    rw [if_neg h]
    cases h1 : l.find? (roomAt z 0) with
    | some r =>
      have hmem := List.mem_of_find?_eq_some h1
      have hr := List.find?_some h1
      unfold roomAt at hr
      rw [decide_eq_true_eq] at hr
      have := hm.2 ⟨r, hmem, by omega⟩
      simp; omega
    | none =>
      cases h2 : l.find? (roomIn z) with
      | some r =>
        have hmem := List.mem_of_find?_eq_some h2
        have hr := List.find?_some h2
        unfold roomIn at hr
        rw [decide_eq_true_eq] at hr
        have := hm.2 ⟨r, hmem, by omega⟩
        simp; omega
      | none =>
        simp
        apply Decidable.byContradiction
        intro hc
        obtain ⟨r, hr, hs⟩ := hm.1 (by omega)
        have := List.find?_eq_none.1 h2 r hr
        apply this
        unfold roomIn; rw [decide_eq_true_eq]; omega

theorem rising_drop {n k : Nat} {e : Int} {l : List (Nat × Nat)} (hk : k < l.length) (h : Rising n e (l.drop k)) : e < l[k].1 ∧ 1 ≤ l[k].2 ∧ l[k].1 + l[k].2 ≤ n ∧ Rising n ((l[k].1 + l[k].2 : Nat) : Int) (l.drop (k + 1)) := by
  rw [List.drop_eq_getElem_cons hk] at h
  cases h with
  | cons a b c d => exact ⟨a, b, c, d⟩

set_option maxHeartbeats 4000000 in
theorem whole_neg (s : ByteArray) (hs : s.size ≤ 600) (n q size y z : Int) (b : Bool) (hn : n < 0) (hq : wrap64 (n.tdiv 8) = q) (h0 : 0 < s.size) (h1 : q ≤ 0) (hb : b = false)
    (C1 : ∀ w, Calls Try.prog 15 #[.string s, .int .i64 n] w fun e w' => ∃ v, e = .returned v ∧ RunsAt w.heap.size v [] w' ∧ Below w.heap.size w w')
    (C2 : ∀ w, Calls Try.prog 22 #[.string s, .int .i64 n, .int .i64 size, .int .i64 0] w fun e w' => e = .returned (.tuple #[.agg #[.int .i64 y, .int .i64 z], .bool b]) ∧ Below w.heap.size w w')
    (C3 : ∀ w, Calls Try.prog 17 #[.string s, .int .i64 n] w fun e w' => e = .returned (.int .i64 0) ∧ w = w') (w : World) :
    Calls Try.prog 7 #[.string s, .int .i64 n, .int .i64 size] w fun e w' => e = .returned (.bool true) ∧ Below w.heap.size w w' := by
  have C1 := Lib.hid C1
  have C2 := Lib.hid C2
  have C3 := Lib.hid C3
  have AL := Lib.hid alive_any
  subst hb
  rcases (show size < 1 ∨ 1 ≤ size by omega) with h | h
  all_goals
    go_enter Try.func7, Try.ntmps7
    go_wp2_with fail
    refine (C1.out _).mono ?_; rintro e w1 ⟨v, rfl, hr, b1⟩
    obtain ⟨ad, cap, rfl, _⟩ := shape_of hr
    go_wp2
    refine wp_loop_rounds 1 ?_
    rw [rounds_succ]
    go_wp2_with fail
    refine (C2.out _).mono ?_; rintro e w2 ⟨rfl, b2⟩
    go_wp2_with fail
    refine (C3.out _).mono ?_; rintro e w' ⟨rfl, rfl⟩
    go_wp2_with fail
    refine (AL.out _).mono ?_; rintro e w3 ⟨rfl, b3⟩
    go_wp2
    go_ret
    exact ⟨ret_bool (by first | rfl | (simp; omega)), bnext (balloc (bnext b1 b2) _) b3⟩

set_option maxHeartbeats 4000000 in
theorem whole_none (s : ByteArray) (hs : s.size ≤ 600) (n q size y z : Int) (b : Bool) (hn : n < 0) (hq : wrap64 (n.tdiv 8) = q) (h0 : s.size = 0) (h1 : 0 ≤ q) (hb : b = false)
    (C1 : ∀ w, Calls Try.prog 15 #[.string s, .int .i64 n] w fun e w' => ∃ v, e = .returned v ∧ RunsAt w.heap.size v [] w' ∧ Below w.heap.size w w')
    (C2 : ∀ w, Calls Try.prog 22 #[.string s, .int .i64 n, .int .i64 size, .int .i64 0] w fun e w' => e = .returned (.tuple #[.agg #[.int .i64 y, .int .i64 z], .bool b]) ∧ Below w.heap.size w w')
    (C3 : ∀ w, Calls Try.prog 17 #[.string s, .int .i64 n] w fun e w' => e = .returned (.int .i64 0) ∧ w = w') (w : World) :
    Calls Try.prog 7 #[.string s, .int .i64 n, .int .i64 size] w fun e w' => e = .returned (.bool true) ∧ Below w.heap.size w w' := by
  have C1 := Lib.hid C1
  have C2 := Lib.hid C2
  have C3 := Lib.hid C3
  have AL := Lib.hid alive_any
  subst hb
  rcases (show size < 1 ∨ 1 ≤ size by omega) with h | h
  all_goals
    go_enter Try.func7, Try.ntmps7
    go_wp2_with fail
    refine (C1.out _).mono ?_; rintro e w1 ⟨v, rfl, hr, b1⟩
    obtain ⟨ad, cap, rfl, _⟩ := shape_of hr
    go_wp2
    refine wp_loop_rounds 1 ?_
    rw [rounds_succ]
    go_wp2_with fail
    refine (C2.out _).mono ?_; rintro e w2 ⟨rfl, b2⟩
    go_wp2_with fail
    refine (C3.out _).mono ?_; rintro e w' ⟨rfl, rfl⟩
    go_wp2_with fail
    refine (AL.out _).mono ?_; rintro e w3 ⟨rfl, b3⟩
    go_wp2
    go_ret
    exact ⟨ret_bool (by first | rfl | (simp; omega)), bnext (balloc (bnext b1 b2) _) b3⟩

set_option maxHeartbeats 4000000 in
theorem whole_less (s : ByteArray) (hs : s.size ≤ 600) (n q size y z : Int) (b : Bool) (hn : n < 0) (hq : wrap64 (n.tdiv 8) = q) (h0 : s.size = 0) (h1 : q < 0) (hb : b = false)
    (C1 : ∀ w, Calls Try.prog 15 #[.string s, .int .i64 n] w fun e w' => ∃ v, e = .returned v ∧ RunsAt w.heap.size v [] w' ∧ Below w.heap.size w w')
    (C2 : ∀ w, Calls Try.prog 22 #[.string s, .int .i64 n, .int .i64 size, .int .i64 0] w fun e w' => e = .returned (.tuple #[.agg #[.int .i64 y, .int .i64 z], .bool b]) ∧ Below w.heap.size w w')
    (C3 : ∀ w, Calls Try.prog 17 #[.string s, .int .i64 n] w fun e w' => e = .returned (.int .i64 0) ∧ w = w') (w : World) :
    Calls Try.prog 7 #[.string s, .int .i64 n, .int .i64 size] w fun e w' => e = .returned (.bool true) ∧ Below w.heap.size w w' := by
  have C1 := Lib.hid C1
  have C2 := Lib.hid C2
  have C3 := Lib.hid C3
  have AL := Lib.hid alive_any
  subst hb
  rcases (show size < 1 ∨ 1 ≤ size by omega) with h | h
  all_goals
    go_enter Try.func7, Try.ntmps7
    go_wp2_with fail
    refine (C1.out _).mono ?_; rintro e w1 ⟨v, rfl, hr, b1⟩
    obtain ⟨ad, cap, rfl, _⟩ := shape_of hr
    go_wp2
    refine wp_loop_rounds 1 ?_
    rw [rounds_succ]
    go_wp2_with fail
    refine (C2.out _).mono ?_; rintro e w2 ⟨rfl, b2⟩
    go_wp2_with fail
    refine (C3.out _).mono ?_; rintro e w' ⟨rfl, rfl⟩
    go_wp2_with fail
    refine (AL.out _).mono ?_; rintro e w3 ⟨rfl, b3⟩
    go_wp2
    go_ret
    exact ⟨ret_bool (by first | rfl | (simp; omega)), bnext (balloc (bnext b1 b2) _) b3⟩

set_option maxRecDepth 100000 in
set_option maxHeartbeats 8000000 in
theorem whole_in (s : ByteArray) (hs : s.size ≤ 600)  (N cc : Nat) (l : List (Nat × Nat)) (size y z : Int) (b : Bool) (hn : N / 8 < s.size) (hN : N ≤ 8 * s.size) (hR : Rising N (-1) l) (hlen : l.length ≤ N) (hsum : sumLen l + cc = N) (hb : b = (decide (1 ≤ size) && decide (size ≤ (mostL l : Int))))
    (C1 : ∀ w, Calls Try.prog 15 #[.string s, .int .i64 (N : Int)] w fun e w' => ∃ v, e = .returned v ∧ RunsAt w.heap.size v l w' ∧ Below w.heap.size w w')
    (C2 : ∀ w, Calls Try.prog 22 #[.string s, .int .i64 (N : Int), .int .i64 size, .int .i64 0] w fun e w' => e = .returned (.tuple #[.agg #[.int .i64 y, .int .i64 z], .bool b]) ∧ Below w.heap.size w w')
    (C3 : ∀ w, Calls Try.prog 17 #[.string s, .int .i64 (N : Int)] w fun e w' => e = .returned (.int .i64 (cc : Int)) ∧ w = w') (w : World) :
    Calls Try.prog 7 #[.string s, .int .i64 (N : Int), .int .i64 size] w fun e w' => e = .returned (.bool true) ∧ Below w.heap.size w w' := by
  have C1 := Lib.hid C1
  have C2 := Lib.hid C2
  have C3 := Lib.hid C3
  have AL := Lib.hid alive_any
  have hN2 : N ≤ 4800 := by omega
  have hML := mostL_le hR
  have HS := Lib.hid hsum
  have HB := Lib.hid hb
  clear hsum hb
  go_enter Try.func7, Try.ntmps7
  go_wp2_with fail
  refine (C1.out _).mono ?_; rintro e w1 ⟨v, rfl, hr, b1⟩
  obtain ⟨ad, cap, rfl, had⟩ := shape_of hr
  go_wp2
  go_loopw [9, 10, 11, 12] (fun u m x p wr => ∃ (k U M : Nat) (E : Int), p = .int .i64 k ∧ k ≤ l.length ∧ u = .int .i64 U ∧ m = .int .i64 M ∧ x = .int .i64 E ∧ U ≤ N ∧ M ≤ N ∧ E ≤ N ∧ -1 ≤ E ∧ Hid (sumLen (l.take k) = U) ∧ Hid (mostL (l.take k) = M) ∧ Hid (Rising N E (l.drop k)) ∧ Below w1.heap.size w1 wr) (fun _ _ _ p _ => l.length - (intOf p).toNat)
  case atStart => exact ⟨0, 0, 0, -1, rfl, Nat.zero_le _, rfl, rfl, rfl, Nat.zero_le _, Nat.zero_le _, by omega, by omega, Lib.hid rfl, Lib.hid rfl, Lib.hid hR, Below.refl _ _⟩
  case round =>
    obtain ⟨k, U, M, E, rfl, hk, rfl, rfl, rfl, hU, hM, hE, hE2, HU, HM, HR, hbr⟩ := hrel
    by_cases hlt : k < l.length
    · obtain ⟨g, rfl, hg⟩ := had (by omega)
      obtain ⟨q1, q2⟩ := run_cells (row_kept hr hbr) k hlt
      obtain ⟨r1, r2, r3, r4⟩ := rising_drop hlt HR.out
      have HT := Lib.hid (List.take_succ_eq_append_getElem hlt)
      have HSU : Hid (sumLen (l.take (k + 1)) = U + l[k].2) := by
        show _ = _
        rw [HT.out, sumLen_append, HU.out]; rfl
      have HMU : Hid (mostL (l.take (k + 1)) = max M l[k].2) := by
        show _ = _
        rw [HT.out, mostL_append, HM.out, mostL, mostL]; omega
      have hsl : sumLen (l.take (k + 1)) ≤ N := by
        have e := sumLen_append (l.take (k + 1)) (l.drop (k + 1))
        rw [List.take_append_drop] at e
        have := HS.out; omega
      rw [HSU.out] at hsl
      have HR2 := Lib.hid r4
      clear HT r4
      generalize l[k].1 = a at *
      generalize l[k].2 = c at *
      have d1 : ∀ q, (wr.drewN q).cell? ⟨g, k * 2, none⟩ = some (.int .i64 (a : Int)) := fun _ => q1
      have d2 : ∀ q, (wr.drewN q).cell? ⟨g, k * 2 + 1, none⟩ = some (.int .i64 (c : Int)) := fun _ => q2
      have t1 : decide ((c : Int) < 1) = false := decide_eq_false (by omega)
      have t2 : decide ((a : Int) ≤ E) = false := decide_eq_false (by omega)
      have t3 : decide ((N : Int) - (c : Int) < (a : Int)) = false := decide_eq_false (by omega)
      clear had hr q1 q2
      rcases (show M < c ∨ c ≤ M by omega) with hmc | hmc
      · rw [Nat.max_eq_right (by omega)] at HMU
        go_wp2
        go_quiet (fail)
        go_wp2
        go_quiet (fail)
        go_wp2
        exact ⟨⟨k + 1, U + c, c, (a : Int) + c, by go_num, by omega, by go_num, rfl, rfl, by omega, by omega, by omega, by omega, HSU, HMU, HR2, below_drewN hbr _⟩, by simp [intOf]; omega⟩
      · rw [Nat.max_eq_left (by omega)] at HMU
        go_wp2
        go_quiet (fail)
        go_wp2
        go_quiet (fail)
        go_wp2
        exact ⟨⟨k + 1, U + c, M, (a : Int) + c, by go_num, by omega, by go_num, rfl, rfl, by omega, by omega, by omega, by omega, HSU, HMU, HR2, below_drewN hbr _⟩, by simp [intOf]; omega⟩
    · obtain rfl : k = l.length := by omega
      have hu := HU.out
      have hmm := HM.out
      rw [List.take_length] at hu hmm
      have hsum2 : U + cc = N := by rw [← hu]; exact HS.out
      have hbb := HB.out
      rw [hmm] at hbb
      have d1 : ((U : Int) + (cc : Int) == (N : Int)) = true := by rw [beq_iff_eq]; omega
      clear hu hmm HR HM HU HB HS had hr
      have hb1 := b1.trans (hbr.mono b1.size)
      rcases (show size < 1 ∨ (1 ≤ size ∧ size ≤ (M : Int)) ∨ (1 ≤ size ∧ (M : Int) < size) by omega) with h | ⟨h, h'⟩ | ⟨h, h'⟩
      · rw [decide_eq_false (show ¬ 1 ≤ size by omega), Bool.false_and] at hbb
        subst hbb
        go_wp2_with fail
        refine (C2.out _).mono ?_; rintro e w2 ⟨rfl, b2⟩
        go_wp2_with fail
        refine (C3.out _).mono ?_; rintro e w' ⟨rfl, rfl⟩
        go_wp2_with fail
        refine (AL.out _).mono ?_; rintro e w3 ⟨rfl, b3⟩
        go_wp2
        go_ret
        exact ⟨ret_bool (by first | rfl | (simp; omega)), bnext (balloc (bnext hb1 b2) _) b3⟩
      · rw [decide_eq_true h, decide_eq_true h', Bool.true_and] at hbb
        subst hbb
        go_wp2_with fail
        refine (C2.out _).mono ?_; rintro e w2 ⟨rfl, b2⟩
        go_wp2_with fail
        refine (C3.out _).mono ?_; rintro e w' ⟨rfl, rfl⟩
        go_wp2_with fail
        refine (AL.out _).mono ?_; rintro e w3 ⟨rfl, b3⟩
        go_wp2
        go_ret
        exact ⟨ret_bool (by first | rfl | (simp; omega)), bnext (balloc (bnext hb1 b2) _) b3⟩
      · rw [decide_eq_false (show ¬ size ≤ (M : Int) by omega), Bool.and_false] at hbb
        subst hbb
        go_wp2_with fail
        refine (C2.out _).mono ?_; rintro e w2 ⟨rfl, b2⟩
        go_wp2_with fail
        refine (C3.out _).mono ?_; rintro e w' ⟨rfl, rfl⟩
        go_wp2_with fail
        refine (AL.out _).mono ?_; rintro e w3 ⟨rfl, b3⟩
        go_wp2
        go_ret
        exact ⟨ret_bool (by first | rfl | (simp; omega)), bnext (balloc (bnext hb1 b2) _) b3⟩

set_option maxRecDepth 100000 in
set_option maxHeartbeats 8000000 in
theorem whole_over (s : ByteArray) (hs : s.size ≤ 600) (n : Nat) (hn2 : n ≤ 9223372036854775807) (N cc : Nat) (l : List (Nat × Nat)) (size y z : Int) (b : Bool) (hn : s.size ≤ n / 8) (hN8 : (8 : Int) * (s.size : Int) = (N : Int)) (hN : N ≤ 8 * s.size) (hR : Rising N (-1) l) (hlen : l.length ≤ N) (hsum : sumLen l + cc = N) (hb : b = (decide (1 ≤ size) && decide (size ≤ (mostL l : Int))))
    (C1 : ∀ w, Calls Try.prog 15 #[.string s, .int .i64 (n : Int)] w fun e w' => ∃ v, e = .returned v ∧ RunsAt w.heap.size v l w' ∧ Below w.heap.size w w')
    (C2 : ∀ w, Calls Try.prog 22 #[.string s, .int .i64 (n : Int), .int .i64 size, .int .i64 0] w fun e w' => e = .returned (.tuple #[.agg #[.int .i64 y, .int .i64 z], .bool b]) ∧ Below w.heap.size w w')
    (C3 : ∀ w, Calls Try.prog 17 #[.string s, .int .i64 (n : Int)] w fun e w' => e = .returned (.int .i64 (cc : Int)) ∧ w = w') (w : World) :
    Calls Try.prog 7 #[.string s, .int .i64 (n : Int), .int .i64 size] w fun e w' => e = .returned (.bool true) ∧ Below w.heap.size w w' := by
  have C1 := Lib.hid C1
  have C2 := Lib.hid C2
  have C3 := Lib.hid C3
  have AL := Lib.hid alive_any
  have hN2 : N ≤ 4800 := by omega
  have hML := mostL_le hR
  have HS := Lib.hid hsum
  have HB := Lib.hid hb
  clear hsum hb
  go_enter Try.func7, Try.ntmps7
  go_wp2_with fail
  refine (C1.out _).mono ?_; rintro e w1 ⟨v, rfl, hr, b1⟩
  obtain ⟨ad, cap, rfl, had⟩ := shape_of hr
  go_wp2
  go_loopw [9, 10, 11, 12] (fun u m x p wr => ∃ (k U M : Nat) (E : Int), p = .int .i64 k ∧ k ≤ l.length ∧ u = .int .i64 U ∧ m = .int .i64 M ∧ x = .int .i64 E ∧ U ≤ N ∧ M ≤ N ∧ E ≤ N ∧ -1 ≤ E ∧ Hid (sumLen (l.take k) = U) ∧ Hid (mostL (l.take k) = M) ∧ Hid (Rising N E (l.drop k)) ∧ Below w1.heap.size w1 wr) (fun _ _ _ p _ => l.length - (intOf p).toNat)
  case atStart => exact ⟨0, 0, 0, -1, rfl, Nat.zero_le _, rfl, rfl, rfl, Nat.zero_le _, Nat.zero_le _, by omega, by omega, Lib.hid rfl, Lib.hid rfl, Lib.hid hR, Below.refl _ _⟩
  case round =>
    obtain ⟨k, U, M, E, rfl, hk, rfl, rfl, rfl, hU, hM, hE, hE2, HU, HM, HR, hbr⟩ := hrel
    by_cases hlt : k < l.length
    · obtain ⟨g, rfl, hg⟩ := had (by omega)
      obtain ⟨q1, q2⟩ := run_cells (row_kept hr hbr) k hlt
      obtain ⟨r1, r2, r3, r4⟩ := rising_drop hlt HR.out
      have HT := Lib.hid (List.take_succ_eq_append_getElem hlt)
      have HSU : Hid (sumLen (l.take (k + 1)) = U + l[k].2) := by
        show _ = _
        rw [HT.out, sumLen_append, HU.out]; rfl
      have HMU : Hid (mostL (l.take (k + 1)) = max M l[k].2) := by
        show _ = _
        rw [HT.out, mostL_append, HM.out, mostL, mostL]; omega
      have hsl : sumLen (l.take (k + 1)) ≤ N := by
        have e := sumLen_append (l.take (k + 1)) (l.drop (k + 1))
        rw [List.take_append_drop] at e
        have := HS.out; omega
      rw [HSU.out] at hsl
      have HR2 := Lib.hid r4
      clear HT r4
      generalize l[k].1 = a at *
      generalize l[k].2 = c at *
      have d1 : ∀ q, (wr.drewN q).cell? ⟨g, k * 2, none⟩ = some (.int .i64 (a : Int)) := fun _ => q1
      have d2 : ∀ q, (wr.drewN q).cell? ⟨g, k * 2 + 1, none⟩ = some (.int .i64 (c : Int)) := fun _ => q2
      have t1 : decide ((c : Int) < 1) = false := decide_eq_false (by omega)
      have t2 : decide ((a : Int) ≤ E) = false := decide_eq_false (by omega)
      have t3 : decide ((N : Int) - (c : Int) < (a : Int)) = false := decide_eq_false (by omega)
      clear had hr q1 q2
      rcases (show M < c ∨ c ≤ M by omega) with hmc | hmc
      · rw [Nat.max_eq_right (by omega)] at HMU
        go_wp2
        go_quiet (fail)
        go_wp2
        go_quiet (fail)
        go_wp2
        exact ⟨⟨k + 1, U + c, c, (a : Int) + c, by go_num, by omega, by go_num, rfl, rfl, by omega, by omega, by omega, by omega, HSU, HMU, HR2, below_drewN hbr _⟩, by simp [intOf]; omega⟩
      · rw [Nat.max_eq_left (by omega)] at HMU
        go_wp2
        go_quiet (fail)
        go_wp2
        go_quiet (fail)
        go_wp2
        exact ⟨⟨k + 1, U + c, M, (a : Int) + c, by go_num, by omega, by go_num, rfl, rfl, by omega, by omega, by omega, by omega, HSU, HMU, HR2, below_drewN hbr _⟩, by simp [intOf]; omega⟩
    · obtain rfl : k = l.length := by omega
      have hu := HU.out
      have hmm := HM.out
      rw [List.take_length] at hu hmm
      have hsum2 : U + cc = N := by rw [← hu]; exact HS.out
      have hbb := HB.out
      rw [hmm] at hbb
      have d1 : ((U : Int) + (cc : Int) == (N : Int)) = true := by rw [beq_iff_eq]; omega
      clear hu hmm HR HM HU HB HS had hr
      have hb1 := b1.trans (hbr.mono b1.size)
      rcases (show size < 1 ∨ (1 ≤ size ∧ size ≤ (M : Int)) ∨ (1 ≤ size ∧ (M : Int) < size) by omega) with h | ⟨h, h'⟩ | ⟨h, h'⟩
      · rw [decide_eq_false (show ¬ 1 ≤ size by omega), Bool.false_and] at hbb
        subst hbb
        go_wp2_with fail
        refine (C2.out _).mono ?_; rintro e w2 ⟨rfl, b2⟩
        go_wp2_with fail
        refine (C3.out _).mono ?_; rintro e w' ⟨rfl, rfl⟩
        go_wp2_with fail
        refine (AL.out _).mono ?_; rintro e w3 ⟨rfl, b3⟩
        go_wp2
        go_ret
        exact ⟨ret_bool (by first | rfl | (simp; omega)), bnext (balloc (bnext hb1 b2) _) b3⟩
      · rw [decide_eq_true h, decide_eq_true h', Bool.true_and] at hbb
        subst hbb
        go_wp2_with fail
        refine (C2.out _).mono ?_; rintro e w2 ⟨rfl, b2⟩
        go_wp2_with fail
        refine (C3.out _).mono ?_; rintro e w' ⟨rfl, rfl⟩
        go_wp2_with fail
        refine (AL.out _).mono ?_; rintro e w3 ⟨rfl, b3⟩
        go_wp2
        go_ret
        exact ⟨ret_bool (by first | rfl | (simp; omega)), bnext (balloc (bnext hb1 b2) _) b3⟩
      · rw [decide_eq_false (show ¬ size ≤ (M : Int) by omega), Bool.and_false] at hbb
        subst hbb
        go_wp2_with fail
        refine (C2.out _).mono ?_; rintro e w2 ⟨rfl, b2⟩
        go_wp2_with fail
        refine (C3.out _).mono ?_; rintro e w' ⟨rfl, rfl⟩
        go_wp2_with fail
        refine (AL.out _).mono ?_; rintro e w3 ⟨rfl, b3⟩
        go_wp2
        go_ret
        exact ⟨ret_bool (by first | rfl | (simp; omega)), bnext (balloc (bnext hb1 b2) _) b3⟩

theorem whole_walk (s : ByteArray) (hm : s.size ≤ maxLen) (n : Int) (hn1 : n ≤ 9223372036854775807) (hn0 : -9223372036854775808 ≤ n) (size : Int) (w : World) :
    Calls Try.prog 7 #[.string s, .int .i64 n, .int .i64 size] w fun e w' => e = .returned (.bool true) ∧ Below w.heap.size w w' := by
  unfold maxLen at hm
  by_cases hs : s.size ≤ 600
  · have hs2 : s.size ≤ 2000 := by omega
    have hN := firstV_le s n
    have C1 := free_any s hs2 n
    have C2 := fit_any s hs2 n size 0 (by omega)
    have C3 := count_any s hs2 n
    have hR := rising_runs (bitAt s) (firstV s n)
    have hlen := runs_len (bitAt s) (firstV s n)
    have hsum := sum_runs (bitAt s) (firstV s n)
    have hb := fit_whole (runs (bitAt s) (firstV s n)) size
    unfold fitRes at C2
    by_cases h0 : n < 0
    · have e : firstV s n = 0 := by unfold firstV; omega
      rw [e] at C1 C2 C3 hb
      have hb0 : (fitV (runs (bitAt s) 0) size 0).isSome = false := by
        rw [hb, show (mostL (runs (bitAt s) 0) : Int) = 0 from rfl]
        by_cases h : 1 ≤ size
        · rw [decide_eq_false (show ¬ size ≤ 0 by omega), Bool.and_false]
        · rw [decide_eq_false h]; rfl
      by_cases hs0 : s.size = 0
      · by_cases hq : 0 ≤ wrap64 (n.tdiv 8)
        · exact whole_none s hs n _ size _ _ _ h0 rfl hs0 hq hb0 C1 C2 C3 w
        · exact whole_less s hs n _ size _ _ _ h0 rfl hs0 (by omega) hb0 C1 C2 C3 w
      · have hq : wrap64 (n.tdiv 8) ≤ 0 := by
          obtain ⟨k, rfl⟩ : ∃ k : Nat, n = -(k : Int) := ⟨(-n).toNat, by omega⟩
          have h1 : (-(k : Int)).tdiv 8 = -((k : Int) / 8) := by rw [Int.neg_tdiv, Int.tdiv_eq_ediv_of_nonneg (by omega)]
          rw [h1]
          unfold wrap64; omega
        exact whole_neg s hs n _ size _ _ _ h0 rfl (by omega) hq hb0 C1 C2 C3 w
    · obtain ⟨m, rfl⟩ := Int.eq_ofNat_of_zero_le (show 0 ≤ n by omega)
      by_cases h8 : m / 8 < s.size
      · have e : firstV s m = m := by unfold firstV; omega
        rw [e] at C1 C2 C3 hN hR hlen hsum hb
        exact whole_in s hs m _ _ size _ _ _ h8 hN hR hlen hsum hb C1 C2 C3 w
      · have e : firstV s m = 8 * s.size := by unfold firstV; omega
        exact whole_over s hs m (by omega) (firstV s m) _ _ size _ _ _ (by omega) (by omega) hN hR hlen hsum hb C1 C2 C3 w
  · have hs : 600 < s.size := by omega
    go_enter Try.func7, Try.ntmps7
    go_wp2
    go_ret
    exact ⟨rfl, Below.refl _ _⟩
end Go.Proofs.Ytddbceecamenhaa
