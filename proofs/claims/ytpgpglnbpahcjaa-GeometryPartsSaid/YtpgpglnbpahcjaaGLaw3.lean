/- The walk of GeometryParts. -/
import Derived.Test.YtpgpglnbpahcjaaGAlive
namespace Go.Proofs.Ytpgpglnbpahcjaa
set_option linter.unusedVariables false
open Go.RowKit

set_option maxHeartbeats 4000000 in
theorem parts_off (b l i : Int) (h : ¬ okG b l i) (w : World) :
    Calls Try.prog 5 #[.int .i64 b, .int .i64 l, .int .i64 i] w fun e w' => e = .returned (.bool true) ∧ Below w.heap.size w w' := by
  have AL := Lib.hid alive_any
  have O1 := Lib.hid (of_off b l i h)
  have gh := geo_held
  clear h
  go_enter Try.func5, Try.ntmps5
  go_wp2_with fail
  refine (O1.out _).mono ?_; rintro e w1 ⟨rfl, hb⟩
  have hb := balloc hb (.cells (cellsG 0 0 0 0 0 0 0 0 0) 23)
  go_wp2_with fail
  refine (AL.out _).mono ?_; rintro e w3 ⟨rfl, b⟩
  have hb := bnext hb b
  clear b AL
  go_wp2
  go_ret
  exact ⟨rfl, hb⟩

/-- the region of the block ahead of k; 0 ahead of the first one -/
def lastL (l m t : Nat) (k : Nat) : Int := if k = 0 then 0 else whereL l m t ((k : Int) - 1)
theorem last_next (l m t k : Nat) : lastL l m t (k + 1) = whereL l m t k := by
  unfold lastL; rw [if_neg (by omega)]
  congr 1; omega
theorem last_bound (l m t k : Nat) : 0 ≤ lastL l m t k ∧ lastL l m t k ≤ 4 := by
  unfold lastL whereL
  repeat' split
  all_goals omega
theorem last_step {b l i m t : Nat} (h : okN b l i m t) (k : Nat) (hk : k = 1 ∨ k = 1 + l ∨ k = 1 + l + m ∨ k = 1 + l + m + t) : whereL l m t k = lastL l m t k + 1 := by
  unfold okN at h
  unfold lastL whereL
  repeat' split
  all_goals omega
theorem last_stay {b l i m t : Nat} (h : okN b l i m t) (k : Nat) (h1 : k ≠ 1) (h2 : k ≠ 1 + l) (h3 : k ≠ 1 + l + m) (h4 : k ≠ 1 + l + m + t) : whereL l m t k = lastL l m t k := by
  unfold okN at h
  unfold lastL whereL
  repeat' split
  all_goals omega
theorem last_end {b l i m t : Nat} (h : okN b l i m t) : lastL l m t b = 4 := by
  unfold okN at h
  unfold lastL whereL
  repeat' split
  all_goals omega

set_option maxHeartbeats 8000000 in
set_option maxRecDepth 100000 in
theorem parts_on (b l i m t : Nat) (h : okN b l i m t) (w : World) :
    Calls Try.prog 5 #[.int .i64 (b : Int), .int .i64 (l : Int), .int .i64 (i : Int)] w fun e w' => e = .returned (.bool true) ∧ Below w.heap.size w w' := by
  have AL := Lib.hid alive_any
  have O1 := Lib.hid (of_yes b l i m t h)
  have WI := Lib.hid (where_in b l i m t h)
  have W1 := Lib.hid (where_out b l i m t h (-1) (by omega))
  have W2 := Lib.hid (where_out b l i m t h b (by omega))
  have LE := Lib.hid (last_end h)
  have LS := Lib.hid (last_step h)
  have LY := Lib.hid (last_stay h)
  have h' := h
  obtain ⟨k1, k2, k3, k4, k5, k6, k7, k8, k9, k10⟩ := h'
  have e1 : ((t : Int) * 2 != (i : Int)) = false := by rw [bne_eq_false_iff_eq]; omega
  have e2 : (b : Int) ≤ (m : Int) * 1024 := by omega
  have e3 : ((m : Int) - 1) * 1024 < (b : Int) := by omega
  have hm : m ≤ 4 := by omega
  have ht : t ≤ 256 := by omega
  clear h k7 k8 k9
  go_enter Try.func5, Try.ntmps5
  go_wp2_with fail
  refine (O1.out _).mono ?_; rintro e w1 ⟨rfl, hb⟩
  have G := GeoAt.new b l i 1 (1 + l) m (1 + l + m) t (1 + l + m + t) w1
  have hb := balloc hb (.cells (cellsG b l i 1 (1 + l) m (1 + l + m) t (1 + l + m + t)) 23)
  clear O1
  go_wp2
  go_loopw [9, 10] (fun y p wr => ∃ k : Nat, k ≤ b ∧ p = .int .i64 (k : Int) ∧ y = .int .i64 (lastL l m t k) ∧ GeoAt w1.heap.size b l i 1 (1 + l) m (1 + l + m) t (1 + l + m + t) wr ∧ Below w.heap.size w wr) (fun _ p _ => b - (intOf p).toNat)
  case atStart => exact ⟨0, Nat.zero_le _, rfl, rfl, G, hb⟩
  case round =>
    obtain ⟨k, hk, rfl, rfl, G, hb⟩ := hrel
    obtain ⟨c0, c1, c2, c3, c4, c5, c6, c7, c8⟩ := G.cells
    by_cases hlt : k < b
    · have C := Lib.hid (WI.out k (by omega) (by omega))
      have HB := Lib.hid (last_bound l m t k)
      have HS := Lib.hid (LS.out k)
      have HY := Lib.hid (LY.out k)
      have HN := Lib.hid (last_next l m t k)
      have hk5 : (k : Int) < 5000 := by omega
      generalize lastL l m t k = y at *
      generalize whereL l m t k = x at *
      have hy1 := HB.out.1
      have hy2 := HB.out.2
      clear WI W1 W2 LE LS LY AL
      go_wp2_with fail
      refine (C.out _).mono ?_; rintro e w2 ⟨rfl, b1⟩
      have G := G.kept1 b1
      have hb := bnext hb b1
      clear b1 C c0 c1 c2 c3 c4 c5 c6 c7 c8
      obtain ⟨c0, c1, c2, c3, c4, c5, c6, c7, c8⟩ := G.cells
      by_cases f1 : k = 1
      · have hx := HS.out (.inl f1)
        have g1 : ((k : Int) == 1) = true := by rw [beq_iff_eq]; omega
        subst hx
        clear f1 HB HY HS
        go_wp2
        exact ⟨⟨k + 1, hlt, by go_num, by rw [HN.out], G, hb⟩, by simp [intOf]; omega⟩
      by_cases f2 : k = 1 + l
      · have hx := HS.out (.inr (.inl f2))
        have g1 : ((k : Int) == 1) = false := by rw [beq_eq_false_iff_ne]; omega
        have g2 : ((k : Int) == 1 + (l : Int)) = true := by rw [beq_iff_eq]; omega
        subst hx
        clear f1 f2 HB HY HS
        go_wp2
        exact ⟨⟨k + 1, hlt, by go_num, by rw [HN.out], G, hb⟩, by simp [intOf]; omega⟩
      by_cases f3 : k = 1 + l + m
      · have hx := HS.out (.inr (.inr (.inl f3)))
        have g1 : ((k : Int) == 1) = false := by rw [beq_eq_false_iff_ne]; omega
        have g2 : ((k : Int) == 1 + (l : Int)) = false := by rw [beq_eq_false_iff_ne]; omega
        have g3 : ((k : Int) == 1 + (l : Int) + (m : Int)) = true := by rw [beq_iff_eq]; omega
        subst hx
        clear f1 f2 f3 HB HY HS
        go_wp2
        exact ⟨⟨k + 1, hlt, by go_num, by rw [HN.out], G, hb⟩, by simp [intOf]; omega⟩
      by_cases f4 : k = 1 + l + m + t
      · have hx := HS.out (.inr (.inr (.inr f4)))
        have g1 : ((k : Int) == 1) = false := by rw [beq_eq_false_iff_ne]; omega
        have g2 : ((k : Int) == 1 + (l : Int)) = false := by rw [beq_eq_false_iff_ne]; omega
        have g3 : ((k : Int) == 1 + (l : Int) + (m : Int)) = false := by rw [beq_eq_false_iff_ne]; omega
        have g4 : ((k : Int) == 1 + (l : Int) + (m : Int) + (t : Int)) = true := by rw [beq_iff_eq]; omega
        subst hx
        clear f1 f2 f3 f4 HB HY HS
        go_wp2
        exact ⟨⟨k + 1, hlt, by go_num, by rw [HN.out], G, hb⟩, by simp [intOf]; omega⟩
      have hx := HY.out f1 f2 f3 f4
      have g1 : ((k : Int) == 1) = false := by rw [beq_eq_false_iff_ne]; omega
      have g2 : ((k : Int) == 1 + (l : Int)) = false := by rw [beq_eq_false_iff_ne]; omega
      have g3 : ((k : Int) == 1 + (l : Int) + (m : Int)) = false := by rw [beq_eq_false_iff_ne]; omega
      have g4 : ((k : Int) == 1 + (l : Int) + (m : Int) + (t : Int)) = false := by rw [beq_eq_false_iff_ne]; omega
      subst hx
      clear f1 f2 f3 f4 HB HY HS
      go_wp2
      exact ⟨⟨k + 1, hlt, by go_num, by rw [HN.out], G, hb⟩, by simp [intOf]; omega⟩
    · have Gr := G
      have hbr := hb
      clear G hb
      obtain rfl : k = b := by omega
      rw [LE.out]
      clear WI LS LY LE
      go_wp2_with fail
      refine (W1.out _).mono ?_; rintro e w2 ⟨rfl, b1⟩
      have G := Gr.kept1 b1
      have hb := bnext hbr b1
      clear b1 W1 c0 c1 c2 c3 c4 c5 c6 c7 c8
      obtain ⟨c0, c1, c2, c3, c4, c5, c6, c7, c8⟩ := G.cells
      go_wp2_with fail
      refine (W2.out _).mono ?_; rintro e w3 ⟨rfl, b1⟩
      have hb := bnext hb b1
      clear b1 W2 c0 c1 c2 c3 c4 c5 c6 c7 c8
      go_wp2_with fail
      refine (AL.out _).mono ?_; rintro e w4 ⟨rfl, b1⟩
      have hb := bnext hb b1
      clear b1 AL
      go_wp2
      go_ret
      exact ⟨rfl, hb⟩
theorem parts_walk (b l i : Int) (w : World) :
    Calls Try.prog 5 #[.int .i64 b, .int .i64 l, .int .i64 i] w fun e w' => e = .returned (.bool true) ∧ Below w.heap.size w w' := by
  by_cases h : okG b l i
  · obtain ⟨b', l', i', m, t, rfl, rfl, rfl, h2⟩ := okG_yes h
    exact parts_on b' l' i' m t h2 w
  · exact parts_off b l i h w
end Go.Proofs.Ytpgpglnbpahcjaa
