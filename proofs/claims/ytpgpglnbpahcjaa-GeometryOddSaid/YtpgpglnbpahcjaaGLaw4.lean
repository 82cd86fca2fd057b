/- The walk of GeometryInodes. -/
import Derived.Test.YtpgpglnbpahcjaaGAlive
namespace Go.Proofs.Ytpgpglnbpahcjaa
set_option linter.unusedVariables false
open Go.RowKit

abbrev threeV (b l i : Int) : Value := .agg #[.int .i64 b, .int .i64 l, .int .i64 i]
set_option maxHeartbeats 4000000 in
theorem inodes_off (b l i n : Int) (h : ¬ okG b l i) (w : World) :
    Calls Try.prog 6 #[threeV b l i, .int .i64 n] w fun e w' => e = .returned (.bool true) ∧ Below w.heap.size w w' := by
  have AL := Lib.hid alive_any
  have O1 := Lib.hid (of_off b l i h)
  clear h
  go_enter Try.func6, Try.ntmps6
  go_wp2_with fail
  refine (O1.out _).mono ?_; rintro e w1 ⟨rfl, hb⟩
  have hb := below_boxed hb
  have hb := balloc hb (.cells (cellsG 0 0 0 0 0 0 0 0 0) 23)
  go_wp2_with fail
  refine (AL.out _).mono ?_; rintro e w3 ⟨rfl, b⟩
  have hb := bnext hb b
  clear b AL
  go_wp2
  go_ret
  exact ⟨rfl, hb⟩

set_option maxHeartbeats 4000000 in
theorem inodes_out (b l i m t : Nat) (n : Int) (h : okN b l i m t) (hn : n < 0 ∨ (i : Int) ≤ n) (w : World) :
    Calls Try.prog 6 #[threeV b l i, .int .i64 n] w fun e w' => e = .returned (.bool true) ∧ Below w.heap.size w w' := by
  have AL := Lib.hid alive_any
  have O1 := Lib.hid (of_yes b l i m t h)
  have I1 := Lib.hid (inode_out b l i m t h n hn)
  have hn2 : n < 0 ∨ (0 ≤ n ∧ (i : Int) ≤ n) := by omega
  clear h hn
  go_enter Try.func6, Try.ntmps6
  go_wp2_with fail
  refine (O1.out _).mono ?_; rintro e w1 ⟨rfl, hb⟩
  have hb := below_boxed hb
  have G := GeoAt.new b l i 1 (1 + l) m (1 + l + m) t (1 + l + m + t) w1
  have hb := balloc hb (.cells (cellsG b l i 1 (1 + l) m (1 + l + m) t (1 + l + m + t)) 23)
  clear O1
  go_wp2_with fail
  refine (I1.out _).mono ?_; rintro e w2 ⟨rfl, b1⟩
  have hb := bnext hb b1
  clear b1 I1 G
  rcases hn2 with h1 | ⟨h0, h1⟩
  · go_wp2_with fail
    refine (AL.out _).mono ?_; rintro e w3 ⟨rfl, b⟩
    have hb := bnext hb b
    clear b AL
    go_wp2
    go_ret
    exact ⟨rfl, hb⟩
  · go_wp2_with fail
    refine (AL.out _).mono ?_; rintro e w3 ⟨rfl, b⟩
    have hb := bnext hb b
    clear b AL
    go_wp2
    go_ret
    exact ⟨rfl, hb⟩

/-- the place of inode k: its block, and where in it -/
theorem place_same {x k n : Nat} : (x + k / 2 = x + n / 2 ↔ k / 2 = n / 2) ∧ (k % 2 * 64 = n % 2 * 64 ↔ k % 2 = n % 2) ∧ (k = n ↔ k / 2 = n / 2 ∧ k % 2 = n % 2) := by omega
theorem where_table {b l i m t : Nat} (h : okN b l i m t) (n : Nat) (hn : n < i) : whereL l m t (1 + (l : Int) + m + (n / 2 : Nat)) = 3 := by
  unfold okN at h
  unfold whereL
  repeat' split
  all_goals omega

set_option maxHeartbeats 8000000 in
set_option maxRecDepth 100000 in
theorem inodes_in (b l i m t n : Nat) (h : okN b l i m t) (hn : n < i) (w : World) :
    Calls Try.prog 6 #[threeV b l i, .int .i64 (n : Int)] w fun e w' => e = .returned (.bool true) ∧ Below w.heap.size w w' := by
  have AL := Lib.hid alive_any
  have O1 := Lib.hid (of_yes b l i m t h)
  have I1 := inode_in b l i m t h n hn
  have II := Lib.hid (inode_in b l i m t h)
  have hn2 : (n : Int) < (i : Int) := by omega
  have hi : i ≤ 512 := h.2.2.2.2.2.1
  obtain ⟨x, hx⟩ : ∃ x, 1 + (l : Int) + m + (n / 2 : Nat) = x := ⟨_, rfl⟩
  obtain ⟨y, hy⟩ : ∃ y, ((n % 2 * 64 : Nat) : Int) = y := ⟨_, rfl⟩
  have W1 := where_in b l i m t h (1 + (l : Int) + m + (n / 2 : Nat)) (by omega) (by unfold okN at h; omega)
  rw [where_table h n hn, hx] at W1
  rw [hx, hy] at I1
  have I1 := Lib.hid I1
  have W1 := Lib.hid W1
  have hy2 : y = 0 ∨ y = 64 := by omega
  have HX := Lib.hid hx
  have HY := Lib.hid hy
  obtain ⟨q, hq⟩ : ∃ q, n / 2 = q := ⟨_, rfl⟩
  have q1 : (n : Int) / 2 = (q : Int) := by omega
  have HQ := Lib.hid hq
  clear h hx hy hq hn
  go_enter Try.func6, Try.ntmps6
  go_wp2_with fail
  refine (O1.out _).mono ?_; rintro e w1 ⟨rfl, hb⟩
  have hb := below_boxed hb
  have G := GeoAt.new b l i 1 (1 + l) m (1 + l + m) t (1 + l + m + t) w1
  have hb := balloc hb (.cells (cellsG b l i 1 (1 + l) m (1 + l + m) t (1 + l + m + t)) 23)
  clear O1
  go_wp2_with fail
  refine (I1.out _).mono ?_; rintro e w2 ⟨rfl, b1⟩
  have G := G.kept1 b1
  have hb := bnext hb b1
  obtain ⟨c0, c1, c2, c3, c4, c5, c6, c7, c8⟩ := G.cells
  clear b1 I1
  rcases hy2 with hy2 | hy2
  · subst hy2
    go_wp2_with fail
    refine (W1.out _).mono ?_; rintro e w3 ⟨rfl, b1⟩
    have G := G.kept1 b1
    have hb := bnext hb b1
    clear b1 W1 c0 c1 c2 c3 c4 c5 c6 c7 c8
    go_wp2
    go_loopw [11] (fun p wr => ∃ k : Nat, k ≤ i ∧ p = .int .i64 (k : Int) ∧ GeoAt w1.heap.size b l i 1 (1 + l) m (1 + l + m) t (1 + l + m + t) wr ∧ Below w.heap.size w wr) (fun p _ => i - (intOf p).toNat)
    case atStart => exact ⟨0, Nat.zero_le _, rfl, G, hb⟩
    case round =>
      obtain ⟨k, hk, rfl, Gr, hbr⟩ := hrel
      clear G hb
      obtain ⟨c0, c1, c2, c3, c4, c5, c6, c7, c8⟩ := Gr.cells
      by_cases hlt : k < i
      · have C := II.out k hlt
        have hk6 : (k : Int) < 600 := by omega
        have hk7 : (k : Int) < (i : Int) := by omega
        have PS := place_same (x := l + m) (k := k) (n := n)
        obtain ⟨x', hx'⟩ : ∃ x', 1 + (l : Int) + m + (k / 2 : Nat) = x' := ⟨_, rfl⟩
        obtain ⟨y', hy'⟩ : ∃ y', ((k % 2 * 64 : Nat) : Int) = y' := ⟨_, rfl⟩
        rw [hx', hy'] at C
        have C := Lib.hid C
        obtain ⟨q', hq'⟩ : ∃ q', k / 2 = q' := ⟨_, rfl⟩
        have q2 : (k : Int) / 2 = (q' : Int) := by omega
        have hX := HX.out
        have hY := HY.out
        have hQ := HQ.out
        by_cases a1 : k / 2 = n / 2
        · have g1 : (x' == x) = true := by rw [beq_iff_eq]; omega
          have g2 : ((q' : Int) == (q : Int)) = true := by rw [beq_iff_eq]; omega
          by_cases a2 : k % 2 = n % 2
          · have g3 : (y' == (0 : Int)) = true := by rw [beq_iff_eq]; omega
            have g4 : ((k : Int) == (n : Int)) = true := by rw [beq_iff_eq]; omega
            clear PS hx' hy' hq' hX hY hQ a1 a2 HX HY HQ II AL
            go_wp2_with fail
            refine (C.out _).mono ?_; rintro e w4 ⟨rfl, b1⟩
            have G := Gr.kept1 b1
            have hb := bnext hbr b1
            clear b1 c0 c1 c2 c3 c4 c5 c6 c7 c8 C
            go_wp2
            exact ⟨⟨k + 1, hlt, by go_num, G, hb⟩, by simp [intOf]; omega⟩
          · have g3 : (y' == (0 : Int)) = false := by rw [beq_eq_false_iff_ne]; omega
            have g4 : ((k : Int) == (n : Int)) = false := by rw [beq_eq_false_iff_ne]; omega
            clear PS hx' hy' hq' hX hY hQ a1 a2 HX HY HQ II AL
            go_wp2_with fail
            refine (C.out _).mono ?_; rintro e w4 ⟨rfl, b1⟩
            have G := Gr.kept1 b1
            have hb := bnext hbr b1
            clear b1 c0 c1 c2 c3 c4 c5 c6 c7 c8 C
            go_wp2
            exact ⟨⟨k + 1, hlt, by go_num, G, hb⟩, by simp [intOf]; omega⟩
        · have g1 : (x' == x) = false := by rw [beq_eq_false_iff_ne]; omega
          have g2 : ((q' : Int) == (q : Int)) = false := by rw [beq_eq_false_iff_ne]; omega
          have g4 : ((k : Int) == (n : Int)) = false := by rw [beq_eq_false_iff_ne]; omega
          clear PS hx' hy' hq' hX hY hQ a1 HX HY HQ II AL
          go_wp2_with fail
          refine (C.out _).mono ?_; rintro e w4 ⟨rfl, b1⟩
          have G := Gr.kept1 b1
          have hb := bnext hbr b1
          clear b1 c0 c1 c2 c3 c4 c5 c6 c7 c8 C
          go_wp2
          exact ⟨⟨k + 1, hlt, by go_num, G, hb⟩, by simp [intOf]; omega⟩
      · obtain rfl : k = i := by omega
        clear II c0 c1 c2 c3 c4 c5 c6 c7 c8
        go_wp2_with fail
        refine (AL.out _).mono ?_; rintro e w4 ⟨rfl, b1⟩
        have hb := bnext hbr b1
        clear b1 AL
        go_wp2
        go_ret
        exact ⟨rfl, hb⟩
  · subst hy2
    go_wp2_with fail
    refine (W1.out _).mono ?_; rintro e w3 ⟨rfl, b1⟩
    have G := G.kept1 b1
    have hb := bnext hb b1
    clear b1 W1 c0 c1 c2 c3 c4 c5 c6 c7 c8
    go_wp2
    go_loopw [11] (fun p wr => ∃ k : Nat, k ≤ i ∧ p = .int .i64 (k : Int) ∧ GeoAt w1.heap.size b l i 1 (1 + l) m (1 + l + m) t (1 + l + m + t) wr ∧ Below w.heap.size w wr) (fun p _ => i - (intOf p).toNat)
    case atStart => exact ⟨0, Nat.zero_le _, rfl, G, hb⟩
    case round =>
      obtain ⟨k, hk, rfl, Gr, hbr⟩ := hrel
      clear G hb
      obtain ⟨c0, c1, c2, c3, c4, c5, c6, c7, c8⟩ := Gr.cells
      by_cases hlt : k < i
      · have C := II.out k hlt
        have hk6 : (k : Int) < 600 := by omega
        have hk7 : (k : Int) < (i : Int) := by omega
        have PS := place_same (x := l + m) (k := k) (n := n)
        obtain ⟨x', hx'⟩ : ∃ x', 1 + (l : Int) + m + (k / 2 : Nat) = x' := ⟨_, rfl⟩
        obtain ⟨y', hy'⟩ : ∃ y', ((k % 2 * 64 : Nat) : Int) = y' := ⟨_, rfl⟩
        rw [hx', hy'] at C
        have C := Lib.hid C
        obtain ⟨q', hq'⟩ : ∃ q', k / 2 = q' := ⟨_, rfl⟩
        have q2 : (k : Int) / 2 = (q' : Int) := by omega
        have hX := HX.out
        have hY := HY.out
        have hQ := HQ.out
        by_cases a1 : k / 2 = n / 2
        · have g1 : (x' == x) = true := by rw [beq_iff_eq]; omega
          have g2 : ((q' : Int) == (q : Int)) = true := by rw [beq_iff_eq]; omega
          by_cases a2 : k % 2 = n % 2
          · have g3 : (y' == (64 : Int)) = true := by rw [beq_iff_eq]; omega
            have g4 : ((k : Int) == (n : Int)) = true := by rw [beq_iff_eq]; omega
            clear PS hx' hy' hq' hX hY hQ a1 a2 HX HY HQ II AL
            go_wp2_with fail
            refine (C.out _).mono ?_; rintro e w4 ⟨rfl, b1⟩
            have G := Gr.kept1 b1
            have hb := bnext hbr b1
            clear b1 c0 c1 c2 c3 c4 c5 c6 c7 c8 C
            go_wp2
            exact ⟨⟨k + 1, hlt, by go_num, G, hb⟩, by simp [intOf]; omega⟩
          · have g3 : (y' == (64 : Int)) = false := by rw [beq_eq_false_iff_ne]; omega
            have g4 : ((k : Int) == (n : Int)) = false := by rw [beq_eq_false_iff_ne]; omega
            clear PS hx' hy' hq' hX hY hQ a1 a2 HX HY HQ II AL
            go_wp2_with fail
            refine (C.out _).mono ?_; rintro e w4 ⟨rfl, b1⟩
            have G := Gr.kept1 b1
            have hb := bnext hbr b1
            clear b1 c0 c1 c2 c3 c4 c5 c6 c7 c8 C
            go_wp2
            exact ⟨⟨k + 1, hlt, by go_num, G, hb⟩, by simp [intOf]; omega⟩
        · have g1 : (x' == x) = false := by rw [beq_eq_false_iff_ne]; omega
          have g2 : ((q' : Int) == (q : Int)) = false := by rw [beq_eq_false_iff_ne]; omega
          have g4 : ((k : Int) == (n : Int)) = false := by rw [beq_eq_false_iff_ne]; omega
          clear PS hx' hy' hq' hX hY hQ a1 HX HY HQ II AL
          go_wp2_with fail
          refine (C.out _).mono ?_; rintro e w4 ⟨rfl, b1⟩
          have G := Gr.kept1 b1
          have hb := bnext hbr b1
          clear b1 c0 c1 c2 c3 c4 c5 c6 c7 c8 C
          go_wp2
          exact ⟨⟨k + 1, hlt, by go_num, G, hb⟩, by simp [intOf]; omega⟩
      · obtain rfl : k = i := by omega
        clear II c0 c1 c2 c3 c4 c5 c6 c7 c8
        go_wp2_with fail
        refine (AL.out _).mono ?_; rintro e w4 ⟨rfl, b1⟩
        have hb := bnext hbr b1
        clear b1 AL
        go_wp2
        go_ret
        exact ⟨rfl, hb⟩
theorem inodes_walk (b l i n : Int) (w : World) :
    Calls Try.prog 6 #[threeV b l i, .int .i64 n] w fun e w' => e = .returned (.bool true) ∧ Below w.heap.size w w' := by
  by_cases h : okG b l i
  · obtain ⟨b', l', i', m, t, rfl, rfl, rfl, h2⟩ := okG_yes h
    by_cases hn : n < 0 ∨ (i' : Int) ≤ n
    · exact inodes_out b' l' i' m t n h2 hn w
    · obtain ⟨j, rfl⟩ := Int.eq_ofNat_of_zero_le (show 0 ≤ n by omega)
      exact inodes_in b' l' i' m t j h2 (by omega) w
  · exact inodes_off b l i n h w
end Go.Proofs.Ytpgpglnbpahcjaa
