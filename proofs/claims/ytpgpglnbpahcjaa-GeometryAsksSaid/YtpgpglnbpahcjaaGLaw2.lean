/- The walk of GeometryAsks. -/
import Derived.Test.YtpgpglnbpahcjaaGAlive
import Derived.Test.YtpgpglnbpahcjaaQBelow
namespace Go.Proofs.Ytpgpglnbpahcjaa
set_option linter.unusedVariables false
open Go.RowKit

set_option maxHeartbeats 4000000 in
theorem asks_off (b l i la ma ml ta tl da p n : Int) (h : ¬ isG b l i la ma ml ta tl da) (w : World) :
    Calls Try.prog 4 #[geo b l i la ma ml ta tl da, .int .i64 p, .int .i64 n] w fun e w' => e = .returned (.bool true) ∧ Below w.heap.size w w' := by
  have mixed : Try.prog.follows .mixedOrders = true := by kernel_rfl
  have AL := Lib.hid alive_any
  have I1 := Lib.hid (inode_off b l i la ma ml ta tl da n h)
  have I2 := Lib.hid (rinode_off b l i la ma ml ta tl da n h)
  have F1 := Lib.hid (fixed_off b l i la ma ml ta tl da h)
  have F2 := Lib.hid (rfixed_off b l i la ma ml ta tl da h)
  have W1 := Lib.hid (where_off b l i la ma ml ta tl da p h)
  have W2 := Lib.hid (rwhere_off b l i la ma ml ta tl da p h)
  have SY := Lib.hid (fun W => same_yes (.slice none 0 0) (.slice none 0 0) [] W (runsIn_nil W) (runsIn_nil W))
  clear h
  go_enter Try.func4, Try.ntmps4
  have G := GeoAt.new b l i la ma ml ta tl da w
  have hb0 := balloc1 w (.cells (cellsG b l i la ma ml ta tl da) 23)
  go_wp2_with fail
  refine (I1.out _).mono ?_; rintro e w1 ⟨rfl, b1⟩
  have G := G.kept1 b1
  have hb := bnext hb0 b1
  clear b1 I1 hb0
  obtain ⟨c0, c1, c2, c3, c4, c5, c6, c7, c8⟩ := G.cells
  go_wp2_with fail
  refine (I2.out _).mono ?_; rintro e w2 ⟨rfl, b1⟩
  have G := G.kept1 b1
  have hb := bnext hb b1
  clear b1 I2 c0 c1 c2 c3 c4 c5 c6 c7 c8
  obtain ⟨c0, c1, c2, c3, c4, c5, c6, c7, c8⟩ := G.cells
  go_wp2_with fail
  refine (F1.out _).mono ?_; rintro e w3 ⟨rfl, b1⟩
  have G := G.kept1 b1
  have hb := bnext hb b1
  clear b1 c0 c1 c2 c3 c4 c5 c6 c7 c8
  obtain ⟨c0, c1, c2, c3, c4, c5, c6, c7, c8⟩ := G.cells
  go_wp2_with fail
  refine (F2.out _).mono ?_; rintro e w4 ⟨rfl, b1⟩
  have G := G.kept1 b1
  have hb := bnext hb b1
  clear b1 F2 c0 c1 c2 c3 c4 c5 c6 c7 c8
  obtain ⟨d0, d1, d2, d3, d4, d5, d6, d7, d8⟩ := G.all
  go_wp2
  refine wp_region_quiet_below mixed (by kernel_rfl) ?_
  repeat (go_big_quiet_step (first | (go_at_call 15; refine calls_below (W1.out _)) | (go_at_call 16; refine calls_below (W2.out _)) | (go_at_call 17; refine calls_below (SY.out _))))
  refine wpQuiet_nil ?_
  intro w0q hw'
  obtain ⟨⟨wq, bq⟩, hw''⟩ := hw'
  have hw2 : wq = w0q := hw''.symm
  clear hw''
  subst hw2
  have G := G.kept1 bq
  have hb := bnext hb bq
  clear bq d0 d1 d2 d3 d4 d5 d6 d7 d8 W1 W2
  go_wp2
  go_loopw [15] (fun p wr => p = .int .i64 0 ∧ wr = wq) (fun _ _ => 0)
  case atStart => exact ⟨rfl, rfl⟩
  case round =>
    obtain ⟨rfl, rfl⟩ := hrel
    obtain ⟨c0, c1, c2, c3, c4, c5, c6, c7, c8⟩ := G.cells
    go_wp2_with fail
    refine (F1.out _).mono ?_; rintro e w5 ⟨rfl, b1⟩
    have hb := bnext hb b1
    clear b1 F1 G c0 c1 c2 c3 c4 c5 c6 c7 c8
    go_wp2_with fail
    refine (SY.out _).mono ?_; rintro e w6 ⟨rfl, b1⟩
    have hb := bnext hb b1
    clear b1 SY
    go_wp2_with fail
    refine (AL.out _).mono ?_; rintro e w7 ⟨rfl, b1⟩
    have hb := bnext hb b1
    clear b1 AL
    go_wp2
    go_ret
    exact ⟨rfl, hb⟩

/-- one run in memory, at block g -/
abbrev OneAt (g : Nat) (x y : Int) (w : World) : Prop := w.heap[g]? = some (.cells #[.int .i64 x, .int .i64 y] 36 (0, 0))
theorem one_kept {g : Nat} {x y : Int} {w w' : World} (h : OneAt g x y w) (hb : Below w.heap.size w w') : OneAt g x y w' := (hb.block g (lt_of_block h)).trans h
theorem one_cellsOf {g : Nat} {x y : Int} {w : World} (h : OneAt g x y w) : w.cell? ⟨g, 0, none⟩ = some (.int .i64 x) ∧ w.cell? ⟨g, 1, none⟩ = some (.int .i64 y) ∧ w.frozen? ⟨g, 0, none⟩ = false ∧ w.frozen? ⟨g, 1, none⟩ = false := by
  simp [World.cell?, World.frozen?, h]

set_option maxHeartbeats 8000000 in
theorem asks_on (b l i m t : Nat) (p n x y z q : Int) (h : okN b l i m t)
    (h1 : ∀ w, Calls Try.prog 11 #[lay b l i m t, .int .i64 n] w fun e w' => e = .returned (.tuple #[.int .i64 x, .int .i64 y, .int .i64 z]) ∧ Below w.heap.size w w')
    (h2 : ∀ w, Calls Try.prog 12 #[lay b l i m t, .int .i64 n] w fun e w' => e = .returned (.tuple #[.int .i64 x, .int .i64 y, .int .i64 z]) ∧ Below w.heap.size w w')
    (h3 : ∀ w, Calls Try.prog 15 #[lay b l i m t, .int .i64 p] w fun e w' => e = .returned (.int .i64 q) ∧ Below w.heap.size w w')
    (h4 : ∀ w, Calls Try.prog 16 #[lay b l i m t, .int .i64 p] w fun e w' => e = .returned (.int .i64 q) ∧ Below w.heap.size w w') (w : World) :
    Calls Try.prog 4 #[lay b l i m t, .int .i64 p, .int .i64 n] w fun e w' => e = .returned (.bool true) ∧ Below w.heap.size w w' := by
  have mixed : Try.prog.follows .mixedOrders = true := by kernel_rfl
  have AL := Lib.hid alive_any
  have I1 := Lib.hid h1
  have I2 := Lib.hid h2
  have W1 := Lib.hid h3
  have W2 := Lib.hid h4
  have F1 := Lib.hid (fixed_on b l i m t h)
  have F2 := Lib.hid (rfixed_on b l i m t h)
  have SY := Lib.hid same_yes
  clear h h1 h2 h3 h4
  go_enter Try.func4, Try.ntmps4
  have G := GeoAt.new b l i 1 (1 + l) m (1 + l + m) t (1 + l + m + t) w
  have hb0 := balloc1 w (.cells (cellsG b l i 1 (1 + l) m (1 + l + m) t (1 + l + m + t)) 23)
  go_wp2_with fail
  refine (I1.out _).mono ?_; rintro e w1 ⟨rfl, b1⟩
  have G := G.kept1 b1
  have hb := bnext hb0 b1
  clear b1 I1 hb0
  obtain ⟨c0, c1, c2, c3, c4, c5, c6, c7, c8⟩ := G.cells
  go_wp2_with fail
  refine (I2.out _).mono ?_; rintro e w2 ⟨rfl, b1⟩
  have G := G.kept1 b1
  have hb := bnext hb b1
  have hn1 := hb.size
  have hlt := G.lt
  clear b1 I2 c0 c1 c2 c3 c4 c5 c6 c7 c8
  obtain ⟨c0, c1, c2, c3, c4, c5, c6, c7, c8⟩ := G.cells
  go_wp2_with fail
  refine (F1.out _).mono ?_; rintro e w3 ⟨g1, rfl, hg1, r1, b1⟩
  have G := G.kept1 b1
  have hb := bnext hb b1
  have hg1b := lt_of_block r1
  clear b1 c0 c1 c2 c3 c4 c5 c6 c7 c8
  obtain ⟨c0, c1, c2, c3, c4, c5, c6, c7, c8⟩ := G.cells
  go_wp2_with fail
  refine (F2.out _).mono ?_; rintro e w4 ⟨g2, rfl, hg2, r2, b1⟩
  have G := G.kept1 b1
  have hb := bnext hb b1
  have r1 := one_kept r1 b1
  clear b1 F2 c0 c1 c2 c3 c4 c5 c6 c7 c8
  have S := Lib.hid (fun P : BelowP w4 => same_yes _ _ _ P.to (runsIn_kept (one_in r1) P.h) (runsIn_kept (one_in r2) P.h))
  obtain ⟨d0, d1, d2, d3, d4, d5, d6, d7, d8⟩ := G.all
  have HN : Hid (w.heap.size ≤ w2.heap.size ∧ w.heap.size < w2.heap.size ∧ w2.heap.size ≤ g1 ∧ g1 < w3.heap.size ∧ w3.heap.size ≤ g2) := Lib.hid ⟨hn1, hlt, hg1, hg1b, hg2⟩
  clear hn1 hlt hg1 hg1b hg2
  go_wp2
  refine wp_region_quiet_below mixed (by kernel_rfl) ?_
  repeat (go_big_quiet_step (first | (go_at_call 15; refine calls_below (W1.out _)) | (go_at_call 16; refine calls_below (W2.out _)) | (go_at_call 17; refine calls_below (S.out _))))
  refine wpQuiet_nil ?_
  intro w0q hw'
  obtain ⟨⟨wq, bq⟩, hw''⟩ := hw'
  have hw2 : wq = w0q := hw''.symm
  clear hw''
  subst hw2
  have G := G.kept1 bq
  have hb := bnext hb bq
  have r1 := one_kept r1 bq
  have r2 := one_kept r2 bq
  clear bq d0 d1 d2 d3 d4 d5 d6 d7 d8 W1 W2 S
  go_wp2
  go_loopw [15] (fun p wr => ∃ (k : Nat) (x y : Int), k ≤ 1 ∧ p = .int .i64 (k : Int) ∧ OneAt g1 x y wr ∧ OneAt g2 0 (1 + (l : Int) + m + t) wr ∧ GeoAt w.heap.size b l i 1 (1 + l) m (1 + l + m) t (1 + l + m + t) wr ∧ Below w.heap.size w wr) (fun p _ => 1 - (intOf p).toNat)
  case atStart => exact ⟨0, _, _, by omega, rfl, r1, r2, G, hb⟩
  case round =>
    obtain ⟨k, x1, y1, hk, rfl, r1, r2, G, hb⟩ := hrel
    rcases (show k = 0 ∨ k = 1 by omega) with rfl | rfl
    · obtain ⟨z0, z1, z2, z3⟩ := one_cellsOf r1
      have H : Hid (OneAt g1 0 0 ((wr.setCell ⟨g1, 0, none⟩ (.int .i64 0)).setCell ⟨g1, 1, none⟩ (.int .i64 0)) ∧ OneAt g2 0 (1 + (l : Int) + m + t) ((wr.setCell ⟨g1, 0, none⟩ (.int .i64 0)).setCell ⟨g1, 1, none⟩ (.int .i64 0)) ∧
          GeoAt w.heap.size b l i 1 (1 + l) m (1 + l + m) t (1 + l + m + t) ((wr.setCell ⟨g1, 0, none⟩ (.int .i64 0)).setCell ⟨g1, 1, none⟩ (.int .i64 0)) ∧ Below w.heap.size w ((wr.setCell ⟨g1, 0, none⟩ (.int .i64 0)).setCell ⟨g1, 1, none⟩ (.int .i64 0))) := by
        have hn := HN.out
        refine Lib.hid ⟨heap_setCell_same _ _ 1 _ _ _ (heap_setCell_same _ _ 0 _ _ _ r1), ?_, (G.set (by show g1 ≠ _; omega) _).set (by show g1 ≠ _; omega) _, (hb.setCell (by show _ ≤ g1; omega) _).setCell (by show _ ≤ g1; omega) _⟩
        exact (Below.heap_setCell _ _ _ _ (by show g2 ≠ g1; omega)).trans ((Below.heap_setCell _ _ _ _ (by show g2 ≠ g1; omega)).trans r2)
      clear r1 r2 G hb
      go_wp2
      exact ⟨⟨1, 0, 0, by omega, rfl, H.out.1, H.out.2.1, H.out.2.2.1, H.out.2.2.2⟩, by simp [intOf]⟩
    · obtain ⟨c0, c1, c2, c3, c4, c5, c6, c7, c8⟩ := G.cells
      go_wp2_with fail
      refine (F1.out _).mono ?_; rintro e w5 ⟨g3, rfl, hg3, r3, b1⟩
      have hb := bnext hb b1
      have r2 := one_kept r2 b1
      clear b1 F1 G c0 c1 c2 c3 c4 c5 c6 c7 c8
      go_wp2_with fail
      refine (SY.out _ _ _ _ (one_in r3) (one_in r2)).mono ?_; rintro e w6 ⟨rfl, b1⟩
      have hb := bnext hb b1
      clear b1 SY r2 r3 r1
      go_wp2_with fail
      refine (AL.out _).mono ?_; rintro e w7 ⟨rfl, b1⟩
      have hb := bnext hb b1
      clear b1 AL
      go_wp2
      go_ret
      exact ⟨rfl, hb⟩

theorem asks_walk (b l i la ma ml ta tl da p n : Int) (w : World) :
    Calls Try.prog 4 #[geo b l i la ma ml ta tl da, .int .i64 p, .int .i64 n] w fun e w' => e = .returned (.bool true) ∧ Below w.heap.size w w' := by
  by_cases h : isG b l i la ma ml ta tl da
  · obtain ⟨b', l', i', m, t, rfl, rfl, rfl, h2, rfl, rfl, rfl, rfl, rfl, rfl⟩ := isG_yes h
    have HW : ∃ q, (∀ w, Calls Try.prog 15 #[lay b' l' i' m t, .int .i64 p] w fun e w' => e = .returned (.int .i64 q) ∧ Below w.heap.size w w') ∧
        (∀ w, Calls Try.prog 16 #[lay b' l' i' m t, .int .i64 p] w fun e w' => e = .returned (.int .i64 q) ∧ Below w.heap.size w w') := by
      by_cases hp : p < 0 ∨ (b' : Int) ≤ p
      · exact ⟨_, where_out b' l' i' m t h2 p hp, rwhere_out b' l' i' m t h2 p hp⟩
      · exact ⟨_, where_in b' l' i' m t h2 p (by omega) (by omega), rwhere_in b' l' i' m t h2 p (by omega) (by omega)⟩
    have HI : ∃ x y z, (∀ w, Calls Try.prog 11 #[lay b' l' i' m t, .int .i64 n] w fun e w' => e = .returned (.tuple #[.int .i64 x, .int .i64 y, .int .i64 z]) ∧ Below w.heap.size w w') ∧
        (∀ w, Calls Try.prog 12 #[lay b' l' i' m t, .int .i64 n] w fun e w' => e = .returned (.tuple #[.int .i64 x, .int .i64 y, .int .i64 z]) ∧ Below w.heap.size w w') := by
      by_cases hn : n < 0 ∨ (i' : Int) ≤ n
      · exact ⟨_, _, _, inode_out b' l' i' m t h2 n hn, rinode_out b' l' i' m t h2 n hn⟩
      · obtain ⟨j, rfl⟩ := Int.eq_ofNat_of_zero_le (show 0 ≤ n by omega)
        exact ⟨_, _, _, inode_in b' l' i' m t h2 j (by omega), rinode_in b' l' i' m t h2 j (by omega)⟩
    obtain ⟨q, w1, w2⟩ := HW
    obtain ⟨x, y, z, i1, i2⟩ := HI
    exact asks_on b' l' i' m t p n x y z q h2 i1 i2 w1 w2 w
  · exact asks_off b l i la ma ml ta tl da p n h w
end Go.Proofs.Ytpgpglnbpahcjaa
