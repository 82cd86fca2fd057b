/- The walk of InodesMore. -/
import Derived.Test.YtfepjjjoikcljaaITwin
import Derived.Test.YtfepjjjoikcljaaILaw1
import Derived.Deep.CutBlock
import Derived.Deep.DeepCutAuto
namespace Go.Proofs.Ytfepjjjoikcljaa
set_option linter.unusedVariables false
open Go.RowKit

/-- what the checks say of an inode with one entry more -/
theorem more_check (x : Ino) (hf : fitE x.root) (h : Full x) (h0 : 0 < x.root.length) (y : Ent) (hy : I64 y.log ∧ I64 y.phys ∧ I64 y.len) (ho : EntOk (decide (x.depth = 0)) y) (ha : After (eat x.root (x.root.length - 1)) y) (v : Value) (w : World) (hv : EntsIn v (x.root ++ [y]) w) :
    Calls Try.prog 11 #[inoV x v] w fun e w' => e = .returned (.bool (decide (x.root.length < 4))) ∧ Below w.heap.size w w' := by
  have := icheck_any { x with root := x.root ++ [y] } (fun e he => by
    rcases List.mem_append.1 he with he | he
    · exact hf e he
    · rw [List.mem_singleton] at he; subst he; exact hy) v w hv
  rw [show decide (InoOk { x with root := x.root ++ [y] }) = decide (x.root.length < 4) by rw [decide_eq_decide]; exact more_iff h h0 ho ha] at this
  exact this
theorem less_check (x : Ino) (hf : fitE x.root) (h : Full x) (h0 : 0 < x.root.length) (y : Ent) (hy : I64 y.log ∧ I64 y.phys ∧ I64 y.len) (ha : ¬ After (eat x.root (x.root.length - 1)) y) (v : Value) (w : World) (hv : EntsIn v (x.root ++ [y]) w) :
    Calls Try.prog 11 #[inoV x v] w fun e w' => e = .returned (.bool false) ∧ Below w.heap.size w w' := by
  have := icheck_any { x with root := x.root ++ [y] } (fun e he => by
    rcases List.mem_append.1 he with he | he
    · exact hf e he
    · rw [List.mem_singleton] at he; subst he; exact hy) v w hv
  rw [decide_eq_false (more_no h h0 ha)] at this
  exact this
set_option maxRecDepth 100000 in
set_option maxHeartbeats 8000000 in
theorem imore_walk (x : Ino) (hf : fitE x.root) (y : Ent) (hy : I64 y.log ∧ I64 y.phys ∧ I64 y.len) (v : Value) (w : World) (hv : EntsIn v x.root w) :
    Calls Try.prog 7 #[inoV x v, entV y] w fun e w' => e = .returned (.bool true) ∧ Below w.heap.size w w' := by
  have mixed : Try.prog.follows .mixedOrders = true := by kernel_rfl
  obtain ⟨w0, hw0⟩ : ∃ w0, (w.alloc (.cells (inoC x v) 24)).alloc (.cells (entC y) 26) = w0 := ⟨_, rfl⟩
  have hb0 : Below w.heap.size w w0 := by rw [← hw0]; exact balloc (balloc1 w _) _
  have hX0 : Blk w.heap.size (inoC x v) 24 w0 := by rw [← hw0]; exact (Blk.new _ _ w).kept1 (balloc1 _ _)
  have hY0 : Blk (w.heap.size + 1) (entC y) 26 w0 := by
    rw [← hw0]
    have := Blk.new (entC y) 26 (w.alloc (.cells (inoC x v) 24))
    rw [size_alloc] at this; exact this
  have hs0 : w0.heap.size = w.heap.size + 2 := by rw [← hw0, size_alloc, size_alloc]
  have AL := Lib.hid ialive_any
  have C := fun v w hv => icheck_any x hf v w hv
  have hcells := entsIn_cells hv
  obtain ⟨ad, cap, rfl, c1, c2, c3, -⟩ := hcells
  have hv0 := hv.kept hb0
  by_cases hl : x.root.length ≤ 1000
  · have dl : decide ((1000 : Int) < (x.root.length : Int)) = false := decide_eq_false (by omega)
    by_cases hok : InoOk x
    · rw [decide_eq_true hok] at C
      by_cases hk : x.kind = 0
      · have ek : (x.kind == 0) = true := by rw [beq_iff_eq]; exact hk
        obtain ⟨kd, pn, lk, sz, dp, rt⟩ := x
        obtain ⟨yl, yp, yz⟩ := y
        dsimp only at *
        have C := Lib.hid C
        have HV0 := Lib.hid hv0
        have HX0 := Lib.hid hX0
        have HW0 := Lib.hid hw0
        clear hok hk hf hv hl hv0 hX0 c3 hw0 hY0 hs0
        go_enter Try.func7, Try.ntmps7
        go_wp2_with fail
        try rw [HW0.out]
        refine (C.out _ _ HV0.out).mono ?_; rintro e w1 ⟨rfl, b1⟩
        have HB := bnext hb0 b1
        obtain ⟨x0, x1, x2, x3, x4, x5⟩ : w1.cell? ⟨w.heap.size, 0, none⟩ = some (.int .i64 kd) ∧ w1.cell? ⟨w.heap.size, 1, none⟩ = some (.bool pn) ∧ w1.cell? ⟨w.heap.size, 2, none⟩ = some (.int .i64 lk) ∧ w1.cell? ⟨w.heap.size, 3, none⟩ = some (.int .i64 sz) ∧ w1.cell? ⟨w.heap.size, 4, none⟩ = some (.int .i64 dp) ∧ w1.cell? ⟨w.heap.size, 5, none⟩ = some (.slice ad rt.length cap) := ⟨(HX0.out.kept1 b1).cell 0, (HX0.out.kept1 b1).cell 1, (HX0.out.kept1 b1).cell 2, (HX0.out.kept1 b1).cell 3, (HX0.out.kept1 b1).cell 4, (HX0.out.kept1 b1).cell 5⟩
        clear HX0 HV0 b1 hb0 HW0
        go_wp2_with fail
        refine (AL.out _).mono ?_; rintro e w6 ⟨rfl, b6⟩
        have HB6 := bnext HB b6
        go_wp2
        go_ret
        exact ⟨rfl, HB6⟩
      · have ek : (x.kind == 0) = false := by rw [beq_eq_false_iff_ne]; exact hk
        have hfull := (ok_kindN hk).1 hok
        by_cases hn0 : x.root.length = 0
        · have en : ((x.root.length : Int) == 0) = true := by rw [beq_iff_eq]; omega
          obtain ⟨kd, pn, lk, sz, dp, rt⟩ := x
          obtain ⟨yl, yp, yz⟩ := y
          dsimp only at *
          have C := Lib.hid C
          have HV0 := Lib.hid hv0
          have HX0 := Lib.hid hX0
          have HW0 := Lib.hid hw0
          clear hok hk hf hv hl hv0 hX0 c3 hw0 hY0 hs0 hfull hn0
          go_enter Try.func7, Try.ntmps7
          go_wp2_with fail
          try rw [HW0.out]
          refine (C.out _ _ HV0.out).mono ?_; rintro e w1 ⟨rfl, b1⟩
          have HB := bnext hb0 b1
          obtain ⟨x0, x1, x2, x3, x4, x5⟩ : w1.cell? ⟨w.heap.size, 0, none⟩ = some (.int .i64 kd) ∧ w1.cell? ⟨w.heap.size, 1, none⟩ = some (.bool pn) ∧ w1.cell? ⟨w.heap.size, 2, none⟩ = some (.int .i64 lk) ∧ w1.cell? ⟨w.heap.size, 3, none⟩ = some (.int .i64 sz) ∧ w1.cell? ⟨w.heap.size, 4, none⟩ = some (.int .i64 dp) ∧ w1.cell? ⟨w.heap.size, 5, none⟩ = some (.slice ad rt.length cap) := ⟨(HX0.out.kept1 b1).cell 0, (HX0.out.kept1 b1).cell 1, (HX0.out.kept1 b1).cell 2, (HX0.out.kept1 b1).cell 3, (HX0.out.kept1 b1).cell 4, (HX0.out.kept1 b1).cell 5⟩
          clear HX0 HV0 b1 hb0 HW0
          go_wp2_with fail
          refine (AL.out _).mono ?_; rintro e w6 ⟨rfl, b6⟩
          have HB6 := bnext HB b6
          go_wp2
          go_ret
          exact ⟨rfl, HB6⟩
        · have en : ((x.root.length : Int) == 0) = false := by rw [beq_eq_false_iff_ne]; omega
          have hlast := entOk_low (hfull.2.2.2.2.2.1 (x.root.length - 1) (by omega)).1
          have MORE0 := fun y' hy' => more_check x hf hfull (by omega) y' hy'
          have LESS0 := fun y' hy' => less_check x hf hfull (by omega) y' hy'
          have hdp : 0 ≤ x.depth ∧ x.depth ≤ 4 := hfull.2.2.2.1
          obtain ⟨g, o, rfl, hg, hc⟩ := c3 (by omega)
          obtain ⟨kd, pn, lk, sz, dp, rt⟩ := x
          obtain ⟨yl, yp, yz⟩ := y
          dsimp only at *
          obtain ⟨n, hn⟩ : ∃ n, rt.length = n := ⟨_, rfl⟩
          obtain ⟨j, hjn⟩ : ∃ j, n = j + 1 := ⟨n - 1, by omega⟩
          have HC3 := Lib.hid fun w' b => hc w' b j (by omega)
          rw [hn, show n - 1 = j by omega] at MORE0 LESS0 hlast
          generalize eat rt j = ll at *
          obtain ⟨la, lp, lz⟩ := ll
          dsimp only at *
          have HN := Lib.hid hn
          have HVI := Lib.hid (show EntsIn (.slice (some ⟨g, o, none⟩) n cap) rt w by unfold EntsIn at hv ⊢; rw [hn] at hv ⊢; exact hv)
          unfold EntsIn at C
          rw [hn] at C c1 dl hl hv0 hX0 hw0 en ⊢
          have hj1 : (n : Int) - 1 = (j : Int) := by omega
          have hj2 : j < n := by omega
          have hj3 : 0 < n := by omega
          clear hc c3 hok hk hf hv hfull hn0 hn hjn
          have C' := Lib.hid C
          clear C
          have HV0 := Lib.hid hv0
          have HX0 := Lib.hid hX0
          have HY0 := Lib.hid hY0
          have HW0 := Lib.hid hw0
          have M0 := Lib.hid MORE0
          have L0 := Lib.hid LESS0
          have HLL := Lib.hid hlast
          clear hv0 hX0 hY0 hw0 MORE0 LESS0 hlast
          go_enter Try.func7, Try.ntmps7
          go_wp2_with fail
          try rw [HW0.out]
          refine (C'.out _ _ HV0.out).mono ?_; rintro e w1 ⟨rfl, b1⟩
          have HX1 := Lib.hid (HX0.out.kept1 b1)
          have HY1 := Lib.hid (HY0.out.kept1 b1)
          have HB1 := Lib.hid (bnext hb0 b1)
          have hsz1 : w.heap.size + 2 ≤ w1.heap.size := by have := b1.size; omega
          clear HX0 HY0 HV0 hb0 b1 HW0 C'
          obtain ⟨x0, x1, x2, x3, x4, x5⟩ : w1.cell? ⟨w.heap.size, 0, none⟩ = some (.int .i64 kd) ∧ w1.cell? ⟨w.heap.size, 1, none⟩ = some (.bool pn) ∧ w1.cell? ⟨w.heap.size, 2, none⟩ = some (.int .i64 lk) ∧ w1.cell? ⟨w.heap.size, 3, none⟩ = some (.int .i64 sz) ∧ w1.cell? ⟨w.heap.size, 4, none⟩ = some (.int .i64 dp) ∧ w1.cell? ⟨w.heap.size, 5, none⟩ = some (.slice (some ⟨g, o, none⟩) n cap) := ⟨HX1.out.cell 0, HX1.out.cell 1, HX1.out.cell 2, HX1.out.cell 3, HX1.out.cell 4, HX1.out.cell 5⟩
          obtain ⟨e1, e2, e3⟩ := HC3.out w1 HB1.out
          obtain ⟨w2, hw2⟩ : ∃ w2, w1.alloc (.cells #[.int .i64 la, .int .i64 lp, .int .i64 lz] 26) = w2 := ⟨_, rfl⟩
          have b12 : Below w1.heap.size w1 w2 := by rw [← hw2]; exact balloc1 _ _
          have HL2 := Lib.hid (show Blk w1.heap.size (entC ⟨la, lp, lz⟩) 26 w2 by rw [← hw2]; exact Blk.new _ _ w1)
          have HX2 := Lib.hid (HX1.out.kept1 b12)
          have HY2 := Lib.hid (HY1.out.kept1 b12)
          have HB2 := Lib.hid (bnext HB1.out b12)
          have hsz2 : w2.heap.size = w1.heap.size + 1 := by rw [← hw2, size_alloc]
          have hzb1 : w1.heap.size < w2.heap.size := by omega
          clear b12 HX1 HY1 HB1 hsz2
          go_upto_region 4 with fail
          try rw [hw2]
          clear hw2 x0 x1 x2 x3 x4 x5 e1 e2 e3 HC3
          have x4 : w2.cell? ⟨w.heap.size, 4, none⟩ = some (.int .i64 dp) := HX2.out.cell 4
          have y0 : w2.cell? ⟨w.heap.size + 1, 0, none⟩ = some (.int .i64 yl) := HY2.out.cell 0
          have y1 : w2.cell? ⟨w.heap.size + 1, 1, none⟩ = some (.int .i64 yp) := HY2.out.cell 1
          have y2 : w2.cell? ⟨w.heap.size + 1, 2, none⟩ = some (.int .i64 yz) := HY2.out.cell 2
          have l0 : w2.cell? ⟨w1.heap.size, 0, none⟩ = some (.int .i64 la) := HL2.out.cell 0
          have l2 : w2.cell? ⟨w1.heap.size, 2, none⟩ = some (.int .i64 lz) := HL2.out.cell 2
          have HB := HB2.out
          have X2C : w2.cell? ⟨w.heap.size, 0, none⟩ = some (.int .i64 kd) ∧ w2.cell? ⟨w.heap.size, 1, none⟩ = some (.bool pn) ∧ w2.cell? ⟨w.heap.size, 2, none⟩ = some (.int .i64 lk) ∧ w2.cell? ⟨w.heap.size, 3, none⟩ = some (.int .i64 sz) ∧ w2.cell? ⟨w.heap.size, 4, none⟩ = some (.int .i64 dp) ∧ w2.cell? ⟨w.heap.size, 5, none⟩ = some (.slice (some ⟨g, o, none⟩) n cap) := ⟨HX2.out.cell 0, HX2.out.cell 1, HX2.out.cell 2, HX2.out.cell 3, HX2.out.cell 4, HX2.out.cell 5⟩
          have X2D := Lib.hid X2C
          clear X2C
          have hsum1 : 0 ≤ la + lz := by have := HLL.out; omega
          have hsum2 : la + lz ≤ 10000 := by have := HLL.out; omega
          by_cases g0 : yl ≤ la
          · have q0 : decide (yl ≤ la) = true := decide_eq_true g0
            clear g0
            go_wp2_with fail
            refine (AL.out _).mono ?_; rintro e w6 ⟨rfl, b6⟩
            have HB6 := bnext HB b6
            go_wp2
            go_ret
            exact ⟨rfl, HB6⟩
          have q0 : decide (yl ≤ la) = false := decide_eq_false g0
          by_cases g1 : yl < la + lz
          · have q1 : decide (yl < la + lz) = true := decide_eq_true g1
            clear g0 g1
            go_wp2_with fail
            refine (AL.out _).mono ?_; rintro e w6 ⟨rfl, b6⟩
            have HB6 := bnext HB b6
            go_wp2
            go_ret
            exact ⟨rfl, HB6⟩
          have q1 : decide (yl < la + lz) = false := decide_eq_false g1
          by_cases g2 : 1000 < yl
          · have q2 : decide (1000 < yl) = true := decide_eq_true g2
            clear g0 g1 g2
            go_wp2_with fail
            refine (AL.out _).mono ?_; rintro e w6 ⟨rfl, b6⟩
            have HB6 := bnext HB b6
            go_wp2
            go_ret
            exact ⟨rfl, HB6⟩
          have q2 : decide (1000 < yl) = false := decide_eq_false g2
          by_cases g3 : yp < 1
          · have q3 : decide (yp < 1) = true := decide_eq_true g3
            clear g0 g1 g2 g3
            go_wp2_with fail
            refine (AL.out _).mono ?_; rintro e w6 ⟨rfl, b6⟩
            have HB6 := bnext HB b6
            go_wp2
            go_ret
            exact ⟨rfl, HB6⟩
          have q3 : decide (yp < 1) = false := decide_eq_false g3
          by_cases g4 : 2000 < yp
          · have q4 : decide (2000 < yp) = true := decide_eq_true g4
            clear g0 g1 g2 g3 g4
            go_wp2_with fail
            refine (AL.out _).mono ?_; rintro e w6 ⟨rfl, b6⟩
            have HB6 := bnext HB b6
            go_wp2
            go_ret
            exact ⟨rfl, HB6⟩
          have q4 : decide (2000 < yp) = false := decide_eq_false g4
          by_cases g5 : yz < 1
          · have q5 : decide (yz < 1) = true := decide_eq_true g5
            clear g0 g1 g2 g3 g4 g5
            go_wp2_with fail
            refine (AL.out _).mono ?_; rintro e w6 ⟨rfl, b6⟩
            have HB6 := bnext HB b6
            go_wp2
            go_ret
            exact ⟨rfl, HB6⟩
          have q5 : decide (yz < 1) = false := decide_eq_false g5
          by_cases g6 : 1000 < yz
          · have q6 : decide (1000 < yz) = true := decide_eq_true g6
            clear g0 g1 g2 g3 g4 g5 g6
            go_wp2_with fail
            refine (AL.out _).mono ?_; rintro e w6 ⟨rfl, b6⟩
            have HB6 := bnext HB b6
            go_wp2
            go_ret
            exact ⟨rfl, HB6⟩
          have q6 : decide (1000 < yz) = false := decide_eq_false g6
          have b3 := HLL.out
          have hyl := hy
          by_cases hd : dp = 0
          · have ed : decide (0 < dp) = false := decide_eq_false (by omega)
            have MORE := (M0.out ⟨yl, yp, yz⟩ hy (by rw [decide_eq_true hd, entOk_leaf]; unfold Lies; simp only; omega) (by unfold After; simp only; omega))
            have LESS := Lib.hid (L0.out ⟨la + lz - 1, yp, yz⟩ ⟨⟨by simp only; omega, by simp only; omega⟩, hy.2⟩ (by unfold After; simp only; omega))
            obtain ⟨w3, hw3⟩ : ∃ w3, w2.alloc (.cells #[.int .i64 kd, .bool pn, .int .i64 lk, .int .i64 sz, .int .i64 dp, .slice (some ⟨g, o, none⟩) n cap] 24) = w3 := ⟨_, rfl⟩
            have b23 : Below w2.heap.size w2 w3 := by rw [← hw3]; exact balloc1 _ _
            have HZ3 : Blk w2.heap.size #[.int .i64 kd, .bool pn, .int .i64 lk, .int .i64 sz, .int .i64 dp, .slice (some ⟨g, o, none⟩) n cap] 24 w3 := by rw [← hw3]; exact Blk.new _ _ w2
            have HX3 := HX2.out.kept1 b23
            have HY3 := HY2.out.kept1 b23
            have HL3 := HL2.out.kept1 b23
            have HB3 := bnext HB2.out b23
            have hzb2 : w2.heap.size < w3.heap.size := by rw [← hw3, size_alloc]; omega
            clear hd b23 g0 g1 g2 g3 g4 g5 g6 b3 hyl HX2 HY2 HL2 HB2 HB M0 L0 HLL hy hdp
            obtain ⟨x0, x1, x2, x3, x4', x5⟩ : w2.cell? ⟨w.heap.size, 0, none⟩ = some (.int .i64 kd) ∧ w2.cell? ⟨w.heap.size, 1, none⟩ = some (.bool pn) ∧ w2.cell? ⟨w.heap.size, 2, none⟩ = some (.int .i64 lk) ∧ w2.cell? ⟨w.heap.size, 3, none⟩ = some (.int .i64 sz) ∧ w2.cell? ⟨w.heap.size, 4, none⟩ = some (.int .i64 dp) ∧ w2.cell? ⟨w.heap.size, 5, none⟩ = some (.slice (some ⟨g, o, none⟩) n cap) := X2D.out
            go_upto_region 9 with fail
            try rw [hw3]
            clear hw3 x0 x1 x2 x3 x4' x5 x4 y0 y1 y2 l0 l2 q0 q1 q2 q3 q4 q5 q6
            clear X2D
            obtain ⟨bb, hbb⟩ : ∃ bb, decide (n < 4) = bb := ⟨_, rfl⟩
            have hbi : decide ((n : Int) < 4) = bb := by rw [← hbb, decide_eq_decide]; omega
            have hbn : (bb != bb) = false := by simp
            rw [hbb] at MORE
            have MORE := Lib.hid MORE
            obtain ⟨wd, rfl⟩ : ∃ wd, wd = w3 := ⟨_, rfl⟩
            generalize w1.heap.size = lb at *
            generalize w2.heap.size = zb at *
            have RUNS := three_runs wd.drew (.cells #[] 26) (.cells #[.int .i64 yl, .int .i64 yp, .int .i64 yz] 26) 0 1 rt [⟨yl, yp, yz⟩] (.slice (some ⟨g, o, none⟩) n cap) (HVI.out.kept HB3.drew) rfl (by omega) (by have := HN.out; simp; omega)
              (fun W => World.ownsRow_lit W #[] 0 (Nat.le_refl _) (by unfold maxLen; omega) rfl) (fun W => lit_row W _ 1 _ rfl (by omega) rfl)
            have hlen2 : (rt ++ [(⟨yl, yp, yz⟩ : Ent)]).length = n + 1 := by have := HN.out; simp; omega
            have KS : ∀ W, Below wd.drew.heap.size wd.drew W → W.cell? ⟨w.heap.size, 5, none⟩ = some (.slice (some ⟨g, o, none⟩) n cap) ∧ W.cell? ⟨w.heap.size + 1, 0, none⟩ = some (.int .i64 yl) ∧ W.cell? ⟨w.heap.size + 1, 1, none⟩ = some (.int .i64 yp) ∧ W.cell? ⟨w.heap.size + 1, 2, none⟩ = some (.int .i64 yz) := fun W b => ⟨(Blk.kept1 (w := wd.drew) HX3 b).cell 5, (Blk.kept1 (w := wd.drew) HY3 b).cell 0, (Blk.kept1 (w := wd.drew) HY3 b).cell 1, (Blk.kept1 (w := wd.drew) HY3 b).cell 2⟩
            have SET : ∀ (W : World) (u : Value), W.cell? ⟨w.heap.size, 5, none⟩ = some (.slice (some ⟨g, o, none⟩) n cap) ∧ W.cell? ⟨w.heap.size + 1, 0, none⟩ = some (.int .i64 yl) ∧ W.cell? ⟨w.heap.size + 1, 1, none⟩ = some (.int .i64 yp) ∧ W.cell? ⟨w.heap.size + 1, 2, none⟩ = some (.int .i64 yz) → (W.setCell ⟨zb, 5, none⟩ u).cell? ⟨w.heap.size, 5, none⟩ = some (.slice (some ⟨g, o, none⟩) n cap) ∧ (W.setCell ⟨zb, 5, none⟩ u).cell? ⟨w.heap.size + 1, 0, none⟩ = some (.int .i64 yl) ∧ (W.setCell ⟨zb, 5, none⟩ u).cell? ⟨w.heap.size + 1, 1, none⟩ = some (.int .i64 yp) ∧ (W.setCell ⟨zb, 5, none⟩ u).cell? ⟨w.heap.size + 1, 2, none⟩ = some (.int .i64 yz) := fun W u ⟨h1, h2, h3, h4⟩ =>
              ⟨(World.cell?_setCell_other _ _ _ _ (fun e => by have e2 : zb = w.heap.size := congrArg Addr.block e; omega)).trans h1, (World.cell?_setCell_other _ _ _ _ (fun e => by have e2 : zb = w.heap.size + 1 := congrArg Addr.block e; omega)).trans h2, (World.cell?_setCell_other _ _ _ _ (fun e => by have e2 : zb = w.heap.size + 1 := congrArg Addr.block e; omega)).trans h3, (World.cell?_setCell_other _ _ _ _ (fun e => by have e2 : zb = w.heap.size + 1 := congrArg Addr.block e; omega)).trans h4⟩
            obtain ⟨O1, hO1⟩ : ∃ O1 : Obj, (.cells #[] 26) = O1 := ⟨_, rfl⟩
            obtain ⟨O2, hO2⟩ : ∃ O2 : Obj, (.cells #[.int .i64 yl, .int .i64 yp, .int .i64 yz] 26) = O2 := ⟨_, rfl⟩
            rw [hO1, hO2] at RUNS
            obtain ⟨⟨vA, wA, vA2, wA2, rA1, rA2, bA, kA, qA⟩, ⟨vB, wB, vB2, wB2, rB1, rB2, bB, kB, qB⟩, ⟨vC, wC, vC2, wC2, rC1, rC2, bC, kC, qC⟩⟩ := RUNS
            have sA1 := KS _ (balloc1 wd.drew O1)
            have sA2 := KS _ bA
            have sA3 := KS _ (balloc bA O2)
            have sA4 := KS _ qA
            have sB2 := KS _ (balloc (balloc1 wd.drew O1) O2)
            have sB3 := KS _ bB
            have sB4 := KS _ qB
            have sC1 := KS _ (balloc1 wd.drew O2)
            have sC2 := KS _ (balloc (balloc1 wd.drew O2) O1)
            have sC3 := KS _ bC
            have sC4 := KS _ qC
            have hS0 := KS _ (Below.refl _ _)
            obtain ⟨aA, cA, hvA, g1A, g2A, g3A⟩ := shape_of kA
            rw [hlen2] at hvA g1A g3A
            obtain ⟨ggA, rfl, -⟩ := g3A (by omega)
            clear g3A
            subst hvA
            have g2A : cA ≤ 9223372036854775807 := g2A
            have tA := HZ3.kept1 (show Below wd.heap.size wd wA2 from ⟨qA.os, qA.tape, qA.output, qA.size, qA.block⟩)
            have yA := tA.cell 5
            have zA := tA.frozen 5
            have fA := Lib.hid (show EntsAt wd.heap.size (.slice (some ⟨ggA, 0, none⟩) (n + 1) cA) (rt ++ [⟨yl, yp, yz⟩]) wA2 ∧ Below wd.heap.size wd wA2 from ⟨kA, ⟨qA.os, qA.tape, qA.output, qA.size, qA.block⟩⟩)
            have sA5 := SET wA2 (.slice (some ⟨ggA, 0, none⟩) (n + 1) cA) sA4
            have rA1 := Lib.hid rA1
            have rA2 := Lib.hid rA2
            clear kA qA bA tA
            obtain ⟨aB, cB, hvB, g1B, g2B, g3B⟩ := shape_of kB
            rw [hlen2] at hvB g1B g3B
            obtain ⟨ggB, rfl, -⟩ := g3B (by omega)
            clear g3B
            subst hvB
            have g2B : cB ≤ 9223372036854775807 := g2B
            have tB := HZ3.kept1 (show Below wd.heap.size wd wB2 from ⟨qB.os, qB.tape, qB.output, qB.size, qB.block⟩)
            have yB := tB.cell 5
            have zB := tB.frozen 5
            have fB := Lib.hid (show EntsAt wd.heap.size (.slice (some ⟨ggB, 0, none⟩) (n + 1) cB) (rt ++ [⟨yl, yp, yz⟩]) wB2 ∧ Below wd.heap.size wd wB2 from ⟨kB, ⟨qB.os, qB.tape, qB.output, qB.size, qB.block⟩⟩)
            have sB5 := SET wB2 (.slice (some ⟨ggB, 0, none⟩) (n + 1) cB) sB4
            have rB1 := Lib.hid rB1
            have rB2 := Lib.hid rB2
            clear kB qB bB tB
            obtain ⟨aC, cC, hvC, g1C, g2C, g3C⟩ := shape_of kC
            rw [hlen2] at hvC g1C g3C
            obtain ⟨ggC, rfl, -⟩ := g3C (by omega)
            clear g3C
            subst hvC
            have g2C : cC ≤ 9223372036854775807 := g2C
            have tC := HZ3.kept1 (show Below wd.heap.size wd wC2 from ⟨qC.os, qC.tape, qC.output, qC.size, qC.block⟩)
            have yC := tC.cell 5
            have zC := tC.frozen 5
            have fC := Lib.hid (show EntsAt wd.heap.size (.slice (some ⟨ggC, 0, none⟩) (n + 1) cC) (rt ++ [⟨yl, yp, yz⟩]) wC2 ∧ Below wd.heap.size wd wC2 from ⟨kC, ⟨qC.os, qC.tape, qC.output, qC.size, qC.block⟩⟩)
            have sC5 := SET wC2 (.slice (some ⟨ggC, 0, none⟩) (n + 1) cC) sC4
            have rC1 := Lib.hid rC1
            have rC2 := Lib.hid rC2
            clear kC qC bC tC
            have HX3 := Lib.hid HX3
            have HL3 := Lib.hid HL3
            have HZ3' := Lib.hid HZ3
            have HB3 := Lib.hid HB3
            clear hlen2 KS SET HZ3 HY3
            go_cut [] (fun wx => ∃ ad2 cp2 w2, wx = w2.setCell ⟨zb, 5, none⟩ (.slice ad2 (n + 1) cp2) ∧ EntsAt wd.heap.size (.slice ad2 (n + 1) cp2) (rt ++ [⟨yl, yp, yz⟩]) w2 ∧ Below wd.heap.size wd w2)
            case first =>
             refine wp_region_held_drew (S := fun w' => w'.cell? ⟨w.heap.size, 5, none⟩ = some (.slice (some ⟨g, o, none⟩) n cap) ∧ w'.cell? ⟨w.heap.size + 1, 0, none⟩ = some (.int .i64 yl) ∧ w'.cell? ⟨w.heap.size + 1, 1, none⟩ = some (.int .i64 yp) ∧ w'.cell? ⟨w.heap.size + 1, 2, none⟩ = some (.int .i64 yz)) mixed hS0 (fun hHeld => ?_)
             clear hHeld
             refine wpAnyH_take (i := 1) (oi := _) (v := ?v91) rfl (by kernel_rfl) (by kernel_rfl) (by kernel_rfl) (fun _ _ _ h => h) (Or.inl ⟨by kernel_rfl, ?hy91⟩) hS0 ?rest91
             case hy91 => (intro w9 hSw; obtain ⟨q9a, q9b, q9c, q9d⟩ := hSw; go_simp; try with_reducible rfl)
             try simp only [Act.put, List.setIfInBounds_toArray, List.set_cons_zero, List.set_cons_succ]
             refine wpAnyH_take (i := 2) (oi := _) (v := ?v92) rfl (by kernel_rfl) (by kernel_rfl) (by kernel_rfl) (fun _ _ _ h => h) (Or.inl ⟨by kernel_rfl, ?hy92⟩) hS0 ?rest92
             case hy92 => (intro w9 hSw; obtain ⟨q9a, q9b, q9c, q9d⟩ := hSw; go_simp; try with_reducible rfl)
             try simp only [Act.put, List.setIfInBounds_toArray, List.set_cons_zero, List.set_cons_succ]
             refine wpAnyH_take (i := 4) (oi := _) (v := ?v94) rfl (by kernel_rfl) (by kernel_rfl) (by kernel_rfl) (fun _ _ _ h => h) (Or.inl ⟨by kernel_rfl, ?hy94⟩) hS0 ?rest94
             case hy94 => (intro w9 hSw; obtain ⟨q9a, q9b, q9c, q9d⟩ := hSw; go_simp; try with_reducible rfl)
             try simp only [Act.put, List.setIfInBounds_toArray, List.set_cons_zero, List.set_cons_succ]
             refine wpAnyH_ready (rs := [0, 5]) (by kernel_rfl) (by simp) ?_
             refine AllReadyH.cons (o := _) rfl (fun K hK => ?_) ?_
             · go_simp
               refine hK.out _ _ (sA1) (fun hHeld => ?_)
               clear hK K hHeld
               try simp only [Act.put, List.setIfInBounds_toArray, List.set_cons_zero, List.set_cons_succ]
               refine wpAnyH_ready (rs := [3, 5]) (by kernel_rfl) (by simp) ?_
               refine AllReadyH.cons (o := _) rfl (fun K hK => ?_) ?_
               · refine step_append rfl _ _ _ rfl rfl rfl rA1.out ?_
                 refine hK.out _ _ (sA2) (fun hHeld => ?_)
                 clear hK K hHeld
                 try simp only [Act.put, List.setIfInBounds_toArray, List.set_cons_zero, List.set_cons_succ]
                 refine wpAnyH_ready (rs := [5]) (by kernel_rfl) (by simp) ?_
                 refine AllReadyH.cons (o := _) rfl (fun K hK => ?_) ?_
                 · go_simp
                   refine hK.out _ _ (sA3) (fun hHeld => ?_)
                   clear hK K hHeld
                   try simp only [Act.put, List.setIfInBounds_toArray, List.set_cons_zero, List.set_cons_succ]
                   refine wpAnyH_ready (rs := [6]) (by kernel_rfl) (by simp) ?_
                   refine AllReadyH.cons (o := _) rfl (fun K hK => ?_) ?_
                   · refine step_append rfl _ _ _ rfl rfl rfl rA2.out ?_
                     refine hK.out _ _ (sA4) (fun hHeld => ?_)
                     clear hK K hHeld
                     try simp only [Act.put, List.setIfInBounds_toArray, List.set_cons_zero, List.set_cons_succ]
                     refine wpAnyH_ready (rs := [7]) (by kernel_rfl) (by simp) ?_
                     refine AllReadyH.cons (o := _) rfl (fun K hK => ?_) ?_
                     · go_simp
                       refine hK.out _ _ (sA4) (fun hHeld => ?_)
                       clear hK K hHeld
                       try simp only [Act.put, List.setIfInBounds_toArray, List.set_cons_zero, List.set_cons_succ]
                       refine wpAnyH_ready (rs := [8]) (by kernel_rfl) (by simp) ?_
                       refine AllReadyH.cons (o := _) rfl (fun K hK => ?_) ?_
                       · go_simp
                         refine hK.out _ _ (sA5) (fun hHeld => ?_)
                         clear hK K hHeld
                         try simp only [Act.put, List.setIfInBounds_toArray, List.set_cons_zero, List.set_cons_succ]
                         refine ⟨by kernel_rfl, ?_⟩
                         go_wp2
                         go_meet
                         case rel => exact ⟨_, _, _, rfl, fA.out.1, fA.out.2⟩
                       exact AllReadyH.nil
                     exact AllReadyH.nil
                   exact AllReadyH.nil
                 exact AllReadyH.nil
               refine AllReadyH.cons (o := _) rfl (fun K hK => ?_) ?_
               · go_simp
                 refine hK.out _ _ (sB2) (fun hHeld => ?_)
                 clear hK K hHeld
                 try simp only [Act.put, List.setIfInBounds_toArray, List.set_cons_zero, List.set_cons_succ]
                 refine wpAnyH_ready (rs := [3]) (by kernel_rfl) (by simp) ?_
                 refine AllReadyH.cons (o := _) rfl (fun K hK => ?_) ?_
                 · refine step_append rfl _ _ _ rfl rfl rfl rB1.out ?_
                   refine hK.out _ _ (sB3) (fun hHeld => ?_)
                   clear hK K hHeld
                   try simp only [Act.put, List.setIfInBounds_toArray, List.set_cons_zero, List.set_cons_succ]
                   refine wpAnyH_ready (rs := [6]) (by kernel_rfl) (by simp) ?_
                   refine AllReadyH.cons (o := _) rfl (fun K hK => ?_) ?_
                   · refine step_append rfl _ _ _ rfl rfl rfl rB2.out ?_
                     refine hK.out _ _ (sB4) (fun hHeld => ?_)
                     clear hK K hHeld
                     try simp only [Act.put, List.setIfInBounds_toArray, List.set_cons_zero, List.set_cons_succ]
                     refine wpAnyH_ready (rs := [7]) (by kernel_rfl) (by simp) ?_
                     refine AllReadyH.cons (o := _) rfl (fun K hK => ?_) ?_
                     · go_simp
                       refine hK.out _ _ (sB4) (fun hHeld => ?_)
                       clear hK K hHeld
                       try simp only [Act.put, List.setIfInBounds_toArray, List.set_cons_zero, List.set_cons_succ]
                       refine wpAnyH_ready (rs := [8]) (by kernel_rfl) (by simp) ?_
                       refine AllReadyH.cons (o := _) rfl (fun K hK => ?_) ?_
                       · go_simp
                         refine hK.out _ _ (sB5) (fun hHeld => ?_)
                         clear hK K hHeld
                         try simp only [Act.put, List.setIfInBounds_toArray, List.set_cons_zero, List.set_cons_succ]
                         refine ⟨by kernel_rfl, ?_⟩
                         go_wp2
                         go_meet
                         case rel => exact ⟨_, _, _, rfl, fB.out.1, fB.out.2⟩
                       exact AllReadyH.nil
                     exact AllReadyH.nil
                   exact AllReadyH.nil
                 exact AllReadyH.nil
               exact AllReadyH.nil
             refine AllReadyH.cons (o := _) rfl (fun K hK => ?_) ?_
             · go_simp
               refine hK.out _ _ (sC1) (fun hHeld => ?_)
               clear hK K hHeld
               try simp only [Act.put, List.setIfInBounds_toArray, List.set_cons_zero, List.set_cons_succ]
               refine wpAnyH_ready (rs := [0]) (by kernel_rfl) (by simp) ?_
               refine AllReadyH.cons (o := _) rfl (fun K hK => ?_) ?_
               · go_simp
                 refine hK.out _ _ (sC2) (fun hHeld => ?_)
                 clear hK K hHeld
                 try simp only [Act.put, List.setIfInBounds_toArray, List.set_cons_zero, List.set_cons_succ]
                 refine wpAnyH_ready (rs := [3]) (by kernel_rfl) (by simp) ?_
                 refine AllReadyH.cons (o := _) rfl (fun K hK => ?_) ?_
                 · refine step_append rfl _ _ _ rfl rfl rfl rC1.out ?_
                   refine hK.out _ _ (sC3) (fun hHeld => ?_)
                   clear hK K hHeld
                   try simp only [Act.put, List.setIfInBounds_toArray, List.set_cons_zero, List.set_cons_succ]
                   refine wpAnyH_ready (rs := [6]) (by kernel_rfl) (by simp) ?_
                   refine AllReadyH.cons (o := _) rfl (fun K hK => ?_) ?_
                   · refine step_append rfl _ _ _ rfl rfl rfl rC2.out ?_
                     refine hK.out _ _ (sC4) (fun hHeld => ?_)
                     clear hK K hHeld
                     try simp only [Act.put, List.setIfInBounds_toArray, List.set_cons_zero, List.set_cons_succ]
                     refine wpAnyH_ready (rs := [7]) (by kernel_rfl) (by simp) ?_
                     refine AllReadyH.cons (o := _) rfl (fun K hK => ?_) ?_
                     · go_simp
                       refine hK.out _ _ (sC4) (fun hHeld => ?_)
                       clear hK K hHeld
                       try simp only [Act.put, List.setIfInBounds_toArray, List.set_cons_zero, List.set_cons_succ]
                       refine wpAnyH_ready (rs := [8]) (by kernel_rfl) (by simp) ?_
                       refine AllReadyH.cons (o := _) rfl (fun K hK => ?_) ?_
                       · go_simp
                         refine hK.out _ _ (sC5) (fun hHeld => ?_)
                         clear hK K hHeld
                         try simp only [Act.put, List.setIfInBounds_toArray, List.set_cons_zero, List.set_cons_succ]
                         refine ⟨by kernel_rfl, ?_⟩
                         go_wp2
                         go_meet
                         case rel => exact ⟨_, _, _, rfl, fC.out.1, fC.out.2⟩
                       exact AllReadyH.nil
                     exact AllReadyH.nil
                   exact AllReadyH.nil
                 exact AllReadyH.nil
               exact AllReadyH.nil
             exact AllReadyH.nil
            case rest =>
              obtain ⟨ad2, cp2, w2, rfl, h2, q2⟩ := hcut
              have hlen2 : (rt ++ [(⟨yl, yp, yz⟩ : Ent)]).length = n + 1 := by have := HN.out; simp; omega
              have hsz2 := q2.size
              have hlast := HL3.out.lt
              have hzl := HZ3'.out.lt
              have HX2 := HX3.out.kept1 q2
              have HL2 := HL3.out.kept1 q2
              have HZ2 := HZ3'.out.kept1 q2
              obtain ⟨ad3, cp3, hv3, p1, p2, p3⟩ := shape_of h2
              obtain ⟨hv3a, hv3b, hv3c⟩ : ad2 = ad3 ∧ n + 1 = (rt ++ [(⟨yl, yp, yz⟩ : Ent)]).length ∧ cp2 = cp3 := by injection hv3 with q1 q2 q3; exact ⟨q1, q2, q3⟩
              subst hv3a
              subst hv3c
              clear hv3b hv3
              rw [hlen2] at p1 p3
              obtain ⟨gr, rfl, hgr1, hgr2⟩ := p3 (by omega)
              have p2 : cp2 ≤ 9223372036854775807 := p2
              have HR : Hid (w2.ownsRow wd.heap.size 26 3 (.slice (some ⟨gr, 0, none⟩) (n + 1) cp2) (n + 1) (cellsE (rt ++ [⟨yl, yp, yz⟩]))) := Lib.hid (by unfold EntsAt at h2; rw [hlen2] at h2; exact h2)
              obtain ⟨w3, hw3⟩ : ∃ w3, w2.setCell ⟨zb, 5, none⟩ (.slice (some ⟨gr, 0, none⟩) (n + 1) cp2) = w3 := ⟨_, rfl⟩
              have HX4 := Lib.hid (show Blk w.heap.size #[.int .i64 kd, .bool pn, .int .i64 lk, .int .i64 sz, .int .i64 dp, .slice (some ⟨g, o, none⟩) n cap] 24 w3 by rw [← hw3]; exact HX2.other (by show zb ≠ w.heap.size; omega) _)
              have HL4 := Lib.hid (show Blk lb (entC ⟨la, lp, lz⟩) 26 w3 by rw [← hw3]; exact HL2.other (by show zb ≠ lb; omega) _)
              have HZ4 := Lib.hid (show Blk zb #[.int .i64 kd, .bool pn, .int .i64 lk, .int .i64 sz, .int .i64 dp, .slice (some ⟨gr, 0, none⟩) (n + 1) cp2] 24 w3 by
                rw [← hw3]
                have := HZ2.set 5 (.slice (some ⟨gr, 0, none⟩) (n + 1) cp2)
                simpa using this)
              have HR4 := Lib.hid (show w3.ownsRow wd.heap.size 26 3 (.slice (some ⟨gr, 0, none⟩) (n + 1) cp2) (n + 1) (cellsE (rt ++ [⟨yl, yp, yz⟩])) by rw [← hw3]; exact ownsRow_setCell_below HR.out (a := ⟨zb, 5, none⟩) (by show zb < wd.heap.size; omega) _)
              have HB4 := Lib.hid (show Below w.heap.size w w3 by rw [← hw3]; exact (HB3.out.trans (q2.mono (by omega))).setCell (show w.heap.size ≤ zb by omega) _)
              have HCK : Hid (∀ p : BelowP w3, Calls Try.prog 11 #[.agg #[.int .i64 kd, .bool pn, .int .i64 lk, .int .i64 sz, .int .i64 dp, .slice (some ⟨gr, 0, none⟩) (n + 1) cp2]] p.to fun e w' => e = .returned (.bool bb) ∧ Below p.to.heap.size p.to w') := Lib.hid fun p => MORE.out _ p.to (by
                have hh := row_kept HR4.out p.h
                have : EntsAt wd.heap.size (.slice (some ⟨gr, 0, none⟩) (n + 1) cp2) (rt ++ [⟨yl, yp, yz⟩]) p.to := by show p.to.ownsRow _ _ _ _ (rt ++ [_]).length _; rw [hlen2]; exact hh
                exact entsAt_in this)
              have k0 : ∀ p : BelowP w3, p.to.cell? ⟨zb, 0, none⟩ = some (.int .i64 kd) := fun p => (HZ4.out.kept1 p.h).cell 0
              have k1 : ∀ p : BelowP w3, p.to.cell? ⟨zb, 1, none⟩ = some (.bool pn) := fun p => (HZ4.out.kept1 p.h).cell 1
              have k2 : ∀ p : BelowP w3, p.to.cell? ⟨zb, 2, none⟩ = some (.int .i64 lk) := fun p => (HZ4.out.kept1 p.h).cell 2
              have k3 : ∀ p : BelowP w3, p.to.cell? ⟨zb, 3, none⟩ = some (.int .i64 sz) := fun p => (HZ4.out.kept1 p.h).cell 3
              have k4 : ∀ p : BelowP w3, p.to.cell? ⟨zb, 4, none⟩ = some (.int .i64 dp) := fun p => (HZ4.out.kept1 p.h).cell 4
              have k5 : ∀ p : BelowP w3, p.to.cell? ⟨zb, 5, none⟩ = some (.slice (some ⟨gr, 0, none⟩) (n + 1) cp2) := fun p => (HZ4.out.kept1 p.h).cell 5
              have j5 : ∀ p : BelowP w3, p.to.cell? ⟨w.heap.size, 5, none⟩ = some (.slice (some ⟨g, o, none⟩) n cap) := fun p => (HX4.out.kept1 p.h).cell 5
              rw [hw3]
              clear hw3 HX2 HL2 HZ2 h2 q2 p3 HR hsz2 HX3 HL3 HZ3' HB3
              go_upto_region 10 with fail
              refine wp_region_quiet_below mixed (by kernel_rfl) ?_
              repeat (go_big_quiet_step (first | (go_at_call 11; refine calls_below (HCK.out _))))
              refine wpQuiet_nil ?_
              intro w0q hw'
              obtain ⟨⟨wq, bq⟩, hw''⟩ := hw'
              have hw2 : wq = w0q := hw''.symm
              clear hw''
              subst hw2
              have HX5 := Lib.hid (HX4.out.kept1 bq)
              have HL5 := Lib.hid (HL4.out.kept1 bq)
              have HZ5 := Lib.hid (HZ4.out.kept1 bq)
              have HR5 := Lib.hid (row_kept HR4.out bq)
              have HB5 := Lib.hid (bnext HB4.out bq)
              have hqs := bq.size
              have hgr5 : wd.heap.size ≤ gr ∧ gr < wq.heap.size := (HR5.out.lt gr rfl)
              clear k0 k1 k2 k3 k4 k5 j5 HX4 HL4 HZ4 HR4 HB4 bq HCK
              have x4 : wq.cell? ⟨w.heap.size, 4, none⟩ = some (.int .i64 dp) := HX5.out.cell 4
              have x5 : wq.cell? ⟨w.heap.size, 5, none⟩ = some (.slice (some ⟨g, o, none⟩) n cap) := HX5.out.cell 5
              have z5 : wq.cell? ⟨zb, 5, none⟩ = some (.slice (some ⟨gr, 0, none⟩) (n + 1) cp2) := HZ5.out.cell 5
              have l0 : wq.cell? ⟨lb, 0, none⟩ = some (.int .i64 la) := HL5.out.cell 0
              have l2 : wq.cell? ⟨lb, 2, none⟩ = some (.int .i64 lz) := HL5.out.cell 2
              have r0 : wq.cell? ⟨gr, n * 3, none⟩ = some (.int .i64 yl) := by
                have := (cellsE_at (rt ++ [(⟨yl, yp, yz⟩ : Ent)]) n (by rw [hlen2]; omega)).1
                rw [show eat (rt ++ [(⟨yl, yp, yz⟩ : Ent)]) n = ⟨yl, yp, yz⟩ by have := eat_append_at rt (⟨yl, yp, yz⟩ : Ent); rw [HN.out] at this; exact this] at this
                exact (HR5.out.cellAt _ (by omega)).trans this
              have fr := HR5.out.frozenAt (n * 3)
              have s1 := (HR5.out.stored (n * 3) (.int .i64 (la + lz - 1))).1
              have hset : (cellsE (rt ++ [(⟨yl, yp, yz⟩ : Ent)])).set (n * 3) (.int .i64 (la + lz - 1)) = cellsE (rt ++ [⟨la + lz - 1, yp, yz⟩]) := by
                rw [cellsE_append, cellsE_append, List.set_append_right _ _ (by rw [cellsE_length, HN.out]; omega), cellsE_length, HN.out, Nat.sub_self]; rfl
              rw [hset] at s1
              obtain ⟨w6, hw6⟩ : ∃ w6, wq.setCell ⟨gr, n * 3, none⟩ (.int .i64 (la + lz - 1)) = w6 := ⟨_, rfl⟩
              rw [hw6] at s1
              have HZ6 := Lib.hid (show Blk zb #[.int .i64 kd, .bool pn, .int .i64 lk, .int .i64 sz, .int .i64 dp, .slice (some ⟨gr, 0, none⟩) (n + 1) cp2] 24 w6 by rw [← hw6]; exact HZ5.out.other (by show gr ≠ zb; omega) _)
              have HB6 := Lib.hid (show Below w.heap.size w w6 by rw [← hw6]; exact HB5.out.setCell (show w.heap.size ≤ gr by omega) _)
              have s1 : EntsAt wd.heap.size (.slice (some ⟨gr, 0, none⟩) (n + 1) cp2) (rt ++ [⟨la + lz - 1, yp, yz⟩]) w6 := by
                have hl3 : (rt ++ [(⟨la + lz - 1, yp, yz⟩ : Ent)]).length = n + 1 := by have := HN.out; simp; omega
                show w6.ownsRow _ _ _ _ (rt ++ [_]).length _
                rw [hl3]; exact s1
              have HNO := Lib.hid (LESS.out _ w6 (entsAt_in s1))
              have hz := HZ6.out
              obtain ⟨t0, t1, t2, t3, t4, t5⟩ : w6.cell? ⟨zb, 0, none⟩ = some (.int .i64 kd) ∧ w6.cell? ⟨zb, 1, none⟩ = some (.bool pn) ∧ w6.cell? ⟨zb, 2, none⟩ = some (.int .i64 lk) ∧ w6.cell? ⟨zb, 3, none⟩ = some (.int .i64 sz) ∧ w6.cell? ⟨zb, 4, none⟩ = some (.int .i64 dp) ∧ w6.cell? ⟨zb, 5, none⟩ = some (.slice (some ⟨gr, 0, none⟩) (n + 1) cp2) := ⟨hz.cell 0, hz.cell 1, hz.cell 2, hz.cell 3, hz.cell 4, hz.cell 5⟩
              clear hz s1 HX5 HL5 HZ5 HR5 HB5 hset
              go_upto_region 15 with fail
              try rw [hw6]
              clear x4 x5 z5 l0 l2 r0 fr hw6
              go_wp2_with fail
              refine HNO.out.mono ?_; rintro e w7 ⟨rfl, b7⟩
              have HB7 := bnext HB6.out b7
              clear t0 t1 t2 t3 t4 t5
              go_wp2_with fail
              refine (AL.out _).mono ?_; rintro e w8 ⟨rfl, b8⟩
              have HB8 := bnext HB7 b8
              go_wp2
              go_ret
              exact ⟨rfl, HB8⟩
          · have ed : decide (0 < dp) = true := decide_eq_true (by omega)
            have MORE := (M0.out ⟨yl, yp, 0⟩ ⟨hy.1, hy.2.1, show (-9223372036854775808 : Int) ≤ 0 by omega, show (0 : Int) ≤ 9223372036854775807 by omega⟩ (by rw [decide_eq_false hd, entOk_node]; exact ⟨rfl, ⟨show 0 ≤ yl by omega, show yl ≤ 2048 - 1 by omega⟩, show 1 ≤ yp by omega, show yp ≤ 4096 - 1 by omega⟩) (by unfold After; simp only; omega))
            obtain ⟨w2s, hw2s⟩ : ∃ w2s, w2.setCell ⟨w.heap.size + 1, 2, none⟩ (.int .i64 0) = w2s := ⟨_, rfl⟩
            have f2 := HY2.out.frozen 2
            have HX2s := HX2.out.other (p := ⟨w.heap.size + 1, 2, none⟩) (by show w.heap.size + 1 ≠ w.heap.size; omega) (.int .i64 0)
            have HL2s := HL2.out.other (p := ⟨w.heap.size + 1, 2, none⟩) (by show w.heap.size + 1 ≠ w1.heap.size; omega) (.int .i64 0)
            have HY2s : Blk (w.heap.size + 1) (entC ⟨yl, yp, 0⟩) 26 (w2.setCell ⟨w.heap.size + 1, 2, none⟩ (.int .i64 0)) := by
              have := HY2.out.set 2 (.int .i64 0)
              simpa using this
            have HB2s := HB2.out.setCell (p := ⟨w.heap.size + 1, 2, none⟩) (show w.heap.size ≤ w.heap.size + 1 by omega) (.int .i64 0)
            rw [hw2s] at HX2s HL2s HY2s HB2s
            have hss : w2s.heap.size = w2.heap.size := by rw [← hw2s]; simp [World.setCell]
            have hzb1s : w1.heap.size < w2s.heap.size := by omega
            obtain ⟨w3, hw3⟩ : ∃ w3, w2s.alloc (.cells #[.int .i64 kd, .bool pn, .int .i64 lk, .int .i64 sz, .int .i64 dp, .slice (some ⟨g, o, none⟩) n cap] 24) = w3 := ⟨_, rfl⟩
            have b23 : Below w2s.heap.size w2s w3 := by rw [← hw3]; exact balloc1 _ _
            have HZ3 : Blk w2s.heap.size #[.int .i64 kd, .bool pn, .int .i64 lk, .int .i64 sz, .int .i64 dp, .slice (some ⟨g, o, none⟩) n cap] 24 w3 := by rw [← hw3]; exact Blk.new _ _ w2s
            have HX3 := HX2s.kept1 b23
            have HY3 := HY2s.kept1 b23
            have HL3 := HL2s.kept1 b23
            have HB3 := bnext HB2s b23
            have hzb2 : w2s.heap.size < w3.heap.size := by rw [← hw3, size_alloc]; omega
            have X2E := Lib.hid (show w2s.cell? ⟨w.heap.size, 0, none⟩ = some (.int .i64 kd) ∧ w2s.cell? ⟨w.heap.size, 1, none⟩ = some (.bool pn) ∧ w2s.cell? ⟨w.heap.size, 2, none⟩ = some (.int .i64 lk) ∧ w2s.cell? ⟨w.heap.size, 3, none⟩ = some (.int .i64 sz) ∧ w2s.cell? ⟨w.heap.size, 4, none⟩ = some (.int .i64 dp) ∧ w2s.cell? ⟨w.heap.size, 5, none⟩ = some (.slice (some ⟨g, o, none⟩) n cap) from ⟨HX2s.cell 0, HX2s.cell 1, HX2s.cell 2, HX2s.cell 3, HX2s.cell 4, HX2s.cell 5⟩)
            clear hd b23 g0 g1 g2 g3 g4 g5 g6 b3 hyl HX2 HY2 HL2 HB2 HB M0 L0 HLL hy hdp HX2s HL2s HY2s HB2s hzb1 hss
            obtain ⟨x0, x1, x2, x3, x4', x5⟩ : w2.cell? ⟨w.heap.size, 0, none⟩ = some (.int .i64 kd) ∧ w2.cell? ⟨w.heap.size, 1, none⟩ = some (.bool pn) ∧ w2.cell? ⟨w.heap.size, 2, none⟩ = some (.int .i64 lk) ∧ w2.cell? ⟨w.heap.size, 3, none⟩ = some (.int .i64 sz) ∧ w2.cell? ⟨w.heap.size, 4, none⟩ = some (.int .i64 dp) ∧ w2.cell? ⟨w.heap.size, 5, none⟩ = some (.slice (some ⟨g, o, none⟩) n cap) := X2D.out
            obtain ⟨v0, v1, v2, v3, v4', v5⟩ : w2s.cell? ⟨w.heap.size, 0, none⟩ = some (.int .i64 kd) ∧ w2s.cell? ⟨w.heap.size, 1, none⟩ = some (.bool pn) ∧ w2s.cell? ⟨w.heap.size, 2, none⟩ = some (.int .i64 lk) ∧ w2s.cell? ⟨w.heap.size, 3, none⟩ = some (.int .i64 sz) ∧ w2s.cell? ⟨w.heap.size, 4, none⟩ = some (.int .i64 dp) ∧ w2s.cell? ⟨w.heap.size, 5, none⟩ = some (.slice (some ⟨g, o, none⟩) n cap) := X2E.out
            go_upto_region 9 with fail
            try rw [hw3]
            clear hw3 x0 x1 x2 x3 x4' x5 x4 y0 y1 y2 l0 l2 q0 q1 q2 q3 q4 q5 q6 v0 v1 v2 v3 v4' v5 hw2s f2 X2E
            clear X2D
            obtain ⟨bb, hbb⟩ : ∃ bb, decide (n < 4) = bb := ⟨_, rfl⟩
            have hbi : decide ((n : Int) < 4) = bb := by rw [← hbb, decide_eq_decide]; omega
            have hbn : (bb != bb) = false := by simp
            rw [hbb] at MORE
            have MORE := Lib.hid MORE
            obtain ⟨wd, rfl⟩ : ∃ wd, wd = w3 := ⟨_, rfl⟩
            generalize w1.heap.size = lb at *
            generalize w2s.heap.size = zb at *
            have RUNS := three_runs wd.drew (.cells #[] 26) (.cells #[.int .i64 yl, .int .i64 yp, .int .i64 0] 26) 0 1 rt [⟨yl, yp, 0⟩] (.slice (some ⟨g, o, none⟩) n cap) (HVI.out.kept HB3.drew) rfl (by omega) (by have := HN.out; simp; omega)
              (fun W => World.ownsRow_lit W #[] 0 (Nat.le_refl _) (by unfold maxLen; omega) rfl) (fun W => lit_row W _ 1 _ rfl (by omega) rfl)
            have hlen2 : (rt ++ [(⟨yl, yp, 0⟩ : Ent)]).length = n + 1 := by have := HN.out; simp; omega
            have KS : ∀ W, Below wd.drew.heap.size wd.drew W → W.cell? ⟨w.heap.size, 5, none⟩ = some (.slice (some ⟨g, o, none⟩) n cap) ∧ W.cell? ⟨w.heap.size + 1, 0, none⟩ = some (.int .i64 yl) ∧ W.cell? ⟨w.heap.size + 1, 1, none⟩ = some (.int .i64 yp) ∧ W.cell? ⟨w.heap.size + 1, 2, none⟩ = some (.int .i64 0) := fun W b => ⟨(Blk.kept1 (w := wd.drew) HX3 b).cell 5, (Blk.kept1 (w := wd.drew) HY3 b).cell 0, (Blk.kept1 (w := wd.drew) HY3 b).cell 1, (Blk.kept1 (w := wd.drew) HY3 b).cell 2⟩
            have SET : ∀ (W : World) (u : Value), W.cell? ⟨w.heap.size, 5, none⟩ = some (.slice (some ⟨g, o, none⟩) n cap) ∧ W.cell? ⟨w.heap.size + 1, 0, none⟩ = some (.int .i64 yl) ∧ W.cell? ⟨w.heap.size + 1, 1, none⟩ = some (.int .i64 yp) ∧ W.cell? ⟨w.heap.size + 1, 2, none⟩ = some (.int .i64 0) → (W.setCell ⟨zb, 5, none⟩ u).cell? ⟨w.heap.size, 5, none⟩ = some (.slice (some ⟨g, o, none⟩) n cap) ∧ (W.setCell ⟨zb, 5, none⟩ u).cell? ⟨w.heap.size + 1, 0, none⟩ = some (.int .i64 yl) ∧ (W.setCell ⟨zb, 5, none⟩ u).cell? ⟨w.heap.size + 1, 1, none⟩ = some (.int .i64 yp) ∧ (W.setCell ⟨zb, 5, none⟩ u).cell? ⟨w.heap.size + 1, 2, none⟩ = some (.int .i64 0) := fun W u ⟨h1, h2, h3, h4⟩ =>
              ⟨(World.cell?_setCell_other _ _ _ _ (fun e => by have e2 : zb = w.heap.size := congrArg Addr.block e; omega)).trans h1, (World.cell?_setCell_other _ _ _ _ (fun e => by have e2 : zb = w.heap.size + 1 := congrArg Addr.block e; omega)).trans h2, (World.cell?_setCell_other _ _ _ _ (fun e => by have e2 : zb = w.heap.size + 1 := congrArg Addr.block e; omega)).trans h3, (World.cell?_setCell_other _ _ _ _ (fun e => by have e2 : zb = w.heap.size + 1 := congrArg Addr.block e; omega)).trans h4⟩
            obtain ⟨O1, hO1⟩ : ∃ O1 : Obj, (.cells #[] 26) = O1 := ⟨_, rfl⟩
            obtain ⟨O2, hO2⟩ : ∃ O2 : Obj, (.cells #[.int .i64 yl, .int .i64 yp, .int .i64 0] 26) = O2 := ⟨_, rfl⟩
            rw [hO1, hO2] at RUNS
            obtain ⟨⟨vA, wA, vA2, wA2, rA1, rA2, bA, kA, qA⟩, ⟨vB, wB, vB2, wB2, rB1, rB2, bB, kB, qB⟩, ⟨vC, wC, vC2, wC2, rC1, rC2, bC, kC, qC⟩⟩ := RUNS
            have sA1 := KS _ (balloc1 wd.drew O1)
            have sA2 := KS _ bA
            have sA3 := KS _ (balloc bA O2)
            have sA4 := KS _ qA
            have sB2 := KS _ (balloc (balloc1 wd.drew O1) O2)
            have sB3 := KS _ bB
            have sB4 := KS _ qB
            have sC1 := KS _ (balloc1 wd.drew O2)
            have sC2 := KS _ (balloc (balloc1 wd.drew O2) O1)
            have sC3 := KS _ bC
            have sC4 := KS _ qC
            have hS0 := KS _ (Below.refl _ _)
            obtain ⟨aA, cA, hvA, g1A, g2A, g3A⟩ := shape_of kA
            rw [hlen2] at hvA g1A g3A
            obtain ⟨ggA, rfl, -⟩ := g3A (by omega)
            clear g3A
            subst hvA
            have g2A : cA ≤ 9223372036854775807 := g2A
            have tA := HZ3.kept1 (show Below wd.heap.size wd wA2 from ⟨qA.os, qA.tape, qA.output, qA.size, qA.block⟩)
            have yA := tA.cell 5
            have zA := tA.frozen 5
            have fA := Lib.hid (show EntsAt wd.heap.size (.slice (some ⟨ggA, 0, none⟩) (n + 1) cA) (rt ++ [⟨yl, yp, 0⟩]) wA2 ∧ Below wd.heap.size wd wA2 from ⟨kA, ⟨qA.os, qA.tape, qA.output, qA.size, qA.block⟩⟩)
            have sA5 := SET wA2 (.slice (some ⟨ggA, 0, none⟩) (n + 1) cA) sA4
            have rA1 := Lib.hid rA1
            have rA2 := Lib.hid rA2
            clear kA qA bA tA
            obtain ⟨aB, cB, hvB, g1B, g2B, g3B⟩ := shape_of kB
            rw [hlen2] at hvB g1B g3B
            obtain ⟨ggB, rfl, -⟩ := g3B (by omega)
            clear g3B
            subst hvB
            have g2B : cB ≤ 9223372036854775807 := g2B
            have tB := HZ3.kept1 (show Below wd.heap.size wd wB2 from ⟨qB.os, qB.tape, qB.output, qB.size, qB.block⟩)
            have yB := tB.cell 5
            have zB := tB.frozen 5
            have fB := Lib.hid (show EntsAt wd.heap.size (.slice (some ⟨ggB, 0, none⟩) (n + 1) cB) (rt ++ [⟨yl, yp, 0⟩]) wB2 ∧ Below wd.heap.size wd wB2 from ⟨kB, ⟨qB.os, qB.tape, qB.output, qB.size, qB.block⟩⟩)
            have sB5 := SET wB2 (.slice (some ⟨ggB, 0, none⟩) (n + 1) cB) sB4
            have rB1 := Lib.hid rB1
            have rB2 := Lib.hid rB2
            clear kB qB bB tB
            obtain ⟨aC, cC, hvC, g1C, g2C, g3C⟩ := shape_of kC
            rw [hlen2] at hvC g1C g3C
            obtain ⟨ggC, rfl, -⟩ := g3C (by omega)
            clear g3C
            subst hvC
            have g2C : cC ≤ 9223372036854775807 := g2C
            have tC := HZ3.kept1 (show Below wd.heap.size wd wC2 from ⟨qC.os, qC.tape, qC.output, qC.size, qC.block⟩)
            have yC := tC.cell 5
            have zC := tC.frozen 5
            have fC := Lib.hid (show EntsAt wd.heap.size (.slice (some ⟨ggC, 0, none⟩) (n + 1) cC) (rt ++ [⟨yl, yp, 0⟩]) wC2 ∧ Below wd.heap.size wd wC2 from ⟨kC, ⟨qC.os, qC.tape, qC.output, qC.size, qC.block⟩⟩)
            have sC5 := SET wC2 (.slice (some ⟨ggC, 0, none⟩) (n + 1) cC) sC4
            have rC1 := Lib.hid rC1
            have rC2 := Lib.hid rC2
            clear kC qC bC tC
            have HX3 := Lib.hid HX3
            have HL3 := Lib.hid HL3
            have HZ3' := Lib.hid HZ3
            have HB3 := Lib.hid HB3
            clear hlen2 KS SET HZ3 HY3
            go_cut [] (fun wx => ∃ ad2 cp2 w2, wx = w2.setCell ⟨zb, 5, none⟩ (.slice ad2 (n + 1) cp2) ∧ EntsAt wd.heap.size (.slice ad2 (n + 1) cp2) (rt ++ [⟨yl, yp, 0⟩]) w2 ∧ Below wd.heap.size wd w2)
            case first =>
             refine wp_region_held_drew (S := fun w' => w'.cell? ⟨w.heap.size, 5, none⟩ = some (.slice (some ⟨g, o, none⟩) n cap) ∧ w'.cell? ⟨w.heap.size + 1, 0, none⟩ = some (.int .i64 yl) ∧ w'.cell? ⟨w.heap.size + 1, 1, none⟩ = some (.int .i64 yp) ∧ w'.cell? ⟨w.heap.size + 1, 2, none⟩ = some (.int .i64 0)) mixed hS0 (fun hHeld => ?_)
             clear hHeld
             refine wpAnyH_take (i := 1) (oi := _) (v := ?vv91) rfl (by kernel_rfl) (by kernel_rfl) (by kernel_rfl) (fun _ _ _ h => h) (Or.inl ⟨by kernel_rfl, ?hhy91⟩) hS0 ?rrest91
             case hhy91 => (intro w9 hSw; obtain ⟨q9a, q9b, q9c, q9d⟩ := hSw; go_simp; try with_reducible rfl)
             try simp only [Act.put, List.setIfInBounds_toArray, List.set_cons_zero, List.set_cons_succ]
             refine wpAnyH_take (i := 2) (oi := _) (v := ?vv92) rfl (by kernel_rfl) (by kernel_rfl) (by kernel_rfl) (fun _ _ _ h => h) (Or.inl ⟨by kernel_rfl, ?hhy92⟩) hS0 ?rrest92
             case hhy92 => (intro w9 hSw; obtain ⟨q9a, q9b, q9c, q9d⟩ := hSw; go_simp; try with_reducible rfl)
             try simp only [Act.put, List.setIfInBounds_toArray, List.set_cons_zero, List.set_cons_succ]
             refine wpAnyH_take (i := 4) (oi := _) (v := ?vv94) rfl (by kernel_rfl) (by kernel_rfl) (by kernel_rfl) (fun _ _ _ h => h) (Or.inl ⟨by kernel_rfl, ?hhy94⟩) hS0 ?rrest94
             case hhy94 => (intro w9 hSw; obtain ⟨q9a, q9b, q9c, q9d⟩ := hSw; go_simp; try with_reducible rfl)
             try simp only [Act.put, List.setIfInBounds_toArray, List.set_cons_zero, List.set_cons_succ]
             refine wpAnyH_ready (rs := [0, 5]) (by kernel_rfl) (by simp) ?_
             refine AllReadyH.cons (o := _) rfl (fun K hK => ?_) ?_
             · go_simp
               refine hK.out _ _ (sA1) (fun hHeld => ?_)
               clear hK K hHeld
               try simp only [Act.put, List.setIfInBounds_toArray, List.set_cons_zero, List.set_cons_succ]
               refine wpAnyH_ready (rs := [3, 5]) (by kernel_rfl) (by simp) ?_
               refine AllReadyH.cons (o := _) rfl (fun K hK => ?_) ?_
               · refine step_append rfl _ _ _ rfl rfl rfl rA1.out ?_
                 refine hK.out _ _ (sA2) (fun hHeld => ?_)
                 clear hK K hHeld
                 try simp only [Act.put, List.setIfInBounds_toArray, List.set_cons_zero, List.set_cons_succ]
                 refine wpAnyH_ready (rs := [5]) (by kernel_rfl) (by simp) ?_
                 refine AllReadyH.cons (o := _) rfl (fun K hK => ?_) ?_
                 · go_simp
                   refine hK.out _ _ (sA3) (fun hHeld => ?_)
                   clear hK K hHeld
                   try simp only [Act.put, List.setIfInBounds_toArray, List.set_cons_zero, List.set_cons_succ]
                   refine wpAnyH_ready (rs := [6]) (by kernel_rfl) (by simp) ?_
                   refine AllReadyH.cons (o := _) rfl (fun K hK => ?_) ?_
                   · refine step_append rfl _ _ _ rfl rfl rfl rA2.out ?_
                     refine hK.out _ _ (sA4) (fun hHeld => ?_)
                     clear hK K hHeld
                     try simp only [Act.put, List.setIfInBounds_toArray, List.set_cons_zero, List.set_cons_succ]
                     refine wpAnyH_ready (rs := [7]) (by kernel_rfl) (by simp) ?_
                     refine AllReadyH.cons (o := _) rfl (fun K hK => ?_) ?_
                     · go_simp
                       refine hK.out _ _ (sA4) (fun hHeld => ?_)
                       clear hK K hHeld
                       try simp only [Act.put, List.setIfInBounds_toArray, List.set_cons_zero, List.set_cons_succ]
                       refine wpAnyH_ready (rs := [8]) (by kernel_rfl) (by simp) ?_
                       refine AllReadyH.cons (o := _) rfl (fun K hK => ?_) ?_
                       · go_simp
                         refine hK.out _ _ (sA5) (fun hHeld => ?_)
                         clear hK K hHeld
                         try simp only [Act.put, List.setIfInBounds_toArray, List.set_cons_zero, List.set_cons_succ]
                         refine ⟨by kernel_rfl, ?_⟩
                         go_wp2
                         go_meet
                         case rel => exact ⟨_, _, _, rfl, fA.out.1, fA.out.2⟩
                       exact AllReadyH.nil
                     exact AllReadyH.nil
                   exact AllReadyH.nil
                 exact AllReadyH.nil
               refine AllReadyH.cons (o := _) rfl (fun K hK => ?_) ?_
               · go_simp
                 refine hK.out _ _ (sB2) (fun hHeld => ?_)
                 clear hK K hHeld
                 try simp only [Act.put, List.setIfInBounds_toArray, List.set_cons_zero, List.set_cons_succ]
                 refine wpAnyH_ready (rs := [3]) (by kernel_rfl) (by simp) ?_
                 refine AllReadyH.cons (o := _) rfl (fun K hK => ?_) ?_
                 · refine step_append rfl _ _ _ rfl rfl rfl rB1.out ?_
                   refine hK.out _ _ (sB3) (fun hHeld => ?_)
                   clear hK K hHeld
                   try simp only [Act.put, List.setIfInBounds_toArray, List.set_cons_zero, List.set_cons_succ]
                   refine wpAnyH_ready (rs := [6]) (by kernel_rfl) (by simp) ?_
                   refine AllReadyH.cons (o := _) rfl (fun K hK => ?_) ?_
                   · refine step_append rfl _ _ _ rfl rfl rfl rB2.out ?_
                     refine hK.out _ _ (sB4) (fun hHeld => ?_)
                     clear hK K hHeld
                     try simp only [Act.put, List.setIfInBounds_toArray, List.set_cons_zero, List.set_cons_succ]
                     refine wpAnyH_ready (rs := [7]) (by kernel_rfl) (by simp) ?_
                     refine AllReadyH.cons (o := _) rfl (fun K hK => ?_) ?_
                     · go_simp
                       refine hK.out _ _ (sB4) (fun hHeld => ?_)
                       clear hK K hHeld
                       try simp only [Act.put, List.setIfInBounds_toArray, List.set_cons_zero, List.set_cons_succ]
                       refine wpAnyH_ready (rs := [8]) (by kernel_rfl) (by simp) ?_
                       refine AllReadyH.cons (o := _) rfl (fun K hK => ?_) ?_
                       · go_simp
                         refine hK.out _ _ (sB5) (fun hHeld => ?_)
                         clear hK K hHeld
                         try simp only [Act.put, List.setIfInBounds_toArray, List.set_cons_zero, List.set_cons_succ]
                         refine ⟨by kernel_rfl, ?_⟩
                         go_wp2
                         go_meet
                         case rel => exact ⟨_, _, _, rfl, fB.out.1, fB.out.2⟩
                       exact AllReadyH.nil
                     exact AllReadyH.nil
                   exact AllReadyH.nil
                 exact AllReadyH.nil
               exact AllReadyH.nil
             refine AllReadyH.cons (o := _) rfl (fun K hK => ?_) ?_
             · go_simp
               refine hK.out _ _ (sC1) (fun hHeld => ?_)
               clear hK K hHeld
               try simp only [Act.put, List.setIfInBounds_toArray, List.set_cons_zero, List.set_cons_succ]
               refine wpAnyH_ready (rs := [0]) (by kernel_rfl) (by simp) ?_
               refine AllReadyH.cons (o := _) rfl (fun K hK => ?_) ?_
               · go_simp
                 refine hK.out _ _ (sC2) (fun hHeld => ?_)
                 clear hK K hHeld
                 try simp only [Act.put, List.setIfInBounds_toArray, List.set_cons_zero, List.set_cons_succ]
                 refine wpAnyH_ready (rs := [3]) (by kernel_rfl) (by simp) ?_
                 refine AllReadyH.cons (o := _) rfl (fun K hK => ?_) ?_
                 · refine step_append rfl _ _ _ rfl rfl rfl rC1.out ?_
                   refine hK.out _ _ (sC3) (fun hHeld => ?_)
                   clear hK K hHeld
                   try simp only [Act.put, List.setIfInBounds_toArray, List.set_cons_zero, List.set_cons_succ]
                   refine wpAnyH_ready (rs := [6]) (by kernel_rfl) (by simp) ?_
                   refine AllReadyH.cons (o := _) rfl (fun K hK => ?_) ?_
                   · refine step_append rfl _ _ _ rfl rfl rfl rC2.out ?_
                     refine hK.out _ _ (sC4) (fun hHeld => ?_)
                     clear hK K hHeld
                     try simp only [Act.put, List.setIfInBounds_toArray, List.set_cons_zero, List.set_cons_succ]
                     refine wpAnyH_ready (rs := [7]) (by kernel_rfl) (by simp) ?_
                     refine AllReadyH.cons (o := _) rfl (fun K hK => ?_) ?_
                     · go_simp
                       refine hK.out _ _ (sC4) (fun hHeld => ?_)
                       clear hK K hHeld
                       try simp only [Act.put, List.setIfInBounds_toArray, List.set_cons_zero, List.set_cons_succ]
                       refine wpAnyH_ready (rs := [8]) (by kernel_rfl) (by simp) ?_
                       refine AllReadyH.cons (o := _) rfl (fun K hK => ?_) ?_
                       · go_simp
                         refine hK.out _ _ (sC5) (fun hHeld => ?_)
                         clear hK K hHeld
                         try simp only [Act.put, List.setIfInBounds_toArray, List.set_cons_zero, List.set_cons_succ]
                         refine ⟨by kernel_rfl, ?_⟩
                         go_wp2
                         go_meet
                         case rel => exact ⟨_, _, _, rfl, fC.out.1, fC.out.2⟩
                       exact AllReadyH.nil
                     exact AllReadyH.nil
                   exact AllReadyH.nil
                 exact AllReadyH.nil
               exact AllReadyH.nil
             exact AllReadyH.nil
            case rest =>
              obtain ⟨ad2, cp2, w2, rfl, h2, q2⟩ := hcut
              have hlen2 : (rt ++ [(⟨yl, yp, 0⟩ : Ent)]).length = n + 1 := by have := HN.out; simp; omega
              have hsz2 := q2.size
              have hlast := HL3.out.lt
              have hzl := HZ3'.out.lt
              have HX2 := HX3.out.kept1 q2
              have HL2 := HL3.out.kept1 q2
              have HZ2 := HZ3'.out.kept1 q2
              obtain ⟨ad3, cp3, hv3, p1, p2, p3⟩ := shape_of h2
              obtain ⟨hv3a, hv3b, hv3c⟩ : ad2 = ad3 ∧ n + 1 = (rt ++ [(⟨yl, yp, 0⟩ : Ent)]).length ∧ cp2 = cp3 := by injection hv3 with q1 q2 q3; exact ⟨q1, q2, q3⟩
              subst hv3a
              subst hv3c
              clear hv3b hv3
              rw [hlen2] at p1 p3
              obtain ⟨gr, rfl, hgr1, hgr2⟩ := p3 (by omega)
              have p2 : cp2 ≤ 9223372036854775807 := p2
              have HR : Hid (w2.ownsRow wd.heap.size 26 3 (.slice (some ⟨gr, 0, none⟩) (n + 1) cp2) (n + 1) (cellsE (rt ++ [⟨yl, yp, 0⟩]))) := Lib.hid (by unfold EntsAt at h2; rw [hlen2] at h2; exact h2)
              obtain ⟨w3, hw3⟩ : ∃ w3, w2.setCell ⟨zb, 5, none⟩ (.slice (some ⟨gr, 0, none⟩) (n + 1) cp2) = w3 := ⟨_, rfl⟩
              have HX4 := Lib.hid (show Blk w.heap.size #[.int .i64 kd, .bool pn, .int .i64 lk, .int .i64 sz, .int .i64 dp, .slice (some ⟨g, o, none⟩) n cap] 24 w3 by rw [← hw3]; exact HX2.other (by show zb ≠ w.heap.size; omega) _)
              have HL4 := Lib.hid (show Blk lb (entC ⟨la, lp, lz⟩) 26 w3 by rw [← hw3]; exact HL2.other (by show zb ≠ lb; omega) _)
              have HZ4 := Lib.hid (show Blk zb #[.int .i64 kd, .bool pn, .int .i64 lk, .int .i64 sz, .int .i64 dp, .slice (some ⟨gr, 0, none⟩) (n + 1) cp2] 24 w3 by
                rw [← hw3]
                have := HZ2.set 5 (.slice (some ⟨gr, 0, none⟩) (n + 1) cp2)
                simpa using this)
              have HR4 := Lib.hid (show w3.ownsRow wd.heap.size 26 3 (.slice (some ⟨gr, 0, none⟩) (n + 1) cp2) (n + 1) (cellsE (rt ++ [⟨yl, yp, 0⟩])) by rw [← hw3]; exact ownsRow_setCell_below HR.out (a := ⟨zb, 5, none⟩) (by show zb < wd.heap.size; omega) _)
              have HB4 := Lib.hid (show Below w.heap.size w w3 by rw [← hw3]; exact (HB3.out.trans (q2.mono (by omega))).setCell (show w.heap.size ≤ zb by omega) _)
              have HCK : Hid (∀ p : BelowP w3, Calls Try.prog 11 #[.agg #[.int .i64 kd, .bool pn, .int .i64 lk, .int .i64 sz, .int .i64 dp, .slice (some ⟨gr, 0, none⟩) (n + 1) cp2]] p.to fun e w' => e = .returned (.bool bb) ∧ Below p.to.heap.size p.to w') := Lib.hid fun p => MORE.out _ p.to (by
                have hh := row_kept HR4.out p.h
                have : EntsAt wd.heap.size (.slice (some ⟨gr, 0, none⟩) (n + 1) cp2) (rt ++ [⟨yl, yp, 0⟩]) p.to := by show p.to.ownsRow _ _ _ _ (rt ++ [_]).length _; rw [hlen2]; exact hh
                exact entsAt_in this)
              have k0 : ∀ p : BelowP w3, p.to.cell? ⟨zb, 0, none⟩ = some (.int .i64 kd) := fun p => (HZ4.out.kept1 p.h).cell 0
              have k1 : ∀ p : BelowP w3, p.to.cell? ⟨zb, 1, none⟩ = some (.bool pn) := fun p => (HZ4.out.kept1 p.h).cell 1
              have k2 : ∀ p : BelowP w3, p.to.cell? ⟨zb, 2, none⟩ = some (.int .i64 lk) := fun p => (HZ4.out.kept1 p.h).cell 2
              have k3 : ∀ p : BelowP w3, p.to.cell? ⟨zb, 3, none⟩ = some (.int .i64 sz) := fun p => (HZ4.out.kept1 p.h).cell 3
              have k4 : ∀ p : BelowP w3, p.to.cell? ⟨zb, 4, none⟩ = some (.int .i64 dp) := fun p => (HZ4.out.kept1 p.h).cell 4
              have k5 : ∀ p : BelowP w3, p.to.cell? ⟨zb, 5, none⟩ = some (.slice (some ⟨gr, 0, none⟩) (n + 1) cp2) := fun p => (HZ4.out.kept1 p.h).cell 5
              have j5 : ∀ p : BelowP w3, p.to.cell? ⟨w.heap.size, 5, none⟩ = some (.slice (some ⟨g, o, none⟩) n cap) := fun p => (HX4.out.kept1 p.h).cell 5
              rw [hw3]
              clear hw3 HX2 HL2 HZ2 h2 q2 p3 HR hsz2 HX3 HL3 HZ3' HB3
              go_upto_region 10 with fail
              refine wp_region_quiet_below mixed (by kernel_rfl) ?_
              repeat (go_big_quiet_step (first | (go_at_call 11; refine calls_below (HCK.out _))))
              refine wpQuiet_nil ?_
              intro w0q hw'
              obtain ⟨⟨wq, bq⟩, hw''⟩ := hw'
              have hw2 : wq = w0q := hw''.symm
              clear hw''
              subst hw2
              have HX5 := Lib.hid (HX4.out.kept1 bq)
              have HL5 := Lib.hid (HL4.out.kept1 bq)
              have HZ5 := Lib.hid (HZ4.out.kept1 bq)
              have HR5 := Lib.hid (row_kept HR4.out bq)
              have HB5 := Lib.hid (bnext HB4.out bq)
              have hqs := bq.size
              have hgr5 : wd.heap.size ≤ gr ∧ gr < wq.heap.size := (HR5.out.lt gr rfl)
              clear k0 k1 k2 k3 k4 k5 j5 HX4 HL4 HZ4 HR4 HB4 bq HCK
              have x4 : wq.cell? ⟨w.heap.size, 4, none⟩ = some (.int .i64 dp) := HX5.out.cell 4
              go_wp2_with fail
              refine (AL.out _).mono ?_; rintro e w6 ⟨rfl, b6⟩
              have HB6 := bnext HB5.out b6
              go_wp2
              go_ret
              exact ⟨rfl, HB6⟩
    · rw [decide_eq_false hok] at C
      obtain ⟨kd, pn, lk, sz, dp, rt⟩ := x
      obtain ⟨yl, yp, yz⟩ := y
      dsimp only at *
      have C := Lib.hid C
      have HV0 := Lib.hid hv0
      have HW0 := Lib.hid hw0
      clear hok hf hv hl hv0 hX0 c3 hw0 hY0 hs0
      go_enter Try.func7, Try.ntmps7
      go_wp2_with fail
      try rw [HW0.out]
      refine (C.out _ _ HV0.out).mono ?_; rintro e w1 ⟨rfl, b1⟩
      have HB := bnext hb0 b1
      clear HV0 b1 hb0 HW0
      go_wp2_with fail
      refine (AL.out _).mono ?_; rintro e w6 ⟨rfl, b6⟩
      have HB6 := bnext HB b6
      go_wp2
      go_ret
      exact ⟨rfl, HB6⟩
  · have dl : decide ((1000 : Int) < (x.root.length : Int)) = true := decide_eq_true (by omega)
    have HB := hb0
    obtain ⟨kd, pn, lk, sz, dp, rt⟩ := x
    obtain ⟨yl, yp, yz⟩ := y
    dsimp only at *
    have HW0 := Lib.hid hw0
    clear hl hv hf hv0 hX0 C c3 hw0 hY0 hs0
    go_enter Try.func7, Try.ntmps7
    go_upto_region 2 with fail
    try rw [HW0.out]
    go_wp2_with fail
    refine (AL.out _).mono ?_; rintro e w6 ⟨rfl, b6⟩
    have HB6 := bnext HB b6
    go_wp2
    go_ret
    exact ⟨rfl, HB6⟩
end Go.Proofs.Ytfepjjjoikcljaa
