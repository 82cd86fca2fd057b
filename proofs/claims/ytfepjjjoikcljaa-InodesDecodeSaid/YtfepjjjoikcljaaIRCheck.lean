/- Check, the document's. -/
import Derived.Test.YtfepjjjoikcljaaIRRow
namespace Go.Proofs.Ytfepjjjoikcljaa
set_option linter.unusedVariables false
open Go.RowKit

set_option maxRecDepth 100000 in
set_option maxHeartbeats 4000000 in
theorem ircheck_any (x : Ino) (hf : fitE x.root) (v : Value) (w : World) (hv : EntsIn v x.root w) :
    Calls Try.prog 12 #[inoV x v] w fun e w' => e = .returned (.bool (decide (InoOk x))) ∧ Below w.heap.size w w' := by
  have hb := balloc1 w (.cells (inoC x v) 24)
  have hv1 := hv.kept hb
  obtain ⟨ad, cap, rfl, c1, c2, -⟩ := entsIn_cells hv
  by_cases h0 : x.kind = 0
  · have e0 : (x.kind == 0) = true := by rw [beq_iff_eq]; exact h0
    by_cases g0 : x.pinned = false
    · skip
      by_cases g1 : x.links = 0
      · skip
        have q1 : (x.links == 0) = true := by rw [beq_iff_eq]; exact g1
        by_cases g2 : x.size = 0
        · skip
          have q2 : (x.size == 0) = true := by rw [beq_iff_eq]; exact g2
          by_cases g3 : x.depth = 0
          · skip
            have q3 : (x.depth == 0) = true := by rw [beq_iff_eq]; exact g3
            by_cases g4 : x.root.length = 0
            · skip
              have q4 : ((x.root.length : Int) == 0) = true := by rw [beq_iff_eq]; omega
              have HR : Hid (decide (InoOk x) = true) := Lib.hid (decide_eq_true ((ok_kind0 h0).2 ⟨h0, g0, g1, g2, g3, List.length_eq_zero_iff.1 g4⟩))
              rw [HR.out]
              obtain ⟨kd, pn, lk, sz, dp, rt⟩ := x
              dsimp only at *
              clear HR h0 hf hv hv1 g1 g2 g3 g4
              subst g0
              go_enter Try.func12, Try.ntmps12
              go_wp2
              go_ret
              exact ⟨rfl, hb⟩
            · skip
              have q4 : ((x.root.length : Int) == 0) = false := by rw [beq_eq_false_iff_ne]; omega
              have HR : Hid (decide (InoOk x) = false) := Lib.hid (decide_eq_false fun h => (fun k => g4 (by rw [k.2.2.2.2.2]; rfl)) ((ok_kind0 h0).1 h))
              rw [HR.out]
              obtain ⟨kd, pn, lk, sz, dp, rt⟩ := x
              dsimp only at *
              clear HR h0 hf hv hv1 g1 g2 g3 g4
              subst g0
              go_enter Try.func12, Try.ntmps12
              go_wp2
              go_ret
              exact ⟨rfl, hb⟩
          · skip
            have q3 : (x.depth == 0) = false := by rw [beq_eq_false_iff_ne]; exact g3
            have HR : Hid (decide (InoOk x) = false) := Lib.hid (decide_eq_false fun h => (fun k => g3 k.2.2.2.2.1) ((ok_kind0 h0).1 h))
            rw [HR.out]
            obtain ⟨kd, pn, lk, sz, dp, rt⟩ := x
            dsimp only at *
            clear HR h0 hf hv hv1 g1 g2 g3
            subst g0
            go_enter Try.func12, Try.ntmps12
            go_wp2
            go_ret
            exact ⟨rfl, hb⟩
        · skip
          have q2 : (x.size == 0) = false := by rw [beq_eq_false_iff_ne]; exact g2
          have HR : Hid (decide (InoOk x) = false) := Lib.hid (decide_eq_false fun h => (fun k => g2 k.2.2.2.1) ((ok_kind0 h0).1 h))
          rw [HR.out]
          obtain ⟨kd, pn, lk, sz, dp, rt⟩ := x
          dsimp only at *
          clear HR h0 hf hv hv1 g1 g2
          subst g0
          go_enter Try.func12, Try.ntmps12
          go_wp2
          go_ret
          exact ⟨rfl, hb⟩
      · skip
        have q1 : (x.links == 0) = false := by rw [beq_eq_false_iff_ne]; exact g1
        have HR : Hid (decide (InoOk x) = false) := Lib.hid (decide_eq_false fun h => (fun k => g1 k.2.2.1) ((ok_kind0 h0).1 h))
        rw [HR.out]
        obtain ⟨kd, pn, lk, sz, dp, rt⟩ := x
        dsimp only at *
        clear HR h0 hf hv hv1 g1
        subst g0
        go_enter Try.func12, Try.ntmps12
        go_wp2
        go_ret
        exact ⟨rfl, hb⟩
    · skip
      have HR : Hid (decide (InoOk x) = false) := Lib.hid (decide_eq_false fun h => (fun k => /-pin-/ g0 k.2.1) ((ok_kind0 h0).1 h))
      rw [HR.out]
      obtain ⟨kd, pn, lk, sz, dp, rt⟩ := x
      dsimp only at *
      clear HR h0 hf hv hv1 
      obtain rfl : pn = true := by simpa using g0
      go_enter Try.func12, Try.ntmps12
      go_wp2
      go_ret
      exact ⟨rfl, hb⟩
  · have e0 : (x.kind == 0) = false := by rw [beq_eq_false_iff_ne]; exact h0
    by_cases h12 : x.kind = 1 ∨ x.kind = 2
    · obtain ⟨m1, m2⟩ : ∃ m : Bool, (x.kind != 1) = m ∧ (m = true → (x.kind != 2) = false) := ⟨_, rfl, fun h => by simp at h; simp; omega⟩
      rcases m1 with _ | _
      · skip
        obtain ⟨k1, -⟩ := m2
        by_cases g0 : x.links < 0
        · have q0 : decide (x.links < 0) = true := decide_eq_true (by omega)
          have HR : Hid (decide (InoOk x) = false) := Lib.hid (decide_eq_false fun h => by have k := (inoOk_root h12).1 h; unfold RootOk at k; omega)
          rw [HR.out]
          obtain ⟨kd, pn, lk, sz, dp, rt⟩ := x
          dsimp only at *
          clear HR h0 h12 hf hv hv1 g0
          go_enter Try.func12, Try.ntmps12
          go_wp2
          go_ret
          exact ⟨rfl, hb⟩
        have q0 : decide (x.links < 0) = false := decide_eq_false (by omega)
        by_cases g1 : 100 < x.links
        · have q1 : decide (100 < x.links) = true := decide_eq_true (by omega)
          have HR : Hid (decide (InoOk x) = false) := Lib.hid (decide_eq_false fun h => by have k := (inoOk_root h12).1 h; unfold RootOk at k; omega)
          rw [HR.out]
          obtain ⟨kd, pn, lk, sz, dp, rt⟩ := x
          dsimp only at *
          clear HR h0 h12 hf hv hv1 g0 g1
          go_enter Try.func12, Try.ntmps12
          go_wp2
          go_ret
          exact ⟨rfl, hb⟩
        have q1 : decide (100 < x.links) = false := decide_eq_false (by omega)
        by_cases g2 : x.size < 0
        · have q2 : decide (x.size < 0) = true := decide_eq_true (by omega)
          have HR : Hid (decide (InoOk x) = false) := Lib.hid (decide_eq_false fun h => by have k := (inoOk_root h12).1 h; unfold RootOk at k; omega)
          rw [HR.out]
          obtain ⟨kd, pn, lk, sz, dp, rt⟩ := x
          dsimp only at *
          clear HR h0 h12 hf hv hv1 g0 g1 g2
          go_enter Try.func12, Try.ntmps12
          go_wp2
          go_ret
          exact ⟨rfl, hb⟩
        have q2 : decide (x.size < 0) = false := decide_eq_false (by omega)
        by_cases g3 : 262144 < x.size
        · have q3 : decide (262144 < x.size) = true := decide_eq_true (by omega)
          have HR : Hid (decide (InoOk x) = false) := Lib.hid (decide_eq_false fun h => by have k := (inoOk_root h12).1 h; unfold RootOk at k; omega)
          rw [HR.out]
          obtain ⟨kd, pn, lk, sz, dp, rt⟩ := x
          dsimp only at *
          clear HR h0 h12 hf hv hv1 g0 g1 g2 g3
          go_enter Try.func12, Try.ntmps12
          go_wp2
          go_ret
          exact ⟨rfl, hb⟩
        have q3 : decide (262144 < x.size) = false := decide_eq_false (by omega)
        by_cases g4 : x.depth < 0
        · have q4 : decide (x.depth < 0) = true := decide_eq_true (by omega)
          have HR : Hid (decide (InoOk x) = false) := Lib.hid (decide_eq_false fun h => by have k := (inoOk_root h12).1 h; unfold RootOk at k; omega)
          rw [HR.out]
          obtain ⟨kd, pn, lk, sz, dp, rt⟩ := x
          dsimp only at *
          clear HR h0 h12 hf hv hv1 g0 g1 g2 g3 g4
          go_enter Try.func12, Try.ntmps12
          go_wp2
          go_ret
          exact ⟨rfl, hb⟩
        have q4 : decide (x.depth < 0) = false := decide_eq_false (by omega)
        by_cases g5 : 4 < x.depth
        · have q5 : decide (4 < x.depth) = true := decide_eq_true (by omega)
          have HR : Hid (decide (InoOk x) = false) := Lib.hid (decide_eq_false fun h => by have k := (inoOk_root h12).1 h; unfold RootOk at k; omega)
          rw [HR.out]
          obtain ⟨kd, pn, lk, sz, dp, rt⟩ := x
          dsimp only at *
          clear HR h0 h12 hf hv hv1 g0 g1 g2 g3 g4 g5
          go_enter Try.func12, Try.ntmps12
          go_wp2
          go_ret
          exact ⟨rfl, hb⟩
        have q5 : decide (4 < x.depth) = false := decide_eq_false (by omega)
        by_cases g6 : 4 < x.root.length
        · have q6 : decide ((4 : Int) < (x.root.length : Int)) = true := decide_eq_true (by omega)
          have HR : Hid (decide (InoOk x) = false) := Lib.hid (decide_eq_false fun h => by have k := (inoOk_root h12).1 h; unfold RootOk at k; omega)
          rw [HR.out]
          obtain ⟨kd, pn, lk, sz, dp, rt⟩ := x
          dsimp only at *
          clear HR h0 h12 hf hv hv1 g0 g1 g2 g3 g4 g5 g6
          go_enter Try.func12, Try.ntmps12
          go_wp2
          go_ret
          exact ⟨rfl, hb⟩
        have q6 : decide ((4 : Int) < (x.root.length : Int)) = false := decide_eq_false (by omega)
        have hl : ∃ lf : Bool, (x.depth == 0) = lf ∧ (lf = decide (x.depth = 0)) := ⟨_, rfl, by rw [Bool.eq_iff_iff]; simp⟩
        obtain ⟨lf, hl1, hl2⟩ := hl
        have HV := Lib.hid hv1
        have RW := Lib.hid fun w h => rrow_any lf x.root hf (.slice ad x.root.length cap) w h
        by_cases r0 : RowOk lf x.root
        · have r1 : true = decide (RowOk lf x.root) := (decide_eq_true r0).symm
          by_cases r2 : x.depth = 0
          · have hlf : lf = true := by rw [hl2]; simp [r2]
            have hl2' := hl2
            subst hlf
            have HR : Hid (decide (InoOk x) = true) := Lib.hid (decide_eq_true ((inoOk_root h12).2 ⟨by omega, by omega, by omega, by omega, (by rw [← hl2]; exact r0), .inl r2⟩))
            rw [HR.out]
            generalize decide (RowOk true x.root) = rb at *
            obtain ⟨kd, pn, lk, sz, dp, rt⟩ := x
            dsimp only at *
            clear HR h0 h12 hf hv hv1 r0 hl2 g0 g1 g2 g3 g4 g5 g6 r2 hl2'
            subst r1
            go_enter Try.func12, Try.ntmps12
            go_wp2_with fail
            refine (RW.out _ HV.out).mono ?_; rintro e w1 ⟨rfl, b1⟩
            have K1 := (Blk.new #[.int .i64 kd, .bool pn, .int .i64 lk, .int .i64 sz, .int .i64 dp, .slice ad rt.length cap] 24 w).kept1 b1
            have k4 := K1.cell 4
            have k5 := K1.cell 5
            clear K1
            go_wp2
            go_ret
            exact ⟨rfl, bnext hb b1⟩
          · have hlf : lf = false := by rw [hl2]; simp [r2]
            have hl2' := hl2
            subst hlf
            by_cases r3 : 0 < x.root.length
            · have z0 : decide (0 < x.root.length) = true := decide_eq_true r3
              have z1 : decide ((0 : Int) < (x.root.length : Int)) = true := decide_eq_true (by omega)
              have HR : Hid (decide (InoOk x) = true) := Lib.hid (decide_eq_true ((inoOk_root h12).2 ⟨by omega, by omega, by omega, by omega, (by rw [← hl2]; exact r0), .inr r3⟩))
              rw [HR.out]
              generalize decide (RowOk false x.root) = rb at *
              obtain ⟨kd, pn, lk, sz, dp, rt⟩ := x
              dsimp only at *
              clear HR h0 h12 hf hv hv1 r0 hl2 g0 g1 g2 g3 g4 g5 g6 r2 r3 hl2'
              subst r1
              go_enter Try.func12, Try.ntmps12
              go_wp2_with fail
              refine (RW.out _ HV.out).mono ?_; rintro e w1 ⟨rfl, b1⟩
              have K1 := (Blk.new #[.int .i64 kd, .bool pn, .int .i64 lk, .int .i64 sz, .int .i64 dp, .slice ad rt.length cap] 24 w).kept1 b1
              have k4 := K1.cell 4
              have k5 := K1.cell 5
              clear K1
              go_wp2
              go_ret
              exact ⟨rfl, bnext hb b1⟩
            · have z0 : decide (0 < x.root.length) = false := decide_eq_false r3
              have z1 : decide ((0 : Int) < (x.root.length : Int)) = false := decide_eq_false (by omega)
              have HR : Hid (decide (InoOk x) = false) := Lib.hid (decide_eq_false fun h => by have k := (inoOk_root h12).1 h; unfold RootOk at k; omega)
              rw [HR.out]
              generalize decide (RowOk false x.root) = rb at *
              obtain ⟨kd, pn, lk, sz, dp, rt⟩ := x
              dsimp only at *
              clear HR h0 h12 hf hv hv1 r0 hl2 g0 g1 g2 g3 g4 g5 g6 r2 r3 hl2'
              subst r1
              go_enter Try.func12, Try.ntmps12
              go_wp2_with fail
              refine (RW.out _ HV.out).mono ?_; rintro e w1 ⟨rfl, b1⟩
              have K1 := (Blk.new #[.int .i64 kd, .bool pn, .int .i64 lk, .int .i64 sz, .int .i64 dp, .slice ad rt.length cap] 24 w).kept1 b1
              have k4 := K1.cell 4
              have k5 := K1.cell 5
              clear K1
              go_wp2
              go_ret
              exact ⟨rfl, bnext hb b1⟩
        · have r1 : false = decide (RowOk lf x.root) := (decide_eq_false r0).symm
          have HR : Hid (decide (InoOk x) = false) := Lib.hid (decide_eq_false fun h => r0 (by have k := (inoOk_root h12).1 h; unfold RootOk at k; rw [hl2]; exact k.2.2.2.2.1))
          rw [HR.out]
          generalize decide (RowOk lf x.root) = rb at *
          obtain ⟨kd, pn, lk, sz, dp, rt⟩ := x
          dsimp only at *
          clear HR h0 h12 hf hv hv1 r0 hl2 g0 g1 g2 g3 g4 g5 g6 
          subst r1
          go_enter Try.func12, Try.ntmps12
          go_wp2_with fail
          refine (RW.out _ HV.out).mono ?_; rintro e w1 ⟨rfl, b1⟩
          have K1 := (Blk.new #[.int .i64 kd, .bool pn, .int .i64 lk, .int .i64 sz, .int .i64 dp, .slice ad rt.length cap] 24 w).kept1 b1
          have k4 := K1.cell 4
          have k5 := K1.cell 5
          clear K1
          go_wp2
          go_ret
          exact ⟨rfl, bnext hb b1⟩
      · skip
        obtain ⟨k1, k2⟩ := m2
        have k2 := k2 rfl
        by_cases g0 : x.links < 0
        · have q0 : decide (x.links < 0) = true := decide_eq_true (by omega)
          have HR : Hid (decide (InoOk x) = false) := Lib.hid (decide_eq_false fun h => by have k := (inoOk_root h12).1 h; unfold RootOk at k; omega)
          rw [HR.out]
          obtain ⟨kd, pn, lk, sz, dp, rt⟩ := x
          dsimp only at *
          clear HR h0 h12 hf hv hv1 g0
          go_enter Try.func12, Try.ntmps12
          go_wp2
          go_ret
          exact ⟨rfl, hb⟩
        have q0 : decide (x.links < 0) = false := decide_eq_false (by omega)
        by_cases g1 : 100 < x.links
        · have q1 : decide (100 < x.links) = true := decide_eq_true (by omega)
          have HR : Hid (decide (InoOk x) = false) := Lib.hid (decide_eq_false fun h => by have k := (inoOk_root h12).1 h; unfold RootOk at k; omega)
          rw [HR.out]
          obtain ⟨kd, pn, lk, sz, dp, rt⟩ := x
          dsimp only at *
          clear HR h0 h12 hf hv hv1 g0 g1
          go_enter Try.func12, Try.ntmps12
          go_wp2
          go_ret
          exact ⟨rfl, hb⟩
        have q1 : decide (100 < x.links) = false := decide_eq_false (by omega)
        by_cases g2 : x.size < 0
        · have q2 : decide (x.size < 0) = true := decide_eq_true (by omega)
          have HR : Hid (decide (InoOk x) = false) := Lib.hid (decide_eq_false fun h => by have k := (inoOk_root h12).1 h; unfold RootOk at k; omega)
          rw [HR.out]
          obtain ⟨kd, pn, lk, sz, dp, rt⟩ := x
          dsimp only at *
          clear HR h0 h12 hf hv hv1 g0 g1 g2
          go_enter Try.func12, Try.ntmps12
          go_wp2
          go_ret
          exact ⟨rfl, hb⟩
        have q2 : decide (x.size < 0) = false := decide_eq_false (by omega)
        by_cases g3 : 262144 < x.size
        · have q3 : decide (262144 < x.size) = true := decide_eq_true (by omega)
          have HR : Hid (decide (InoOk x) = false) := Lib.hid (decide_eq_false fun h => by have k := (inoOk_root h12).1 h; unfold RootOk at k; omega)
          rw [HR.out]
          obtain ⟨kd, pn, lk, sz, dp, rt⟩ := x
          dsimp only at *
          clear HR h0 h12 hf hv hv1 g0 g1 g2 g3
          go_enter Try.func12, Try.ntmps12
          go_wp2
          go_ret
          exact ⟨rfl, hb⟩
        have q3 : decide (262144 < x.size) = false := decide_eq_false (by omega)
        by_cases g4 : x.depth < 0
        · have q4 : decide (x.depth < 0) = true := decide_eq_true (by omega)
          have HR : Hid (decide (InoOk x) = false) := Lib.hid (decide_eq_false fun h => by have k := (inoOk_root h12).1 h; unfold RootOk at k; omega)
          rw [HR.out]
          obtain ⟨kd, pn, lk, sz, dp, rt⟩ := x
          dsimp only at *
          clear HR h0 h12 hf hv hv1 g0 g1 g2 g3 g4
          go_enter Try.func12, Try.ntmps12
          go_wp2
          go_ret
          exact ⟨rfl, hb⟩
        have q4 : decide (x.depth < 0) = false := decide_eq_false (by omega)
        by_cases g5 : 4 < x.depth
        · have q5 : decide (4 < x.depth) = true := decide_eq_true (by omega)
          have HR : Hid (decide (InoOk x) = false) := Lib.hid (decide_eq_false fun h => by have k := (inoOk_root h12).1 h; unfold RootOk at k; omega)
          rw [HR.out]
          obtain ⟨kd, pn, lk, sz, dp, rt⟩ := x
          dsimp only at *
          clear HR h0 h12 hf hv hv1 g0 g1 g2 g3 g4 g5
          go_enter Try.func12, Try.ntmps12
          go_wp2
          go_ret
          exact ⟨rfl, hb⟩
        have q5 : decide (4 < x.depth) = false := decide_eq_false (by omega)
        by_cases g6 : 4 < x.root.length
        · have q6 : decide ((4 : Int) < (x.root.length : Int)) = true := decide_eq_true (by omega)
          have HR : Hid (decide (InoOk x) = false) := Lib.hid (decide_eq_false fun h => by have k := (inoOk_root h12).1 h; unfold RootOk at k; omega)
          rw [HR.out]
          obtain ⟨kd, pn, lk, sz, dp, rt⟩ := x
          dsimp only at *
          clear HR h0 h12 hf hv hv1 g0 g1 g2 g3 g4 g5 g6
          go_enter Try.func12, Try.ntmps12
          go_wp2
          go_ret
          exact ⟨rfl, hb⟩
        have q6 : decide ((4 : Int) < (x.root.length : Int)) = false := decide_eq_false (by omega)
        have hl : ∃ lf : Bool, (x.depth == 0) = lf ∧ (lf = decide (x.depth = 0)) := ⟨_, rfl, by rw [Bool.eq_iff_iff]; simp⟩
        obtain ⟨lf, hl1, hl2⟩ := hl
        have HV := Lib.hid hv1
        have RW := Lib.hid fun w h => rrow_any lf x.root hf (.slice ad x.root.length cap) w h
        by_cases r0 : RowOk lf x.root
        · have r1 : true = decide (RowOk lf x.root) := (decide_eq_true r0).symm
          by_cases r2 : x.depth = 0
          · have hlf : lf = true := by rw [hl2]; simp [r2]
            have hl2' := hl2
            subst hlf
            have HR : Hid (decide (InoOk x) = true) := Lib.hid (decide_eq_true ((inoOk_root h12).2 ⟨by omega, by omega, by omega, by omega, (by rw [← hl2]; exact r0), .inl r2⟩))
            rw [HR.out]
            generalize decide (RowOk true x.root) = rb at *
            obtain ⟨kd, pn, lk, sz, dp, rt⟩ := x
            dsimp only at *
            clear HR h0 h12 hf hv hv1 r0 hl2 g0 g1 g2 g3 g4 g5 g6 r2 hl2'
            subst r1
            go_enter Try.func12, Try.ntmps12
            go_wp2_with fail
            refine (RW.out _ HV.out).mono ?_; rintro e w1 ⟨rfl, b1⟩
            have K1 := (Blk.new #[.int .i64 kd, .bool pn, .int .i64 lk, .int .i64 sz, .int .i64 dp, .slice ad rt.length cap] 24 w).kept1 b1
            have k4 := K1.cell 4
            have k5 := K1.cell 5
            clear K1
            go_wp2
            go_ret
            exact ⟨rfl, bnext hb b1⟩
          · have hlf : lf = false := by rw [hl2]; simp [r2]
            have hl2' := hl2
            subst hlf
            by_cases r3 : 0 < x.root.length
            · have z0 : decide (0 < x.root.length) = true := decide_eq_true r3
              have z1 : decide ((0 : Int) < (x.root.length : Int)) = true := decide_eq_true (by omega)
              have HR : Hid (decide (InoOk x) = true) := Lib.hid (decide_eq_true ((inoOk_root h12).2 ⟨by omega, by omega, by omega, by omega, (by rw [← hl2]; exact r0), .inr r3⟩))
              rw [HR.out]
              generalize decide (RowOk false x.root) = rb at *
              obtain ⟨kd, pn, lk, sz, dp, rt⟩ := x
              dsimp only at *
              clear HR h0 h12 hf hv hv1 r0 hl2 g0 g1 g2 g3 g4 g5 g6 r2 r3 hl2'
              subst r1
              go_enter Try.func12, Try.ntmps12
              go_wp2_with fail
              refine (RW.out _ HV.out).mono ?_; rintro e w1 ⟨rfl, b1⟩
              have K1 := (Blk.new #[.int .i64 kd, .bool pn, .int .i64 lk, .int .i64 sz, .int .i64 dp, .slice ad rt.length cap] 24 w).kept1 b1
              have k4 := K1.cell 4
              have k5 := K1.cell 5
              clear K1
              go_wp2
              go_ret
              exact ⟨rfl, bnext hb b1⟩
            · have z0 : decide (0 < x.root.length) = false := decide_eq_false r3
              have z1 : decide ((0 : Int) < (x.root.length : Int)) = false := decide_eq_false (by omega)
              have HR : Hid (decide (InoOk x) = false) := Lib.hid (decide_eq_false fun h => by have k := (inoOk_root h12).1 h; unfold RootOk at k; omega)
              rw [HR.out]
              generalize decide (RowOk false x.root) = rb at *
              obtain ⟨kd, pn, lk, sz, dp, rt⟩ := x
              dsimp only at *
              clear HR h0 h12 hf hv hv1 r0 hl2 g0 g1 g2 g3 g4 g5 g6 r2 r3 hl2'
              subst r1
              go_enter Try.func12, Try.ntmps12
              go_wp2_with fail
              refine (RW.out _ HV.out).mono ?_; rintro e w1 ⟨rfl, b1⟩
              have K1 := (Blk.new #[.int .i64 kd, .bool pn, .int .i64 lk, .int .i64 sz, .int .i64 dp, .slice ad rt.length cap] 24 w).kept1 b1
              have k4 := K1.cell 4
              have k5 := K1.cell 5
              clear K1
              go_wp2
              go_ret
              exact ⟨rfl, bnext hb b1⟩
        · have r1 : false = decide (RowOk lf x.root) := (decide_eq_false r0).symm
          have HR : Hid (decide (InoOk x) = false) := Lib.hid (decide_eq_false fun h => r0 (by have k := (inoOk_root h12).1 h; unfold RootOk at k; rw [hl2]; exact k.2.2.2.2.1))
          rw [HR.out]
          generalize decide (RowOk lf x.root) = rb at *
          obtain ⟨kd, pn, lk, sz, dp, rt⟩ := x
          dsimp only at *
          clear HR h0 h12 hf hv hv1 r0 hl2 g0 g1 g2 g3 g4 g5 g6 
          subst r1
          go_enter Try.func12, Try.ntmps12
          go_wp2_with fail
          refine (RW.out _ HV.out).mono ?_; rintro e w1 ⟨rfl, b1⟩
          have K1 := (Blk.new #[.int .i64 kd, .bool pn, .int .i64 lk, .int .i64 sz, .int .i64 dp, .slice ad rt.length cap] 24 w).kept1 b1
          have k4 := K1.cell 4
          have k5 := K1.cell 5
          clear K1
          go_wp2
          go_ret
          exact ⟨rfl, bnext hb b1⟩
    · have HR : Hid (decide (InoOk x) = false) := Lib.hid (decide_eq_false fun k => h12 (by rw [ok_kindN h0] at k; exact k.1))
      rw [HR.out]
      have e1 : (x.kind != 1) = true := by simp; omega
      have e2 : (x.kind != 2) = true := by simp; omega
      obtain ⟨kd, pn, lk, sz, dp, rt⟩ := x
      dsimp only at *
      clear HR h0 h12 hf hv hv1
      go_enter Try.func12, Try.ntmps12
      go_wp2
      go_ret
      exact ⟨rfl, hb⟩
end Go.Proofs.Ytfepjjjoikcljaa
