/- Check, the program's. -/
import Derived.Test.YtfepjjjoikcljaaIRoot
namespace Go.Proofs.Ytfepjjjoikcljaa
set_option linter.unusedVariables false
open Go.RowKit

abbrev inoV (x : Ino) (v : Value) : Value := .agg #[.int .i64 x.kind, .bool x.pinned, .int .i64 x.links, .int .i64 x.size, .int .i64 x.depth, v]
abbrev inoC (x : Ino) (v : Value) : Array Value := #[.int .i64 x.kind, .bool x.pinned, .int .i64 x.links, .int .i64 x.size, .int .i64 x.depth, v]
/-- the inode, with its entries' slice, stands in block g -/
abbrev InoAt (g : Nat) (x : Ino) (v : Value) (w : World) : Prop := Blk g (inoC x v) 24 w
theorem InoAt.cells {g : Nat} {x : Ino} {v : Value} {w : World} (h : InoAt g x v w) :
    w.cell? ⟨g, 0, none⟩ = some (.int .i64 x.kind) ∧ w.cell? ⟨g, 1, none⟩ = some (.bool x.pinned) ∧ w.cell? ⟨g, 2, none⟩ = some (.int .i64 x.links) ∧ w.cell? ⟨g, 3, none⟩ = some (.int .i64 x.size) ∧ w.cell? ⟨g, 4, none⟩ = some (.int .i64 x.depth) ∧ w.cell? ⟨g, 5, none⟩ = some v :=
  ⟨h.cell 0, h.cell 1, h.cell 2, h.cell 3, h.cell 4, h.cell 5⟩
theorem inoOk_root {x : Ino} (h : x.kind = 1 ∨ x.kind = 2) : InoOk x ↔ (0 ≤ x.links ∧ x.links ≤ 100) ∧ (0 ≤ x.size ∧ x.size ≤ 262144) ∧ (0 ≤ x.depth ∧ x.depth ≤ 4) ∧ RootOk x.depth x.root := by
  rw [ok_kindN (by omega)]
  unfold Full RootOk
  constructor
  · rintro ⟨_, a, b, c, d, e, f⟩; exact ⟨a, b, c, d, e, f⟩
  · rintro ⟨a, b, c, d, e, f⟩; exact ⟨h, a, b, c, d, e, f⟩
set_option maxRecDepth 100000 in
set_option maxHeartbeats 4000000 in
theorem icheck_any (x : Ino) (hf : fitE x.root) (v : Value) (w : World) (hv : EntsIn v x.root w) :
    Calls Try.prog 11 #[inoV x v] w fun e w' => e = .returned (.bool (decide (InoOk x))) ∧ Below w.heap.size w w' := by
  have hb := balloc1 w (.cells (inoC x v) 24)
  have hv1 := hv.kept hb
  by_cases h0 : x.kind = 0
  · have e0 : (x.kind == 0) = true := by rw [beq_iff_eq]; exact h0
    obtain ⟨ad, cap, rfl, c1, c2, -⟩ := entsIn_cells hv
    by_cases g0 : x.pinned = false
    · skip
      by_cases g1 : x.links = 0
      · skip
        have q1 : (x.links == 0) = true := by rw [beq_iff_eq]; exact g1
        by_cases g2 : x.size = 0
        · skip
          have q2 : (x.size == 0) = true := by rw [beq_iff_eq]; exact g2
          by_cases g3 : x.depth = 0
          · skip
            have q3 : (x.depth == 0) = true := by rw [beq_iff_eq]; exact g3
            by_cases g4 : x.root.length = 0
            · skip
              have q4 : ((x.root.length : Int) == 0) = true := by rw [beq_iff_eq]; omega
              have HR : Hid (decide (InoOk x) = true) := Lib.hid (decide_eq_true ((ok_kind0 h0).2 ⟨h0, g0, g1, g2, g3, List.length_eq_zero_iff.1 g4⟩))
              rw [HR.out]
              obtain ⟨kd, pn, lk, sz, dp, rt⟩ := x
              dsimp only at *
              clear HR h0 hf hv hv1 g1 g2 g3 g4
              subst g0
              go_enter Try.func11, Try.ntmps11
              go_wp2
              go_ret
              exact ⟨rfl, hb⟩
            · skip
              have q4 : ((x.root.length : Int) == 0) = false := by rw [beq_eq_false_iff_ne]; omega
              have HR : Hid (decide (InoOk x) = false) := Lib.hid (decide_eq_false fun h => (fun k => g4 (by rw [k.2.2.2.2.2]; rfl)) ((ok_kind0 h0).1 h))
              rw [HR.out]
              obtain ⟨kd, pn, lk, sz, dp, rt⟩ := x
              dsimp only at *
              clear HR h0 hf hv hv1 g1 g2 g3 g4
              subst g0
              go_enter Try.func11, Try.ntmps11
              go_wp2
              go_ret
              exact ⟨rfl, hb⟩
          · skip
            have q3 : (x.depth == 0) = false := by rw [beq_eq_false_iff_ne]; exact g3
            have HR : Hid (decide (InoOk x) = false) := Lib.hid (decide_eq_false fun h => (fun k => g3 k.2.2.2.2.1) ((ok_kind0 h0).1 h))
            rw [HR.out]
            obtain ⟨kd, pn, lk, sz, dp, rt⟩ := x
            dsimp only at *
            clear HR h0 hf hv hv1 g1 g2 g3
            subst g0
            go_enter Try.func11, Try.ntmps11
            go_wp2
            go_ret
            exact ⟨rfl, hb⟩
        · skip
          have q2 : (x.size == 0) = false := by rw [beq_eq_false_iff_ne]; exact g2
          have HR : Hid (decide (InoOk x) = false) := Lib.hid (decide_eq_false fun h => (fun k => g2 k.2.2.2.1) ((ok_kind0 h0).1 h))
          rw [HR.out]
          obtain ⟨kd, pn, lk, sz, dp, rt⟩ := x
          dsimp only at *
          clear HR h0 hf hv hv1 g1 g2
          subst g0
          go_enter Try.func11, Try.ntmps11
          go_wp2
          go_ret
          exact ⟨rfl, hb⟩
      · skip
        have q1 : (x.links == 0) = false := by rw [beq_eq_false_iff_ne]; exact g1
        have HR : Hid (decide (InoOk x) = false) := Lib.hid (decide_eq_false fun h => (fun k => g1 k.2.2.1) ((ok_kind0 h0).1 h))
        rw [HR.out]
        obtain ⟨kd, pn, lk, sz, dp, rt⟩ := x
        dsimp only at *
        clear HR h0 hf hv hv1 g1
        subst g0
        go_enter Try.func11, Try.ntmps11
        go_wp2
        go_ret
        exact ⟨rfl, hb⟩
    · skip
      have HR : Hid (decide (InoOk x) = false) := Lib.hid (decide_eq_false fun h => (fun k => /-pin-/ g0 k.2.1) ((ok_kind0 h0).1 h))
      rw [HR.out]
      obtain ⟨kd, pn, lk, sz, dp, rt⟩ := x
      dsimp only at *
      clear HR h0 hf hv hv1 
      obtain rfl : pn = true := by simpa using g0
      go_enter Try.func11, Try.ntmps11
      go_wp2
      go_ret
      exact ⟨rfl, hb⟩
  · have e0 : (x.kind == 0) = false := by rw [beq_eq_false_iff_ne]; exact h0
    by_cases h12 : x.kind = 1 ∨ x.kind = 2
    · have RT := fun (h : 0 ≤ x.depth) => rooted_any x.depth h x.root hf v
      by_cases g0 : 0 ≤ x.links ∧ x.links ≤ 100
      · have W0 := Lib.hid (iwithin_yes x.links 0 100 g0)
        by_cases g1 : 0 ≤ x.size ∧ x.size ≤ 262144
        · have W1 := Lib.hid (iwithin_yes x.size 0 262144 g1)
          by_cases g2 : 0 ≤ x.depth ∧ x.depth ≤ 4
          · have W2 := Lib.hid (iwithin_yes x.depth 0 4 g2)
            have HR : Hid (decide (InoOk x) = decide (RootOk x.depth x.root)) := Lib.hid (by rw [decide_eq_decide, inoOk_root h12]; exact ⟨fun k => k.2.2.2, fun k => ⟨g0, g1, g2, k⟩⟩)
            rw [HR.out]
            have RW := Lib.hid fun w h => RT g2.1 w h
            have HV := Lib.hid hv1
            generalize decide (RootOk x.depth x.root) = rb at *
            obtain ⟨kd, pn, lk, sz, dp, rt⟩ := x
            dsimp only at *
            clear HR h0 e0 RT hf hv hv1 g0 g1 g2
            rcases h12 with rfl | rfl
            · go_enter Try.func11, Try.ntmps11
              go_wp2_with fail
              refine (W0.out _).mono ?_; rintro e w1 ⟨rfl, rfl⟩
              go_wp2_with fail
              refine (W1.out _).mono ?_; rintro e w1 ⟨rfl, rfl⟩
              go_wp2_with fail
              refine (W2.out _).mono ?_; rintro e w1 ⟨rfl, rfl⟩
              go_wp2_with fail
              refine (RW.out _ HV.out).mono ?_; rintro e w1 ⟨rfl, b1⟩
              go_wp2
              go_ret
              exact ⟨rfl, bnext hb b1⟩
            · go_enter Try.func11, Try.ntmps11
              go_wp2_with fail
              refine (W0.out _).mono ?_; rintro e w1 ⟨rfl, rfl⟩
              go_wp2_with fail
              refine (W1.out _).mono ?_; rintro e w1 ⟨rfl, rfl⟩
              go_wp2_with fail
              refine (W2.out _).mono ?_; rintro e w1 ⟨rfl, rfl⟩
              go_wp2_with fail
              refine (RW.out _ HV.out).mono ?_; rintro e w1 ⟨rfl, b1⟩
              go_wp2
              go_ret
              exact ⟨rfl, bnext hb b1⟩
          · have W2 := Lib.hid (iwithin_no x.depth 0 4 g2)
            have HR : Hid (decide (InoOk x) = false) := Lib.hid (decide_eq_false fun k => g2 (((inoOk_root h12).1 k).2.2.1))
            rw [HR.out]
            obtain ⟨kd, pn, lk, sz, dp, rt⟩ := x
            dsimp only at *
            clear HR h0 e0 RT hf hv hv1 g0 g1 g2
            rcases h12 with rfl | rfl
            · go_enter Try.func11, Try.ntmps11
              go_wp2_with fail
              refine (W0.out _).mono ?_; rintro e w1 ⟨rfl, rfl⟩
              go_wp2_with fail
              refine (W1.out _).mono ?_; rintro e w1 ⟨rfl, rfl⟩
              go_wp2_with fail
              refine (W2.out _).mono ?_; rintro e w1 ⟨rfl, rfl⟩
              go_wp2
              go_ret
              exact ⟨rfl, hb⟩
            · go_enter Try.func11, Try.ntmps11
              go_wp2_with fail
              refine (W0.out _).mono ?_; rintro e w1 ⟨rfl, rfl⟩
              go_wp2_with fail
              refine (W1.out _).mono ?_; rintro e w1 ⟨rfl, rfl⟩
              go_wp2_with fail
              refine (W2.out _).mono ?_; rintro e w1 ⟨rfl, rfl⟩
              go_wp2
              go_ret
              exact ⟨rfl, hb⟩
        · have W1 := Lib.hid (iwithin_no x.size 0 262144 g1)
          have HR : Hid (decide (InoOk x) = false) := Lib.hid (decide_eq_false fun k => g1 (((inoOk_root h12).1 k).2.1))
          rw [HR.out]
          obtain ⟨kd, pn, lk, sz, dp, rt⟩ := x
          dsimp only at *
          clear HR h0 e0 RT hf hv hv1 g0 g1
          rcases h12 with rfl | rfl
          · go_enter Try.func11, Try.ntmps11
            go_wp2_with fail
            refine (W0.out _).mono ?_; rintro e w1 ⟨rfl, rfl⟩
            go_wp2_with fail
            refine (W1.out _).mono ?_; rintro e w1 ⟨rfl, rfl⟩
            go_wp2
            go_ret
            exact ⟨rfl, hb⟩
          · go_enter Try.func11, Try.ntmps11
            go_wp2_with fail
            refine (W0.out _).mono ?_; rintro e w1 ⟨rfl, rfl⟩
            go_wp2_with fail
            refine (W1.out _).mono ?_; rintro e w1 ⟨rfl, rfl⟩
            go_wp2
            go_ret
            exact ⟨rfl, hb⟩
      · have W0 := Lib.hid (iwithin_no x.links 0 100 g0)
        have HR : Hid (decide (InoOk x) = false) := Lib.hid (decide_eq_false fun k => g0 (((inoOk_root h12).1 k).1))
        rw [HR.out]
        obtain ⟨kd, pn, lk, sz, dp, rt⟩ := x
        dsimp only at *
        clear HR h0 e0 RT hf hv hv1 g0
        rcases h12 with rfl | rfl
        · go_enter Try.func11, Try.ntmps11
          go_wp2_with fail
          refine (W0.out _).mono ?_; rintro e w1 ⟨rfl, rfl⟩
          go_wp2
          go_ret
          exact ⟨rfl, hb⟩
        · go_enter Try.func11, Try.ntmps11
          go_wp2_with fail
          refine (W0.out _).mono ?_; rintro e w1 ⟨rfl, rfl⟩
          go_wp2
          go_ret
          exact ⟨rfl, hb⟩
    · have HR : Hid (decide (InoOk x) = false) := Lib.hid (decide_eq_false fun k => h12 (by rw [ok_kindN h0] at k; exact k.1))
      rw [HR.out]
      have e1 : (x.kind == 1) = false := by rw [beq_eq_false_iff_ne]; omega
      have e2 : (x.kind == 2) = false := by rw [beq_eq_false_iff_ne]; omega
      obtain ⟨kd, pn, lk, sz, dp, rt⟩ := x
      dsimp only at *
      clear HR h0 h12 hf hv hv1
      go_enter Try.func11, Try.ntmps11
      go_wp2
      go_ret
      exact ⟨rfl, hb⟩
end Go.Proofs.Ytfepjjjoikcljaa
