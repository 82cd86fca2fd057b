/- Check, the document's. -/
import Derived.Test.YtgcbfiecgiijkaaEntM
import Derived.Deep.CutBlock
import Derived.Deep.DeepCutAuto
namespace Go.Proofs.Ytgcbfiecgiijkaa
set_option linter.unusedVariables false
open Go.RowKit

set_option maxRecDepth 100000 in
set_option maxHeartbeats 4000000 in
theorem rmay_any (y : Ent) (hz : I64 y.len) (leaf : Bool) (w : World) :
    Calls Try.prog 59 #[entV y, .bool leaf] w fun e w' => e = .returned (.bool (decide (EntOk leaf y))) ∧ Below w.heap.size w w' := by
  have hb := balloc1 w (.cells (entC y) 57)
  obtain ⟨hz1, hz2⟩ := hz
  cases leaf with
  | true =>
    by_cases h1 : y.len < 1
    · have d1 : decide (y.len < 1) = true := decide_eq_true h1
      have HR : Hid (decide (EntOk true y) = false) := Lib.hid (decide_eq_false fun h => by have := ((entOk_leaf y).1 h).1; omega)
      rw [HR.out]
      obtain ⟨ya, yp, yz⟩ := y
      dsimp only at *
      clear HR h1
      go_enter Try.func59, Try.ntmps59
      go_wp2
      go_ret
      exact ⟨rfl, hb⟩
    have d1 : decide (y.len < 1) = false := decide_eq_false h1
    by_cases h2 : 4096 < y.len
    · have d2 : decide (4096 < y.len) = true := decide_eq_true h2
      have HR : Hid (decide (EntOk true y) = false) := Lib.hid (decide_eq_false fun h => by have k := (entOk_leaf y).1 h; unfold Lies at k; omega)
      rw [HR.out]
      obtain ⟨ya, yp, yz⟩ := y
      dsimp only at *
      clear HR h1 h2
      go_enter Try.func59, Try.ntmps59
      go_wp2
      go_ret
      exact ⟨rfl, hb⟩
    have d2 : decide (4096 < y.len) = false := decide_eq_false h2
    have m1 : 1 ≤ y.len := by omega
    have m2 : y.len ≤ 4096 := by omega
    by_cases g0 : 0 ≤ y.log
    · have q0 : decide (0 ≤ y.log) = true := decide_eq_true g0
      by_cases g1 : y.log ≤ 2048 - y.len
      · have q1 : decide (y.log ≤ 2048 - y.len) = true := decide_eq_true g1
        by_cases g2 : 1 ≤ y.phys
        · have q2 : decide (1 ≤ y.phys) = true := decide_eq_true g2
          by_cases g3 : y.phys ≤ 4096 - y.len
          · have q3 : decide (y.phys ≤ 4096 - y.len) = true := decide_eq_true g3
            have HR : Hid (decide (EntOk true y) = true) := Lib.hid (decide_eq_true ((entOk_leaf y).2 ⟨by omega, ⟨by omega, by omega⟩, by omega, by omega⟩))
            rw [HR.out]
            obtain ⟨ya, yp, yz⟩ := y
            dsimp only at *
            clear HR h1 h2 g0 g1 g2 g3
            go_enter Try.func59, Try.ntmps59
            go_wp2
            go_ret
            exact ⟨rfl, hb⟩
          · have q3 : decide (y.phys ≤ 4096 - y.len) = false := decide_eq_false g3
            have HR : Hid (decide (EntOk true y) = false) := Lib.hid (decide_eq_false fun h => by have k := (entOk_leaf y).1 h; unfold Lies at k; omega)
            rw [HR.out]
            obtain ⟨ya, yp, yz⟩ := y
            dsimp only at *
            clear HR h1 h2 g0 g1 g2 g3
            go_enter Try.func59, Try.ntmps59
            go_wp2
            go_ret
            exact ⟨rfl, hb⟩
        · have q2 : decide (1 ≤ y.phys) = false := decide_eq_false g2
          have HR : Hid (decide (EntOk true y) = false) := Lib.hid (decide_eq_false fun h => by have k := (entOk_leaf y).1 h; unfold Lies at k; omega)
          rw [HR.out]
          obtain ⟨ya, yp, yz⟩ := y
          dsimp only at *
          clear HR h1 h2 g0 g1 g2
          go_enter Try.func59, Try.ntmps59
          go_wp2
          go_ret
          exact ⟨rfl, hb⟩
      · have q1 : decide (y.log ≤ 2048 - y.len) = false := decide_eq_false g1
        have HR : Hid (decide (EntOk true y) = false) := Lib.hid (decide_eq_false fun h => by have k := (entOk_leaf y).1 h; unfold Lies at k; omega)
        rw [HR.out]
        obtain ⟨ya, yp, yz⟩ := y
        dsimp only at *
        clear HR h1 h2 g0 g1
        go_enter Try.func59, Try.ntmps59
        go_wp2
        go_ret
        exact ⟨rfl, hb⟩
    · have q0 : decide (0 ≤ y.log) = false := decide_eq_false g0
      have HR : Hid (decide (EntOk true y) = false) := Lib.hid (decide_eq_false fun h => by have k := (entOk_leaf y).1 h; unfold Lies at k; omega)
      rw [HR.out]
      obtain ⟨ya, yp, yz⟩ := y
      dsimp only at *
      clear HR h1 h2 g0
      go_enter Try.func59, Try.ntmps59
      go_wp2
      go_ret
      exact ⟨rfl, hb⟩
  | false =>
    by_cases h1 : y.len = 0
    · have d1 : (y.len != 0) = false := by simp [h1]
      obtain ⟨ya, yp, yz⟩ := y
      obtain rfl : yz = 0 := h1
      have ey : ∃ y : Ent, y = ⟨ya, yp, 0⟩ := ⟨_, rfl⟩
      by_cases g0 : 0 ≤ ya
      · have q0 : decide (0 ≤ ya) = true := decide_eq_true g0
        by_cases g1 : ya ≤ 2047
        · have q1 : decide (ya ≤ 2047) = true := decide_eq_true g1
          by_cases g2 : 1 ≤ yp
          · have q2 : decide (1 ≤ yp) = true := decide_eq_true g2
            by_cases g3 : yp ≤ 4095
            · have q3 : decide (yp ≤ 4095) = true := decide_eq_true g3
              have HR : Hid (decide (EntOk false ⟨ya, yp, 0⟩) = true) := Lib.hid (decide_eq_true ((entOk_node _).2 ⟨rfl, ⟨g0, show ya ≤ 2048 - 1 by omega⟩, g2, show yp ≤ 4096 - 1 by omega⟩))
              rw [HR.out]
              dsimp only at *
              clear HR ey g0 g1 g2 g3
              go_enter Try.func59, Try.ntmps59
              go_wp2
              go_ret
              exact ⟨rfl, hb⟩
            · have q3 : decide (yp ≤ 4095) = false := decide_eq_false g3
              have HR : Hid (decide (EntOk false ⟨ya, yp, 0⟩) = false) := Lib.hid (decide_eq_false fun h => by have k := (entOk_node _).1 h; unfold Lies at k; simp only at k; omega)
              rw [HR.out]
              dsimp only at *
              clear HR ey g0 g1 g2 g3
              go_enter Try.func59, Try.ntmps59
              go_wp2
              go_ret
              exact ⟨rfl, hb⟩
          · have q2 : decide (1 ≤ yp) = false := decide_eq_false g2
            have HR : Hid (decide (EntOk false ⟨ya, yp, 0⟩) = false) := Lib.hid (decide_eq_false fun h => by have k := (entOk_node _).1 h; unfold Lies at k; simp only at k; omega)
            rw [HR.out]
            dsimp only at *
            clear HR ey g0 g1 g2
            go_enter Try.func59, Try.ntmps59
            go_wp2
            go_ret
            exact ⟨rfl, hb⟩
        · have q1 : decide (ya ≤ 2047) = false := decide_eq_false g1
          have HR : Hid (decide (EntOk false ⟨ya, yp, 0⟩) = false) := Lib.hid (decide_eq_false fun h => by have k := (entOk_node _).1 h; unfold Lies at k; simp only at k; omega)
          rw [HR.out]
          dsimp only at *
          clear HR ey g0 g1
          go_enter Try.func59, Try.ntmps59
          go_wp2
          go_ret
          exact ⟨rfl, hb⟩
      · have q0 : decide (0 ≤ ya) = false := decide_eq_false g0
        have HR : Hid (decide (EntOk false ⟨ya, yp, 0⟩) = false) := Lib.hid (decide_eq_false fun h => by have k := (entOk_node _).1 h; unfold Lies at k; simp only at k; omega)
        rw [HR.out]
        dsimp only at *
        clear HR ey g0
        go_enter Try.func59, Try.ntmps59
        go_wp2
        go_ret
        exact ⟨rfl, hb⟩
    · have d1 : (y.len != 0) = true := by simp [h1]
      have HR : Hid (decide (EntOk false y) = false) := Lib.hid (decide_eq_false fun h => by have k := (entOk_node y).1 h; omega)
      rw [HR.out]
      obtain ⟨ya, yp, yz⟩ := y
      dsimp only at *
      clear HR h1
      go_enter Try.func59, Try.ntmps59
      go_wp2
      go_ret
      exact ⟨rfl, hb⟩

set_option maxRecDepth 100000 in
set_option maxHeartbeats 4000000 in
theorem rrow_any (lf : Bool) (l : List Ent) (hf : fitE l) (v : Value) (w : World) (hv : EntsIn v l w) :
    Calls Try.prog 43 #[v, .bool lf] w fun e w' => e = .returned (.bool (decide (RowOk lf l))) ∧ Below w.heap.size w w' := by
  obtain ⟨ad, cap, rfl, c1, c2, c3, -⟩ := entsIn_cells hv
  have mixed : Try.prog.follows .mixedOrders = true := by kernel_rfl
  have H3 := Lib.hid c3
  clear c3 hv
  go_enter Try.func43, Try.ntmps43
  go_wp2
  go_loopw [5] (fun p wr => ∃ k : Nat, p = .int .i64 k ∧ k ≤ l.length ∧ Hid (RowTo lf l k) ∧ Below w.heap.size w wr) (fun p _ => l.length - (intOf p).toNat)
  case atStart => exact ⟨0, rfl, Nat.zero_le _, Lib.hid (rowTo_zero _ _), Below.refl _ _⟩
  case round =>
    obtain ⟨k, rfl, hk, HK, hb⟩ := hrel
    by_cases hlt : k < l.length
    · obtain ⟨g, o, rfl, hg, hc⟩ := H3.out (by omega)
      have hgr : g < wr.heap.size := Nat.lt_of_lt_of_le hg hb.size
      obtain ⟨x1, x2, x3⟩ := hc wr hb k hlt
      have hfk := fitE_at hf hlt
      have HS : Hid (RowTo lf l k → EntOk lf (eat l k) → (0 < k → After (eat l (k - 1)) (eat l k)) → RowTo lf l (k + 1)) := Lib.hid fun a b c => rowTo_succ.2 ⟨a, b, c⟩
      have HN : Hid (¬ (EntOk lf (eat l k) ∧ (0 < k → After (eat l (k - 1)) (eat l k))) → decide (RowOk lf l) = false) := Lib.hid fun h => decide_eq_false (rowOk_no hlt h)
      have V := fun w => rmay_any (eat l k) hfk.2.2 lf w
      have HC := Lib.hid hc
      by_cases hok : EntOk lf (eat l k)
      · rw [decide_eq_true hok] at V
        have V := Lib.hid V
        rcases Nat.eq_zero_or_pos k with hk0 | hk0
        · have HE := Lib.hid (HS.out HK.out hok fun h => by omega)
          have d0 : ((k : Int) == 0) = true := by rw [beq_iff_eq]; omega
          clear hk0 hok HS HN hc HC hfk
          generalize eat l k = yk at *
          obtain ⟨ea, ep, ez⟩ := yk
          dsimp only at *
          go_wp2_with fail
          refine (V.out _).mono ?_; rintro e w1 ⟨rfl, b1⟩
          have hb2 := bnext hb b1
          go_wp2
          exact ⟨⟨k + 1, by go_num, by omega, HE, hb2⟩, by simp [intOf]; omega⟩
        · obtain ⟨j, rfl⟩ : ∃ j, k = j + 1 := ⟨k - 1, by omega⟩
          have d0 : (((j + 1 : Nat) : Int) == 0) = false := by rw [beq_eq_false_iff_ne]; omega
          have HJ := Lib.hid (rowTo_end HK.out j (by omega))
          clear hc
          by_cases ha : After (eat l j) (eat l (j + 1))
          · have HE := Lib.hid (HS.out HK.out hok fun _ => ha)
            have t1 : decide ((eat l (j + 1)).log ≤ (eat l j).log) = false := decide_eq_false (by have := ha.1; omega)
            have t2 : decide ((eat l (j + 1)).log < (eat l j).log + (eat l j).len) = false := decide_eq_false (by have := ha.2; omega)
            clear hok HS HN ha HK hk0 hfk
            go_wp2_with fail
            refine (V.out _).mono ?_; rintro e w1 ⟨rfl, b1⟩
            have hb2 := bnext hb b1
            obtain ⟨y1, y2, y3⟩ := HC.out w1 hb2 j (by omega)
            have hb3 := balloc hb2 (.cells (entC (eat l j)) 57)
            have kb := ent_new w1 (eat l j) 57
            have k0 := fun p => (kb p).1
            have k1 := fun p => (kb p).2.1
            have k2 := fun p => (kb p).2.2
            have n0 := fun p : BelowP (w1.alloc (.cells (entC (eat l j)) 57)) => (HC.out p.to (hb3.trans (p.h.mono hb3.size)) (j + 1) (by omega)).1
            have HJ := HJ.out
            clear kb
            generalize eat l (j + 1) = yk at *
            generalize eat l j = yj at *
            obtain ⟨fa, fp, fz⟩ := yj
            obtain ⟨ea, ep, ez⟩ := yk
            dsimp only at *
            go_upto_region 8 with fail
            generalize w1.alloc (.cells #[.int .i64 fa, .int .i64 fp, .int .i64 fz] 57) = w2 at *
            refine wp_region_quiet_below mixed (by kernel_rfl) ?_
            repeat (go_big_quiet_step (fail))
            refine wpQuiet_nil ?_
            intro w0q hw'
            obtain ⟨⟨wq, bq⟩, hw''⟩ := hw'
            have hw2 : wq = w0q := hw''.symm
            clear hw''
            subst hw2
            have hb3 := bnext hb3 bq
            go_wp2
            exact ⟨⟨j + 1 + 1, by go_num, by omega, HE, hb3⟩, by simp [intOf]; omega⟩
          · have HE := Lib.hid (HN.out fun h => ha (h.2 (by omega)))
            by_cases ha1 : (eat l (j + 1)).log ≤ (eat l j).log
            · have t1 : decide ((eat l (j + 1)).log ≤ (eat l j).log) = true := decide_eq_true ha1
              clear hok HS HN ha HK hk0 hfk ha1
              go_wp2_with fail
              refine (V.out _).mono ?_; rintro e w1 ⟨rfl, b1⟩
              have hb2 := bnext hb b1
              obtain ⟨y1, y2, y3⟩ := HC.out w1 hb2 j (by omega)
              have hb3 := balloc hb2 (.cells (entC (eat l j)) 57)
              have kb := ent_new w1 (eat l j) 57
              have k0 := fun p => (kb p).1
              have k1 := fun p => (kb p).2.1
              have k2 := fun p => (kb p).2.2
              have n0 := fun p : BelowP (w1.alloc (.cells (entC (eat l j)) 57)) => (HC.out p.to (hb3.trans (p.h.mono hb3.size)) (j + 1) (by omega)).1
              have HJ := HJ.out
              clear kb
              generalize eat l (j + 1) = yk at *
              generalize eat l j = yj at *
              obtain ⟨fa, fp, fz⟩ := yj
              obtain ⟨ea, ep, ez⟩ := yk
              dsimp only at *
              go_upto_region 8 with fail
              generalize w1.alloc (.cells #[.int .i64 fa, .int .i64 fp, .int .i64 fz] 57) = w2 at *
              refine wp_region_quiet_below mixed (by kernel_rfl) ?_
              repeat (go_big_quiet_step (fail))
              refine wpQuiet_nil ?_
              intro w0q hw'
              obtain ⟨⟨wq, bq⟩, hw''⟩ := hw'
              have hw2 : wq = w0q := hw''.symm
              clear hw''
              subst hw2
              have hb3 := bnext hb3 bq
              go_wp2
              go_ret
              exact ⟨ret_bool (by rw [HE.out]), hb3⟩
            · have t1 : decide ((eat l (j + 1)).log ≤ (eat l j).log) = false := decide_eq_false ha1
              have t2 : decide ((eat l (j + 1)).log < (eat l j).log + (eat l j).len) = true := decide_eq_true (by unfold After at ha; omega)
              clear hok HS HN ha HK hk0 hfk ha1
              go_wp2_with fail
              refine (V.out _).mono ?_; rintro e w1 ⟨rfl, b1⟩
              have hb2 := bnext hb b1
              obtain ⟨y1, y2, y3⟩ := HC.out w1 hb2 j (by omega)
              have hb3 := balloc hb2 (.cells (entC (eat l j)) 57)
              have kb := ent_new w1 (eat l j) 57
              have k0 := fun p => (kb p).1
              have k1 := fun p => (kb p).2.1
              have k2 := fun p => (kb p).2.2
              have n0 := fun p : BelowP (w1.alloc (.cells (entC (eat l j)) 57)) => (HC.out p.to (hb3.trans (p.h.mono hb3.size)) (j + 1) (by omega)).1
              have HJ := HJ.out
              clear kb
              generalize eat l (j + 1) = yk at *
              generalize eat l j = yj at *
              obtain ⟨fa, fp, fz⟩ := yj
              obtain ⟨ea, ep, ez⟩ := yk
              dsimp only at *
              go_upto_region 8 with fail
              generalize w1.alloc (.cells #[.int .i64 fa, .int .i64 fp, .int .i64 fz] 57) = w2 at *
              refine wp_region_quiet_below mixed (by kernel_rfl) ?_
              repeat (go_big_quiet_step (fail))
              refine wpQuiet_nil ?_
              intro w0q hw'
              obtain ⟨⟨wq, bq⟩, hw''⟩ := hw'
              have hw2 : wq = w0q := hw''.symm
              clear hw''
              subst hw2
              have hb3 := bnext hb3 bq
              go_wp2
              go_ret
              exact ⟨ret_bool (by rw [HE.out]), hb3⟩
      · rw [decide_eq_false hok] at V
        have HE := Lib.hid (HN.out fun h => hok h.1)
        have V := Lib.hid V
        clear hok HS HN hc HC HK hfk
        generalize eat l k = yk at *
        obtain ⟨ea, ep, ez⟩ := yk
        dsimp only at *
        go_wp2_with fail
        refine (V.out _).mono ?_; rintro e w1 ⟨rfl, b1⟩
        have hb2 := bnext hb b1
        go_wp2
        go_ret
        exact ⟨ret_bool (by rw [HE.out]), hb2⟩
    · obtain rfl : k = l.length := by omega
      have HE : Hid (decide (RowOk lf l) = true) := Lib.hid (decide_eq_true HK.out)
      go_wp2
      go_ret
      exact ⟨ret_bool (by rw [HE.out]), hb⟩
end Go.Proofs.Ytgcbfiecgiijkaa
