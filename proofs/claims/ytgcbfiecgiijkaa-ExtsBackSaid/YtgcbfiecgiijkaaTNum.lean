/- Exts in memory; valid, end, part. -/
import Derived.Test.YtgcbfiecgiijkaaEntM
import Derived.Test.YtgcbfiecgiijkaaTMath
namespace Go.Proofs.Ytgcbfiecgiijkaa
set_option linter.unusedVariables false
open Go.RowKit

/-- v holds the exts, in a row of the call's own, at B or behind -/
abbrev ExtsAt (B : Nat) (v : Value) (l : List Ent) (w : World) : Prop := w.ownsRow B 37 3 v l.length (cellsE l)
theorem ext_info : (Try.prog.info? 37).map (fun i => (i.zero, i.size, i.bytes)) = some (some (.agg #[.int .i64 0, .int .i64 0, .int .i64 0]), 3, 24) := by kernel_rfl
set_option maxRecDepth 100000 in
set_option maxHeartbeats 4000000 in
theorem xvalid_any (y : Ent) (hz : I64 y.len) (w : World) :
    Calls Try.prog 42 #[entV y] w fun e w' => e = .returned (.bool (decide (EntOk true y))) ∧ Below w.heap.size w w' := by
  have hb := balloc1 w (.cells (entC y) 37)
  obtain ⟨hz1, hz2⟩ := hz
  by_cases g1 : 1 ≤ y.len
  · have d1 : decide (1 ≤ y.len) = true := decide_eq_true g1
    have m1 : 1 ≤ y.len := g1
    by_cases g2 : 0 ≤ y.log
    · have d2 : decide (0 ≤ y.log) = true := decide_eq_true g2
      by_cases g3 : y.log ≤ 2048 - y.len
      · have d3 : decide (y.log ≤ 2048 - y.len) = true := decide_eq_true g3
        by_cases g4 : 1 ≤ y.phys
        · have d4 : decide (1 ≤ y.phys) = true := decide_eq_true g4
          by_cases g5 : y.phys ≤ 4096 - y.len
          · have d5 : decide (y.phys ≤ 4096 - y.len) = true := decide_eq_true g5
            have HR : Hid (decide (EntOk true y) = true) := Lib.hid (decide_eq_true ((entOk_leaf y).2 ⟨by omega, ⟨by omega, by omega⟩, by omega, by omega⟩))
            rw [HR.out]
            obtain ⟨ya, yp, yz⟩ := y
            dsimp only at *
            clear HR g1 g2 g3 g4 g5
            go_enter Try.func42, Try.ntmps42
            go_wp2
            go_ret
            exact ⟨rfl, hb⟩
          · have d5 : decide (y.phys ≤ 4096 - y.len) = false := decide_eq_false g5
            have HR : Hid (decide (EntOk true y) = false) := Lib.hid (decide_eq_false fun h => by have k := (entOk_leaf y).1 h; unfold Lies at k; omega)
            rw [HR.out]
            obtain ⟨ya, yp, yz⟩ := y
            dsimp only at *
            clear HR g1 g2 g3 g4 g5
            go_enter Try.func42, Try.ntmps42
            go_wp2
            go_ret
            exact ⟨rfl, hb⟩
        · have d4 : decide (1 ≤ y.phys) = false := decide_eq_false g4
          have HR : Hid (decide (EntOk true y) = false) := Lib.hid (decide_eq_false fun h => by have k := (entOk_leaf y).1 h; unfold Lies at k; omega)
          rw [HR.out]
          obtain ⟨ya, yp, yz⟩ := y
          dsimp only at *
          clear HR g1 g2 g3 g4
          go_enter Try.func42, Try.ntmps42
          go_wp2
          go_ret
          exact ⟨rfl, hb⟩
      · have d3 : decide (y.log ≤ 2048 - y.len) = false := decide_eq_false g3
        have HR : Hid (decide (EntOk true y) = false) := Lib.hid (decide_eq_false fun h => by have k := (entOk_leaf y).1 h; unfold Lies at k; omega)
        rw [HR.out]
        obtain ⟨ya, yp, yz⟩ := y
        dsimp only at *
        clear HR g1 g2 g3
        go_enter Try.func42, Try.ntmps42
        go_wp2
        go_ret
        exact ⟨rfl, hb⟩
    · have d2 : decide (0 ≤ y.log) = false := decide_eq_false g2
      have HR : Hid (decide (EntOk true y) = false) := Lib.hid (decide_eq_false fun h => by have k := (entOk_leaf y).1 h; unfold Lies at k; omega)
      rw [HR.out]
      obtain ⟨ya, yp, yz⟩ := y
      dsimp only at *
      clear HR g1 g2
      go_enter Try.func42, Try.ntmps42
      go_wp2
      go_ret
      exact ⟨rfl, hb⟩
  · have d1 : decide (1 ≤ y.len) = false := decide_eq_false g1
    have HR : Hid (decide (EntOk true y) = false) := Lib.hid (decide_eq_false fun h => by have k := (entOk_leaf y).1 h; unfold Lies at k; omega)
    rw [HR.out]
    obtain ⟨ya, yp, yz⟩ := y
    dsimp only at *
    clear HR g1
    go_enter Try.func42, Try.ntmps42
    go_wp2
    go_ret
    exact ⟨rfl, hb⟩
theorem xend_any (y : Ent) (h : I64 (y.log + y.len)) (w : World) :
    Calls Try.prog 38 #[entV y] w fun e w' => e = .returned (.int .i64 (y.log + y.len)) ∧ Below w.heap.size w w' := by
  have hb := balloc1 w (.cells (entC y) 37)
  obtain ⟨h1, h2⟩ := h
  obtain ⟨ya, yp, yz⟩ := y
  dsimp only at *
  go_enter Try.func38, Try.ntmps38
  go_wp2
  go_ret
  exact ⟨rfl, hb⟩
theorem xpart_any (y : Ent) (a b : Int) (h1 : y.log ≤ a) (h2 : a ≤ b) (h3 : b ≤ y.log + y.len) (hok : EntOk true y) (w : World) :
    Calls Try.prog 39 #[entV y, .int .i64 a, .int .i64 b] w fun e w' => e = .returned (entV ⟨a, y.phys + a - y.log, b - a⟩) ∧ Below w.heap.size w w' := by
  have hk := (entT y).1 hok
  have hb := balloc (balloc1 w (.cells (entC y) 37)) (.cells #[.int .i64 a, .int .i64 (y.phys + a - y.log), .int .i64 (b - a)] 37)
  clear hok
  obtain ⟨ya, yp, yz⟩ := y
  dsimp only at *
  go_enter Try.func39, Try.ntmps39
  go_wp2
  (try simp only [Exit.inBlock, Exit.then])
  refine bodyPost_ret (v := .agg #[.int .i64 a, .int .i64 (yp + a - ya), .int .i64 (b - a)]) ?_ rfl ⟨rfl, ?_⟩
  · rw [results_one_cell rfl]
    go_simp
  · exact hb
end Go.Proofs.Ytgcbfiecgiijkaa
