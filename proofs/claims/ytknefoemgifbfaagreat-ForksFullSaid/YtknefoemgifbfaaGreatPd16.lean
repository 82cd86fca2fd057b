import Derived.Test.YtknefoemgifbfaaGreatPd11
import Derived.Test.YtknefoemgifbfaaGreatPd14
set_option linter.unusedVariables false
set_option linter.unusedSimpArgs false
set_option linter.constructorNameAsVariable false
set_option maxRecDepth 100000
set_option maxHeartbeats 16000000
namespace Go.Proofs.YtknefoemgifbfaaGreat
open Go.RowKit
abbrev ExtsAt (B : Nat) (v : Value) (l : List Ent) (w : World) : Prop := w.ownsRow B 53 3 v l.length (cellsE l)
theorem ext_info : (Tryz.prog.info? 53).map (fun i => (i.zero, i.size, i.bytes)) = some (some (.agg #[.int .i64 0, .int .i64 0, .int .i64 0]), 3, 24) := by kernel_rfl
theorem xvalid_any (y : Ent) (hz : I64 y.len) (w : World) :
 Calls Tryz.prog 88 #[entV y] w fun e w' => e = .returned (.bool (decide (EntOk true y))) ∧ Below w.heap.size w w' := by
 have hb := balloc1 w (.cells (entC y) 53);obtain ⟨hz1, hz2⟩ := hz;by_cases g1 : 1 ≤ y.len
 ·have d1 : decide (1 ≤ y.len) = true := decide_eq_true g1
  have m1 : 1 ≤ y.len := g1;by_cases g2 : 0 ≤ y.log
  ·have d2 : decide (0 ≤ y.log) = true := decide_eq_true g2
   by_cases g3 : y.log ≤ 2048 - y.len
   ·have d3 : decide (y.log ≤ 2048 - y.len) = true := decide_eq_true g3
    by_cases g4 : 1 ≤ y.phys
    ·have d4 : decide (1 ≤ y.phys) = true := decide_eq_true g4
     by_cases g5 : y.phys ≤ 4096 - y.len
     ·have d5 : decide (y.phys ≤ 4096 - y.len) = true := decide_eq_true g5
      have HR : Hid (decide (EntOk true y) = true) := Lib.hid (decide_eq_true ((entOk_leaf y).2 ⟨by omega, ⟨by omega, by omega⟩, by omega, by omega⟩));rw [HR.out];obtain ⟨ya, yp, yz⟩ := y;dsimp only at *;clear HR g1 g2 g3 g4 g5
      go_enter Tryz.func88, Tryz.ntmps88
      go_wp2;go_ret;exact ⟨rfl, hb⟩
     ·have d5 : decide (y.phys ≤ 4096 - y.len) = false := decide_eq_false g5
      have HR : Hid (decide (EntOk true y) = false) := Lib.hid (decide_eq_false fun h => by have k := (entOk_leaf y).1 h; unfold Lies at k; omega);rw [HR.out];obtain ⟨ya, yp, yz⟩ := y;dsimp only at *;clear HR g1 g2 g3 g4 g5
      go_enter Tryz.func88, Tryz.ntmps88
      go_wp2;go_ret;exact ⟨rfl, hb⟩
    ·have d4 : decide (1 ≤ y.phys) = false := decide_eq_false g4
     have HR : Hid (decide (EntOk true y) = false) := Lib.hid (decide_eq_false fun h => by have k := (entOk_leaf y).1 h; unfold Lies at k; omega);rw [HR.out];obtain ⟨ya, yp, yz⟩ := y;dsimp only at *;clear HR g1 g2 g3 g4
     go_enter Tryz.func88, Tryz.ntmps88
     go_wp2;go_ret;exact ⟨rfl, hb⟩
   ·have d3 : decide (y.log ≤ 2048 - y.len) = false := decide_eq_false g3
    have HR : Hid (decide (EntOk true y) = false) := Lib.hid (decide_eq_false fun h => by have k := (entOk_leaf y).1 h; unfold Lies at k; omega);rw [HR.out];obtain ⟨ya, yp, yz⟩ := y;dsimp only at *;clear HR g1 g2 g3
    go_enter Tryz.func88, Tryz.ntmps88
    go_wp2;go_ret;exact ⟨rfl, hb⟩
  ·have d2 : decide (0 ≤ y.log) = false := decide_eq_false g2
   have HR : Hid (decide (EntOk true y) = false) := Lib.hid (decide_eq_false fun h => by have k := (entOk_leaf y).1 h; unfold Lies at k; omega);rw [HR.out];obtain ⟨ya, yp, yz⟩ := y;dsimp only at *;clear HR g1 g2
   go_enter Tryz.func88, Tryz.ntmps88
   go_wp2;go_ret;exact ⟨rfl, hb⟩
 ·have d1 : decide (1 ≤ y.len) = false := decide_eq_false g1
  have HR : Hid (decide (EntOk true y) = false) := Lib.hid (decide_eq_false fun h => by have k := (entOk_leaf y).1 h; unfold Lies at k; omega);rw [HR.out];obtain ⟨ya, yp, yz⟩ := y;dsimp only at *;clear HR g1
  go_enter Tryz.func88, Tryz.ntmps88
  go_wp2;go_ret;exact ⟨rfl, hb⟩
theorem xend_any (y : Ent) (h : I64 (y.log + y.len)) (w : World) :
 Calls Tryz.prog 78 #[entV y] w fun e w' => e = .returned (.int .i64 (y.log + y.len)) ∧ Below w.heap.size w w' := by
 have hb := balloc1 w (.cells (entC y) 53);obtain ⟨h1, h2⟩ := h;obtain ⟨ya, yp, yz⟩ := y;dsimp only at *
 go_enter Tryz.func78, Tryz.ntmps78
 go_wp2;go_ret;exact ⟨rfl, hb⟩
theorem xpart_any (y : Ent) (a b : Int) (h1 : y.log ≤ a) (h2 : a ≤ b) (h3 : b ≤ y.log + y.len) (hok : EntOk true y) (w : World) :
 Calls Tryz.prog 79 #[entV y, .int .i64 a, .int .i64 b] w fun e w' => e = .returned (entV ⟨a, y.phys + a - y.log, b - a⟩) ∧ Below w.heap.size w w' := by
 have hk := (entT y).1 hok;have hb := balloc (balloc1 w (.cells (entC y) 53)) (.cells #[.int .i64 a, .int .i64 (y.phys + a - y.log), .int .i64 (b - a)] 53);clear hok;obtain ⟨ya, yp, yz⟩ := y;dsimp only at *
 go_enter Tryz.func79, Tryz.ntmps79
 go_wp2
 (try simp only [Exit.inBlock, Exit.then])
 refine bodyPost_ret (v := .agg #[.int .i64 a, .int .i64 (yp + a - ya), .int .i64 (b - a)]) ?_ rfl ⟨rfl, ?_⟩
 ·rw [results_one_cell rfl]
  go_simp
 ·exact hb
open Go.RowKit
def fiveN (n : Nat) : List Ent := (List.range n).map fun (i : Nat) => (⟨2 * (i : Int), 10 + 2 * (i : Int), 1⟩ : Ent)
theorem fiveN_succ (n : Nat) : fiveN (n + 1) = fiveN n ++ [⟨2 * (n : Int), 10 + 2 * (n : Int), 1⟩] := by unfold fiveN; rw [List.range_succ, List.map_append]; rfl
theorem fiveN_len (n : Nat) : (fiveN n).length = n := by unfold fiveN; simp
theorem lfive_any (w : World) : Calls Tryz.prog 43 #[] w fun e w' => ∃ v, e = .returned v ∧ ExtsAt w.heap.size v (fiveN 5) w' ∧ Below w.heap.size w w' := by
 have mixed : Tryz.prog.follows .mixedOrders = true := by kernel_rfl
 go_enter Tryz.func43, Tryz.ntmps43
 go_wp2
 go_loopw [1, 2] (fun lv p wr => ∃ i : Nat, p = .int .i64 i ∧ i ≤ 5 ∧ ExtsAt w.heap.size lv (fiveN i) wr ∧ Below w.heap.size w wr) (fun _ p _ => 5 - (intOf p).toNat)
 case atStart => exact ⟨0, rfl, Nat.zero_le _, ⟨rfl, .inl ⟨rfl, rfl⟩⟩, Below.refl _ _⟩
 case round =>
  obtain ⟨i, rfl, hi, hr, hb⟩ := hrel;have hs := hb.size;by_cases hlt : i < 5
  ·have HR := Lib.hid hr
   have HB := Lib.hid hb;have hfl := fiveN_len i;obtain ⟨ad, cap, rfl, -, hcap, -⟩ := shape_of hr;have hcap : cap ≤ 9223372036854775807 := hcap;clear hr hb
   go_wp2_with (at_builtin; refine wpList_app3 rfl _ _ 42 53 rfl Tryz.underlying42 ext_info w.heap.size _ (fiveN i) ⟨2 * (i : Int), 10 + 2 * (i : Int), 1⟩ rfl (HR.out.alloc _) wr rfl wr.heap.size rfl rfl (by omega) (by rw [size_alloc]; omega) ?_)
   intro v' w' h1 h2;have hb' := (balloc HB.out (.cells (entC ⟨2 * (i : Int), 10 + 2 * (i : Int), 1⟩) 53)).trans (below_of_row (HR.out.alloc _) (by rw [hfl]; exact h2) (by rw [size_alloc]; omega));rw [← fiveN_succ] at h1;have H1 := Lib.hid h1;obtain ⟨ad', cap', rfl, -⟩ := shape_of h1;clear h1 h2 HR;go_wp2;exact ⟨⟨i + 1, by go_num, by omega, (show w'.ownsRow _ _ _ _ (fiveN (i + 1)).length _ by rw [fiveN_len]; exact H1.out), hb'⟩, by simp [intOf]; omega⟩
  ·obtain rfl : i = 5 := by omega
   have HR := Lib.hid hr;obtain ⟨ad, cap, rfl, -⟩ := shape_of hr;clear hr;go_wp2;go_ret;exact ⟨_, rfl, HR.out, hb⟩
theorem lfresh50_any (w : World) : Calls Tryz.prog 44 #[] w fun e w' => e = .returned (.tuple #[.int .i64 50, .int .i64 0]) ∧ w' = w := by
 go_enter Tryz.func44, Tryz.ntmps44
 go_wp2
 go_ret2
 exact ⟨rfl, rfl⟩
end Go.Proofs.YtknefoemgifbfaaGreat
