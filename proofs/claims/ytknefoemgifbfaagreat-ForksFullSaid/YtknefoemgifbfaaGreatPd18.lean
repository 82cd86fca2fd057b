import Derived.Test.YtknefoemgifbfaaGreatPd12
import Derived.Test.YtknefoemgifbfaaGreatPd11
set_option linter.unusedVariables false
set_option linter.unusedSimpArgs false
set_option linter.constructorNameAsVariable false
set_option maxRecDepth 100000
set_option maxHeartbeats 16000000
namespace Go.Proofs.YtknefoemgifbfaaGreat
open Go.RowKit
theorem iwithin_any (n a b : Int) (w : World) :
 Calls Tryz.prog 135 #[.int .i64 n, .int .i64 a, .int .i64 b] w fun e w' => e = .returned (.bool (decide (a ≤ n ∧ n ≤ b))) ∧ w = w' := by
 by_cases h1 : a ≤ n
 ·by_cases h2 : n ≤ b
  ·go_enter Tryz.func135, Tryz.ntmps135
   go_wp2;go_ret;exact ⟨ret_bool (by simp; omega), rfl⟩
  ·have h2 : b < n := by omega
   go_enter Tryz.func135, Tryz.ntmps135
   go_wp2;go_ret;exact ⟨ret_bool (by simp; omega), rfl⟩
 ·have h2 : n < a := by omega
  go_enter Tryz.func135, Tryz.ntmps135
  go_wp2;go_ret;exact ⟨ret_bool (by simp; omega), rfl⟩
theorem iwithin_yes (n a b : Int) (h : a ≤ n ∧ n ≤ b) (w : World) :
 Calls Tryz.prog 135 #[.int .i64 n, .int .i64 a, .int .i64 b] w fun e w' => e = .returned (.bool true) ∧ w = w' := by
 have := iwithin_any n a b w; rw [decide_eq_true h] at this; exact this
theorem iwithin_no (n a b : Int) (h : ¬ (a ≤ n ∧ n ≤ b)) (w : World) :
 Calls Tryz.prog 135 #[.int .i64 n, .int .i64 a, .int .i64 b] w fun e w' => e = .returned (.bool false) ∧ w = w' := by
 have := iwithin_any n a b w; rw [decide_eq_false h] at this; exact this
theorem lies_any (y : Ent) (n : Int) (h1 : 1 ≤ n) (h2 : n ≤ 9223372036854775807) (w : World) :
 Calls Tryz.prog 185 #[entV y, .int .i64 n] w fun e w' => e = .returned (.bool (decide (Lies y n))) ∧ Below w.heap.size w w' := by
 have hb := balloc1 w (.cells (entC y) 31);by_cases hl : 0 ≤ y.log ∧ y.log ≤ 2048 - n
 ·have W1 := Lib.hid (iwithin_yes _ _ _ hl)
  by_cases hp : 1 ≤ y.phys ∧ y.phys ≤ 4096 - n
  ·have W2 := Lib.hid (iwithin_yes _ _ _ hp)
   have HR : Hid (decide (Lies y n) = true) := Lib.hid (decide_eq_true ⟨hl, hp⟩);rw [HR.out];clear HR hl hp;obtain ⟨a, p, z⟩ := y;dsimp only at *
   go_enter Tryz.func185, Tryz.ntmps185
   go_wp2_with fail
   refine (W1.out _).mono ?_; rintro e w1 ⟨rfl, rfl⟩;go_wp2_with fail
   refine (W2.out _).mono ?_; rintro e w1 ⟨rfl, rfl⟩;go_wp2;go_ret;exact ⟨rfl, hb⟩
  ·have W2 := Lib.hid (iwithin_no _ _ _ hp)
   have HR : Hid (decide (Lies y n) = false) := Lib.hid (decide_eq_false fun k => hp k.2);rw [HR.out];clear HR hl hp;obtain ⟨a, p, z⟩ := y;dsimp only at *
   go_enter Tryz.func185, Tryz.ntmps185
   go_wp2_with fail
   refine (W1.out _).mono ?_; rintro e w1 ⟨rfl, rfl⟩;go_wp2_with fail
   refine (W2.out _).mono ?_; rintro e w1 ⟨rfl, rfl⟩;go_wp2;go_ret;exact ⟨rfl, hb⟩
 ·have W1 := Lib.hid (iwithin_no _ _ _ hl)
  have HR : Hid (decide (Lies y n) = false) := Lib.hid (decide_eq_false fun k => hl k.1);rw [HR.out];clear HR hl;obtain ⟨a, p, z⟩ := y;dsimp only at *
  go_enter Tryz.func185, Tryz.ntmps185
  go_wp2_with fail
  refine (W1.out _).mono ?_; rintro e w1 ⟨rfl, rfl⟩;go_wp2;go_ret;exact ⟨rfl, hb⟩
theorem ivalid_any (y : Ent) (hz : I64 y.len) (leaf : Bool) (w : World) :
 Calls Tryz.prog 158 #[entV y, .bool leaf] w fun e w' => e = .returned (.bool (decide (EntOk leaf y))) ∧ Below w.heap.size w w' := by
 have hb := balloc1 w (.cells (entC y) 31)
 cases leaf with
 | true =>
   by_cases h1 : 1 ≤ y.len
   ·have L := Lib.hid (lies_any y y.len h1 hz.2)
    have HR : Hid (decide (EntOk true y) = decide (Lies y y.len)) := Lib.hid (by rw [decide_eq_decide, entOk_leaf]; simp [h1]);rw [HR.out];generalize decide (Lies y y.len) = b at *;clear HR hz;obtain ⟨a, p, z⟩ := y;dsimp only at *
    go_enter Tryz.func158, Tryz.ntmps158
    go_wp2_with fail
    refine (L.out _).mono ?_; rintro e w1 ⟨rfl, b1⟩;go_wp2;go_ret;exact ⟨rfl, bnext hb b1⟩
   ·have HR : Hid (decide (EntOk true y) = false) := Lib.hid (decide_eq_false fun k => h1 ((entOk_leaf y).1 k).1)
    rw [HR.out]
    have h2 : y.len < 1 := by omega
    clear HR hz h1;obtain ⟨a, p, z⟩ := y;dsimp only at *
    go_enter Tryz.func158, Tryz.ntmps158
    go_wp2;go_ret;exact ⟨rfl, hb⟩
 | false =>
   by_cases h1 : y.len = 0
   ·have L := Lib.hid (lies_any y 1 (by omega) (by omega))
    have HR : Hid (decide (EntOk false y) = decide (Lies y 1)) := Lib.hid (by rw [decide_eq_decide, entOk_node]; simp [h1]);rw [HR.out];generalize decide (Lies y 1) = b at *
    have e1 : (y.len == 0) = true := by rw [beq_iff_eq]; exact h1
    clear HR hz h1;obtain ⟨a, p, z⟩ := y;dsimp only at *
    go_enter Tryz.func158, Tryz.ntmps158
    go_wp2_with fail
    refine (L.out _).mono ?_; rintro e w1 ⟨rfl, b1⟩;go_wp2;go_ret;exact ⟨rfl, bnext hb b1⟩
   ·have HR : Hid (decide (EntOk false y) = false) := Lib.hid (decide_eq_false fun k => h1 ((entOk_node y).1 k).1)
    rw [HR.out]
    have e1 : (y.len == 0) = false := by rw [beq_eq_false_iff_ne]; exact h1
    clear HR hz h1;obtain ⟨a, p, z⟩ := y;dsimp only at *
    go_enter Tryz.func158, Tryz.ntmps158
    go_wp2;go_ret;exact ⟨rfl, hb⟩
theorem follows_any (p y : Ent) (hz : 0 ≤ p.log + p.len ∧ p.log + p.len ≤ 10000) (w : World) :
 Calls Tryz.prog 159 #[entV p, entV y] w fun e w' => e = .returned (.bool (decide (After p y))) ∧ Below w.heap.size w w' := by
 have hb := balloc (balloc1 w (.cells (entC p) 31)) (.cells (entC y) 31);unfold After;obtain ⟨a, b, c⟩ := p;obtain ⟨a', b', c'⟩ := y;dsimp only at *;by_cases h1 : a < a'
 ·by_cases h2 : a + c ≤ a'
  ·have HR : Hid (decide (a < a' ∧ a + c ≤ a') = true) := Lib.hid (decide_eq_true ⟨h1, h2⟩)
   rw [HR.out];have h3 : decide (a + c ≤ a') = true := decide_eq_true h2;clear HR h2
   go_enter Tryz.func159, Tryz.ntmps159
   go_wp2;go_ret;exact ⟨rfl, hb⟩
  ·have HR : Hid (decide (a < a' ∧ a + c ≤ a') = false) := Lib.hid (decide_eq_false fun k => h2 k.2)
   rw [HR.out];have h3 : decide (a + c ≤ a') = false := decide_eq_false h2;clear HR h2
   go_enter Tryz.func159, Tryz.ntmps159
   go_wp2;go_ret;exact ⟨rfl, hb⟩
 ·have HR : Hid (decide (a < a' ∧ a + c ≤ a') = false) := Lib.hid (decide_eq_false fun k => h1 k.1)
  rw [HR.out]
  have h3 : a' ≤ a := by omega
  clear HR h1
  go_enter Tryz.func159, Tryz.ntmps159
  go_wp2;go_ret;exact ⟨rfl, hb⟩
end Go.Proofs.YtknefoemgifbfaaGreat
