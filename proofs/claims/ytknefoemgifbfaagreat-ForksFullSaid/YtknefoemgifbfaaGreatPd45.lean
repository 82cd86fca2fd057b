import Derived.Test.YtknefoemgifbfaaGreatPd38
import Derived.Test.YtknefoemgifbfaaGreatPd28
set_option linter.unusedVariables false
set_option linter.unusedSimpArgs false
set_option linter.constructorNameAsVariable false
set_option maxRecDepth 100000
set_option maxHeartbeats 16000000
namespace Go.Proofs.YtknefoemgifbfaaGreat
open Go.RowKit
def fitB (l : List Ent) (a t : Int) : Bool := !decide (a < 0) && !decide (t < a) && !decide (t > 2048) && decide (RowOk true l) && (decide (l.length = 0) || (decide (a ≤ (eat l 0).log) && decide (endV l ≤ t)))
theorem fkfit_any (l : List Ent) (hf : fitE l) (hl : l.length ≤ 4000) (a t : Int) (v : Value) (w : World) (hv : EntsIn v l w) :
 Calls Tryz.prog 70 #[v, .int .i64 a, .int .i64 t] w fun e w' => e = .returned (.bool (fitB l a t)) ∧ Below w.heap.size w w' := by
 have HCK := Lib.hid (xcheck_any l hf v w hv);have HEL : Hid (∀ W, Below w.heap.size w W → Calls Tryz.prog 99 #[v] W fun e w' => e = .returned (.int .i64 (endV l)) ∧ Below W.heap.size W w') := Lib.hid fun W hb => xendl_any l hf hl v W (hv.kept hb);obtain ⟨ad, cap, rfl, c1, c2, c3, -⟩ := entsIn_cells hv;have H3 := Lib.hid c3;have HBW := Lib.hid (Below.refl w.heap.size w);obtain ⟨r, hr⟩ : ∃ r, fitB l a t = r := ⟨_, rfl⟩;have HB0 : Hid (r = (!decide (a < 0) && !decide (t < a) && !decide (t > 2048) && decide (RowOk true l) && (decide (l.length = 0) || (decide (a ≤ (eat l 0).log) && decide (endV l ≤ t))))) := Lib.hid (by rw [← hr]; rfl);rw [hr];clear hr hv c3;obtain ⟨ok, hok⟩ : ∃ x, decide (RowOk true l) = x := ⟨_, rfl⟩;rw [hok] at HB0 HCK;obtain ⟨n, hn⟩ : ∃ n, l.length = n := ⟨_, rfl⟩;rw [hn] at H3 HB0 HEL HCK c1 ⊢;obtain ⟨ev, hev⟩ : ∃ x, endV l = x := ⟨_, rfl⟩;rw [hev] at HB0 HEL;obtain ⟨lg, hlg⟩ : ∃ x, (eat l 0).log = x := ⟨_, rfl⟩;rw [hlg] at HB0;have HLG := Lib.hid hlg;clear hok hlg hev hn
 go_enter Tryz.func70, Tryz.ntmps70
 by_cases h1 : a < 0
 ·have d1 : decide (a < 0) = true := decide_eq_true h1
  have HB : Hid (r = false) := Lib.hid (by rw [HB0.out, d1]; simp);go_wp2;go_ret;exact ⟨ret_bool (by rw [HB.out]), HBW.out⟩
 have d1 : decide (a < 0) = false := decide_eq_false h1;by_cases h2 : t < a
 ·have d2 : decide (t < a) = true := decide_eq_true h2
  have HB : Hid (r = false) := Lib.hid (by rw [HB0.out, d2]; simp);go_wp2;go_ret;exact ⟨ret_bool (by rw [HB.out]), HBW.out⟩
 have d2 : decide (t < a) = false := decide_eq_false h2;by_cases h3 : t > 2048
 ·have d3 : decide (t > 2048) = true := decide_eq_true h3
  have d4 : decide (2048 < t) = true := decide_eq_true h3;have HB : Hid (r = false) := Lib.hid (by rw [HB0.out, d3]; simp);go_wp2;go_ret;exact ⟨ret_bool (by rw [HB.out]), HBW.out⟩
 have d3 : decide (t > 2048) = false := decide_eq_false h3;have d4 : decide (2048 < t) = false := decide_eq_false h3;go_wp2_with fail
 refine HCK.out.mono ?_; rintro e w2 ⟨rfl, b2⟩;have HBW := Lib.hid b2;have HEW := Lib.hid (HEL.out w2 b2)
 cases ok with
 | false =>
   have HB : Hid (r = false) := Lib.hid (by rw [HB0.out]; simp);clear b2;go_wp2;go_ret;exact ⟨ret_bool (by rw [HB.out]), HBW.out⟩
 | true =>
   by_cases h5 : n = 0
   ·subst h5
    have HB : Hid (r = true) := Lib.hid (by rw [HB0.out, d1, d2, d3]; simp);clear b2;go_wp2;go_ret;exact ⟨ret_bool (by rw [HB.out]), HBW.out⟩
   ·have d5 : ((n : Int) == 0) = false := by rw [beq_eq_false_iff_ne]; omega
    have d5n : decide (n = 0) = false := decide_eq_false h5;obtain ⟨g, o, rfl, -, h9⟩ := H3.out (by omega);have e1 := (h9 w2 b2 0 (by omega)).1;rw [HLG.out, Nat.zero_mul, Nat.add_zero] at e1
    have hn0 : 0 < n := by omega
    clear h9 b2 h5;by_cases h6 : a ≤ lg
    ·have d6 : decide (a ≤ lg) = true := decide_eq_true h6
     have d7 : decide (lg ≥ a) = true := decide_eq_true h6;go_wp2_with fail
     refine HEW.out.mono ?_; rintro e w3 ⟨rfl, b3⟩;have HB : Hid (r = decide (ev ≤ t)) := Lib.hid (by rw [HB0.out, d1, d2, d3, d5n, d6]; simp);have HBW := Lib.hid (bnext HBW.out b3);clear b3;go_wp2;go_ret;exact ⟨ret_bool (by rw [HB.out]), HBW.out⟩
    ·have d6 : decide (a ≤ lg) = false := decide_eq_false h6
     have d7 : decide (lg ≥ a) = false := decide_eq_false h6;have HB : Hid (r = false) := Lib.hid (by rw [HB0.out, d1, d2, d3, d5n, d6]; simp);go_wp2;go_ret;exact ⟨ret_bool (by rw [HB.out]), HBW.out⟩
end Go.Proofs.YtknefoemgifbfaaGreat
