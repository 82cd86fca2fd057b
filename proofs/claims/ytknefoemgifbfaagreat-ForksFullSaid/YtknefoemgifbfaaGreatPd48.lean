import Derived.Test.YtknefoemgifbfaaGreatPd47
import Derived.Shelf.Abstract
set_option linter.unusedVariables false
set_option linter.unusedSimpArgs false
set_option linter.constructorNameAsVariable false
set_option maxRecDepth 100000
set_option maxHeartbeats 16000000
namespace Go.Proofs.YtknefoemgifbfaaGreat
open Go.RowKit
theorem chooses_unlike : Chooser unlikeA 107 where
 ok := fun ns l => span_unlike ns l
 ent := enters_of Tryz.func107 (by kernel_rfl) rfl
 call := fun ns l v u W h1 h2 hv hu => unlike_any ns l (by omega) (by omega) v u W hv hu
theorem chooses_all : Chooser spanAll 108 where
 ok := fun ns l => span_all ns l
 ent := enters_of Tryz.func108 (by kernel_rfl) rfl
 call := fun ns l v u W h1 h2 hv hu => all_any ns l v u W hv hu
theorem fkgrow_any (C : Nat) (old : Shp) (hold : WellS old) (hS : SmallS old) (hrw : ∀ r, (rowA old r).length ≤ 50000) (L : List Ent) (hL : L.length ≤ 50000) (vo vl : Value) (w : World) (ho : ShapeT (frC C) vo old w) (hl : EntsIn vl L w) :
 Calls Tryz.prog 73 #[vo, vl] w fun e w' => ∃ u, e = .returned u ∧ ShapeT (frC C) u (growA old L) w' ∧ Below w.heap.size w w' := by
 have HO := Lib.hid ho;have HLI := Lib.hid (fklist_any old hS hold.pos vo w ho.in);have HLV := Lib.hid hl
 have HSU : Hid (∀ W, Below w.heap.size w W → Calls Tryz.prog 106 #[vo, vl, .func (.func 107) #[] #[]] W fun e w' => ∃ u, e = .returned u ∧ ShapeT (frC C) u (stackA old L unlikeA) w' ∧ Below W.heap.size W w') := Lib.hid fun W hb =>
  fkstack_any C old hold hS hrw L hL unlikeA _ chooses_unlike vo vl W (ShapeT.keep ho (Turns.of_below hb)) (hl.kept hb)
 have HSA : Hid (∀ W, Below w.heap.size w W → Calls Tryz.prog 106 #[vo, vl, .func (.func 108) #[] #[]] W fun e w' => ∃ u, e = .returned u ∧ ShapeT (frC C) u (stackA old L spanAll) w' ∧ Below W.heap.size W w') := Lib.hid fun W hb =>
  fkstack_any C old hold hS hrw L hL spanAll _ chooses_all vo vl W (ShapeT.keep ho (Turns.of_below hb)) (hl.kept hb)
 obtain ⟨oa, oc, rfl, -⟩ := StRows.cells ho;obtain ⟨la, lc, rfl, -⟩ := entsIn_cells hl;have HG : Hid (growA old L = if L = listA old then old else if 4 < (stackA old L unlikeA).length - 1 then stackA old L spanAll else stackA old L unlikeA) := Lib.hid rfl;clear ho hl hold hS hrw;generalize old.length = on at *;generalize L.length = ln at *
 go_enter Tryz.func73, Tryz.ntmps73
 go_wp2_with fail
 refine HLI.out.mono ?_; rintro e w2 ⟨uh, rfl, hh, b2⟩;have HEQ := Lib.hid (eqExt_any L (listA old) _ _ w2 (HLV.out.kept b2) (rowE_in hh));have HB2 := Lib.hid b2;clear hh b2 HLI;go_wp2_with fail
 refine HEQ.out.mono ?_; rintro e w3 ⟨rfl, b3⟩;have HB3 := Lib.hid (HB2.out.trans (b3.mono HB2.out.size));clear b3 HB2 HEQ;by_cases hle : L = listA old
 ·have d1 : decide (L = listA old) = true := decide_eq_true hle
  have HR : Hid (growA old L = old) := Lib.hid (by rw [HG.out, if_pos hle]);clear hle;go_wp2;go_ret;exact ⟨_, rfl, by rw [HR.out]; exact ShapeT.keep HO.out (Turns.of_below HB3.out), HB3.out⟩
 ·have d1 : decide (L = listA old) = false := decide_eq_false hle
  have HR : Hid (growA old L = if 4 < (stackA old L unlikeA).length - 1 then stackA old L spanAll else stackA old L unlikeA) := Lib.hid (by rw [HG.out, if_neg hle]);clear hle HG;go_wp2_with fail
  refine (HSU.out w3 HB3.out).mono ?_; rintro e w4 ⟨u4, rfl, h4, b4⟩;have HB4 := Lib.hid (HB3.out.trans (b4.mono HB3.out.size));have HS4 := Lib.hid h4;obtain ⟨ua, uc, rfl, hu1, hu2, -⟩ := StRows.cells h4;clear h4 b4 HB3 HSU;obtain ⟨n4, hn4⟩ : ∃ n, (stackA old L unlikeA).length = n := ⟨_, rfl⟩;rw [hn4] at hu1 ⊢;have hn9 : n4 ≤ 9223372036854775807 := Nat.le_trans hu1 hu2;have HN4 := Lib.hid hn4;clear hn4;by_cases h5 : 4 < n4 - 1
  ·have d2 : decide ((n4 : Int) - 1 > 4) = true := decide_eq_true (by omega)
   have d3 : decide (4 < (n4 : Int) - 1) = true := decide_eq_true (by omega);have HR2 : Hid (growA old L = stackA old L spanAll) := Lib.hid (by rw [HR.out, if_pos (by rw [HN4.out]; exact h5)]);go_wp2_with fail
   refine (HSA.out w4 HB4.out).mono ?_; rintro e w5 ⟨u5, rfl, h5, b5⟩;have HB5 := Lib.hid (HB4.out.trans (b5.mono HB4.out.size));have HS5 := Lib.hid h5;clear h5 b5;go_wp2;go_ret;exact ⟨_, rfl, by rw [HR2.out]; exact HS5.out, HB5.out⟩
  ·have d2 : decide ((n4 : Int) - 1 > 4) = false := decide_eq_false (by omega)
   have d3 : decide (4 < (n4 : Int) - 1) = false := decide_eq_false (by omega);have HR2 : Hid (growA old L = stackA old L unlikeA) := Lib.hid (by rw [HR.out, if_neg (by rw [HN4.out]; exact h5)]);go_wp2;go_ret;exact ⟨_, rfl, by rw [HR2.out]; rw [← HN4.out]; exact HS4.out, HB4.out⟩
end Go.Proofs.YtknefoemgifbfaaGreat
