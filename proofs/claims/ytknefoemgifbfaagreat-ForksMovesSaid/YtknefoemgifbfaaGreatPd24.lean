import Derived.Test.YtknefoemgifbfaaGreatPd03
import Derived.Test.YtknefoemgifbfaaGreatPd23
set_option linter.unusedVariables false
set_option linter.unusedSimpArgs false
set_option linter.constructorNameAsVariable false
set_option maxRecDepth 100000
set_option maxHeartbeats 16000000
namespace Go.Proofs.YtknefoemgifbfaaGreat
open Go.RowKit
theorem rooted_iff (depth : Int) (l : List Ent) : RootedA depth l ↔ (0 ≤ depth ∧ depth ≤ 4) ∧ l.length ≤ 4 ∧ RowOk (decide (depth = 0)) l ∧ (depth = 0 ∨ 0 < l.length) := by
 unfold RootedA;rw [ok_kindN (by show (1 : Int) ≠ 0; decide)];unfold Full;exact ⟨fun h => ⟨h.2.2.2.1, h.2.2.2.2.1, h.2.2.2.2.2.1, h.2.2.2.2.2.2⟩, fun h => ⟨.inl rfl, ⟨(by decide : (0 : Int) ≤ 0), (by decide : (0 : Int) ≤ 100)⟩, ⟨(by decide : (0 : Int) ≤ 0), (by decide : (0 : Int) ≤ 262144)⟩, h.1, h.2.1, h.2.2.1, h.2.2.2⟩⟩
theorem rfroot_any (depth : Int) (l : List Ent) (hf : fitE l) (v : Value) (w : World) (hv : EntsIn v l w) :
 Calls Tryz.prog 50 #[.int .i64 depth, v] w fun e w' => e = .returned (.bool (decide (RootedA depth l))) ∧ Below w.heap.size w w' := by
 obtain ⟨ad, cap, rfl, c1, c2, -, -⟩ := entsIn_cells hv;have RR := Lib.hid (rrow_any (decide (depth = 0)) l hf _ w hv);rw [show decide (RootedA depth l) = decide ((0 ≤ depth ∧ depth ≤ 4) ∧ l.length ≤ 4 ∧ RowOk (decide (depth = 0)) l ∧ (depth = 0 ∨ 0 < l.length)) from decide_eq_decide.2 (rooted_iff depth l)];clear hv;by_cases h1 : 0 ≤ depth
 ·have d1 : decide (0 ≤ depth) = true := decide_eq_true h1
  by_cases h2 : depth ≤ 4
  ·have d2 : decide (depth ≤ 4) = true := decide_eq_true h2
   by_cases h3 : l.length ≤ 4
   ·have d3 : decide ((l.length : Int) ≤ 4) = true := decide_eq_true (by omega)
    have d3' : decide (l.length ≤ 4) = true := decide_eq_true h3;by_cases h4 : depth = 0
    ·subst h4
     have HE : Hid (decide ((((0 : Int) ≤ 0) ∧ (0 : Int) ≤ 4) ∧ l.length ≤ 4 ∧ RowOk (decide ((0 : Int) = 0)) l ∧ ((0 : Int) = 0 ∨ 0 < l.length)) = decide (RowOk (decide ((0 : Int) = 0)) l)) := Lib.hid (decide_eq_decide.2 ⟨fun h => h.2.2.1, fun h => ⟨⟨h1, h2⟩, h3, h, .inl rfl⟩⟩);rw [HE.out];have hdt : decide ((0 : Int) = 0) = true := rfl;rw [hdt] at RR ⊢;clear h1 h2 d1 d2 HE hdt
     go_enter Tryz.func50, Tryz.ntmps50
     go_wp2_with fail
     refine RR.out.mono ?_; rintro e w1 ⟨rfl, b1⟩;go_wp2;go_ret;exact ⟨rfl, b1⟩
    ·have d4 : (depth == 0) = false := by rw [beq_eq_false_iff_ne]; exact h4
     have hdf : decide (depth = 0) = false := decide_eq_false h4;rw [hdf] at RR ⊢;by_cases h5 : 0 < l.length
     ·have d5 : decide ((0 : Int) < (l.length : Int)) = true := decide_eq_true (by omega)
      have d5' : decide (0 < l.length) = true := decide_eq_true h5;have HE : Hid (decide ((0 ≤ depth ∧ depth ≤ 4) ∧ l.length ≤ 4 ∧ RowOk false l ∧ (depth = 0 ∨ 0 < l.length)) = decide (RowOk false l)) := Lib.hid (decide_eq_decide.2 ⟨fun h => h.2.2.1, fun h => ⟨⟨h1, h2⟩, h3, h, .inr h5⟩⟩);rw [HE.out];clear hdf HE
      go_enter Tryz.func50, Tryz.ntmps50
      go_wp2_with fail
      refine RR.out.mono ?_; rintro e w1 ⟨rfl, b1⟩;go_wp2;go_ret;exact ⟨rfl, b1⟩
     ·have d5 : decide ((0 : Int) < (l.length : Int)) = false := decide_eq_false (by omega)
      have d5' : decide (0 < l.length) = false := decide_eq_false h5;have HE : Hid (decide ((0 ≤ depth ∧ depth ≤ 4) ∧ l.length ≤ 4 ∧ RowOk false l ∧ (depth = 0 ∨ 0 < l.length)) = false) := Lib.hid (decide_eq_false fun h => h.2.2.2.elim h4 h5);rw [HE.out];clear hdf HE RR
      go_enter Tryz.func50, Tryz.ntmps50
      go_wp2;go_ret;exact ⟨rfl, Below.refl _ _⟩
   ·have d3 : decide ((l.length : Int) ≤ 4) = false := decide_eq_false (by omega)
    have d3' : decide (l.length ≤ 4) = false := decide_eq_false h3;have HE : Hid (decide ((0 ≤ depth ∧ depth ≤ 4) ∧ l.length ≤ 4 ∧ RowOk (decide (depth = 0)) l ∧ (depth = 0 ∨ 0 < l.length)) = false) := Lib.hid (decide_eq_false fun h => h3 h.2.1);rw [HE.out];clear HE RR
    go_enter Tryz.func50, Tryz.ntmps50
    go_wp2;go_ret;exact ⟨rfl, Below.refl _ _⟩
  ·have d2 : decide (depth ≤ 4) = false := decide_eq_false h2
   have HE : Hid (decide ((0 ≤ depth ∧ depth ≤ 4) ∧ l.length ≤ 4 ∧ RowOk (decide (depth = 0)) l ∧ (depth = 0 ∨ 0 < l.length)) = false) := Lib.hid (decide_eq_false fun h => h2 h.1.2);rw [HE.out];clear HE RR
   go_enter Tryz.func50, Tryz.ntmps50
   go_wp2;go_ret;exact ⟨rfl, Below.refl _ _⟩
 ·have d1 : decide (0 ≤ depth) = false := decide_eq_false h1
  have HE : Hid (decide ((0 ≤ depth ∧ depth ≤ 4) ∧ l.length ≤ 4 ∧ RowOk (decide (depth = 0)) l ∧ (depth = 0 ∨ 0 < l.length)) = false) := Lib.hid (decide_eq_false fun h => h1 h.1.1);rw [HE.out];clear HE RR
  go_enter Tryz.func50, Tryz.ntmps50
  go_wp2;go_ret;exact ⟨rfl, Below.refl _ _⟩
def takenA (l : List Ent) (b : Int) : Bool := l.any fun e => decide (e.phys ≤ b ∧ b < e.phys + e.len)
theorem hit_taken (l : List Ent) (bl : List Int) : hitA l bl = bl.any (takenA l) := rfl
theorem taken_no {l : List Ent} {b : Int} (h : ∀ k, k < l.length → ¬ ((eat l k).phys ≤ b ∧ b < (eat l k).phys + (eat l k).len)) : takenA l b = false := by
 unfold takenA;rw [List.any_eq_false];intro e he;obtain ⟨k, hk, rfl⟩ := List.mem_iff_getElem.1 he;have := h k hk;rw [eat_eq hk] at this
 simpa using this
theorem taken_yes {l : List Ent} {b : Int} {k : Nat} (hk : k < l.length) (h : (eat l k).phys ≤ b ∧ b < (eat l k).phys + (eat l k).len) : takenA l b = true := by
 unfold takenA;rw [List.any_eq_true];rw [eat_eq hk] at h;exact ⟨_, List.getElem_mem hk, decide_eq_true h⟩
theorem rftaken_any (l : List Ent) (hr : RowOk true l) (b : Int) (v : Value) (w : World) (hv : EntsIn v l w) :
 Calls Tryz.prog 54 #[v, .int .i64 b] w fun e w' => e = .returned (.bool (takenA l b)) ∧ Below w.heap.size w w' := by
 have mixed : Tryz.prog.follows .mixedOrders = true := by kernel_rfl
 obtain ⟨ad, cap, rfl, c1, c2, c3, -⟩ := entsIn_cells hv;have H3 := Lib.hid c3;have HY := Lib.hid fun k hk h => taken_yes (l := l) (b := b) (k := k) hk h;have HN := Lib.hid fun h => taken_no (l := l) (b := b) h
 have HS : Hid (∀ k, k < l.length → 0 ≤ (eat l k).phys ∧ 0 ≤ (eat l k).len ∧ (eat l k).phys + (eat l k).len ≤ 100000) := Lib.hid fun k hk => by
  have h := (entOk_leaf _).1 (hr k hk).1;unfold Lies at h;omega
 generalize takenA l b = T at *;clear c3 hv hr
 go_enter Tryz.func54, Tryz.ntmps54
 go_wp2
 go_loopw [5] (fun p wr => ∃ k : Nat, p = .int .i64 k ∧ k ≤ l.length ∧ Hid (∀ j, j < k → ¬ ((eat l j).phys ≤ b ∧ b < (eat l j).phys + (eat l j).len)) ∧ Below w.heap.size w wr) (fun p _ => l.length - (intOf p).toNat)
 case atStart => exact ⟨0, rfl, Nat.zero_le _, Lib.hid fun j hj => by omega, Below.refl _ _⟩
 case round =>
  obtain ⟨k, rfl, hk, HK, hb⟩ := hrel;by_cases hlt : k < l.length
  ·obtain ⟨g, o, rfl, hg, hc⟩ := H3.out (by omega)
   have k1 := fun p : BelowP wr => (hc p.to (hb.trans (p.h.mono hb.size)) k hlt).2.1;have k2 := fun p : BelowP wr => (hc p.to (hb.trans (p.h.mono hb.size)) k hlt).2.2;have hs := HS.out k hlt;have HYK := Lib.hid (HY.out k hlt)
   have HKK : Hid (¬ ((eat l k).phys ≤ b ∧ b < (eat l k).phys + (eat l k).len) → ∀ j, j < k + 1 → ¬ ((eat l j).phys ≤ b ∧ b < (eat l j).phys + (eat l j).len)) := Lib.hid fun h j hj => by
    by_cases e : j = k
    ·subst e; exact h
    ·exact HK.out j (by omega)
   clear hc HY HS H3;generalize eat l k = yk at *;obtain ⟨ea, ep, ez⟩ := yk;dsimp only at *;have hw1 : IntKind.i64.wrap (ep + ez) = ep + ez := IntWalk.i64_in _ (by omega);by_cases t1 : ep ≤ b
   ·have d1 : decide (ep ≤ b) = true := decide_eq_true t1
    by_cases t2 : b < ep + ez
    ·have d2 : decide (b < ep + ez) = true := decide_eq_true t2
     have HE := Lib.hid (HYK.out ⟨t1, t2⟩);clear HYK HKK HK HN;go_wp2;refine wp_region_quiet_below mixed (by kernel_rfl) ?_
     repeat (go_big_quiet_step (fail))
     refine wpQuiet_nil ?_;intro w0q hw';obtain ⟨⟨wq, bq⟩, hw''⟩ := hw';have hw2 : wq = w0q := hw''.symm;clear hw'';subst hw2;go_wp2;go_ret;exact ⟨ret_bool HE.out.symm, bnext hb bq⟩
    ·have d2 : decide (b < ep + ez) = false := decide_eq_false t2
     have HKN := Lib.hid (HKK.out fun h => t2 h.2);clear HYK HKK HK;go_wp2;refine wp_region_quiet_below mixed (by kernel_rfl) ?_
     repeat (go_big_quiet_step (fail))
     refine wpQuiet_nil ?_;intro w0q hw';obtain ⟨⟨wq, bq⟩, hw''⟩ := hw';have hw2 : wq = w0q := hw''.symm;clear hw'';subst hw2;go_wp2;exact ⟨⟨k + 1, by go_num, by omega, HKN, bnext hb bq⟩, by simp [intOf]; omega⟩
   ·have d1 : decide (ep ≤ b) = false := decide_eq_false t1
    have HKN := Lib.hid (HKK.out fun h => t1 h.1);clear HYK HKK HK;go_wp2;refine wp_region_quiet_below mixed (by kernel_rfl) ?_
    repeat (go_big_quiet_step (fail))
    refine wpQuiet_nil ?_;intro w0q hw';obtain ⟨⟨wq, bq⟩, hw''⟩ := hw';have hw2 : wq = w0q := hw''.symm;clear hw'';subst hw2;go_wp2;exact ⟨⟨k + 1, by go_num, by omega, HKN, bnext hb bq⟩, by simp [intOf]; omega⟩
  ·obtain rfl : k = l.length := by omega
   have HE := Lib.hid (HN.out HK.out);clear HY HN HK HS;go_wp2;go_ret;exact ⟨ret_bool HE.out.symm, hb⟩
theorem rfread_any {cb : Nat} (F : Nat → ByteArray) (bad : Int) (g : Nat) (n : Int) (w : World) (hd : DskAt g F w) :
 Calls Tryz.prog 87 #[.agg #[.slice (some ⟨g, 0, none⟩) 4096 cb, .int .i64 bad], .int .i64 n] w fun e w' => e = .returned (.tuple #[.string (rdOf F bad n).1, .int .i64 (rdOf F bad n).2]) ∧ Below w.heap.size w w' := by
 have b0 := balloc1 w (.cells #[.slice (some ⟨g, 0, none⟩) 4096 cb, .int .i64 bad] 50);have hk := Blk.new #[.slice (some ⟨g, 0, none⟩) 4096 cb, .int .i64 bad] 50 w;have q0 := hk.cell 0;have q1 := hk.cell 1;simp only [List.getElem?_toArray, List.getElem?_cons_zero, List.getElem?_cons_succ] at q0 q1;have hc := fun k (h : k < 4096) => ((hd.c.kept1 b0).2 k h).1;generalize hw1 : w.alloc (.cells #[.slice (some ⟨g, 0, none⟩) 4096 cb, .int .i64 bad] 50) = w1 at *;have HW1 := Lib.hid hw1;clear hd hk hw1;by_cases h0 : n < 0
 ·have d0 : decide (n < 0) = true := decide_eq_true h0
  have HE : Hid (rdOf F bad n = (⟨#[]⟩, 60)) := Lib.hid (by unfold rdOf; rw [if_pos (.inl h0)]);rw [HE.out];clear hc HE h0
  go_enter Tryz.func87, Tryz.ntmps87
  go_upto_region 1 with fail
  rw [HW1.out];go_wp2
  go_ret2
  exact ⟨rfl, b0⟩
 ·obtain ⟨m, rfl⟩ := Int.eq_ofNat_of_zero_le (by omega : 0 ≤ n)
  have d0 : decide ((m : Int) < 0) = false := decide_eq_false h0;by_cases h1 : 4096 ≤ m
  ·have d1 : decide ((4096 : Int) ≤ (m : Int)) = true := decide_eq_true (by omega)
   have d1' : decide (4096 ≤ m) = true := decide_eq_true h1;have HE : Hid (rdOf F bad m = (⟨#[]⟩, 60)) := Lib.hid (by unfold rdOf; rw [if_pos (.inr (.inl (by omega)))]);rw [HE.out];clear hc HE h0
   go_enter Tryz.func87, Tryz.ntmps87
   go_upto_region 1 with fail
   rw [HW1.out];go_wp2
   go_ret2
   exact ⟨rfl, b0⟩
  ·have d1 : decide ((4096 : Int) ≤ (m : Int)) = false := decide_eq_false (by omega)
   have d1' : decide (4096 ≤ m) = false := decide_eq_false h1;have q2 := hc m (by omega);by_cases h2 : (m : Int) = bad
   ·have d2 : ((m : Int) == bad) = true := by rw [beq_iff_eq]; exact h2
    have HE : Hid (rdOf F bad m = (⟨#[]⟩, 60)) := Lib.hid (by unfold rdOf; rw [if_pos (.inr (.inr h2))]);rw [HE.out];clear hc HE h0 h2
    go_enter Tryz.func87, Tryz.ntmps87
    go_upto_region 1 with fail
    rw [HW1.out];go_wp2
    go_ret2
    exact ⟨rfl, b0⟩
   ·have d2 : ((m : Int) == bad) = false := by rw [beq_eq_false_iff_ne]; exact h2
    have HE := Lib.hid (rdOf_ok (F := F) (by omega : m < 4096) h2);rw [HE.out];clear hc HE h0 h2
    go_enter Tryz.func87, Tryz.ntmps87
    go_upto_region 1 with fail
    rw [HW1.out];go_wp2
    go_ret2
    exact ⟨rfl, b0⟩
end Go.Proofs.YtknefoemgifbfaaGreat
