import Derived.Test.YtknefoemgifbfaaGreatPd18
import Derived.Deep.CutBlock
import Derived.Deep.DeepCutAuto
import Derived.Test.YtknefoemgifbfaaGreatPd15
import Derived.Laws.StructEq
import Derived.Laws.MakeOwn
set_option linter.unusedVariables false
set_option linter.unusedSimpArgs false
set_option linter.constructorNameAsVariable false
set_option maxRecDepth 100000
set_option maxHeartbeats 16000000
namespace Go.Proofs.YtknefoemgifbfaaGreat
open Go.RowKit
def RootOk (depth : Int) (l : List Ent) : Prop := l.length ≤ 4 ∧ RowOk (decide (depth = 0)) l ∧ (depth = 0 ∨ 0 < l.length)
instance (d : Int) (l : List Ent) : Decidable (RootOk d l) := by unfold RootOk; infer_instance
theorem rooted_row (depth : Int) (lf : Bool) (hlf : (depth == 0) = lf) (l : List Ent) (hf : fitE l) (v : Value) (w : World) (hv : EntsIn v l w) (h4 : l.length ≤ 4) (h0 : decide (0 < depth) = false ∨ ((l.length : Int) == 0) = false) :
 Calls Tryz.prog 136 #[.int .i64 depth, v] w fun e w' => e = .returned (.bool (decide (RowOk lf l))) ∧ Below w.heap.size w w' := by
 obtain ⟨ad, cap, rfl, c1, c2, c3, -⟩ := entsIn_cells hv
 have mixed : Tryz.prog.follows .mixedOrders = true := by kernel_rfl
 have d4 : decide ((4 : Int) < (l.length : Int)) = false := decide_eq_false (by omega);have H3 := Lib.hid c3;clear c3 hv
 have REST : ∀ (dp : Bool) (z : Bool), decide (0 < depth) = dp → ((l.length : Int) == 0) = z → (dp = false ∨ z = false) → Calls Tryz.prog 136 #[.int .i64 depth, .slice ad l.length cap] w fun e w' => e = .returned (.bool (decide (RowOk lf l))) ∧ Below w.heap.size w w' := by
  intro dp z hdp hz hno
  cases dp <;> cases z
  case true.true => simp at hno
  all_goals
   clear hno h0
   go_enter Tryz.func136, Tryz.ntmps136
   go_wp2
   go_loopw [21] (fun p wr => ∃ k : Nat, p = .int .i64 k ∧ k ≤ l.length ∧ Hid (RowTo lf l k) ∧ Below w.heap.size w wr) (fun p _ => l.length - (intOf p).toNat)
   case atStart => exact ⟨0, rfl, Nat.zero_le _, Lib.hid (rowTo_zero _ _), Below.refl _ _⟩
   case round =>
    clear hz d4 hdp;obtain ⟨k, rfl, hk, HK, hb⟩ := hrel;by_cases hlt : k < l.length
    ·obtain ⟨g, o, rfl, hg, hc⟩ := H3.out (by omega)
     have hgr : g < wr.heap.size := Nat.lt_of_lt_of_le hg hb.size;obtain ⟨x1, x2, x3⟩ := hc wr hb k hlt;have hfk := fitE_at hf hlt;have HS : Hid (RowTo lf l k → EntOk lf (eat l k) → (0 < k → After (eat l (k - 1)) (eat l k)) → RowTo lf l (k + 1)) := Lib.hid fun a b c => rowTo_succ.2 ⟨a, b, c⟩;have HN : Hid (¬ (EntOk lf (eat l k) ∧ (0 < k → After (eat l (k - 1)) (eat l k))) → decide (RowOk lf l) = false) := Lib.hid fun h => decide_eq_false (rowOk_no hlt h);have V := fun w => ivalid_any (eat l k) hfk.2.2 lf w;have hbq := balloc hb (.cells (entC (eat l k)) 31);have kb := ent_new wr (eat l k) 31;have k0 := fun p => (kb p).1;have k1 := fun p => (kb p).2.1;have k2 := fun p => (kb p).2.2;by_cases hok : EntOk lf (eat l k)
     ·rw [decide_eq_true hok] at V
      rcases Nat.eq_zero_or_pos k with hk0 | hk0
      ·have HE := Lib.hid (HS.out HK.out hok fun h => by omega)
       have V := Lib.hid V;have d0 : decide (0 < k) = false := decide_eq_false (by omega);clear hk0 hok HS HN hc kb;generalize eat l k = yk at *;obtain ⟨ea, ep, ez⟩ := yk;dsimp only at *;go_wp2;generalize wr.alloc (.cells #[.int .i64 ea, .int .i64 ep, .int .i64 ez] 31) = w1 at *;refine wp_region_quiet_below mixed (by kernel_rfl) ?_
       repeat (go_big_quiet_step (first | (go_at_call 158; refine calls_below (V.out _))))
       refine wpQuiet_nil ?_;intro w0q hw';obtain ⟨⟨wq, bq⟩, hw''⟩ := hw';have hw2 : wq = w0q := hw''.symm;clear hw'';subst hw2;have hb2 := bnext hbq bq;go_wp2;exact ⟨⟨k + 1, by go_num, by omega, HE, hb2⟩, by simp [intOf]; omega⟩
      ·obtain ⟨j, rfl⟩ : ∃ j, k = j + 1 := ⟨k - 1, by omega⟩
       have d0 : decide (0 < j + 1) = true := decide_eq_true (by omega);have j0 := fun p : BelowP (wr.alloc (.cells (entC (eat l (j + 1))) 31)) => (hc p.to (hbq.trans (p.h.mono hbq.size)) j (by omega)).1;have j1 := fun p : BelowP (wr.alloc (.cells (entC (eat l (j + 1))) 31)) => (hc p.to (hbq.trans (p.h.mono hbq.size)) j (by omega)).2.1;have j2 := fun p : BelowP (wr.alloc (.cells (entC (eat l (j + 1))) 31)) => (hc p.to (hbq.trans (p.h.mono hbq.size)) j (by omega)).2.2;have F := fun w => follows_any (eat l j) (eat l (j + 1)) (rowTo_end HK.out j (by omega)) w
       have hgq : g < (wr.alloc (.cells (entC (eat l (j + 1))) 31)).heap.size := by rw [size_alloc]; omega
       by_cases ha : After (eat l j) (eat l (j + 1))
       ·rw [decide_eq_true ha] at F
        have HE := Lib.hid (HS.out HK.out hok fun _ => ha);have V := Lib.hid V;have F := Lib.hid F;clear hok HS HN hc kb ha HK hk0 hfk;generalize eat l (j + 1) = yk at *;generalize eat l j = yj at *;obtain ⟨fa, fp, fz⟩ := yj;obtain ⟨ea, ep, ez⟩ := yk;dsimp only at *;go_wp2;generalize wr.alloc (.cells #[.int .i64 ea, .int .i64 ep, .int .i64 ez] 31) = w1 at *;refine wp_region_quiet_below mixed (by kernel_rfl) ?_
        repeat (go_big_quiet_step (first | (go_at_call 158; refine calls_below (V.out _)) | (go_at_call 159; refine calls_below (F.out _))))
        refine wpQuiet_nil ?_;intro w0q hw';obtain ⟨⟨wq, bq⟩, hw''⟩ := hw';have hw2 : wq = w0q := hw''.symm;clear hw'';subst hw2;have hb2 := bnext hbq bq;go_wp2;exact ⟨⟨j + 1 + 1, by go_num, by omega, HE, hb2⟩, by simp [intOf]; omega⟩
       ·rw [decide_eq_false ha] at F
        have HE := Lib.hid (HN.out fun h => ha (h.2 (by omega)));have V := Lib.hid V;have F := Lib.hid F;clear hok HS HN hc kb ha HK hk0 hfk;generalize eat l (j + 1) = yk at *;generalize eat l j = yj at *;obtain ⟨fa, fp, fz⟩ := yj;obtain ⟨ea, ep, ez⟩ := yk;dsimp only at *;go_wp2;generalize wr.alloc (.cells #[.int .i64 ea, .int .i64 ep, .int .i64 ez] 31) = w1 at *;refine wp_region_quiet_below mixed (by kernel_rfl) ?_
        repeat (go_big_quiet_step (first | (go_at_call 158; refine calls_below (V.out _)) | (go_at_call 159; refine calls_below (F.out _))))
        refine wpQuiet_nil ?_;intro w0q hw';obtain ⟨⟨wq, bq⟩, hw''⟩ := hw';have hw2 : wq = w0q := hw''.symm;clear hw'';subst hw2;have hb2 := bnext hbq bq;go_wp2;go_ret;exact ⟨ret_bool (by rw [HE.out]), hb2⟩
     ·rw [decide_eq_false hok] at V
      have HE := Lib.hid (HN.out fun h => hok h.1);have V := Lib.hid V;clear hok HS HN hc kb HK hfk;generalize eat l k = yk at *;obtain ⟨ea, ep, ez⟩ := yk;dsimp only at *;go_wp2;generalize wr.alloc (.cells #[.int .i64 ea, .int .i64 ep, .int .i64 ez] 31) = w1 at *;refine wp_region_quiet_below mixed (by kernel_rfl) ?_
      repeat (go_big_quiet_step (first | (go_at_call 158; refine calls_below (V.out _))))
      refine wpQuiet_nil ?_;intro w0q hw';obtain ⟨⟨wq, bq⟩, hw''⟩ := hw';have hw2 : wq = w0q := hw''.symm;clear hw'';subst hw2;have hb2 := bnext hbq bq;go_wp2;go_ret;exact ⟨ret_bool (by rw [HE.out]), hb2⟩
    ·obtain rfl : k = l.length := by omega
     have HE : Hid (decide (RowOk lf l) = true) := Lib.hid (decide_eq_true HK.out);go_wp2;go_ret;exact ⟨ret_bool (by rw [HE.out]), hb⟩
 exact REST _ _ rfl rfl h0
theorem rooted_any (depth : Int) (hd : 0 ≤ depth) (l : List Ent) (hf : fitE l) (v : Value) (w : World) (hv : EntsIn v l w) :
 Calls Tryz.prog 136 #[.int .i64 depth, v] w fun e w' => e = .returned (.bool (decide (RootOk depth l))) ∧ Below w.heap.size w w' := by
 by_cases h4 : l.length ≤ 4
 ·by_cases h0 : depth = 0 ∨ 0 < l.length
  ·have HR : decide (RootOk depth l) = decide (RowOk (decide (depth = 0)) l) := by rw [decide_eq_decide]; unfold RootOk; simp [h4, h0]
   rw [HR];refine rooted_row depth _ (by rw [Bool.eq_iff_iff]; simp) l hf v w hv h4 ?_;rcases h0 with h0 | h0
   ·exact .inl (decide_eq_false (by omega))
   ·exact .inr (by rw [beq_eq_false_iff_ne]; omega)
  ·have HR : Hid (decide (RootOk depth l) = false) := Lib.hid (decide_eq_false fun k => h0 k.2.2)
   rw [HR.out];obtain ⟨ad, cap, rfl, c1, c2, -⟩ := entsIn_cells hv;have d4 : decide ((4 : Int) < (l.length : Int)) = false := decide_eq_false (by omega);have d0 : decide ((0 : Int) < depth) = true := decide_eq_true (by omega)
   have z0 : ((l.length : Int) == 0) = true := by rw [beq_iff_eq]; omega
   clear HR h0 h4 hv
   go_enter Tryz.func136, Tryz.ntmps136
   go_wp2;go_ret;exact ⟨rfl, Below.refl _ _⟩
 ·have HR : Hid (decide (RootOk depth l) = false) := Lib.hid (decide_eq_false fun k => h4 k.1)
  rw [HR.out];obtain ⟨ad, cap, rfl, c1, c2, -⟩ := entsIn_cells hv;have d4 : decide ((4 : Int) < (l.length : Int)) = true := decide_eq_true (by omega);clear HR h4 hv
  go_enter Tryz.func136, Tryz.ntmps136
  go_wp2;go_ret;exact ⟨rfl, Below.refl _ _⟩
open Go.RowKit
abbrev inoV (x : Ino) (v : Value) : Value := .agg #[.int .i64 x.kind, .bool x.pinned, .int .i64 x.links, .int .i64 x.size, .int .i64 x.depth, v]
abbrev inoC (x : Ino) (v : Value) : Array Value := #[.int .i64 x.kind, .bool x.pinned, .int .i64 x.links, .int .i64 x.size, .int .i64 x.depth, v]
abbrev InoAt (g : Nat) (x : Ino) (v : Value) (w : World) : Prop := Blk g (inoC x v) 173 w
theorem InoAt.cells {g : Nat} {x : Ino} {v : Value} {w : World} (h : InoAt g x v w) :
 w.cell? ⟨g, 0, none⟩ = some (.int .i64 x.kind) ∧ w.cell? ⟨g, 1, none⟩ = some (.bool x.pinned) ∧ w.cell? ⟨g, 2, none⟩ = some (.int .i64 x.links) ∧ w.cell? ⟨g, 3, none⟩ = some (.int .i64 x.size) ∧ w.cell? ⟨g, 4, none⟩ = some (.int .i64 x.depth) ∧ w.cell? ⟨g, 5, none⟩ = some v :=
 ⟨h.cell 0, h.cell 1, h.cell 2, h.cell 3, h.cell 4, h.cell 5⟩
theorem inoOk_root {x : Ino} (h : x.kind = 1 ∨ x.kind = 2) : InoOk x ↔ (0 ≤ x.links ∧ x.links ≤ 100) ∧ (0 ≤ x.size ∧ x.size ≤ 262144) ∧ (0 ≤ x.depth ∧ x.depth ≤ 4) ∧ RootOk x.depth x.root := by
 rw [ok_kindN (by omega)];unfold Full RootOk;constructor
 ·rintro ⟨_, a, b, c, d, e, f⟩; exact ⟨a, b, c, d, e, f⟩
 ·rintro ⟨a, b, c, d, e, f⟩; exact ⟨h, a, b, c, d, e, f⟩
theorem icheck_any (x : Ino) (hf : fitE x.root) (v : Value) (w : World) (hv : EntsIn v x.root w) :
 Calls Tryz.prog 110 #[inoV x v] w fun e w' => e = .returned (.bool (decide (InoOk x))) ∧ Below w.heap.size w w' := by
 have hb := balloc1 w (.cells (inoC x v) 173);have hv1 := hv.kept hb;by_cases h0 : x.kind = 0
 ·have e0 : (x.kind == 0) = true := by rw [beq_iff_eq]; exact h0
  obtain ⟨ad, cap, rfl, c1, c2, -⟩ := entsIn_cells hv;by_cases g0 : x.pinned = false
  ·skip
   by_cases g1 : x.links = 0
   ·skip
    have q1 : (x.links == 0) = true := by rw [beq_iff_eq]; exact g1
    by_cases g2 : x.size = 0
    ·skip
     have q2 : (x.size == 0) = true := by rw [beq_iff_eq]; exact g2
     by_cases g3 : x.depth = 0
     ·skip
      have q3 : (x.depth == 0) = true := by rw [beq_iff_eq]; exact g3
      by_cases g4 : x.root.length = 0
      ·skip
       have q4 : ((x.root.length : Int) == 0) = true := by rw [beq_iff_eq]; omega
       have HR : Hid (decide (InoOk x) = true) := Lib.hid (decide_eq_true ((ok_kind0 h0).2 ⟨h0, g0, g1, g2, g3, List.length_eq_zero_iff.1 g4⟩));rw [HR.out];obtain ⟨kd, pn, lk, sz, dp, rt⟩ := x;dsimp only at *;clear HR h0 hf hv hv1 g1 g2 g3 g4;subst g0
       go_enter Tryz.func110, Tryz.ntmps110
       go_wp2;go_ret;exact ⟨rfl, hb⟩
      ·skip
       have q4 : ((x.root.length : Int) == 0) = false := by rw [beq_eq_false_iff_ne]; omega
       have HR : Hid (decide (InoOk x) = false) := Lib.hid (decide_eq_false fun h => (fun k => g4 (by rw [k.2.2.2.2.2]; rfl)) ((ok_kind0 h0).1 h));rw [HR.out];obtain ⟨kd, pn, lk, sz, dp, rt⟩ := x;dsimp only at *;clear HR h0 hf hv hv1 g1 g2 g3 g4;subst g0
       go_enter Tryz.func110, Tryz.ntmps110
       go_wp2;go_ret;exact ⟨rfl, hb⟩
     ·skip
      have q3 : (x.depth == 0) = false := by rw [beq_eq_false_iff_ne]; exact g3
      have HR : Hid (decide (InoOk x) = false) := Lib.hid (decide_eq_false fun h => (fun k => g3 k.2.2.2.2.1) ((ok_kind0 h0).1 h));rw [HR.out];obtain ⟨kd, pn, lk, sz, dp, rt⟩ := x;dsimp only at *;clear HR h0 hf hv hv1 g1 g2 g3;subst g0
      go_enter Tryz.func110, Tryz.ntmps110
      go_wp2;go_ret;exact ⟨rfl, hb⟩
    ·skip
     have q2 : (x.size == 0) = false := by rw [beq_eq_false_iff_ne]; exact g2
     have HR : Hid (decide (InoOk x) = false) := Lib.hid (decide_eq_false fun h => (fun k => g2 k.2.2.2.1) ((ok_kind0 h0).1 h));rw [HR.out];obtain ⟨kd, pn, lk, sz, dp, rt⟩ := x;dsimp only at *;clear HR h0 hf hv hv1 g1 g2;subst g0
     go_enter Tryz.func110, Tryz.ntmps110
     go_wp2;go_ret;exact ⟨rfl, hb⟩
   ·skip
    have q1 : (x.links == 0) = false := by rw [beq_eq_false_iff_ne]; exact g1
    have HR : Hid (decide (InoOk x) = false) := Lib.hid (decide_eq_false fun h => (fun k => g1 k.2.2.1) ((ok_kind0 h0).1 h));rw [HR.out];obtain ⟨kd, pn, lk, sz, dp, rt⟩ := x;dsimp only at *;clear HR h0 hf hv hv1 g1;subst g0
    go_enter Tryz.func110, Tryz.ntmps110
    go_wp2;go_ret;exact ⟨rfl, hb⟩
  ·skip
   have HR : Hid (decide (InoOk x) = false) := Lib.hid (decide_eq_false fun h => (fun k => /-pin-/ g0 k.2.1) ((ok_kind0 h0).1 h));rw [HR.out];obtain ⟨kd, pn, lk, sz, dp, rt⟩ := x;dsimp only at *;clear HR h0 hf hv hv1 
   obtain rfl : pn = true := by simpa using g0
   go_enter Tryz.func110, Tryz.ntmps110
   go_wp2;go_ret;exact ⟨rfl, hb⟩
 ·have e0 : (x.kind == 0) = false := by rw [beq_eq_false_iff_ne]; exact h0
  by_cases h12 : x.kind = 1 ∨ x.kind = 2
  ·have RT := fun (h : 0 ≤ x.depth) => rooted_any x.depth h x.root hf v
   by_cases g0 : 0 ≤ x.links ∧ x.links ≤ 100
   ·have W0 := Lib.hid (iwithin_yes x.links 0 100 g0)
    by_cases g1 : 0 ≤ x.size ∧ x.size ≤ 262144
    ·have W1 := Lib.hid (iwithin_yes x.size 0 262144 g1)
     by_cases g2 : 0 ≤ x.depth ∧ x.depth ≤ 4
     ·have W2 := Lib.hid (iwithin_yes x.depth 0 4 g2)
      have HR : Hid (decide (InoOk x) = decide (RootOk x.depth x.root)) := Lib.hid (by rw [decide_eq_decide, inoOk_root h12]; exact ⟨fun k => k.2.2.2, fun k => ⟨g0, g1, g2, k⟩⟩);rw [HR.out];have RW := Lib.hid fun w h => RT g2.1 w h;have HV := Lib.hid hv1;generalize decide (RootOk x.depth x.root) = rb at *;obtain ⟨kd, pn, lk, sz, dp, rt⟩ := x;dsimp only at *;clear HR h0 e0 RT hf hv hv1 g0 g1 g2;rcases h12 with rfl | rfl
      ·go_enter Tryz.func110, Tryz.ntmps110
       go_wp2_with fail
       refine (W0.out _).mono ?_; rintro e w1 ⟨rfl, rfl⟩;go_wp2_with fail
       refine (W1.out _).mono ?_; rintro e w1 ⟨rfl, rfl⟩;go_wp2_with fail
       refine (W2.out _).mono ?_; rintro e w1 ⟨rfl, rfl⟩;go_wp2_with fail
       refine (RW.out _ HV.out).mono ?_; rintro e w1 ⟨rfl, b1⟩;go_wp2;go_ret;exact ⟨rfl, bnext hb b1⟩
      ·go_enter Tryz.func110, Tryz.ntmps110
       go_wp2_with fail
       refine (W0.out _).mono ?_; rintro e w1 ⟨rfl, rfl⟩;go_wp2_with fail
       refine (W1.out _).mono ?_; rintro e w1 ⟨rfl, rfl⟩;go_wp2_with fail
       refine (W2.out _).mono ?_; rintro e w1 ⟨rfl, rfl⟩;go_wp2_with fail
       refine (RW.out _ HV.out).mono ?_; rintro e w1 ⟨rfl, b1⟩;go_wp2;go_ret;exact ⟨rfl, bnext hb b1⟩
     ·have W2 := Lib.hid (iwithin_no x.depth 0 4 g2)
      have HR : Hid (decide (InoOk x) = false) := Lib.hid (decide_eq_false fun k => g2 (((inoOk_root h12).1 k).2.2.1));rw [HR.out];obtain ⟨kd, pn, lk, sz, dp, rt⟩ := x;dsimp only at *;clear HR h0 e0 RT hf hv hv1 g0 g1 g2;rcases h12 with rfl | rfl
      ·go_enter Tryz.func110, Tryz.ntmps110
       go_wp2_with fail
       refine (W0.out _).mono ?_; rintro e w1 ⟨rfl, rfl⟩;go_wp2_with fail
       refine (W1.out _).mono ?_; rintro e w1 ⟨rfl, rfl⟩;go_wp2_with fail
       refine (W2.out _).mono ?_; rintro e w1 ⟨rfl, rfl⟩;go_wp2;go_ret;exact ⟨rfl, hb⟩
      ·go_enter Tryz.func110, Tryz.ntmps110
       go_wp2_with fail
       refine (W0.out _).mono ?_; rintro e w1 ⟨rfl, rfl⟩;go_wp2_with fail
       refine (W1.out _).mono ?_; rintro e w1 ⟨rfl, rfl⟩;go_wp2_with fail
       refine (W2.out _).mono ?_; rintro e w1 ⟨rfl, rfl⟩;go_wp2;go_ret;exact ⟨rfl, hb⟩
    ·have W1 := Lib.hid (iwithin_no x.size 0 262144 g1)
     have HR : Hid (decide (InoOk x) = false) := Lib.hid (decide_eq_false fun k => g1 (((inoOk_root h12).1 k).2.1));rw [HR.out];obtain ⟨kd, pn, lk, sz, dp, rt⟩ := x;dsimp only at *;clear HR h0 e0 RT hf hv hv1 g0 g1;rcases h12 with rfl | rfl
     ·go_enter Tryz.func110, Tryz.ntmps110
      go_wp2_with fail
      refine (W0.out _).mono ?_; rintro e w1 ⟨rfl, rfl⟩;go_wp2_with fail
      refine (W1.out _).mono ?_; rintro e w1 ⟨rfl, rfl⟩;go_wp2;go_ret;exact ⟨rfl, hb⟩
     ·go_enter Tryz.func110, Tryz.ntmps110
      go_wp2_with fail
      refine (W0.out _).mono ?_; rintro e w1 ⟨rfl, rfl⟩;go_wp2_with fail
      refine (W1.out _).mono ?_; rintro e w1 ⟨rfl, rfl⟩;go_wp2;go_ret;exact ⟨rfl, hb⟩
   ·have W0 := Lib.hid (iwithin_no x.links 0 100 g0)
    have HR : Hid (decide (InoOk x) = false) := Lib.hid (decide_eq_false fun k => g0 (((inoOk_root h12).1 k).1));rw [HR.out];obtain ⟨kd, pn, lk, sz, dp, rt⟩ := x;dsimp only at *;clear HR h0 e0 RT hf hv hv1 g0;rcases h12 with rfl | rfl
    ·go_enter Tryz.func110, Tryz.ntmps110
     go_wp2_with fail
     refine (W0.out _).mono ?_; rintro e w1 ⟨rfl, rfl⟩;go_wp2;go_ret;exact ⟨rfl, hb⟩
    ·go_enter Tryz.func110, Tryz.ntmps110
     go_wp2_with fail
     refine (W0.out _).mono ?_; rintro e w1 ⟨rfl, rfl⟩;go_wp2;go_ret;exact ⟨rfl, hb⟩
  ·have HR : Hid (decide (InoOk x) = false) := Lib.hid (decide_eq_false fun k => h12 (by rw [ok_kindN h0] at k; exact k.1))
   rw [HR.out]
   have e1 : (x.kind == 1) = false := by rw [beq_eq_false_iff_ne]; omega
   have e2 : (x.kind == 2) = false := by rw [beq_eq_false_iff_ne]; omega
   obtain ⟨kd, pn, lk, sz, dp, rt⟩ := x;dsimp only at *;clear HR h0 h12 hf hv hv1
   go_enter Tryz.func110, Tryz.ntmps110
   go_wp2;go_ret;exact ⟨rfl, hb⟩
open Go.RowKit
theorem cellsE_drop : ∀ (l : List Ent) (a : Nat), (cellsE l).drop (a * 3) = cellsE (l.drop a)
 | l, 0 => by simp
 | [], a + 1 => by simp [cellsE]
 | x :: l, a + 1 => by
   rw [List.drop_succ_cons, ← cellsE_drop l a, show (a + 1) * 3 = a * 3 + 3 by omega]
   simp [cellsE]
theorem cellsE_take : ∀ (l : List Ent) (a : Nat), (cellsE l).take (a * 3) = cellsE (l.take a)
 | l, 0 => by simp [cellsE]
 | [], a + 1 => by simp [cellsE]
 | x :: l, a + 1 => by
   rw [List.take_succ_cons];simp only [cellsE];rw [← cellsE_take l a, show (a + 1) * 3 = a * 3 + 3 by omega]
   simp
theorem ents_part {g o cap : Nat} {l : List Ent} {w : World} (h : EntsIn (.slice (some ⟨g, o, none⟩) l.length cap) l w) (hg : g < w.heap.size) {a b c : Nat} (hab : a ≤ b) (hb : b ≤ l.length) (hc : b - a ≤ c) (hcc : c ≤ maxLen) :
 EntsIn (.slice (some ⟨g, o + a * 3, none⟩) (b - a) c) ((l.drop a).take (b - a)) w := by
 have := row_part h hab hb hc hcc hg;rw [cellsE_drop, cellsE_take] at this
 have e : ((l.drop a).take (b - a)).length = b - a := by rw [List.length_take, List.length_drop]; omega
 unfold EntsIn;rw [e]; exact this
theorem fknumberAt_any (i j : Int) (hi : 0 ≤ i ∧ i ≤ 1000000) (hj : 0 ≤ j ∧ j ≤ 1000000) (w : World) :
 Calls Tryz.prog 38 #[.int .i64 i, .int .i64 j] w fun e w' => e = .returned (.int .i64 (3 + 12 * i + 4 * j)) ∧ w = w' := by
 have h1 : 3 + i * 12 + j * 4 = 3 + 12 * i + 4 * j := by omega
 go_enter Tryz.func38, Tryz.ntmps38
 go_wp2;go_ret;exact ⟨ret_int (by first | exact h1 | (rw [← h1]; rfl) | omega), rfl⟩
theorem fkrooted_any (depth : Int) (l : List Ent) (hf : fitE l) (v : Value) (w : World) (hv : EntsIn v l w) :
 Calls Tryz.prog 80 #[.agg #[.int .i64 depth, v]] w fun e w' => e = .returned (.bool (decide (RootedA depth l))) ∧ Below w.heap.size w w' := by
 obtain ⟨ad, cap, rfl, -⟩ := entsIn_cells hv;have hb0 := balloc1 w (.cells #[.int .i64 depth, .slice ad l.length cap] 35);have C := Lib.hid (icheck_any ⟨1, false, 0, 0, depth, l⟩ hf _ _ (hv.kept hb0));clear hv
 go_enter Tryz.func80, Tryz.ntmps80
 go_wp2_with fail
 refine C.out.mono ?_; rintro e w2 ⟨rfl, b2⟩;have hb := bnext hb0 b2;go_wp2;go_ret;exact ⟨rfl, hb⟩
theorem rooted_small {leaf : Bool} {m : List Ent} (h1 : 1 ≤ m.length) (h4 : m.length ≤ 4) : RootedA (if leaf then 0 else 1) m ↔ RowOk leaf m := by
 unfold RootedA;rw [ok_kindN (by show (1 : Int) ≠ 0; decide)];unfold Full
 cases leaf
 ·exact ⟨fun h => h.2.2.2.2.2.1, fun h => ⟨.inl rfl, ⟨(by decide : (0 : Int) ≤ 0), (by decide : (0 : Int) ≤ 100)⟩, ⟨(by decide : (0 : Int) ≤ 0), (by decide : (0 : Int) ≤ 262144)⟩, ⟨(by decide : (0 : Int) ≤ 1), (by decide : (1 : Int) ≤ 4)⟩, h4, h, .inr h1⟩⟩
 ·exact ⟨fun h => h.2.2.2.2.2.1, fun h => ⟨.inl rfl, ⟨(by decide : (0 : Int) ≤ 0), (by decide : (0 : Int) ≤ 100)⟩, ⟨(by decide : (0 : Int) ≤ 0), (by decide : (0 : Int) ≤ 262144)⟩, ⟨(by decide : (0 : Int) ≤ 0), (by decide : (0 : Int) ≤ 4)⟩, h4, h, .inr h1⟩⟩
theorem row_two {leaf : Bool} {l : List Ent} {k : Nat} (hk : k < l.length) (h : RowTo leaf l k) : RowOk leaf ((l.drop (k - 1)).take (k + 1 - (k - 1))) ↔ RowTo leaf l (k + 1) := by
 have hlen : ((l.drop (k - 1)).take (k + 1 - (k - 1))).length = k + 1 - (k - 1) := by rw [List.length_take, List.length_drop]; omega
 have hat : ∀ i, i < k + 1 - (k - 1) → eat ((l.drop (k - 1)).take (k + 1 - (k - 1))) i = eat l (k - 1 + i) := fun i hi => by
  unfold eat; rw [List.getElem?_take_of_lt hi, List.getElem?_drop]
 rw [rowTo_succ];unfold RowOk RowTo;rw [hlen];by_cases h0 : k = 0
 ·subst h0
  constructor
  ·intro g
   have := g 0 (by omega);rw [hat 0 (by omega)] at this;exact ⟨h, this.1, fun q => by omega⟩
  ·rintro ⟨-, g, -⟩ i hi
   obtain rfl : i = 0 := by omega
   rw [hat 0 (by omega)];exact ⟨g, fun q => by omega⟩
 ·constructor
  ·intro g
   have := g 1 (by omega);rw [hat 1 (by omega), show 1 - 1 = 0 from rfl, hat 0 (by omega), show k - 1 + 1 = k by omega, Nat.add_zero] at this;exact ⟨h, this.1, fun _ => this.2 (by omega)⟩
  ·rintro ⟨-, g1, g2⟩ i hi
   have : i = 0 ∨ i = 1 := by omega
   rcases this with rfl | rfl
   ·rw [hat 0 (by omega), Nat.add_zero]
    exact ⟨(h (k - 1) (by omega)).1, fun q => by omega⟩
   ·rw [hat 1 (by omega), show 1 - 1 = 0 from rfl, hat 0 (by omega), show k - 1 + 1 = k by omega, Nat.add_zero]
    exact ⟨g1, fun _ => g2 (by omega)⟩
theorem fkvalid_any (l : List Ent) (hf : fitE l) (leaf : Bool) (v : Value) (w : World) (hv : EntsIn v l w) :
 Calls Tryz.prog 37 #[v, .bool leaf] w fun e w' => e = .returned (.bool (decide (NodeOk l leaf))) ∧ Below w.heap.size w w' := by
 obtain ⟨ad, cap, rfl, c1, c2, c3, c4⟩ := entsIn_cells hv;by_cases h0 : l.length < 1
 ·have d0 : decide ((l.length : Int) < 1) = true := decide_eq_true (by omega)
  have HR : Hid (decide (NodeOk l leaf) = false) := Lib.hid (decide_eq_false fun h => by have := h.1; omega)
  go_enter Tryz.func37, Tryz.ntmps37
  go_wp2;go_ret;exact ⟨ret_bool HR.out.symm, Below.refl _ _⟩
 have d0 : decide ((l.length : Int) < 1) = false := decide_eq_false (by omega);by_cases h10 : 10 < l.length
 ·have d1 : decide ((10 : Int) < (l.length : Int)) = true := decide_eq_true (by omega)
  have HR : Hid (decide (NodeOk l leaf) = false) := Lib.hid (decide_eq_false fun h => by have := h.2.1; omega)
  go_enter Tryz.func37, Tryz.ntmps37
  go_wp2;go_ret;exact ⟨ret_bool HR.out.symm, Below.refl _ _⟩
 have d1 : decide ((10 : Int) < (l.length : Int)) = false := decide_eq_false (by omega);obtain ⟨g, o, rfl, hg, -⟩ := c3 (by omega);have HV := Lib.hid hv;have RO := Lib.hid fun (depth : Int) (m : List Ent) (hm : fitE m) v w hv => fkrooted_any depth m hm v w hv;have HF := Lib.hid hf;clear hv c3 c4 hf
 have key : ∀ dp : Int, dp = (if leaf then 0 else 1) → ∀ (k : Nat) (wr : World), k < l.length → RowTo leaf l k → Below w.heap.size w wr →
  Calls Tryz.prog 80 #[.agg #[.int .i64 dp, .slice (some ⟨g, o + (k - 1) * 3, none⟩) (k + 1 - (k - 1)) (cap - (k - 1))]] wr fun e w' => e = .returned (.bool (decide (RowTo leaf l (k + 1)))) ∧ Below wr.heap.size wr w' := by
  intro dp hdp k wr hk hrow hb;have hp := ents_part (HV.out.kept hb) (Nat.lt_of_lt_of_le hg hb.size) (a := k - 1) (b := k + 1) (c := cap - (k - 1)) (by omega) (by omega) (by omega) (by unfold maxLen; omega)
  have hlen : ((l.drop (k - 1)).take (k + 1 - (k - 1))).length = k + 1 - (k - 1) := by rw [List.length_take, List.length_drop]; omega
  have := RO.out dp _ (fun e he => HF.out e (List.mem_of_mem_drop (List.mem_of_mem_take he))) _ wr hp;rw [hdp] at this ⊢;rw [decide_eq_decide.2 ((rooted_small (by omega) (by omega)).trans (row_two hk hrow))] at this;exact this
 obtain ⟨RB, hRB⟩ : ∃ RB : Nat → Bool, RB = fun k => decide (RowTo leaf l k) := ⟨_, rfl⟩;have HE : Hid (RB l.length = true → decide (NodeOk l leaf) = true) := Lib.hid fun h => decide_eq_true ⟨by omega, by omega, by rw [hRB] at h; exact of_decide_eq_true h⟩
 have HN : Hid (∀ k, k < l.length → RB (k + 1) = false → decide (NodeOk l leaf) = false) := Lib.hid fun k hk h => decide_eq_false fun q => by rw [hRB] at h; exact of_decide_eq_false h (rowTo_mono q.2.2 (by omega))
 have HK : Hid (∀ dp : Int, dp = (if leaf then 0 else 1) → ∀ (k : Nat) (wr : World), k < l.length → RB k = true → Below w.heap.size w wr →
  Calls Tryz.prog 80 #[.agg #[.int .i64 dp, .slice (some ⟨g, o + (k - 1) * 3, none⟩) (k + 1 - (k - 1)) (cap - (k - 1))]] wr fun e w' => e = .returned (.bool (RB (k + 1))) ∧ Below wr.heap.size wr w') := Lib.hid fun dp hdp k wr hk h hb => by
  rw [hRB] at h ⊢; exact key dp hdp k wr hk (of_decide_eq_true h) hb
 have HZ : Hid (RB 0 = true) := Lib.hid (by rw [hRB]; exact decide_eq_true (rowTo_zero leaf l));clear key RO HF hRB HV;generalize decide (NodeOk l leaf) = NB at *;obtain ⟨dp, hdp⟩ : ∃ dp : Int, dp = (if leaf then 0 else 1) := ⟨_, rfl⟩;have HQ := Lib.hid (HK.out dp hdp);clear HK;clear h0 h10
 go_enter Tryz.func37, Tryz.ntmps37
 cases leaf
 all_goals
  simp only [Bool.false_eq_true, if_false, if_true] at hdp;subst hdp;go_wp2
  go_loopw [18] (fun q wr => ∃ k : Nat, q = .int .i64 (k : Int) ∧ k ≤ l.length ∧ Hid (RB k = true) ∧ Below w.heap.size w wr) (fun q _ => l.length - (intOf q).toNat)
  case atStart => exact ⟨0, rfl, by omega, HZ, Below.refl _ _⟩
  case round =>
   obtain ⟨k, rfl, hk, HR, hb⟩ := hrel;by_cases hlt : k < l.length
   ·have HC := Lib.hid (HQ.out k wr hlt HR.out hb)
    cases hrow : RB (k + 1)
    ·rw [hrow] at HC
     have HX := Lib.hid (HN.out k hlt hrow);clear hrow HR;by_cases hk0 : k = 0
     ·subst hk0
      simp only [Nat.zero_sub, Nat.zero_mul, Nat.add_zero, Nat.zero_add, Nat.sub_zero] at HC;go_wp2_with fail
      refine HC.out.mono ?_; rintro e w2 ⟨rfl, b2⟩;have hb2 := bnext hb b2;go_wp2;go_ret;exact ⟨ret_bool HX.out.symm, hb2⟩
     ·obtain ⟨a, rfl⟩ : ∃ a, k = a + 1 := ⟨k - 1, by omega⟩
      have m1 : max ((a : Int)) 0 = (a : Int) := by omega
      simp only [Nat.add_sub_cancel] at HC;go_wp2_with fail
      refine HC.out.mono ?_; rintro e w2 ⟨rfl, b2⟩;have hb2 := bnext hb b2;go_wp2;go_ret;exact ⟨ret_bool HX.out.symm, hb2⟩
    ·rw [hrow] at HC
     have HX := Lib.hid hrow;clear hrow HR;by_cases hk0 : k = 0
     ·subst hk0
      simp only [Nat.zero_sub, Nat.zero_mul, Nat.add_zero, Nat.zero_add, Nat.sub_zero] at HC;go_wp2_with fail
      refine HC.out.mono ?_; rintro e w2 ⟨rfl, b2⟩;have hb2 := bnext hb b2;go_wp2;exact ⟨⟨1, by go_num, by omega, HX, hb2⟩, by simp [intOf]; omega⟩
     ·obtain ⟨a, rfl⟩ : ∃ a, k = a + 1 := ⟨k - 1, by omega⟩
      have m1 : max ((a : Int)) 0 = (a : Int) := by omega
      simp only [Nat.add_sub_cancel] at HC;go_wp2_with fail
      refine HC.out.mono ?_; rintro e w2 ⟨rfl, b2⟩;have hb2 := bnext hb b2;go_wp2;exact ⟨⟨a + 1 + 1, by go_num, by omega, HX, hb2⟩, by simp [intOf]; omega⟩
   ·obtain rfl : k = l.length := by omega
    have HX := Lib.hid (HE.out HR.out);go_wp2;go_ret;exact ⟨ret_bool HX.out.symm, hb⟩
open Go.RowKit
theorem ent_held : Tryz.prog.stoodInHeld 31 = false := by kernel_rfl
theorem run_ent_eq (s t : Ent) (w : World) : (Op.equalIn 10000 31 (entV s) (entV t)).run Tryz.prog w = .ok (decide (s = t)) w := by
 have gh := ent_held;obtain ⟨a0, a1, a2⟩ := s;obtain ⟨b0, b1, b2⟩ := t;by_cases h0 : a0 = b0
 ·have e0 : (a0 == b0) = true := by rw [beq_iff_eq]; exact h0
  by_cases h1 : a1 = b1
  ·have e1 : (a1 == b1) = true := by rw [beq_iff_eq]; exact h1
   by_cases h2 : a2 = b2
   ·have e2 : (a2 == b2) = true := by rw [beq_iff_eq]; exact h2
    have HR : Hid (decide (Ent.mk a0 a1 a2 = Ent.mk b0 b1 b2) = true) := Lib.hid (by simp [*]);rw [HR.out];clear h0 h1 h2;go_simp
   ·have e2 : (a2 == b2) = false := by rw [beq_eq_false_iff_ne]; exact h2
    have HR : Hid (decide (Ent.mk a0 a1 a2 = Ent.mk b0 b1 b2) = false) := Lib.hid (by simp [*]);rw [HR.out];clear h0 h1 h2;go_simp
  ·have e1 : (a1 == b1) = false := by rw [beq_eq_false_iff_ne]; exact h1
   have HR : Hid (decide (Ent.mk a0 a1 a2 = Ent.mk b0 b1 b2) = false) := Lib.hid (by simp [*]);rw [HR.out];clear h0 h1;go_simp
 ·have e0 : (a0 == b0) = false := by rw [beq_eq_false_iff_ne]; exact h0
  have HR : Hid (decide (Ent.mk a0 a1 a2 = Ent.mk b0 b1 b2) = false) := Lib.hid (by simp [*]);rw [HR.out];clear h0;go_simp
theorem sameEnts_any (l m : List Ent) (v u : Value) (w : World) (hv : EntsIn v l w) (hu : EntsIn u m w) :
 Calls Tryz.prog 14 #[v, u] w fun e w' => e = .returned (.bool (decide (l = m))) ∧ Below w.heap.size w w' := by
 obtain ⟨ad, cap, rfl, c1, c2, c3, -⟩ := entsIn_cells hv;obtain ⟨ad2, cap2, rfl, c1', c2', c3', -⟩ := entsIn_cells hu
 have mixed : Tryz.prog.follows .mixedOrders = true := by kernel_rfl
 have H3 := Lib.hid c3;have H4 := Lib.hid c3';clear c3 c3' hv hu;by_cases hl : l.length = m.length
 ·have dl : ((l.length : Int) != (m.length : Int)) = false := by simp [hl]
  have HE : Hid ((∀ i, i < l.length → eat l i = eat m i) → decide (l = m) = true) := Lib.hid fun h => decide_eq_true (List.ext_getElem hl fun i h1 h2 => by
   have := h i h1
   rwa [eat_eq h1, eat_eq h2] at this)
  have HN : Hid (∀ i, eat l i ≠ eat m i → decide (l = m) = false) := Lib.hid fun i h => decide_eq_false fun e => h (by rw [e]);have HL := Lib.hid hl;clear hl
  go_enter Tryz.func14, Tryz.ntmps14
  go_wp2
  go_loopw [5] (fun p wr => ∃ k : Nat, p = .int .i64 k ∧ k ≤ l.length ∧ Hid (∀ i, i < k → eat l i = eat m i) ∧ Below w.heap.size w wr) (fun p _ => l.length - (intOf p).toNat)
  case atStart => exact ⟨0, rfl, Nat.zero_le _, Lib.hid (fun i h => by omega), Below.refl _ _⟩
  case round =>
   obtain ⟨k, rfl, hk, HK, hb⟩ := hrel;by_cases hlt : k < l.length
   ·have hltm : k < m.length := by have := HL.out; omega
    obtain ⟨g, o, rfl, hg, hc⟩ := H3.out (by omega);obtain ⟨g2, o2, rfl, hg2, hc2⟩ := H4.out (by omega);have k0 := fun p : BelowP wr => (hc p.to (hb.trans (p.h.mono hb.size)) k hlt).1;have k1 := fun p : BelowP wr => (hc p.to (hb.trans (p.h.mono hb.size)) k hlt).2.1;have k2 := fun p : BelowP wr => (hc p.to (hb.trans (p.h.mono hb.size)) k hlt).2.2;have n0 := fun p : BelowP wr => (hc2 p.to (hb.trans (p.h.mono hb.size)) k hltm).1;have n1 := fun p : BelowP wr => (hc2 p.to (hb.trans (p.h.mono hb.size)) k hltm).2.1;have n2 := fun p : BelowP wr => (hc2 p.to (hb.trans (p.h.mono hb.size)) k hltm).2.2;have RE := fun w => run_ent_eq (eat l k) (eat m k) w;by_cases he : eat l k = eat m k
    ·have HKN : Hid (∀ i, i < k + 1 → eat l i = eat m i) := Lib.hid fun i hi => by
      by_cases e : i = k
      ·subst e; exact he
      ·exact HK.out i (by omega)
     rw [decide_eq_true he] at RE;clear HK he hc hc2 HE HN;generalize eat l k = yl at *;generalize eat m k = ym at *;obtain ⟨a0, a1, a2⟩ := yl;obtain ⟨b0, b1, b2⟩ := ym;dsimp only at *;go_wp2;refine wp_region_quiet_below mixed (by kernel_rfl) ?_
     repeat (go_big_quiet_step (fail))
     refine wpQuiet_nil ?_;intro w0q hw';obtain ⟨⟨wq, bq⟩, hw''⟩ := hw';have hw2 : wq = w0q := hw''.symm;clear hw'';subst hw2;have hb2 := bnext hb bq;clear k0 k1 k2 n0 n1 n2 RE;go_wp2;exact ⟨⟨k + 1, by go_num, by omega, HKN, hb2⟩, by simp [intOf]; omega⟩
    ·have HR := Lib.hid (HN.out k he)
     rw [decide_eq_false he] at RE;clear HK he hc hc2 HE HN;generalize eat l k = yl at *;generalize eat m k = ym at *;obtain ⟨a0, a1, a2⟩ := yl;obtain ⟨b0, b1, b2⟩ := ym;dsimp only at *;go_wp2;refine wp_region_quiet_below mixed (by kernel_rfl) ?_
     repeat (go_big_quiet_step (fail))
     refine wpQuiet_nil ?_;intro w0q hw';obtain ⟨⟨wq, bq⟩, hw''⟩ := hw';have hw2 : wq = w0q := hw''.symm;clear hw'';subst hw2;have hb2 := bnext hb bq;clear k0 k1 k2 n0 n1 n2 RE;go_wp2;go_ret;exact ⟨ret_bool (by rw [HR.out]), hb2⟩
   ·obtain rfl : k = l.length := by omega
    have HR := Lib.hid (HE.out HK.out);go_wp2;go_ret;exact ⟨ret_bool (by rw [HR.out]), hb⟩
 ·have dl : ((l.length : Int) != (m.length : Int)) = true := by simp; omega
  have HR : Hid (decide (l = m) = false) := Lib.hid (decide_eq_false fun e => hl (by rw [e]));rw [HR.out];clear hl
  go_enter Tryz.func14, Tryz.ntmps14
  go_wp2;go_ret;exact ⟨rfl, Below.refl _ _⟩
open Go.RowKit
def endsF : List Ent := [⟨0, 0, -70⟩, ⟨0, 0, -71⟩]
def TwinF (B : Nat) (v : Value) (l : List Ent) (w : World) : Prop :=
 ∃ g cap, v = .slice (some ⟨g, 0, none⟩) l.length cap ∧ g < w.heap.size ∧ w.ownsRow B 31 3 (.slice (some ⟨g, 0, none⟩) (l.length + 2) cap) (l.length + 2) (cellsE (l ++ endsF))
theorem twinF_kept {B : Nat} {v : Value} {l : List Ent} {w w' : World} (h : TwinF B v l w) (hb : Below w.heap.size w w') : TwinF B v l w' := by
 obtain ⟨g, cap, e, hg, r⟩ := h;exact ⟨g, cap, e, Nat.lt_of_lt_of_le hg hb.size, row_kept r hb⟩
end Go.Proofs.YtknefoemgifbfaaGreat
