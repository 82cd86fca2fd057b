/- rooted; the document's May, Row. -/
import Derived.Test.YtfepjjjoikcljaaINum
import Derived.Deep.CutBlock
import Derived.Deep.DeepCutAuto
namespace Go.Proofs.Ytfepjjjoikcljaa
set_option linter.unusedVariables false
open Go.RowKit

def RootOk (depth : Int) (l : List Ent) : Prop := l.length ≤ 4 ∧ RowOk (decide (depth = 0)) l ∧ (depth = 0 ∨ 0 < l.length)
instance (d : Int) (l : List Ent) : Decidable (RootOk d l) := by unfold RootOk; infer_instance
theorem rowOk_no {leaf : Bool} {l : List Ent} {k : Nat} (hk : k < l.length) (h : ¬ (EntOk leaf (eat l k) ∧ (0 < k → After (eat l (k - 1)) (eat l k)))) : ¬ RowOk leaf l := fun g => h (g k hk)
theorem rowTo_end {leaf : Bool} {l : List Ent} {k : Nat} (h : RowTo leaf l k) (j : Nat) (hj : j < k) : 0 ≤ (eat l j).log + (eat l j).len ∧ (eat l j).log + (eat l j).len ≤ 10000 := entOk_end (h j hj).1
set_option maxRecDepth 100000 in
set_option maxHeartbeats 4000000 in
/-- the loop over the entries -/
theorem rooted_row (depth : Int) (lf : Bool) (hlf : (depth == 0) = lf) (l : List Ent) (hf : fitE l) (v : Value) (w : World) (hv : EntsIn v l w) (h4 : l.length ≤ 4) (h0 : decide (0 < depth) = false ∨ ((l.length : Int) == 0) = false) :
    Calls Try.prog 23 #[.int .i64 depth, v] w fun e w' => e = .returned (.bool (decide (RowOk lf l))) ∧ Below w.heap.size w w' := by
  obtain ⟨ad, cap, rfl, c1, c2, c3, -⟩ := entsIn_cells hv
  have mixed : Try.prog.follows .mixedOrders = true := by kernel_rfl
  have d4 : decide ((4 : Int) < (l.length : Int)) = false := decide_eq_false (by omega)
  have H3 := Lib.hid c3
  clear c3 hv
  have REST : ∀ (dp : Bool) (z : Bool), decide (0 < depth) = dp → ((l.length : Int) == 0) = z → (dp = false ∨ z = false) → Calls Try.prog 23 #[.int .i64 depth, .slice ad l.length cap] w fun e w' => e = .returned (.bool (decide (RowOk lf l))) ∧ Below w.heap.size w w' := by
    intro dp z hdp hz hno
    cases dp <;> cases z
    case true.true => simp at hno
    all_goals
      clear hno h0
      go_enter Try.func23, Try.ntmps23
      go_wp2
      go_loopw [21] (fun p wr => ∃ k : Nat, p = .int .i64 k ∧ k ≤ l.length ∧ Hid (RowTo lf l k) ∧ Below w.heap.size w wr) (fun p _ => l.length - (intOf p).toNat)
      case atStart => exact ⟨0, rfl, Nat.zero_le _, Lib.hid (rowTo_zero _ _), Below.refl _ _⟩
      case round =>
        clear hz d4 hdp
        obtain ⟨k, rfl, hk, HK, hb⟩ := hrel
        by_cases hlt : k < l.length
        · obtain ⟨g, o, rfl, hg, hc⟩ := H3.out (by omega)
          have hgr : g < wr.heap.size := Nat.lt_of_lt_of_le hg hb.size
          obtain ⟨x1, x2, x3⟩ := hc wr hb k hlt
          have hfk := fitE_at hf hlt
          have HS : Hid (RowTo lf l k → EntOk lf (eat l k) → (0 < k → After (eat l (k - 1)) (eat l k)) → RowTo lf l (k + 1)) := Lib.hid fun a b c => rowTo_succ.2 ⟨a, b, c⟩
          have HN : Hid (¬ (EntOk lf (eat l k) ∧ (0 < k → After (eat l (k - 1)) (eat l k))) → decide (RowOk lf l) = false) := Lib.hid fun h => decide_eq_false (rowOk_no hlt h)
          have V := fun w => ivalid_any (eat l k) hfk.2.2 lf w
          have hbq := balloc hb (.cells (entC (eat l k)) 26)
          have kb := ent_new wr (eat l k) 26
          have k0 := fun p => (kb p).1
          have k1 := fun p => (kb p).2.1
          have k2 := fun p => (kb p).2.2
          by_cases hok : EntOk lf (eat l k)
          · rw [decide_eq_true hok] at V
            rcases Nat.eq_zero_or_pos k with hk0 | hk0
            · have HE := Lib.hid (HS.out HK.out hok fun h => by omega)
              have V := Lib.hid V
              have d0 : decide (0 < k) = false := decide_eq_false (by omega)
              clear hk0 hok HS HN hc kb
              generalize eat l k = yk at *
              obtain ⟨ea, ep, ez⟩ := yk
              dsimp only at *
              go_wp2
              generalize wr.alloc (.cells #[.int .i64 ea, .int .i64 ep, .int .i64 ez] 26) = w1 at *
              refine wp_region_quiet_below mixed (by kernel_rfl) ?_
              repeat (go_big_quiet_step (first | (go_at_call 37; refine calls_below (V.out _))))
              refine wpQuiet_nil ?_
              intro w0q hw'
              obtain ⟨⟨wq, bq⟩, hw''⟩ := hw'
              have hw2 : wq = w0q := hw''.symm
              clear hw''
              subst hw2
              have hb2 := bnext hbq bq
              go_wp2
              exact ⟨⟨k + 1, by go_num, by omega, HE, hb2⟩, by simp [intOf]; omega⟩
            · obtain ⟨j, rfl⟩ : ∃ j, k = j + 1 := ⟨k - 1, by omega⟩
              have d0 : decide (0 < j + 1) = true := decide_eq_true (by omega)
              have j0 := fun p : BelowP (wr.alloc (.cells (entC (eat l (j + 1))) 26)) => (hc p.to (hbq.trans (p.h.mono hbq.size)) j (by omega)).1
              have j1 := fun p : BelowP (wr.alloc (.cells (entC (eat l (j + 1))) 26)) => (hc p.to (hbq.trans (p.h.mono hbq.size)) j (by omega)).2.1
              have j2 := fun p : BelowP (wr.alloc (.cells (entC (eat l (j + 1))) 26)) => (hc p.to (hbq.trans (p.h.mono hbq.size)) j (by omega)).2.2
              have F := fun w => follows_any (eat l j) (eat l (j + 1)) (rowTo_end HK.out j (by omega)) w
              have hgq : g < (wr.alloc (.cells (entC (eat l (j + 1))) 26)).heap.size := by rw [size_alloc]; omega
              by_cases ha : After (eat l j) (eat l (j + 1))
              · rw [decide_eq_true ha] at F
                have HE := Lib.hid (HS.out HK.out hok fun _ => ha)
                have V := Lib.hid V
                have F := Lib.hid F
                clear hok HS HN hc kb ha HK hk0 hfk
                generalize eat l (j + 1) = yk at *
                generalize eat l j = yj at *
                obtain ⟨fa, fp, fz⟩ := yj
                obtain ⟨ea, ep, ez⟩ := yk
                dsimp only at *
                go_wp2
                generalize wr.alloc (.cells #[.int .i64 ea, .int .i64 ep, .int .i64 ez] 26) = w1 at *
                refine wp_region_quiet_below mixed (by kernel_rfl) ?_
                repeat (go_big_quiet_step (first | (go_at_call 37; refine calls_below (V.out _)) | (go_at_call 38; refine calls_below (F.out _))))
                refine wpQuiet_nil ?_
                intro w0q hw'
                obtain ⟨⟨wq, bq⟩, hw''⟩ := hw'
                have hw2 : wq = w0q := hw''.symm
                clear hw''
                subst hw2
                have hb2 := bnext hbq bq
                go_wp2
                exact ⟨⟨j + 1 + 1, by go_num, by omega, HE, hb2⟩, by simp [intOf]; omega⟩
              · rw [decide_eq_false ha] at F
                have HE := Lib.hid (HN.out fun h => ha (h.2 (by omega)))
                have V := Lib.hid V
                have F := Lib.hid F
                clear hok HS HN hc kb ha HK hk0 hfk
                generalize eat l (j + 1) = yk at *
                generalize eat l j = yj at *
                obtain ⟨fa, fp, fz⟩ := yj
                obtain ⟨ea, ep, ez⟩ := yk
                dsimp only at *
                go_wp2
                generalize wr.alloc (.cells #[.int .i64 ea, .int .i64 ep, .int .i64 ez] 26) = w1 at *
                refine wp_region_quiet_below mixed (by kernel_rfl) ?_
                repeat (go_big_quiet_step (first | (go_at_call 37; refine calls_below (V.out _)) | (go_at_call 38; refine calls_below (F.out _))))
                refine wpQuiet_nil ?_
                intro w0q hw'
                obtain ⟨⟨wq, bq⟩, hw''⟩ := hw'
                have hw2 : wq = w0q := hw''.symm
                clear hw''
                subst hw2
                have hb2 := bnext hbq bq
                go_wp2
                go_ret
                exact ⟨ret_bool (by rw [HE.out]), hb2⟩
          · rw [decide_eq_false hok] at V
            have HE := Lib.hid (HN.out fun h => hok h.1)
            have V := Lib.hid V
            clear hok HS HN hc kb HK hfk
            generalize eat l k = yk at *
            obtain ⟨ea, ep, ez⟩ := yk
            dsimp only at *
            go_wp2
            generalize wr.alloc (.cells #[.int .i64 ea, .int .i64 ep, .int .i64 ez] 26) = w1 at *
            refine wp_region_quiet_below mixed (by kernel_rfl) ?_
            repeat (go_big_quiet_step (first | (go_at_call 37; refine calls_below (V.out _))))
            refine wpQuiet_nil ?_
            intro w0q hw'
            obtain ⟨⟨wq, bq⟩, hw''⟩ := hw'
            have hw2 : wq = w0q := hw''.symm
            clear hw''
            subst hw2
            have hb2 := bnext hbq bq
            go_wp2
            go_ret
            exact ⟨ret_bool (by rw [HE.out]), hb2⟩
        · obtain rfl : k = l.length := by omega
          have HE : Hid (decide (RowOk lf l) = true) := Lib.hid (decide_eq_true HK.out)
          go_wp2
          go_ret
          exact ⟨ret_bool (by rw [HE.out]), hb⟩
  exact REST _ _ rfl rfl h0
theorem rooted_any (depth : Int) (hd : 0 ≤ depth) (l : List Ent) (hf : fitE l) (v : Value) (w : World) (hv : EntsIn v l w) :
    Calls Try.prog 23 #[.int .i64 depth, v] w fun e w' => e = .returned (.bool (decide (RootOk depth l))) ∧ Below w.heap.size w w' := by
  by_cases h4 : l.length ≤ 4
  · by_cases h0 : depth = 0 ∨ 0 < l.length
    · have HR : decide (RootOk depth l) = decide (RowOk (decide (depth = 0)) l) := by rw [decide_eq_decide]; unfold RootOk; simp [h4, h0]
      rw [HR]
      refine rooted_row depth _ (by rw [Bool.eq_iff_iff]; simp) l hf v w hv h4 ?_
      rcases h0 with h0 | h0
      · exact .inl (decide_eq_false (by omega))
      · exact .inr (by rw [beq_eq_false_iff_ne]; omega)
    · have HR : Hid (decide (RootOk depth l) = false) := Lib.hid (decide_eq_false fun k => h0 k.2.2)
      rw [HR.out]
      obtain ⟨ad, cap, rfl, c1, c2, -⟩ := entsIn_cells hv
      have d4 : decide ((4 : Int) < (l.length : Int)) = false := decide_eq_false (by omega)
      have d0 : decide ((0 : Int) < depth) = true := decide_eq_true (by omega)
      have z0 : ((l.length : Int) == 0) = true := by rw [beq_iff_eq]; omega
      clear HR h0 h4 hv
      go_enter Try.func23, Try.ntmps23
      go_wp2
      go_ret
      exact ⟨rfl, Below.refl _ _⟩
  · have HR : Hid (decide (RootOk depth l) = false) := Lib.hid (decide_eq_false fun k => h4 k.1)
    rw [HR.out]
    obtain ⟨ad, cap, rfl, c1, c2, -⟩ := entsIn_cells hv
    have d4 : decide ((4 : Int) < (l.length : Int)) = true := decide_eq_true (by omega)
    clear HR h4 hv
    go_enter Try.func23, Try.ntmps23
    go_wp2
    go_ret
    exact ⟨rfl, Below.refl _ _⟩
end Go.Proofs.Ytfepjjjoikcljaa
