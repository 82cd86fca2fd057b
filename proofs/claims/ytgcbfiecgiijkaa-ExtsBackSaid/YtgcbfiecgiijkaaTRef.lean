/- The document's Check, Find, End, Count. -/
import Derived.Test.YtgcbfiecgiijkaaTWithin
import Derived.Test.YtgcbfiecgiijkaaQMix
namespace Go.Proofs.Ytgcbfiecgiijkaa
set_option linter.unusedVariables false
open Go.RowKit

set_option maxRecDepth 100000 in
set_option maxHeartbeats 4000000 in
theorem xrcheck_any (l : List Ent) (hf : fitE l) (hl : l.length ≤ 4000) (v : Value) (w : World) (hv : EntsIn v l w) :
    Calls Try.prog 17 #[v] w fun e w' => e = .returned (.bool (decide (RowOk true l))) ∧ Below w.heap.size w w' := by
  obtain ⟨ad, cap, rfl, c1, c2, c3, -⟩ := entsIn_cells hv
  have mixed : Try.prog.follows .mixedOrders = true := by kernel_rfl
  have H3 := Lib.hid c3
  have V := Lib.hid fun v w hv => rrow_any true l hf v w hv
  have HT : Hid (∀ k, k < l.length → l.take (k + 1) = l.take k ++ [eat l k]) := Lib.hid fun k hk => by rw [List.take_succ_eq_append_getElem hk, eat_eq hk]
  have HF : Hid (l.take l.length = l) := Lib.hid (List.take_length)
  clear c3 hv
  go_enter Try.func17, Try.ntmps17
  go_wp2
  go_loopw [3, 4] (fun vo p wr => ∃ (k : Nat) (out : List Ent), p = .int .i64 k ∧ k ≤ l.length ∧ out.length ≤ k ∧ Hid (out = l.take k) ∧ EntsAt w.heap.size vo out wr ∧ Below w.heap.size w wr) (fun _ p _ => l.length - (intOf p).toNat)
  case atStart => exact ⟨0, [], rfl, Nat.zero_le _, Nat.le_refl _, Lib.hid rfl, World.ownsRow_nil _ _ _ _, Below.refl _ _⟩
  case round =>
    obtain ⟨k, out, rfl, hk, hol, HR, hown, hb⟩ := hrel
    by_cases hlt : k < l.length
    · obtain ⟨g, o, rfl, hg, hc⟩ := H3.out (by omega)
      have k0 := fun p : BelowP wr => (hc p.to (hb.trans (p.h.mono hb.size)) k hlt).1
      have k1 := fun p : BelowP wr => (hc p.to (hb.trans (p.h.mono hb.size)) k hlt).2.1
      have k2 := fun p : BelowP wr => (hc p.to (hb.trans (p.h.mono hb.size)) k hlt).2.2
      have HR2 : Hid (out ++ [eat l k] = l.take (k + 1)) := Lib.hid (by rw [HT.out k hlt, HR.out])
      clear hc
      generalize eat l k = yk at *
      obtain ⟨ea, ep, ez⟩ := yk
      dsimp only at *
      clear V HT H3 HR
      go_wp2
      refine wp_region_mix 17 mixed (by kernel_rfl) (v := ?vmix1) rfl (fun _ _ _ h => h) (Or.inl ⟨by kernel_rfl, ?hymix1⟩) ?restmix1
      case hymix1 => (intro w9 _; go_simp; try with_reducible rfl)
      simp only [List.take_succ_cons, List.take_zero, List.drop_succ_cons, List.drop_zero]
      try simp only [Act.put, List.setIfInBounds_toArray, List.set_cons_zero, List.set_cons_succ]
      repeat (go_big_quiet_step (fail))
      refine wpQuiet_nil ?_
      intro w0q hw'
      obtain ⟨⟨wq, bq⟩, hw''⟩ := hw'
      have hw2 : wq = w0q := hw''.symm
      clear hw''
      subst hw2
      have hb2 := bnext hb bq
      have hown2 := row_kept hown bq
      have hs2 := hb2.size
      clear hb hown k0 k1 k2
      go_wp2_with (at_builtin; refine wpList_app3 rfl _ _ 56 57 rfl Try.underlying56 entry_info w.heap.size _ out ⟨ea, ep, ez⟩ rfl (hown2.alloc _) wq rfl _ rfl rfl (by omega) (by rw [size_alloc]; omega) ?_)
      intro v' w4 h4 g4
      have hb4 := (balloc hb2 _).trans (below_of_row (hown2.alloc _) g4 (by rw [size_alloc]; omega))
      clear hown2 g4 hb2
      go_wp2
      exact ⟨⟨k + 1, _, by go_num, by omega, by simp; omega, HR2, ents_snoc h4, hb4⟩, by simp [intOf]; omega⟩
    · obtain rfl : k = l.length := by omega
      rw [HR.out, HF.out] at hown
      have hI := Lib.hid (entsAt_in hown)
      obtain ⟨ad2, cap2, rfl, -⟩ := shape_of hown
      clear hown
      go_wp2_with fail
      refine (V.out _ _ hI.out).mono ?_; rintro e w1 ⟨rfl, b1⟩
      go_wp2
      go_ret
      exact ⟨rfl, bnext hb b1⟩
theorem endX_at {l : List Ent} {m : Nat} (h : l.length = m + 1) : endX l = (eat l m).log + (eat l m).len := by
  rcases ent_snoc_cases l with rfl | ⟨k, q, rfl⟩
  · simp at h
  · have hm : m = k.length := by simp at h; omega
    subst hm
    rw [endX_snoc, eat_append_at]
set_option maxRecDepth 100000 in
set_option maxHeartbeats 4000000 in
theorem xrend_any (l : List Ent) (hf : fitE l) (hl : l.length ≤ 4000) (v : Value) (w : World) (hv : EntsIn v l w) :
    Calls Try.prog 20 #[v] w fun e w' => e = .returned (.int .i64 (if RowOk true l then endX l else 0)) ∧ Below w.heap.size w w' := by
  have C := Lib.hid fun w hv => xrcheck_any l hf hl v w hv
  obtain ⟨ad, cap, rfl, c1, c2, c3, -⟩ := entsIn_cells hv
  have mixed : Try.prog.follows .mixedOrders = true := by kernel_rfl
  have HV := Lib.hid hv
  by_cases hok : RowOk true l
  · rw [decide_eq_true hok] at C
    rw [if_pos hok]
    by_cases h0 : l.length = 0
    · have hnil : l = [] := List.length_eq_zero_iff.1 h0
      subst hnil
      clear c3 hv hok
      go_enter Try.func20, Try.ntmps20
      go_wp2_with fail
      refine (C.out _ HV.out).mono ?_; rintro e w1 ⟨rfl, b1⟩
      go_wp2
      go_ret
      exact ⟨rfl, b1⟩
    · obtain ⟨m, hm⟩ : ∃ m, l.length = m + 1 := ⟨l.length - 1, by omega⟩
      have hml : m ≤ 4000 := by omega
      obtain ⟨g, o, rfl, hg, hc⟩ := c3 (by omega)
      have hmem := ((row_rise l).1 hok).mem (eat l m) (eat_mem (by omega))
      have hk := (entT _).1 hmem.1
      have HE : Hid (endX l = (eat l m).log + (eat l m).len) := Lib.hid (endX_at hm)
      have k0 := fun (W : World) (b : Below w.heap.size w W) (p : BelowP W) => (hc p.to (b.trans (p.h.mono b.size)) m (by omega)).1
      have k2 := fun (W : World) (b : Below w.heap.size w W) (p : BelowP W) => (hc p.to (b.trans (p.h.mono b.size)) m (by omega)).2.2
      rw [HE.out]
      rw [hm] at *
      have dl : ((m : Int) + 1 == 0) = false := by rw [beq_eq_false_iff_ne]; omega
      have dw : IntKind.i64.wrap (m : Int) = (m : Int) := IntWalk.i64_in _ (by omega)
      have b1' : (0 : Int) ≤ (m : Int) := by omega
      have b2' : (m : Int) < (m : Int) + 1 := by omega
      clear hc hv hok h0 hmem HE hm
      generalize eat l m = y at *
      obtain ⟨ya, yp, yz⟩ := y
      dsimp only at *
      go_enter Try.func20, Try.ntmps20
      go_wp2_with fail
      refine (C.out _ HV.out).mono ?_; rintro e w1 ⟨rfl, b1⟩
      have k0 := k0 w1 b1
      have k2 := k2 w1 b1
      clear C HV
      go_wp2
      refine wp_region_quiet_below mixed (by kernel_rfl) ?_
      repeat (go_big_quiet_step (fail))
      refine wpQuiet_nil ?_
      intro w0q hw'
      obtain ⟨⟨wq, bq⟩, hw''⟩ := hw'
      have hw2 : wq = w0q := hw''.symm
      clear hw''
      subst hw2
      have hb2 := bnext b1 bq
      go_wp2
      go_ret
      exact ⟨rfl, hb2⟩
  · rw [decide_eq_false hok] at C
    rw [if_neg hok]
    clear c3 hv hok
    go_enter Try.func20, Try.ntmps20
    go_wp2_with fail
    refine (C.out _ HV.out).mono ?_; rintro e w1 ⟨rfl, b1⟩
    go_wp2
    go_ret
    exact ⟨rfl, b1⟩
end Go.Proofs.Ytgcbfiecgiijkaa
