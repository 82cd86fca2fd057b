/- Blocks, lost. -/
import Derived.Test.YtgcbfiecgiijkaaTTwin
import Derived.Test.YtgcbfiecgiijkaaTLostM
import Derived.Test.YtgcbfiecgiijkaaRMeet
namespace Go.Proofs.Ytgcbfiecgiijkaa
set_option linter.unusedVariables false
open Go.RowKit Go.Shelf

abbrev blocksV (l : List Ent) : List (Int × Int) := if RowOk true l then blocksX l else []
theorem phys_take {l : List Ent} {k : Nat} (h : k < l.length) : physR (l.take (k + 1)) = physR (l.take k) ++ [((eat l k).phys, (eat l k).len)] := by
  unfold physR
  rw [List.take_succ_eq_append_getElem h, List.map_append, eat_eq h]; rfl
theorem runs_app {B : Nat} {v : Value} {l m : List (Int × Int)} {w : World} (h : w.ownsRow B 32 2 v (l.length + m.length) (cellsR (l ++ m))) : RunsAt B v (l ++ m) w := by
  show w.ownsRow _ _ _ _ (l ++ m).length _
  rw [List.length_append]; exact h
theorem fitR_phys {l : List Ent} (h : ∀ e ∈ l, EntOk true e) : fitR (physR l) := fun r hr => phys_fit h r hr
set_option maxRecDepth 100000 in
set_option maxHeartbeats 4000000 in
theorem xblocks_any (l : List Ent) (hf : fitE l) (hl : l.length ≤ 4000) (v : Value) (w : World) (hv : EntsIn v l w) :
    Calls Try.prog 14 #[v] w fun e w' => ∃ v', e = .returned v' ∧ RunsAt w.heap.size v' (blocksV l) w' ∧ Below w.heap.size w w' := by
  have C := fun w hv => xcheck_any l hf v w hv
  have HV := Lib.hid hv
  obtain ⟨ad, cap, rfl, c1, c2, c3, -⟩ := entsIn_cells hv
  have H3 := Lib.hid c3
  clear c3 hv
  unfold blocksV
  by_cases hok : RowOk true l
  · rw [decide_eq_true hok] at C
    have C := Lib.hid C
    rw [if_pos hok]
    have hr := (row_rise l).1 hok
    have N := Lib.hid fun v W hv => norm_any (physR l) (fitR_phys fun e he => (hr.mem e he).1) (by rw [phys_len]; omega) v W hv
    have HT : Hid (∀ k, k < l.length → physR (l.take (k + 1)) = physR (l.take k) ++ [((eat l k).phys, (eat l k).len)]) := Lib.hid fun k hk => phys_take hk
    have HN : Hid (∀ k, k ≤ l.length → (physR (l.take k)).length = k) := Lib.hid fun k hk => by rw [phys_len, List.length_take]; omega
    have H0 : Hid (physR (l.take 0) = []) := Lib.hid rfl
    have HF : Hid (physR (l.take l.length) = physR l) := Lib.hid (by rw [List.take_length])
    obtain ⟨P, hP⟩ : ∃ P : Nat → List (Int × Int), P = fun k => physR (l.take k) := ⟨_, rfl⟩
    have HT : Hid (∀ k, k < l.length → P (k + 1) = P k ++ [((eat l k).phys, (eat l k).len)]) := Lib.hid (by rw [hP]; exact HT.out)
    have HN : Hid (∀ k, k ≤ l.length → (P k).length = k) := Lib.hid (by rw [hP]; exact HN.out)
    have H0 : Hid (P 0 = []) := Lib.hid (by rw [hP]; exact H0.out)
    have HF : Hid (P l.length = physR l) := Lib.hid (by rw [hP]; exact HF.out)
    have HB : Hid (normR (physR l) = blocksX l) := Lib.hid rfl
    rw [← HB.out]
    clear hP hok hr HB
    go_enter Try.func14, Try.ntmps14
    go_wp2_with fail
    refine (C.out _ HV.out).mono ?_; rintro e w1 ⟨rfl, b1⟩
    obtain ⟨i0, hi, hz0, hz1, hz2⟩ := info_parts info_run
    obtain ⟨w2, hmk, hown0, hg0⟩ := run_make_own (P := Try.prog) (w := w1) w1.heap.size 26 32 i0 (.agg #[.int .i64 0, .int .i64 0]) 2 Try.underlying26 hi hz0 hz1 .i64 .i64 l.length (by rw [hz2]; omega) (by unfold maxLen; omega) (Nat.le_refl _)
    have hmk : (Instr.makeSlice 26 (.int .i64 0) (.int .i64 (l.length : Int))).run Try.prog w1 = .ok (.slice (some ⟨w1.heap.size, 0, none⟩) 0 l.length) w2 := by rw [← hmk]
    have hb2 : Below w.heap.size w w2 := bnext b1 ((Below.refl _ _).grown hg0 (Nat.le_refl _) (fun k hk => by cases hk))
    have hown0 : RunsAt w.heap.size (.slice (some ⟨w1.heap.size, 0, none⟩) 0 l.length) [] w2 := row_down b1.size hown0
    have hown0 := Lib.hid hown0
    have hb2 := Lib.hid hb2
    clear hi hz0 hz1 hz2 hg0 b1 C HV
    go_wp2
    go_loopw [3, 14] (fun vo p wr => ∃ k : Nat, p = .int .i64 k ∧ k ≤ l.length ∧ Hid (RunsAt w.heap.size vo (P k) wr) ∧ Below w.heap.size w wr) (fun _ p _ => l.length - (intOf p).toNat)
    case atStart => exact ⟨0, rfl, Nat.zero_le _, Lib.hid (by rw [H0.out]; exact hown0.out), hb2.out⟩
    case round =>
      clear hown0 hb2 hmk
      obtain ⟨k, rfl, hk, HO, hb⟩ := hrel
      by_cases hlt : k < l.length
      · obtain ⟨g, o, rfl, hg, hc⟩ := H3.out (by omega)
        obtain ⟨x1, x2, x3⟩ := hc wr hb k hlt
        have HE := Lib.hid (HT.out k hlt)
        have hln := HN.out k hk
        have kb := Blk.new (entC (eat l k)) 37 wr
        have hb1 := balloc hb (.cells (entC (eat l k)) 37)
        have HO1 := Lib.hid (HO.out.alloc (.cells (entC (eat l k)) 37))
        have hs1 := hb1.size
        clear hc H3 HT HN HO
        generalize P k = out at *
        generalize eat l k = y at *
        obtain ⟨ya, yp, yz⟩ := y
        dsimp only at *
        have k1 := kb.cell 1
        have k2 := kb.cell 2
        simp only [List.getElem?_toArray, List.getElem?_cons_zero, List.getElem?_cons_succ] at k1 k2
        have hlen : out.length ≤ 4000 := by omega
        clear kb hln
        go_upto_region 7 with fail
        generalize wr.alloc (.cells #[.int .i64 ya, .int .i64 yp, .int .i64 yz] 37) = w3 at *
        go_wp2_with (at_builtin; refine wpList_app rfl _ _ rfl w.heap.size _ out rfl (HO1.out.alloc _) ⟨w3.heap.size, 0, none⟩ 1 1 [(yp, yz)] rfl rfl (new_cells1 _ _ _) (by omega) (by rw [size_alloc]; omega) ?_)
        intro v' w4 h4 b4
        have h4 := Lib.hid h4
        have hb4 := (balloc hb1 _).trans b4
        clear HO1 hb1 b4 k1 k2
        go_wp2
        exact ⟨⟨k + 1, by go_num, by omega, Lib.hid (by rw [HE.out]; exact h4.out), hb4⟩, by simp [intOf]; omega⟩
      · obtain rfl : k = l.length := by omega
        have HI := Lib.hid (runsAt_in HO.out)
        rw [HF.out] at HI
        obtain ⟨ad2, cap2, rfl, -⟩ := id HI.out
        have hs := hb.size
        clear HO HT HN
        go_wp2_with fail
        refine (N.out _ _ HI.out).mono ?_; rintro e w5 ⟨v5, rfl, h5, b5⟩
        have h5 := Lib.hid (row_down hs h5)
        go_wp2
        go_ret
        exact ⟨_, rfl, h5.out, bnext hb b5⟩
  · rw [decide_eq_false hok] at C
    have C := Lib.hid C
    rw [if_neg hok]
    clear hok H3
    go_enter Try.func14, Try.ntmps14
    go_wp2_with fail
    refine (C.out _ HV.out).mono ?_; rintro e w1 ⟨rfl, b1⟩
    go_wp2
    go_ret
    exact ⟨_, rfl, World.ownsRow_nil _ _ _ _, b1⟩
set_option maxRecDepth 100000 in
set_option maxHeartbeats 4000000 in
theorem xlost_any (R O : List Ent) (hR : Rise 0 R) (hO : Rise 0 O) (hr : R.length ≤ 4000) (ho : O.length ≤ 4000) (v u : Value) (w : World) (hv : EntsIn v R w) (hu : EntsIn u O w) :
    Calls Try.prog 46 #[v, u] w fun e w' => ∃ v', e = .returned v' ∧ RunsAt w.heap.size v' (lostX R O) w' ∧ Below w.heap.size w w' := by
  have B1 := xblocks_any R (ok_fit fun e he => (hR.mem e he).1) hr v w hv
  have B2 := fun W hu => xblocks_any O (ok_fit fun e he => (hO.mem e he).1) ho u W hu
  unfold blocksV at B1 B2
  rw [if_pos ((row_rise R).2 hR)] at B1
  rw [if_pos ((row_rise O).2 hO)] at B2
  have hlr : (blocksX R).length ≤ 4000 := by have := norm_len (physR R); rw [phys_len] at this; unfold blocksX; omega
  have hlo : (blocksX O).length ≤ 4000 := by have := norm_len (physR O); rw [phys_len] at this; unfold blocksX; omega
  have M := Lib.hid fun v u W hv hu => minus_any (blocksX R) (blocksX O) (fit_norm _) (fit_norm _) (by omega) v u W hv hu
  have HU := Lib.hid hu
  have B1 := Lib.hid B1
  have B2 := Lib.hid B2
  obtain ⟨ad, cap, rfl, -⟩ := entsIn_cells hv
  obtain ⟨ad2, cap2, rfl, -⟩ := entsIn_cells hu
  unfold lostX
  clear hv hu
  by_cases h0 : R.length = 0
  · rw [if_pos h0]
    have d0 : ((R.length : Int) == 0) = true := by rw [beq_iff_eq]; omega
    go_enter Try.func46, Try.ntmps46
    go_wp2
    go_ret
    exact ⟨_, rfl, World.ownsRow_nil _ _ _ _, Below.refl _ _⟩
  · rw [if_neg h0]
    have d0 : ((R.length : Int) == 0) = false := by rw [beq_eq_false_iff_ne]; omega
    generalize blocksX R = X at *
    generalize blocksX O = Y at *
    go_enter Try.func46, Try.ntmps46
    go_wp2_with fail
    refine B1.out.mono ?_; rintro e w1 ⟨v1, rfl, r1, b1⟩
    have HU1 := Lib.hid (HU.out.kept b1)
    have R1 := Lib.hid r1
    clear HU r1
    go_wp2_with fail
    refine (B2.out _ HU1.out).mono ?_; rintro e w2 ⟨v2, rfl, r2, b2⟩
    have R1 := Lib.hid (runsAt_in (row_kept R1.out b2))
    have R2 := Lib.hid (runsAt_in r2)
    have hb2 := bnext b1 b2
    have hs := hb2.size
    clear HU1 r2
    go_wp2_with fail
    refine (M.out _ _ _ R1.out R2.out).mono ?_; rintro e w3 ⟨v3, rfl, r3, b3⟩
    have R3 := Lib.hid (row_down hs r3)
    go_wp2
    go_ret
    exact ⟨_, rfl, R3.out, bnext hb2 b3⟩
end Go.Proofs.Ytgcbfiecgiijkaa
