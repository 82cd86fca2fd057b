/- The program's Find, End, Count. -/
import Derived.Test.YtgcbfiecgiijkaaTIdx
import Derived.Test.YtgcbfiecgiijkaaTRef
import Derived.Test.YtgcbfiecgiijkaaStepApp

namespace Go.Proofs.Ytgcbfiecgiijkaa
set_option linter.unusedVariables false
open Go.RowKit

/-- what Find tells -/
def fE (l : List Ent) (p : Int) : Option Ent := if RowOk true l then findE l p else none
def fP (l : List Ent) (p : Int) : Int := match fE l p with | some e => e.phys + p - e.log | none => 0
def fL (l : List Ent) (p : Int) : Int := match fE l p with | some e => e.log + e.len - p | none => 0
def fB (l : List Ent) (p : Int) : Bool := (fE l p).isSome
theorem least_of {q : Nat → Prop} (h : ∃ k, q k) : ∃ k, q k ∧ ∀ j, j < k → ¬ q j := by
  obtain ⟨k, hk⟩ := h
  induction k using Nat.strongRecOn with
  | ind k ih =>
    by_cases c : ∃ j, j < k ∧ q j
    · obtain ⟨j, hj, hq⟩ := c; exact ih j hj hq
    · exact ⟨k, hk, fun j hj hq => c ⟨j, hj, hq⟩⟩
theorem find_none {l : List Ent} {p : Int} (h : ∀ j, j < l.length → ¬ inE (eat l j) p) : findE l p = none := by
  unfold findE
  rw [List.find?_eq_none]
  intro x hx
  obtain ⟨j, hj, rfl⟩ := List.getElem_of_mem hx
  rw [← eat_eq hj]
  simpa using h j hj
theorem f_none {l : List Ent} {p : Int} (h : fE l p = none) : fP l p = 0 ∧ fL l p = 0 ∧ fB l p = false := by unfold fP fL fB; rw [h]; exact ⟨rfl, rfl, rfl⟩
theorem f_some {l : List Ent} {p : Int} {e : Ent} (h : fE l p = some e) : fP l p = e.phys + p - e.log ∧ fL l p = e.log + e.len - p ∧ fB l p = true := by unfold fP fL fB; rw [h]; exact ⟨rfl, rfl, rfl⟩
theorem ext_sz : (Try.prog.info? 37).map (·.size) = some 3 := by kernel_rfl
abbrev foundV (l : List Ent) (p : Int) : Value := .tuple #[.int .i64 (fP l p), .int .i64 (fL l p), .bool (fB l p)]
set_option maxRecDepth 100000 in
set_option maxHeartbeats 4000000 in
theorem xfind_any (l : List Ent) (hf : fitE l) (hl : l.length ≤ 4000) (p : Int) (hp : I64 p) (v : Value) (w : World) (hv : EntsIn v l w) :
    Calls Try.prog 12 #[v, .int .i64 p] w fun e w' => e = .returned (foundV l p) ∧ Below w.heap.size w w' := by
  have mixed : Try.prog.follows .mixedOrders = true := by kernel_rfl
  have C := fun w hv => xcheck_any l hf v w hv
  have hb0 := balloc1 w (.cells #[.int .i64 p] 3)
  have HP0 := Lib.hid (Blk.new #[.int .i64 p] 3 w)
  have HV0 := Lib.hid (hv.kept hb0)
  have hz0 : w.heap.size < (w.alloc (.cells #[.int .i64 p] 3)).heap.size := by rw [size_alloc]; omega
  obtain ⟨hp1, hp2⟩ := hp
  by_cases hok : RowOk true l
  · rw [decide_eq_true hok] at C
    have C := Lib.hid C
    have hr := (row_rise l).1 hok
    have hfe : fE l p = findE l p := by unfold fE; rw [if_pos hok]
    have I : Hid (∀ W, Below w.heap.size w W → EntsIn v l W → Blk w.heap.size #[.int .i64 p] 3 W → Calls Try.prog 36 #[v, .func (.func 37) #[] #[.pointer (some ⟨w.heap.size, 0, none⟩)]] W fun e w' => e = .returned (.int .i64 (idxE (fun e => decide (p < e.log + e.len)) l)) ∧ Below W.heap.size W w') :=
      Lib.hid fun W hb hv hp => idxE_any l 37 #[.pointer (some ⟨w.heap.size, 0, none⟩)] (fun e => decide (p < e.log + e.len)) v W hv (fun _ _ => rfl) fun d hd W2 hb2 => xfind_clo d (hr.mem d hd).1 p w.heap.size W2 (hp.kept1 hb2).lt ((hp.kept1 hb2).cell 0)
    obtain ⟨ad, cap, rfl, c1, c2, c3, -⟩ := entsIn_cells hv
    by_cases hx : ∃ k, k < l.length ∧ (∀ j, j < k → ¬ p < (eat l j).log + (eat l j).len) ∧ p < (eat l k).log + (eat l k).len
    · obtain ⟨k, hk, h1, h2⟩ := hx
      rw [idxE_hit hk (fun j hj => decide_eq_false (h1 j hj)) (decide_eq_true h2)] at I
      obtain ⟨g, o, rfl, hg, hc⟩ := c3 (by omega)
      have hoky := hr.mem _ (eat_mem hk)
      have hky := (entT _).1 hoky.1
      have q0 : decide ((k : Int) < 0) = false := decide_eq_false (by omega)
      have q1 : (0 : Int) ≤ (k : Int) := by omega
      have q2 : (k : Int) < (l.length : Int) := by omega
      by_cases ha : (eat l k).log ≤ p
      · obtain ⟨eP, eL, eB⟩ := f_some (hfe.trans (find_at hr (eat_mem hk) ⟨ha, h2⟩))
        have E := fun w => xend_any (eat l k) ⟨by omega, by omega⟩ w
        have P := fun w => xpart_any (eat l k) p ((eat l k).log + (eat l k).len) ha (by omega) (by omega) hoky.1 w
        have E := Lib.hid E
        have P := Lib.hid P
        have EP := Lib.hid eP
        have EL := Lib.hid eL
        have EB := Lib.hid eB
        have d1 : decide (p < (eat l k).log) = false := decide_eq_false (by omega)
        have HC := Lib.hid fun (W : World) (b : Below w.heap.size w W) => hc W b k hk
        have HF := Lib.hid h2
        clear h1 hoky hc c3 hv hok hr hfe ha eP eL eB h2
        generalize eat l k = y at *
        obtain ⟨ya, yp, yz⟩ := y
        dsimp only at *
        go_enter Try.func12, Try.ntmps12
        go_wp2_with fail
        refine (C.out _ HV0.out).mono ?_; rintro e w1 ⟨rfl, b1⟩
        have hb1 := bnext hb0 b1
        have HP1 := Lib.hid (HP0.out.kept1 b1)
        have HV1 := Lib.hid (HV0.out.kept b1)
        clear C HV0 HP0
        go_wp2_with fail
        refine (I.out _ hb1 HV1.out HP1.out).mono ?_; rintro e w2 ⟨rfl, b2⟩
        have hb2 := bnext hb1 b2
        have HP2 := Lib.hid (HP1.out.kept1 b2)
        clear I HV1 HP1 b1 b2
        have k0 := fun q : BelowP w2 => (HC.out q.to (hb2.trans (q.h.mono hb2.size))).1
        have k1 := fun q : BelowP w2 => (HC.out q.to (hb2.trans (q.h.mono hb2.size))).2.1
        have k2 := fun q : BelowP w2 => (HC.out q.to (hb2.trans (q.h.mono hb2.size))).2.2
        have kp := fun q : BelowP w2 => (HP2.out.kept1 q.h).cell 0
        go_wp2
        refine wp_region_quiet_below mixed (by kernel_rfl) ?_
        repeat (go_big_quiet_step (fail))
        refine wpQuiet_nil ?_
        intro w0q hw'
        obtain ⟨⟨wq, bq⟩, hw''⟩ := hw'
        have hw2 : wq = w0q := hw''.symm
        clear hw''
        subst hw2
        have hb3 := bnext hb2 bq
        have HK : Hid (∀ W, Below wq.heap.size wq W → W.cell? ⟨g, o + k * 3, none⟩ = some (.int .i64 ya) ∧ W.cell? ⟨g, o + k * 3 + 1, none⟩ = some (.int .i64 yp) ∧ W.cell? ⟨g, o + k * 3 + 2, none⟩ = some (.int .i64 yz) ∧ W.cell? ⟨w.heap.size, 0, none⟩ = some (.int .i64 p)) := Lib.hid fun W b => by
          obtain ⟨a1, a2, a3⟩ := HC.out W (bnext hb3 b)
          exact ⟨a1, a2, a3, ((HP2.out.kept1 bq).kept1 b).cell 0⟩
        have hq : Below wq.heap.size wq wq.drew := (Below.refl _ _).drew
        clear k0 k1 k2 kp
        go_wp2
        refine wp_region_held_drew (S := fun w9 => w9.cell? ⟨g, o + k * 3, none⟩ = some (.int .i64 ya) ∧ w9.cell? ⟨g, o + k * 3 + 1, none⟩ = some (.int .i64 yp) ∧ w9.cell? ⟨g, o + k * 3 + 2, none⟩ = some (.int .i64 yz) ∧ w9.cell? ⟨w.heap.size, 0, none⟩ = some (.int .i64 p)) mixed (HK.out _ hq) (fun hHeld => ?_)
        generalize wq.drew = wd at *
        refine wpAnyH_take (i := 0) (oi := _) (v := ?vtf1) rfl (by kernel_rfl) (by kernel_rfl) (by kernel_rfl) (fun _ _ _ h => h) (Or.inl ⟨by kernel_rfl, ?hytf1⟩) hHeld ?resttf1
        case hytf1 => (intro w9 hSw; clear hSw; go_simp; try with_reducible rfl)
        try simp only [Act.put, List.getElem_toArray, List.getElem_cons_zero, List.getElem_cons_succ, List.setIfInBounds_toArray, List.set_cons_zero, List.set_cons_succ]
        refine wpAnyH_take (i := 1) (oi := _) (v := ?vtf2) rfl (by kernel_rfl) (by kernel_rfl) (by kernel_rfl) (fun _ _ _ h => h) (Or.inl ⟨by kernel_rfl, ?hytf2⟩) hHeld ?resttf2
        case hytf2 => (intro w9 hSw; clear hSw; go_simp; try with_reducible rfl)
        try simp only [Act.put, List.getElem_toArray, List.getElem_cons_zero, List.getElem_cons_succ, List.setIfInBounds_toArray, List.set_cons_zero, List.set_cons_succ]
        refine wpAnyH_take (i := 2) (oi := _) (v := ?vtf3) rfl (by kernel_rfl) (by kernel_rfl) (by kernel_rfl) (fun _ _ _ h => h) (Or.inl ⟨by kernel_rfl, ?hytf3⟩) hHeld ?resttf3
        case hytf3 => (intro w9 hSw; clear hSw; go_simp; try with_reducible rfl)
        try simp only [Act.put, List.getElem_toArray, List.getElem_cons_zero, List.getElem_cons_succ, List.setIfInBounds_toArray, List.set_cons_zero, List.set_cons_succ]
        refine wpAnyH_take (i := 3) (oi := _) (v := ?vtf4) rfl (by kernel_rfl) (by kernel_rfl) (by kernel_rfl) (fun _ _ _ h => h) (Or.inl ⟨by kernel_rfl, ?hytf4⟩) hHeld ?resttf4
        case hytf4 => (intro w9 hSw; obtain ⟨e9, f9, g9, h9⟩ := hSw; go_simp; try with_reducible rfl)
        try simp only [Act.put, List.getElem_toArray, List.getElem_cons_zero, List.getElem_cons_succ, List.setIfInBounds_toArray, List.set_cons_zero, List.set_cons_succ]
        refine wpAnyH_take (i := 4) (oi := _) (v := ?vtf5) rfl (by kernel_rfl) (by kernel_rfl) (by kernel_rfl) (fun _ _ _ h => h) (Or.inl ⟨by kernel_rfl, ?hytf5⟩) hHeld ?resttf5
        case hytf5 => (intro w9 hSw; obtain ⟨e9, f9, g9, h9⟩ := hSw; go_simp; try with_reducible rfl)
        try simp only [Act.put, List.getElem_toArray, List.getElem_cons_zero, List.getElem_cons_succ, List.setIfInBounds_toArray, List.set_cons_zero, List.set_cons_succ]
        refine wpAnyH_take (i := 5) (oi := _) (v := ?vtf6) rfl (by kernel_rfl) (by kernel_rfl) (by kernel_rfl) (fun _ _ _ h => h) (Or.inl ⟨by kernel_rfl, ?hytf6⟩) hHeld ?resttf6
        case hytf6 => (intro w9 hSw; clear hSw; go_simp; try with_reducible rfl)
        try simp only [Act.put, List.getElem_toArray, List.getElem_cons_zero, List.getElem_cons_succ, List.setIfInBounds_toArray, List.set_cons_zero, List.set_cons_succ]
        refine wpAnyH_take (i := 6) (oi := _) (v := ?vtf7) rfl (by kernel_rfl) (by kernel_rfl) (by kernel_rfl) (fun _ _ _ h => h) (Or.inl ⟨by kernel_rfl, ?hytf7⟩) hHeld ?resttf7
        case hytf7 => (intro w9 hSw; clear hSw; go_simp; try with_reducible rfl)
        try simp only [Act.put, List.getElem_toArray, List.getElem_cons_zero, List.getElem_cons_succ, List.setIfInBounds_toArray, List.set_cons_zero, List.set_cons_succ]
        refine wpAnyH_take (i := 7) (oi := _) (v := ?vtf8) rfl (by kernel_rfl) (by kernel_rfl) (by kernel_rfl) (fun _ _ _ h => h) (Or.inl ⟨by kernel_rfl, ?hytf8⟩) hHeld ?resttf8
        case hytf8 => (intro w9 hSw; clear hSw; go_simp; try with_reducible rfl)
        try simp only [Act.put, List.getElem_toArray, List.getElem_cons_zero, List.getElem_cons_succ, List.setIfInBounds_toArray, List.set_cons_zero, List.set_cons_succ]
        refine wpAnyH_take (i := 8) (oi := _) (v := ?vtf9) rfl (by kernel_rfl) (by kernel_rfl) (by kernel_rfl) (fun _ _ _ h => h) (Or.inl ⟨by kernel_rfl, ?hytf9⟩) hHeld ?resttf9
        case hytf9 => (intro w9 hSw; obtain ⟨e9, f9, g9, h9⟩ := hSw; go_simp; try with_reducible rfl)
        try simp only [Act.put, List.getElem_toArray, List.getElem_cons_zero, List.getElem_cons_succ, List.setIfInBounds_toArray, List.set_cons_zero, List.set_cons_succ]
        refine wpAnyH_ready (rs := [9, 11]) (by kernel_rfl) (by simp) ?_
        refine AllReadyH.cons (o := _) rfl (fun K hK => ?_) ?_
        · go_simp
          refine (E.out _).mono ?_; rintro e w10 ⟨rfl, b10⟩
          dsimp only
          have q10 := bnext hq b10
          refine hK.out _ _ (HK.out _ q10) (fun hHeld3 => ?_)
          clear hK K hHeld
          have hHeld := hHeld3
          clear hHeld3
          try simp only [Act.put, List.getElem_toArray, List.getElem_cons_zero, List.getElem_cons_succ, List.setIfInBounds_toArray, List.set_cons_zero, List.set_cons_succ]
          refine wpAnyH_ready (rs := [10, 11]) (by kernel_rfl) (by simp) ?_
          refine AllReadyH.cons (o := _) rfl (fun K hK => ?_) ?_
          · go_simp
            refine (P.out _).mono ?_; rintro e w11 ⟨rfl, b11⟩
            dsimp only
            have q11 := bnext q10 b11
            refine hK.out _ _ (HK.out _ q11) (fun hHeld3 => ?_)
            clear hK K hHeld
            have hHeld := hHeld3
            clear hHeld3
            try simp only [Act.put, List.getElem_toArray, List.getElem_cons_zero, List.getElem_cons_succ, List.setIfInBounds_toArray, List.set_cons_zero, List.set_cons_succ]
            refine wpAnyH_ready (rs := [11]) (by kernel_rfl) (by simp) ?_
            refine AllReadyH.cons (o := _) rfl (fun K hK => ?_) ?_
            · obtain ⟨w12, hw12⟩ : ∃ w9, w11.alloc (.cells #[.int .i64 0, .int .i64 0, .int .i64 0] 37) = w9 := ⟨_, rfl⟩
              have b12 : Below w11.heap.size w11 w12 := by rw [← hw12]; exact balloc1 _ _
              have q12 := bnext q11 b12
              have hz12 : w12.heap.size = w11.heap.size + 1 := by rw [← hw12]; exact size_alloc _ _
              have hB12 : Blk w11.heap.size #[.int .i64 0, .int .i64 0, .int .i64 0] 37 w12 := by rw [← hw12]; exact Blk.new _ _ _
              have HX := Lib.hid hB12
              have HZ12 := Lib.hid hz12
              have HW12 := Lib.hid hw12
              clear hB12 hz12 hw12
              go_simp
              try rw [HW12.out]
              refine hK.out _ _ (HK.out _ q12) (fun hHeld3 => ?_)
              clear hK K hHeld
              have hHeld := hHeld3
              clear hHeld3
              try simp only [Act.put, List.getElem_toArray, List.getElem_cons_zero, List.getElem_cons_succ, List.setIfInBounds_toArray, List.set_cons_zero, List.set_cons_succ]
              refine wpAnyH_ready (rs := [12]) (by kernel_rfl) (by simp) ?_
              refine AllReadyH.cons (o := _) rfl (fun K hK => ?_) ?_
              · obtain ⟨w13, hw13⟩ : ∃ w9, w12.setRow w11.heap.size #[.int .i64 p, .int .i64 (yp + p - ya), .int .i64 (ya + yz - p)] = w9 := ⟨_, rfl⟩
                have hB13 : Blk w11.heap.size #[.int .i64 p, .int .i64 (yp + p - ya), .int .i64 (ya + yz - p)] 37 w13 := by rw [← hw13]; exact setRow_blk HX.out _
                have q13 : Below wq.heap.size wq w13 := q12.trans (by rw [← hw13]; exact setRow_below q11.size _)
                have HW13 := Lib.hid hw13
                clear hw13
                rw [if_pos (by kernel_rfl)]
                refine wp_store_row 37 _ _ rfl w11.heap.size #[.int .i64 p, .int .i64 (yp + p - ya), .int .i64 (ya + yz - p)] rfl rfl _ _ HX.out ext_sz rfl (by simp [Value.oneCell']) ?_
                rw [HW13.out]
                have HX := Lib.hid hB13
                clear hB13
                refine hK.out _ _ (HK.out _ q13) (fun hHeld3 => ?_)
                clear hK K hHeld
                have hHeld := hHeld3
                clear hHeld3
                try simp only [Act.put, List.getElem_toArray, List.getElem_cons_zero, List.getElem_cons_succ, List.setIfInBounds_toArray, List.set_cons_zero, List.set_cons_succ]
                refine ⟨by kernel_rfl, ?_⟩
                clear hHeld
                have hb9 := hb3.trans (q13.mono hb3.size)
                have k0 := fun q : BelowP w13 => (HX.out.kept1 q.h).cell 1
                have k1 := fun q : BelowP w13 => (HX.out.kept1 q.h).cell 2
                simp only [List.getElem?_toArray, List.getElem?_cons_zero, List.getElem?_cons_succ] at k0 k1
                go_wp2
                refine wp_region_quiet_below mixed (by kernel_rfl) ?_
                repeat (go_big_quiet_step (fail))
                refine wpQuiet_nil ?_
                intro w0q hw'
                obtain ⟨⟨wq, bq⟩, hw''⟩ := hw'
                have hw2 : wq = w0q := hw''.symm
                clear hw''
                subst hw2
                have hb10 := bnext hb9 bq
                go_wp2
                go_ret3
                exact ⟨by rw [foundV, EP.out, EL.out, EB.out]; rfl, hb10⟩
              exact AllReadyH.nil
            exact AllReadyH.nil
          refine AllReadyH.cons (o := _) rfl (fun K hK => ?_) ?_
          · obtain ⟨w14, hw14⟩ : ∃ w9, w10.alloc (.cells #[.int .i64 0, .int .i64 0, .int .i64 0] 37) = w9 := ⟨_, rfl⟩
            have b14 : Below w10.heap.size w10 w14 := by rw [← hw14]; exact balloc1 _ _
            have q14 := bnext q10 b14
            have hz14 : w14.heap.size = w10.heap.size + 1 := by rw [← hw14]; exact size_alloc _ _
            have hB14 : Blk w10.heap.size #[.int .i64 0, .int .i64 0, .int .i64 0] 37 w14 := by rw [← hw14]; exact Blk.new _ _ _
            have HX := Lib.hid hB14
            have HZ14 := Lib.hid hz14
            have HW14 := Lib.hid hw14
            clear hB14 hz14 hw14
            go_simp
            try rw [HW14.out]
            refine hK.out _ _ (HK.out _ q14) (fun hHeld3 => ?_)
            clear hK K hHeld
            have hHeld := hHeld3
            clear hHeld3
            try simp only [Act.put, List.getElem_toArray, List.getElem_cons_zero, List.getElem_cons_succ, List.setIfInBounds_toArray, List.set_cons_zero, List.set_cons_succ]
            refine wpAnyH_ready (rs := [10]) (by kernel_rfl) (by simp) ?_
            refine AllReadyH.cons (o := _) rfl (fun K hK => ?_) ?_
            · go_simp
              refine (P.out _).mono ?_; rintro e w15 ⟨rfl, b15⟩
              dsimp only
              have q15 := bnext q14 b15
              have HX := Lib.hid (HX.out.kept1 b15)
              refine hK.out _ _ (HK.out _ q15) (fun hHeld3 => ?_)
              clear hK K hHeld
              have hHeld := hHeld3
              clear hHeld3
              try simp only [Act.put, List.getElem_toArray, List.getElem_cons_zero, List.getElem_cons_succ, List.setIfInBounds_toArray, List.set_cons_zero, List.set_cons_succ]
              refine wpAnyH_ready (rs := [12]) (by kernel_rfl) (by simp) ?_
              refine AllReadyH.cons (o := _) rfl (fun K hK => ?_) ?_
              · obtain ⟨w16, hw16⟩ : ∃ w9, w15.setRow w10.heap.size #[.int .i64 p, .int .i64 (yp + p - ya), .int .i64 (ya + yz - p)] = w9 := ⟨_, rfl⟩
                have hB16 : Blk w10.heap.size #[.int .i64 p, .int .i64 (yp + p - ya), .int .i64 (ya + yz - p)] 37 w16 := by rw [← hw16]; exact setRow_blk HX.out _
                have q16 : Below wq.heap.size wq w16 := q15.trans (by rw [← hw16]; exact setRow_below q10.size _)
                have HW16 := Lib.hid hw16
                clear hw16
                rw [if_pos (by kernel_rfl)]
                refine wp_store_row 37 _ _ rfl w10.heap.size #[.int .i64 p, .int .i64 (yp + p - ya), .int .i64 (ya + yz - p)] rfl rfl _ _ HX.out ext_sz rfl (by simp [Value.oneCell']) ?_
                rw [HW16.out]
                have HX := Lib.hid hB16
                clear hB16
                refine hK.out _ _ (HK.out _ q16) (fun hHeld3 => ?_)
                clear hK K hHeld
                have hHeld := hHeld3
                clear hHeld3
                try simp only [Act.put, List.getElem_toArray, List.getElem_cons_zero, List.getElem_cons_succ, List.setIfInBounds_toArray, List.set_cons_zero, List.set_cons_succ]
                refine ⟨by kernel_rfl, ?_⟩
                clear hHeld
                have hb9 := hb3.trans (q16.mono hb3.size)
                have k0 := fun q : BelowP w16 => (HX.out.kept1 q.h).cell 1
                have k1 := fun q : BelowP w16 => (HX.out.kept1 q.h).cell 2
                simp only [List.getElem?_toArray, List.getElem?_cons_zero, List.getElem?_cons_succ] at k0 k1
                go_wp2
                refine wp_region_quiet_below mixed (by kernel_rfl) ?_
                repeat (go_big_quiet_step (fail))
                refine wpQuiet_nil ?_
                intro w0q hw'
                obtain ⟨⟨wq, bq⟩, hw''⟩ := hw'
                have hw2 : wq = w0q := hw''.symm
                clear hw''
                subst hw2
                have hb10 := bnext hb9 bq
                go_wp2
                go_ret3
                exact ⟨by rw [foundV, EP.out, EL.out, EB.out]; rfl, hb10⟩
              exact AllReadyH.nil
            exact AllReadyH.nil
          exact AllReadyH.nil
        refine AllReadyH.cons (o := _) rfl (fun K hK => ?_) ?_
        · obtain ⟨w17, hw17⟩ : ∃ w9, wd.alloc (.cells #[.int .i64 0, .int .i64 0, .int .i64 0] 37) = w9 := ⟨_, rfl⟩
          have b17 : Below wd.heap.size wd w17 := by rw [← hw17]; exact balloc1 _ _
          have q17 := bnext hq b17
          have hz17 : w17.heap.size = wd.heap.size + 1 := by rw [← hw17]; exact size_alloc _ _
          have hB17 : Blk wd.heap.size #[.int .i64 0, .int .i64 0, .int .i64 0] 37 w17 := by rw [← hw17]; exact Blk.new _ _ _
          have HX := Lib.hid hB17
          have HZ17 := Lib.hid hz17
          have HW17 := Lib.hid hw17
          clear hB17 hz17 hw17
          go_simp
          try rw [HW17.out]
          refine hK.out _ _ (HK.out _ q17) (fun hHeld3 => ?_)
          clear hK K hHeld
          have hHeld := hHeld3
          clear hHeld3
          try simp only [Act.put, List.getElem_toArray, List.getElem_cons_zero, List.getElem_cons_succ, List.setIfInBounds_toArray, List.set_cons_zero, List.set_cons_succ]
          refine wpAnyH_ready (rs := [9]) (by kernel_rfl) (by simp) ?_
          refine AllReadyH.cons (o := _) rfl (fun K hK => ?_) ?_
          · go_simp
            refine (E.out _).mono ?_; rintro e w18 ⟨rfl, b18⟩
            dsimp only
            have q18 := bnext q17 b18
            have HX := Lib.hid (HX.out.kept1 b18)
            refine hK.out _ _ (HK.out _ q18) (fun hHeld3 => ?_)
            clear hK K hHeld
            have hHeld := hHeld3
            clear hHeld3
            try simp only [Act.put, List.getElem_toArray, List.getElem_cons_zero, List.getElem_cons_succ, List.setIfInBounds_toArray, List.set_cons_zero, List.set_cons_succ]
            refine wpAnyH_ready (rs := [10]) (by kernel_rfl) (by simp) ?_
            refine AllReadyH.cons (o := _) rfl (fun K hK => ?_) ?_
            · go_simp
              refine (P.out _).mono ?_; rintro e w19 ⟨rfl, b19⟩
              dsimp only
              have q19 := bnext q18 b19
              have HX := Lib.hid (HX.out.kept1 b19)
              refine hK.out _ _ (HK.out _ q19) (fun hHeld3 => ?_)
              clear hK K hHeld
              have hHeld := hHeld3
              clear hHeld3
              try simp only [Act.put, List.getElem_toArray, List.getElem_cons_zero, List.getElem_cons_succ, List.setIfInBounds_toArray, List.set_cons_zero, List.set_cons_succ]
              refine wpAnyH_ready (rs := [12]) (by kernel_rfl) (by simp) ?_
              refine AllReadyH.cons (o := _) rfl (fun K hK => ?_) ?_
              · obtain ⟨w20, hw20⟩ : ∃ w9, w19.setRow wd.heap.size #[.int .i64 p, .int .i64 (yp + p - ya), .int .i64 (ya + yz - p)] = w9 := ⟨_, rfl⟩
                have hB20 : Blk wd.heap.size #[.int .i64 p, .int .i64 (yp + p - ya), .int .i64 (ya + yz - p)] 37 w20 := by rw [← hw20]; exact setRow_blk HX.out _
                have q20 : Below wq.heap.size wq w20 := q19.trans (by rw [← hw20]; exact setRow_below hq.size _)
                have HW20 := Lib.hid hw20
                clear hw20
                rw [if_pos (by kernel_rfl)]
                refine wp_store_row 37 _ _ rfl wd.heap.size #[.int .i64 p, .int .i64 (yp + p - ya), .int .i64 (ya + yz - p)] rfl rfl _ _ HX.out ext_sz rfl (by simp [Value.oneCell']) ?_
                rw [HW20.out]
                have HX := Lib.hid hB20
                clear hB20
                refine hK.out _ _ (HK.out _ q20) (fun hHeld3 => ?_)
                clear hK K hHeld
                have hHeld := hHeld3
                clear hHeld3
                try simp only [Act.put, List.getElem_toArray, List.getElem_cons_zero, List.getElem_cons_succ, List.setIfInBounds_toArray, List.set_cons_zero, List.set_cons_succ]
                refine ⟨by kernel_rfl, ?_⟩
                clear hHeld
                have hb9 := hb3.trans (q20.mono hb3.size)
                have k0 := fun q : BelowP w20 => (HX.out.kept1 q.h).cell 1
                have k1 := fun q : BelowP w20 => (HX.out.kept1 q.h).cell 2
                simp only [List.getElem?_toArray, List.getElem?_cons_zero, List.getElem?_cons_succ] at k0 k1
                go_wp2
                refine wp_region_quiet_below mixed (by kernel_rfl) ?_
                repeat (go_big_quiet_step (fail))
                refine wpQuiet_nil ?_
                intro w0q hw'
                obtain ⟨⟨wq, bq⟩, hw''⟩ := hw'
                have hw2 : wq = w0q := hw''.symm
                clear hw''
                subst hw2
                have hb10 := bnext hb9 bq
                go_wp2
                go_ret3
                exact ⟨by rw [foundV, EP.out, EL.out, EB.out]; rfl, hb10⟩
              exact AllReadyH.nil
            exact AllReadyH.nil
          exact AllReadyH.nil
        exact AllReadyH.nil
      · have hn : fE l p = none := hfe.trans (find_none fun j hj => by
          unfold inE
          rcases Nat.lt_trichotomy j k with h | rfl | h
          · have := h1 j h; omega
          · omega
          · have := rise_lt hr h hj; omega)
        obtain ⟨eP, eL, eB⟩ := f_none hn
        have EP := Lib.hid eP
        have EL := Lib.hid eL
        have EB := Lib.hid eB
        have d1 : decide (p < (eat l k).log) = true := decide_eq_true (by omega)
        have HC := Lib.hid fun (W : World) (b : Below w.heap.size w W) => hc W b k hk
        clear h1 hoky hc c3 hv hok hr hfe ha eP eL eB h2 hn hky
        generalize eat l k = y at *
        obtain ⟨ya, yp, yz⟩ := y
        dsimp only at *
        go_enter Try.func12, Try.ntmps12
        go_wp2_with fail
        refine (C.out _ HV0.out).mono ?_; rintro e w1 ⟨rfl, b1⟩
        have hb1 := bnext hb0 b1
        have HP1 := Lib.hid (HP0.out.kept1 b1)
        have HV1 := Lib.hid (HV0.out.kept b1)
        clear C HV0 HP0
        go_wp2_with fail
        refine (I.out _ hb1 HV1.out HP1.out).mono ?_; rintro e w2 ⟨rfl, b2⟩
        have hb2 := bnext hb1 b2
        have HP2 := Lib.hid (HP1.out.kept1 b2)
        clear I HV1 HP1 b1 b2
        have k0 := fun q : BelowP w2 => (HC.out q.to (hb2.trans (q.h.mono hb2.size))).1
        have kp := fun q : BelowP w2 => (HP2.out.kept1 q.h).cell 0
        go_wp2
        refine wp_region_quiet_below mixed (by kernel_rfl) ?_
        repeat (go_big_quiet_step (fail))
        refine wpQuiet_nil ?_
        intro w0q hw'
        obtain ⟨⟨wq, bq⟩, hw''⟩ := hw'
        have hw2 : wq = w0q := hw''.symm
        clear hw''
        subst hw2
        have hb3 := bnext hb2 bq
        clear k0 kp
        go_wp2
        go_ret3
        exact ⟨by rw [foundV, EP.out, EL.out, EB.out]; rfl, hb3⟩
    · rw [idxE_miss (fun j hj => decide_eq_false fun h => hx (by
        have hex : ∃ k, (k < l.length ∧ p < (eat l k).log + (eat l k).len) ∧ ∀ j, j < k → ¬ (j < l.length ∧ p < (eat l j).log + (eat l j).len) := least_of ⟨j, hj, h⟩
        obtain ⟨k, ⟨k1, k2⟩, k3⟩ := hex
        exact ⟨k, k1, fun j hj h => k3 j hj ⟨by omega, h⟩, k2⟩))] at I
      have hn : fE l p = none := hfe.trans (find_none fun j hj h => hx (by
        have hex : ∃ k, (k < l.length ∧ p < (eat l k).log + (eat l k).len) ∧ ∀ j, j < k → ¬ (j < l.length ∧ p < (eat l j).log + (eat l j).len) := least_of ⟨j, hj, h.2⟩
        obtain ⟨k, ⟨k1, k2⟩, k3⟩ := hex
        exact ⟨k, k1, fun j hj h => k3 j hj ⟨by omega, h⟩, k2⟩))
      obtain ⟨eP, eL, eB⟩ := f_none hn
      have EP := Lib.hid eP
      have EL := Lib.hid eL
      have EB := Lib.hid eB
      clear c3 hv hok hr hfe eP eL eB hn hx
      go_enter Try.func12, Try.ntmps12
      go_wp2_with fail
      refine (C.out _ HV0.out).mono ?_; rintro e w1 ⟨rfl, b1⟩
      have hb1 := bnext hb0 b1
      have HP1 := Lib.hid (HP0.out.kept1 b1)
      have HV1 := Lib.hid (HV0.out.kept b1)
      clear C HV0 HP0
      go_wp2_with fail
      refine (I.out _ hb1 HV1.out HP1.out).mono ?_; rintro e w2 ⟨rfl, b2⟩
      have hb2 := bnext hb1 b2
      have HP2 := Lib.hid (HP1.out.kept1 b2)
      clear I HV1 HP1 b1 b2
      go_wp2
      refine wp_region_quiet_below mixed (by kernel_rfl) ?_
      repeat (go_big_quiet_step (fail))
      refine wpQuiet_nil ?_
      intro w0q hw'
      obtain ⟨⟨wq, bq⟩, hw''⟩ := hw'
      have hw2 : wq = w0q := hw''.symm
      clear hw''
      subst hw2
      have hb3 := bnext hb2 bq
      go_wp2
      go_ret3
      exact ⟨by rw [foundV, EP.out, EL.out, EB.out]; rfl, hb3⟩
  · rw [decide_eq_false hok] at C
    have hfe : fE l p = none := by unfold fE; rw [if_neg hok]
    obtain ⟨eP, eL, eB⟩ := f_none hfe
    have C := Lib.hid C
    clear hok hfe
    unfold foundV
    rw [eP, eL, eB]
    obtain ⟨ad, cap, rfl, -⟩ := entsIn_cells hv
    go_enter Try.func12, Try.ntmps12
    go_wp2_with fail
    refine (C.out _ HV0.out).mono ?_; rintro e w1 ⟨rfl, b1⟩
    go_wp2
    go_ret3
    exact ⟨rfl, bnext hb0 b1⟩
end Go.Proofs.Ytgcbfiecgiijkaa
