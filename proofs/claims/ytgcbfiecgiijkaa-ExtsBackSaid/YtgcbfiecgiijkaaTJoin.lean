/- joined, says. -/
import Derived.Test.YtgcbfiecgiijkaaTTwin
import Derived.Test.YtgcbfiecgiijkaaTMath
namespace Go.Proofs.Ytgcbfiecgiijkaa
set_option linter.unusedVariables false
set_option linter.unusedSimpArgs false
open Go.RowKit Go.Shelf

theorem cellsE_last (l : List Ent) (q : Ent) (n : Int) : (cellsE (l ++ [q])).set (l.length * 3 + 2) (.int .i64 n) = cellsE (l ++ [⟨q.log, q.phys, n⟩]) := by
  rw [cellsE_append, cellsE_append, List.set_append_right _ _ (by rw [cellsE_length]; omega), cellsE_length, show l.length * 3 + 2 - l.length * 3 = 2 by omega]; rfl
theorem joinE_ok {out : List Ent} (h : ∀ x ∈ out, EntOk true x) {e : Ent} (he : EntOk true e) : ∀ x ∈ joinStep out e, EntOk true x := by
  rcases ent_snoc_cases out with rfl | ⟨m, q, rfl⟩
  · intro x hx
    have : x = e := by simpa [joinStep] using hx
    subst this; exact he
  · rw [joinStep_snoc]
    have hq := (entT q).1 (h q (by simp))
    have hee := (entT e).1 he
    split
    · rename_i c
      intro x hx
      rcases List.mem_append.1 hx with hx | hx
      · exact h x (by simp [hx])
      · simp at hx; subst hx
        rw [entT]; simp only; omega
    · intro x hx
      rcases List.mem_append.1 hx with hx | hx
      · exact h x hx
      · simp at hx; subst hx; exact he
theorem joinX_take {l : List Ent} {k : Nat} (h : k < l.length) : joinX (l.take (k + 1)) = joinStep (joinX (l.take k)) (eat l k) := by
  unfold joinX
  rw [List.take_succ_eq_append_getElem h, List.foldl_append, eat_eq h]; rfl
theorem joinX_ok {l : List Ent} (h : ∀ x ∈ l, EntOk true x) : ∀ k, k ≤ l.length → ∀ x ∈ joinX (l.take k), EntOk true x
  | 0, _ => fun x hx => by simp [joinX] at hx
  | k + 1, hk => by
    rw [joinX_take (by omega)]
    exact joinE_ok (joinX_ok h k (by omega)) (h _ (by rw [eat_eq (show k < l.length by omega)]; exact List.getElem_mem _))
theorem joinStep_len (out : List Ent) (e : Ent) : (joinStep out e).length ≤ out.length + 1 := by
  rcases ent_snoc_cases out with rfl | ⟨m, q, rfl⟩
  · simp [joinStep]
  · rw [joinStep_snoc]; split <;> simp
theorem joinX_len (l : List Ent) : ∀ k, (joinX (l.take k)).length ≤ k
  | 0 => by simp [joinX]
  | k + 1 => by
    by_cases h : k < l.length
    · rw [joinX_take h]; have := joinX_len l k; have := joinStep_len (joinX (l.take k)) (eat l k); omega
    · have e : l.take (k + 1) = l.take k := by rw [List.take_of_length_le (by omega), List.take_of_length_le (by omega)]
      rw [e]; have := joinX_len l k; omega
set_option maxRecDepth 100000 in
set_option maxHeartbeats 8000000 in
theorem joined_any (l : List Ent) (hok : ∀ x ∈ l, EntOk true x) (hl : l.length ≤ 3000) (v : Value) (w : World) (hv : EntsIn v l w) :
    Calls Try.prog 52 #[v] w fun e w' => ∃ v', e = .returned v' ∧ ExtsAt w.heap.size v' (joinX l) w' ∧ Below w.heap.size w w' := by
  have mixed : Try.prog.follows .mixedOrders = true := by kernel_rfl
  obtain ⟨ad, cap, rfl, c1, c2, c3, -⟩ := entsIn_cells hv
  have H3 := Lib.hid c3
  have HOK := Lib.hid hok
  obtain ⟨J, hJ⟩ : ∃ J : Nat → List Ent, J = fun k => joinX (l.take k) := ⟨_, rfl⟩
  have HS : Hid (∀ k, k < l.length → J (k + 1) = joinStep (J k) (eat l k)) := Lib.hid (by rw [hJ]; exact fun k hk => joinX_take hk)
  have HK : Hid (∀ k, k ≤ l.length → ∀ x ∈ J k, EntOk true x) := Lib.hid (by rw [hJ]; exact joinX_ok hok)
  have HL : Hid (∀ k, (J k).length ≤ k) := Lib.hid (by rw [hJ]; exact joinX_len l)
  have H0 : Hid (J 0 = []) := Lib.hid (by rw [hJ]; rfl)
  have HF : Hid (J l.length = joinX l) := Lib.hid (by rw [hJ]; show joinX (l.take l.length) = _; rw [List.take_length])
  clear hJ c3 hv hok
  go_enter Try.func52, Try.ntmps52
  go_wp2
  go_loopw [3, 4, 5] (fun vo p p5 wr => ∃ k : Nat, p = .int .i64 k ∧ k ≤ l.length ∧ Hid (ExtsAt w.heap.size vo (J k) wr) ∧ Below w.heap.size w wr) (fun _ p _ _ => l.length - (intOf p).toNat)
  case atStart => exact ⟨0, rfl, Nat.zero_le _, Lib.hid (by rw [H0.out]; exact World.ownsRow_nil _ _ _ _), Below.refl _ _⟩
  case round =>
    obtain ⟨k, rfl, hk, HO, hb⟩ := hrel
    by_cases hlt : k < l.length
    · obtain ⟨g, o, rfl, hg, hc⟩ := H3.out (by omega)
      have hoky := (entT _).1 (HOK.out _ (eat_mem hlt))
      have HSk := HS.out k hlt
      have HKk := HK.out k hk
      have hlk := HL.out k
      have HC := Lib.hid fun W (b : Below w.heap.size w W) => hc W b k hlt
      clear hc H3 HOK HS HK HL H0 HF
      generalize eat l k = y at *
      obtain ⟨ya, yp, yz⟩ := y
      dsimp only at *
      rcases ent_snoc_cases (J k) with hj | ⟨m, q, hj⟩
      · rw [hj] at HO HSk
        have HN : Hid (J (k + 1) = [] ++ [⟨ya, yp, yz⟩]) := Lib.hid HSk
        clear hj HSk HKk hlk
        obtain ⟨ado, cpo, hso, -⟩ := shape_of HO.out
        have hso : _ = Value.slice ado 0 cpo := hso
        subst hso
        have k0 := fun p : BelowP wr => (HC.out p.to (hb.trans (p.h.mono hb.size))).1
        have k1 := fun p : BelowP wr => (HC.out p.to (hb.trans (p.h.mono hb.size))).2.1
        have k2 := fun p : BelowP wr => (HC.out p.to (hb.trans (p.h.mono hb.size))).2.2
        go_wp2
        refine wp_region_quiet_below mixed (by kernel_rfl) ?_
        repeat (go_big_quiet_step (fail))
        refine wpQuiet_nil ?_
        intro w0q hw'
        obtain ⟨⟨wq, bq⟩, hw''⟩ := hw'
        have hw2 : wq = w0q := hw''.symm
        clear hw''
        subst hw2
        have HO := Lib.hid (row_kept HO.out bq)
        have hb := bnext hb bq
        clear k0 k1 k2
        obtain ⟨x0, x1, x2⟩ := HC.out wq hb
        have hs := hb.size
        have wz := wq
        go_wp2_with (at_builtin; refine wpList_app3 rfl _ _ 22 37 rfl Try.underlying22 ext_info w.heap.size _ [] ⟨ya, yp, yz⟩ rfl (HO.out.alloc _) wq rfl _ rfl rfl (by simp) (by rw [size_alloc]; omega) ?_)
        intro v' w7 h7 g7
        have hb7 := (balloc hb _).trans (below_of_row (HO.out.alloc _) g7 (by rw [size_alloc]; omega))
        have h7 := Lib.hid h7
        clear HO g7 x0 x1 x2 hb
        go_wp2
        exact ⟨⟨k + 1, by go_num, by omega, Lib.hid (by rw [HN.out]; exact h7.out), hb7⟩, by simp [intOf]; omega⟩
      · rw [hj] at HO HSk HKk hlk
        rw [joinStep_snoc] at HSk
        have hq := (entT q).1 (HKk q (by simp))
        rw [List.length_append, List.length_singleton] at hlk
        have hO : wr.ownsRow w.heap.size 37 3 _ (m ++ [q]).length (cellsE (m ++ [q])) := HO.out
        rw [List.length_append, List.length_singleton] at hO
        obtain ⟨ado, cpo, hso, hcp1, hcp2, hgo⟩ := shape_of hO
        obtain ⟨go9, rfl, hgB, hgl⟩ := hgo (by omega)
        subst hso
        have e0 : eat (m ++ [q]) m.length = q := eat_append_at m q
        obtain ⟨y0, y1, y2⟩ := cellsE_at (m ++ [q]) m.length (by simp)
        have r0 := fun p : BelowP wr => ((row_kept hO p.h).cellAt (m.length * 3) (by omega)).trans y0
        have r1 := fun p : BelowP wr => ((row_kept hO p.h).cellAt (m.length * 3 + 1) (by omega)).trans y1
        have r2 := fun p : BelowP wr => ((row_kept hO p.h).cellAt (m.length * 3 + 2) (by omega)).trans y2
        have HO := Lib.hid hO
        have HY2 := Lib.hid y2
        have HE0 := Lib.hid e0
        clear y0 y1 y2 hO
        rw [e0] at r0 r1 r2
        have hcp2 : cpo ≤ 9223372036854775807 := hcp2
        have k0 := fun p : BelowP wr => (HC.out p.to (hb.trans (p.h.mono hb.size))).1
        have k1 := fun p : BelowP wr => (HC.out p.to (hb.trans (p.h.mono hb.size))).2.1
        have k2 := fun p : BelowP wr => (HC.out p.to (hb.trans (p.h.mono hb.size))).2.2
        clear hj e0 HKk hgo
        obtain ⟨qa, qp, qz⟩ := q
        dsimp only at *
        have dw : IntKind.i64.wrap (m.length : Int) = (m.length : Int) := IntWalk.i64_in _ (by omega)
        have b1' : (0 : Int) ≤ (m.length : Int) := by omega
        have b2' : (m.length : Int) < (m.length : Int) + 1 := by omega
        by_cases t1 : qa + qz = ya
        · have d1 : (qa + qz == ya) = true := by rw [beq_iff_eq]; exact t1
          by_cases t2 : qp + qz = yp
          · have d2 : (qp + qz == yp) = true := by rw [beq_iff_eq]; exact t2
            rw [if_pos ⟨t1, t2⟩] at HSk
            have HN := Lib.hid HSk
            clear HSk t1 t2
            go_wp2
            refine wp_region_quiet_below mixed (by kernel_rfl) ?_
            repeat (go_big_quiet_step (fail))
            refine wpQuiet_nil ?_
            intro w0q hw'
            obtain ⟨⟨wq, bq⟩, hw''⟩ := hw'
            have hw2 : wq = w0q := hw''.symm
            clear hw''
            subst hw2
            have HO := Lib.hid (row_kept HO.out bq)
            have hb := bnext hb bq
            clear k0 k1 k2 r0 r1 r2
            have k2 := fun p : BelowP wq => (HC.out p.to (hb.trans (p.h.mono hb.size))).2.2
            have r2 := fun p : BelowP wq => ((row_kept HO.out p.h).cellAt (m.length * 3 + 2) (by omega)).trans HY2.out
            rw [HE0.out] at r2
            dsimp only at r2
            have hw0 := bq
            clear bq
            go_wp2
            refine wp_region_tail_below 15 mixed (by kernel_rfl) ?_
            simp only [List.take_succ_cons, List.take_zero, List.drop_succ_cons, List.drop_zero]
            repeat (go_big_quiet_step (fail))
            refine wpQuiet_nil ?_
            intro w0q hw'
            obtain ⟨⟨wq, bq⟩, hw''⟩ := hw'
            have hw2 : wq = w0q := hw''.symm
            clear hw''
            subst hw2
            have HO := Lib.hid (row_kept HO.out bq)
            have hb := bnext hb bq
            have r2 := r2 ⟨wq, bq⟩
            dsimp only at r2
            have fz := HO.out.frozenAt (m.length * 3 + 2)
            have HS2 := Lib.hid (HO.out.stored (m.length * 3 + 2) (.int .i64 (qz + yz))).1
            rw [cellsE_last] at HS2
            dsimp only at HS2
            have hb3 := hb.setCell (p := ⟨go9, m.length * 3 + 2, none⟩) hgB (.int .i64 (qz + yz))
            clear k2 HO hb HY2 HE0
            go_wp2
            exact ⟨⟨k + 1, by go_num, by omega, Lib.hid (by rw [HN.out]; exact ents_snoc HS2.out), hb3⟩, by simp [intOf]; omega⟩
          · have d2 : (qp + qz == yp) = false := by rw [beq_eq_false_iff_ne]; exact t2
            rw [if_neg (by rintro ⟨h1, h2⟩; exact t2 h2)] at HSk
            have HN := Lib.hid HSk
            clear HSk
            go_wp2
            refine wp_region_quiet_below mixed (by kernel_rfl) ?_
            repeat (go_big_quiet_step (fail))
            refine wpQuiet_nil ?_
            intro w0q hw'
            obtain ⟨⟨wq, bq⟩, hw''⟩ := hw'
            have hw2 : wq = w0q := hw''.symm
            clear hw''
            subst hw2
            have HO := Lib.hid (row_kept HO.out bq)
            have hb := bnext hb bq
            obtain ⟨x0, x1, x2⟩ := HC.out wq hb
            clear k0 k1 k2 r0 r1 r2 HY2 HE0
            have hs := hb.size
            have HO2 : Hid (wq.ownsRow w.heap.size 37 3 (.slice (some ⟨go9, 0, none⟩) (m.length + 1) cpo) (m ++ [(⟨qa, qp, qz⟩ : Ent)]).length (cellsE (m ++ [(⟨qa, qp, qz⟩ : Ent)]))) := Lib.hid (ents_snoc HO.out)
            obtain ⟨ML, hML⟩ : ∃ ML, ML = m ++ [(⟨qa, qp, qz⟩ : Ent)] := ⟨_, rfl⟩
            have hlm : ML.length ≤ 3000 := by rw [hML]; simp; omega
            rw [← hML] at HO2 HN
            clear hML HO
            go_wp2_with (at_builtin; refine wpList_app3 rfl _ _ 22 37 rfl Try.underlying22 ext_info w.heap.size _ ML ⟨ya, yp, yz⟩ rfl (HO2.out.alloc _) wq rfl _ rfl rfl (by omega) (by rw [size_alloc]; omega) ?_)
            intro v' w7 h7 g7
            have hb7 := (balloc hb _).trans (below_of_row (HO2.out.alloc _) g7 (by rw [size_alloc]; omega))
            have h7 := Lib.hid h7
            clear HO2 g7 x0 x1 x2 hb
            go_wp2
            exact ⟨⟨k + 1, by go_num, by omega, Lib.hid (by rw [HN.out]; first | exact h7.out | exact ents_snoc h7.out), hb7⟩, by simp [intOf]; omega⟩
        · have d1 : (qa + qz == ya) = false := by rw [beq_eq_false_iff_ne]; exact t1
          rw [if_neg (by rintro ⟨h1, h2⟩; exact t1 h1)] at HSk
          have HN := Lib.hid HSk
          clear HSk
          go_wp2
          refine wp_region_quiet_below mixed (by kernel_rfl) ?_
          repeat (go_big_quiet_step (fail))
          refine wpQuiet_nil ?_
          intro w0q hw'
          obtain ⟨⟨wq, bq⟩, hw''⟩ := hw'
          have hw2 : wq = w0q := hw''.symm
          clear hw''
          subst hw2
          have HO := Lib.hid (row_kept HO.out bq)
          have hb := bnext hb bq
          obtain ⟨x0, x1, x2⟩ := HC.out wq hb
          clear k0 k1 k2 r0 r1 r2 HY2 HE0
          have hs := hb.size
          have HO2 : Hid (wq.ownsRow w.heap.size 37 3 (.slice (some ⟨go9, 0, none⟩) (m.length + 1) cpo) (m ++ [(⟨qa, qp, qz⟩ : Ent)]).length (cellsE (m ++ [(⟨qa, qp, qz⟩ : Ent)]))) := Lib.hid (ents_snoc HO.out)
          obtain ⟨ML, hML⟩ : ∃ ML, ML = m ++ [(⟨qa, qp, qz⟩ : Ent)] := ⟨_, rfl⟩
          have hlm : ML.length ≤ 3000 := by rw [hML]; simp; omega
          rw [← hML] at HO2 HN
          clear hML HO
          go_wp2_with (at_builtin; refine wpList_app3 rfl _ _ 22 37 rfl Try.underlying22 ext_info w.heap.size _ ML ⟨ya, yp, yz⟩ rfl (HO2.out.alloc _) wq rfl _ rfl rfl (by omega) (by rw [size_alloc]; omega) ?_)
          intro v' w7 h7 g7
          have hb7 := (balloc hb _).trans (below_of_row (HO2.out.alloc _) g7 (by rw [size_alloc]; omega))
          have h7 := Lib.hid h7
          clear HO2 g7 x0 x1 x2 hb
          go_wp2
          exact ⟨⟨k + 1, by go_num, by omega, Lib.hid (by rw [HN.out]; first | exact h7.out | exact ents_snoc h7.out), hb7⟩, by simp [intOf]; omega⟩
    · obtain rfl : k = l.length := by omega
      have HR := Lib.hid (show ExtsAt w.heap.size _ (joinX l) wr by rw [← HF.out]; exact HO.out)
      clear HO
      go_wp2
      go_ret
      exact ⟨_, rfl, HR.out, hb⟩
set_option maxRecDepth 100000 in
set_option maxHeartbeats 8000000 in
theorem says_any (l m : List Ent) (hl : ∀ x ∈ l, EntOk true x) (hm : ∀ x ∈ m, EntOk true x) (h1 : l.length ≤ 3000) (h2 : m.length ≤ 3000) (v u : Value) (w : World) (hv : EntsIn v l w) (hu : EntsIn u m w) :
    Calls Try.prog 35 #[v, u] w fun e w' => e = .returned (.bool (decide (joinX l = joinX m))) ∧ Below w.heap.size w w' := by
  have J1 := Lib.hid (joined_any l hl h1 v w hv)
  have J2 := Lib.hid fun W hu => joined_any m hm h2 u W hu
  have S := Lib.hid fun v u W hv hu => samex_any (joinX l) (joinX m) v u W hv hu
  have HU := Lib.hid hu
  obtain ⟨ad, cap, rfl, -⟩ := entsIn_cells hv
  obtain ⟨ad2, cap2, rfl, -⟩ := entsIn_cells hu
  generalize decide (joinX l = joinX m) = b at *
  generalize joinX l = JL at *
  generalize joinX m = JM at *
  clear hv hu
  go_enter Try.func35, Try.ntmps35
  go_wp2_with fail
  refine J1.out.mono ?_; rintro e w1 ⟨v1, rfl, r1, b1⟩
  obtain ⟨ad3, cp3, hs, -⟩ := shape_of r1
  subst hs
  have HU := Lib.hid (HU.out.kept b1)
  have R1 := Lib.hid (rowE_in r1)
  clear r1
  go_wp2_with fail
  refine (J2.out _ HU.out).mono ?_; rintro e w2 ⟨v2, rfl, r2, b2⟩
  obtain ⟨ad4, cp4, hs, -⟩ := shape_of r2
  subst hs
  have R1 := Lib.hid (R1.out.kept b2)
  have R2 := Lib.hid (rowE_in r2)
  have hb2 := bnext b1 b2
  clear r2 b1 b2
  go_wp2_with fail
  refine (S.out _ _ _ R1.out R2.out).mono ?_; rintro e w3 ⟨rfl, b3⟩
  go_wp2
  go_ret
  exact ⟨rfl, bnext hb2 b3⟩
end Go.Proofs.Ytgcbfiecgiijkaa
