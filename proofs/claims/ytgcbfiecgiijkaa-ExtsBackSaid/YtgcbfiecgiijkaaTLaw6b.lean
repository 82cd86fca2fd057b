/- The walk of ExtsBack. -/
import Derived.Test.YtgcbfiecgiijkaaTLaw6M
namespace Go.Proofs.Ytgcbfiecgiijkaa
set_option linter.unusedVariables false
set_option linter.unusedSimpArgs false
open Go.RowKit Go.Shelf

set_option maxRecDepth 100000 in
set_option maxHeartbeats 8000000 in
theorem tback_pos (l : List Ent) (hf : fitE l) (a : Int) (ha : I64 a) (v : Value) (w : World) (hv : EntsIn v l w) (hl : l.length ≤ 60) (hp : 0 < l.length) (hok : RowOk true l) (hneg : ¬ a.tmod (l.length : Int) < 0) :
    Calls Try.prog 10 #[v, .int .i64 a] w fun e w' => e = .returned (.bool true) ∧ Below w.heap.size w w' := by
  have mixed : Try.prog.follows .mixedOrders = true := by kernel_rfl
  have AL := Lib.hid talive_any
  have CK := fun v w hv => xcheck_any l hf v w hv
  have HV := Lib.hid hv
  have HB := Lib.hid (Below.refl w.heap.size w)
  obtain ⟨t1, t2⟩ := tmod_bounds a (l.length : Int) (by omega)
  obtain ⟨kk, hkk⟩ : ∃ kk : Nat, a.tmod (l.length : Int) = (kk : Int) := ⟨(a.tmod (l.length : Int)).toNat, by omega⟩
  have hkl : kk < l.length := by omega
  have hr := (row_rise l).1 hok
  rw [decide_eq_true hok] at CK
  have CK := Lib.hid CK
  have SA := Lib.hid fun (m : List Ent) v u w hv hu => (by have := samex_any m m v u w hv hu; rw [decide_eq_true (rfl : m = m)] at this; exact this : Calls Try.prog 34 #[v, u] w fun e w' => e = .returned (.bool true) ∧ Below w.heap.size w w')
  have PS := Lib.hid fun i (hi : i < l.length) v w hv => put_self hr (by omega) hi v w hv
  have FI := Lib.hid fun i (hi : i < l.length) v w hv => find_self hf hr (by omega) hi v w hv
  have HE := Lib.hid fun i (hi : i < l.length) => (entT _).1 (rise_at hr hi)
  have CO := fun v w hv => xcount_any l hf (by omega) v w hv
  have EL := fun v w hv => xendl_any l hf (by omega) v w hv
  unfold countV at CO
  unfold endV at EL
  rw [if_pos hok] at CO EL
  obtain ⟨B, hB⟩ : ∃ B : Nat → List Ent, B = backX l kk := ⟨_, rfl⟩
  have PU : Hid (∀ i, i < l.length → ∀ v w, EntsIn v (B i) w → Calls Try.prog 25 #[v, entV (eat l ((i + kk) % l.length))] w fun e w' => ∃ ado cpo adf nf cpf, e = .returned (.tuple #[.slice ado (B (i + 1)).length cpo, .slice adf nf cpf, .int .i64 0]) ∧ EntsIn (.slice ado (B (i + 1)).length cpo) (B (i + 1)) w' ∧ Below w.heap.size w w') := Lib.hid (by
    rw [hB]
    exact fun i hi v w hv => put_back _ _ (back_rise hr hkl i (by omega)) (by have := back_len l kk i; omega) _ (rise_at hr (Nat.mod_lt _ (by omega))) (back_step hr hkl hi) v w hv)
  have B0 : Hid (B 0 = []) := Lib.hid (by rw [hB]; exact back_zero _ _)
  have BE : Hid (B l.length = l) := Lib.hid (by rw [hB]; exact back_end _ hkl)
  obtain ⟨CX, hCX⟩ : ∃ C : Nat → Int, C = fun i => countX (l.take i) := ⟨_, rfl⟩
  have C0 : Hid (CX 0 = 0) := Lib.hid (by rw [hCX]; rfl)
  have CS : Hid (∀ i, i < l.length → CX (i + 1) = CX i + (eat l i).len) := Lib.hid (by rw [hCX]; exact fun i hi => count_take hi)
  have CB : Hid (∀ i, i ≤ l.length → 0 ≤ CX i ∧ CX i ≤ 2048 * i) := Lib.hid (by rw [hCX]; exact count_bounds hr)
  have CL : countX l = CX l.length := by rw [hCX]; show _ = countX (l.take l.length); rw [List.take_length]
  rw [CL] at CO
  have EX : Hid (∀ m, l.length = m + 1 → endX l = (eat l m).log + (eat l m).len) := Lib.hid fun m hm => endX_at hm
  obtain ⟨ev, hev⟩ : ∃ ev, endX l = ev := ⟨_, rfl⟩
  rw [hev] at EL EX
  have CO := Lib.hid CO
  have EL := Lib.hid EL
  have dl : decide ((60 : Int) < (l.length : Int)) = false := decide_eq_false (by omega)
  have dz : ((l.length : Int) == 0) = false := by rw [beq_eq_false_iff_ne]; omega
  obtain ⟨ad, cap, rfl, c1, c2, c3, -⟩ := entsIn_cells hv
  obtain ⟨g, o, rfl, hg, hc⟩ := c3 hp
  have HC := Lib.hid hc
  obtain ⟨hk1, hk2⟩ := ha
  clear c3 hc hv hr hB hCX hev hok hf
  rw [hkk] at t1 t2 hneg
  have hw0 := hkk
  go_enter Try.func10, Try.ntmps10
  go_wp2_with fail
  refine (CK.out _ _ HV.out).mono ?_; rintro e w1 ⟨rfl, b1⟩
  have HV := Lib.hid (HV.out.kept b1)
  have HB := Lib.hid (bnext HB.out b1)
  clear b1 CK
  go_wp2
  clear t1 t2 hneg hkk
  clear hw0 hk1 hk2
  go_loopw [6, 7, 8, 9, 10] (fun q p o1 o2 o3 wr => ∃ i : Nat, p = .int .i64 i ∧ i ≤ l.length ∧ Hid (EntsIn q (B i) wr) ∧ Hid (EntsIn (.slice (some ⟨g, o, none⟩) l.length cap) l wr) ∧ Hid (Below w.heap.size w wr)) (fun _ p _ _ _ _ => l.length - (intOf p).toNat)
  case atStart => exact ⟨0, rfl, Nat.zero_le _, Lib.hid (by rw [B0.out]; exact ents_nil _), HV, HB⟩
  case round =>
    clear HV HB
    obtain ⟨i, rfl, hi, HO, HV, HB⟩ := hrel
    obtain ⟨ado, cpo, rfl, -⟩ := entsIn_cells HO.out
    by_cases hlt : i < l.length
    · obtain ⟨j, hj⟩ : ∃ j, (i + kk) % l.length = j := ⟨_, rfl⟩
      have hjl : j < l.length := by rw [← hj]; exact Nat.mod_lt _ (by omega)
      have ht : ((i : Int) + (kk : Int)).tmod (l.length : Int) = (j : Int) := by rw [tmod_nat, hj]
      have hs : IntKind.i64.wrap ((i : Int) + (kk : Int)) = (i : Int) + (kk : Int) := IntWalk.i64_in _ (by omega)
      have PJ := PU.out i hlt
      rw [hj] at PJ
      have PJ := Lib.hid PJ
      obtain ⟨x0, x1, x2⟩ := HC.out wr HB.out j hjl
      clear PU PS FI hj
      generalize eat l j = y at *
      obtain ⟨ya, yp, yz⟩ := y
      dsimp only [entV] at *
      go_wp2_with fail
      refine (PJ.out _ _ HO.out).mono ?_; rintro e w2 ⟨ad2, cp2, af2, nf2, cf2, rfl, ro2, b2⟩
      have HV := Lib.hid (HV.out.kept b2)
      have HB := Lib.hid (bnext HB.out b2)
      have HO := Lib.hid ro2
      clear b2 ro2 x0 x1 x2
      go_wp2
      exact ⟨⟨i + 1, by go_num, by omega, HO, HV, HB⟩, by simp [intOf]; omega⟩
    · obtain rfl : i = l.length := by omega
      have HO2 := Lib.hid (show EntsIn (.slice ado l.length cpo) l wr by have := HO.out; rw [BE.out] at this; exact this)
      clear HO
      have HO := HO2
      clear HO2
      rw [BE.out]
      clear PU B0 BE hlt hi hkl
      go_wp2
      go_loopw [11, 12, 13, 14] (fun p o1 o2 o3 wr => ∃ i : Nat, p = .int .i64 i ∧ i ≤ l.length ∧ Hid (EntsIn (.slice ado l.length cpo) l wr) ∧ Hid (EntsIn (.slice (some ⟨g, o, none⟩) l.length cap) l wr) ∧ Hid (Below w.heap.size w wr)) (fun p _ _ _ _ => l.length - (intOf p).toNat)
      case atStart => exact ⟨0, rfl, Nat.zero_le _, HO, HV, HB⟩
      case round =>
        clear HO HV HB
        obtain ⟨i, rfl, hi, HO, HV, HB⟩ := hrel
        by_cases hlt : i < l.length
        · have PI := Lib.hid (PS.out i hlt)
          obtain ⟨x0, x1, x2⟩ := HC.out _ HB.out i hlt
          clear PS FI
          generalize eat l i = y at *
          obtain ⟨ya, yp, yz⟩ := y
          dsimp only [entV] at *
          go_wp2_with fail
          refine (PI.out _ _ HO.out).mono ?_; rintro e w2 ⟨ad2, cp2, af2, cf2, rfl, ro2, b2⟩
          have HV := Lib.hid (HV.out.kept b2)
          have HO := Lib.hid (HO.out.kept b2)
          have HB := Lib.hid (bnext HB.out b2)
          have HA := Lib.hid ro2
          clear b2 ro2 x0 x1 x2
          go_wp2_with fail
          refine (SA.out _ _ _ _ HA.out HO.out).mono ?_; rintro e w3 ⟨rfl, b3⟩
          have HV := Lib.hid (HV.out.kept b3)
          have HO := Lib.hid (HO.out.kept b3)
          have HB := Lib.hid (bnext HB.out b3)
          clear b3 HA
          go_wp2
          exact ⟨⟨i + 1, by go_num, by omega, HO, HV, HB⟩, by simp [intOf]; omega⟩
        · obtain rfl : i = l.length := by omega
          clear PS hlt hi
          go_wp2
          go_loopw [15, 16, 17, 18, 19] (fun s p o1 o2 o3 wr => ∃ i : Nat, p = .int .i64 i ∧ i ≤ l.length ∧ s = .int .i64 (CX i) ∧ Hid (EntsIn (.slice ado l.length cpo) l wr) ∧ Hid (EntsIn (.slice (some ⟨g, o, none⟩) l.length cap) l wr) ∧ Hid (Below w.heap.size w wr)) (fun _ p _ _ _ _ => l.length - (intOf p).toNat)
          case atStart => exact ⟨0, rfl, Nat.zero_le _, by rw [C0.out], HO, HV, HB⟩
          case round =>
            clear HO HV HB
            obtain ⟨i, rfl, hi, rfl, HO, HV, HB⟩ := hrel
            by_cases hlt : i < l.length
            · have FJ := Lib.hid (FI.out i hlt)
              have hcb := CB.out i hi
              have hcs := CS.out i hlt
              have hyk := HE.out i hlt
              obtain ⟨x0, x1, x2⟩ := HC.out _ HB.out i hlt
              have HCi := Lib.hid fun W (b : Below w.heap.size w W) => HC.out W b i hlt
              clear FI
              generalize eat l i = y at *
              obtain ⟨ya, yp, yz⟩ := y
              dsimp only at *
              have hw : IntKind.i64.wrap (CX i + yz) = CX i + yz := IntWalk.i64_in _ (by omega)
              have n1 : (yp != yp) = false := by simp
              have n2 : (yz != yz) = false := by simp
              have HN : Hid (CX (i + 1) = CX i + yz) := Lib.hid hcs
              clear hcs hyk
              generalize CX i = cx at *
              go_wp2_with fail
              refine (FJ.out _ _ HV.out).mono ?_; rintro e w2 ⟨rfl, b2⟩
              have HV := Lib.hid (HV.out.kept b2)
              have HO := Lib.hid (HO.out.kept b2)
              have HB := Lib.hid (bnext HB.out b2)
              clear b2 x0 x1 x2
              obtain ⟨x0, x1, x2⟩ := HCi.out _ HB.out
              go_wp2
              exact ⟨⟨i + 1, by go_num, by omega, by rw [HN.out], HO, HV, HB⟩, by simp [intOf]; omega⟩
            · obtain rfl : i = l.length := by omega
              clear FI hlt hi
              obtain ⟨m, hm⟩ : ∃ m, l.length = m + 1 := ⟨l.length - 1, by omega⟩
              have hyk := HE.out m (by omega)
              have k0 := fun p : BelowP wr => (HC.out p.to (HB.out.trans (p.h.mono HB.out.size)) m (by omega)).1
              have k2 := fun p : BelowP wr => (HC.out p.to (HB.out.trans (p.h.mono HB.out.size)) m (by omega)).2.2
              have ST := Lib.hid fun p : BelowP wr => SA.out l _ _ p.to (HO.out.kept p.h) (HV.out.kept p.h)
              have CT := Lib.hid fun p : BelowP wr => CO.out _ p.to (HV.out.kept p.h)
              have ET := Lib.hid fun p : BelowP wr => EL.out _ p.to (HV.out.kept p.h)
              have HEX : Hid (ev = (eat l m).log + (eat l m).len) := Lib.hid (EX.out m hm)
              clear HO HV HC HE SA CO EL EX CS CB CL C0
              generalize CX l.length = cx at *
              generalize eat l m = y at *
              obtain ⟨ya, yp, yz⟩ := y
              dsimp only at *
              rw [HEX.out] at ET
              clear HEX
              generalize l.length = N at *
              subst hm
              have dw : IntKind.i64.wrap (m : Int) = (m : Int) := IntWalk.i64_in _ (by omega)
              have b1' : (0 : Int) ≤ (m : Int) := by omega
              have b2' : (m : Int) < (m : Int) + 1 := by omega
              have hw : IntKind.i64.wrap (ya + yz) = ya + yz := IntWalk.i64_in _ (by omega)
              have n1 : (cx == cx) = true := by simp
              have n2 : (ya + yz == ya + yz) = true := by simp
              go_wp2
              refine wp_region_quiet_below mixed (by kernel_rfl) ?_
              repeat (go_big_quiet_step (first | (go_at_call 34; refine calls_below (ST.out _)) | (go_at_call 21; refine calls_below (CT.out _)) | (go_at_call 19; refine calls_below (ET.out _)) | (go_at_call 24; refine calls_below (AL.out _))))
              refine wpQuiet_nil ?_
              intro w0q hw'
              obtain ⟨⟨wq, bq⟩, hw''⟩ := hw'
              have hw2 : wq = w0q := hw''.symm
              clear hw''
              subst hw2
              have HB := Lib.hid (bnext HB.out bq)
              clear k0 k2
              go_wp2
              go_ret
              exact ⟨rfl, HB.out⟩
end Go.Proofs.Ytgcbfiecgiijkaa
