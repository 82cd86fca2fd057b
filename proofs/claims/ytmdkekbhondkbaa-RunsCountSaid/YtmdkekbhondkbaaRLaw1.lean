/- The walks of RunsNormal, RunsEach. -/
import Derived.Test.YtmdkekbhondkbaaRAlive
namespace Go.Proofs.Ytmdkekbhondkbaa
set_option linter.unusedVariables false
open Go.RowKit Go.Shelf

theorem norm_self {l : List (Int × Int)} (h : Norm (-1) l) : normR l = l := (norm_is h fun i => Iff.rfl).symm
theorem norm_idem (l : List (Int × Int)) : normR (normR l) = normR l := norm_self (norm_norm l)

set_option maxHeartbeats 8000000 in
theorem normal_walk (l : List (Int × Int)) (hf : fitR l) (v : Value) (i : Int) (w : World) (hv : RunsIn v l w) :
    Calls Try.prog 6 #[v, .int .i64 i] w fun e w' => e = .returned (.bool true) ∧ Below w.heap.size w w' := by
  by_cases hl : l.length ≤ 200
  · have N := Lib.hid (norm_any l hf (by omega) v w hv)
    have hnl := norm_len l
    have CK : ∀ W v, RunsIn v (normR l) W → Calls Try.prog 16 #[v] W fun e w' => e = .returned (.bool true) ∧ Below W.heap.size W w' := fun W v h => by
      have := check_any (normR l) (fit_norm l) v W h
      rwa [decide_eq_true (norm_norm l)] at this
    have CK := Lib.hid CK
    have CL := Lib.hid (fun W hv => check_any l hf v W hv)
    have HN : Hid (∀ W v, RunsIn v (normR l) W → Calls Try.prog 19 #[v, .int .i64 i] W fun e w' => e = .returned (.bool (decide (elemR l i))) ∧ Below W.heap.size W w') := Lib.hid fun W v h => by
      have := has_any (normR l) (fit_norm l) v i W h
      rwa [show decide (elemR (normR l) i) = decide (elemR l i) from decide_eq_decide.2 (norm_elem l i)] at this
    have HL := Lib.hid (fun W hv => has_any l hf v i W hv)
    have NN : Hid (∀ W v, RunsIn v (normR l) W → Calls Try.prog 12 #[v] W fun e w' => ∃ v', e = .returned v' ∧ RunsAt W.heap.size v' (normR l) w' ∧ Below W.heap.size W w') := Lib.hid fun W v h => by
      have := norm_any (normR l) (fit_norm l) (by omega) v W h
      rwa [norm_idem] at this
    have AL := Lib.hid alive_any
    obtain ⟨ad, cap, rfl, -⟩ := id hv
    have HS : Hid (Norm (-1) l → normR l = l) := Lib.hid norm_self
    generalize decide (elemR l i) = r at *
    go_enter Try.func6, Try.ntmps6
    go_wp2_with fail
    refine N.out.mono ?_; rintro e w1 ⟨vn, rfl, hn, b⟩
    have hn := runsAt_in hn
    have hv := runsIn_kept hv b
    have hb := b
    clear b N
    go_wp2_with fail
    refine (CK.out _ _ hn).mono ?_; rintro e w2 ⟨rfl, b⟩
    have hn := runsIn_kept hn b
    have hv := runsIn_kept hv b
    have hb := bnext hb b
    clear b CK
    go_wp2_with fail
    refine (HN.out _ _ hn).mono ?_; rintro e w3 ⟨rfl, b⟩
    have hn := runsIn_kept hn b
    have hv := runsIn_kept hv b
    have hb := bnext hb b
    clear b HN
    go_wp2_with fail
    refine (HL.out _ hv).mono ?_; rintro e w4 ⟨rfl, b⟩
    have hn := runsIn_kept hn b
    have hv := runsIn_kept hv b
    have hb := bnext hb b
    have dr : (r == r) = true := by simp
    clear b HL
    go_wp2_with fail
    refine (NN.out _ _ hn).mono ?_; rintro e w5 ⟨v5, rfl, h5, b⟩
    have h5 := runsAt_in h5
    have hn := runsIn_kept hn b
    have hv := runsIn_kept hv b
    have hb := bnext hb b
    have S := Lib.hid (same_yes _ _ _ _ h5 hn)
    clear b NN h5
    go_wp2_with fail
    refine S.out.mono ?_; rintro e w6 ⟨rfl, b⟩
    have hn := runsIn_kept hn b
    have hv := runsIn_kept hv b
    have hb := bnext hb b
    clear b S
    by_cases hc : Norm (-1) l
    · rw [decide_eq_true hc] at CL
      have he := HS.out hc
      rw [he] at hn
      go_wp2_with fail
      refine (CL.out _ hv).mono ?_; rintro e w7 ⟨rfl, b⟩
      have hn := runsIn_kept hn b
      have hv := runsIn_kept hv b
      have hb := bnext hb b
      have S := Lib.hid (same_yes _ _ _ _ hn hv)
      clear b CL hc he
      go_wp2_with fail
      refine S.out.mono ?_; rintro e w8 ⟨rfl, b⟩
      have hb := bnext hb b
      clear b S hn hv
      go_wp2_with fail
      refine (AL.out _).mono ?_; rintro e w9 ⟨rfl, b⟩
      have hb := bnext hb b
      clear b AL
      go_wp2
      go_ret
      exact ⟨rfl, hb⟩
    · rw [decide_eq_false hc] at CL
      go_wp2_with fail
      refine (CL.out _ hv).mono ?_; rintro e w7 ⟨rfl, b⟩
      have hb := bnext hb b
      clear b CL hc hn hv
      go_wp2_with fail
      refine (AL.out _).mono ?_; rintro e w9 ⟨rfl, b⟩
      have hb := bnext hb b
      clear b AL
      go_wp2
      go_ret
      exact ⟨rfl, hb⟩
  · have hl : 200 < l.length := by omega
    obtain ⟨ad, cap, rfl, -⟩ := id hv
    clear hv
    go_enter Try.func6, Try.ntmps6
    go_wp2
    go_ret
    exact ⟨rfl, Below.refl _ _⟩

theorem dec_or (a b : List (Int × Int)) (i : Int) : decide (elemR (unionR a b) i) = (decide (elemR a i) || decide (elemR b i)) := by
  rw [Bool.eq_iff_iff]; simp only [Bool.or_eq_true, decide_eq_true_eq]; exact union_elem a b i
theorem dec_minus (a b : List (Int × Int)) (i : Int) : decide (elemR (minusR a b) i) = (decide (elemR a i) && !decide (elemR b i)) := by
  rw [Bool.eq_iff_iff]; simp only [Bool.and_eq_true, Bool.not_eq_true', decide_eq_true_eq, decide_eq_false_iff_not]; exact minus_elem a b i
theorem dec_meet (a b : List (Int × Int)) (i : Int) : decide (elemR (meetR a b) i) = (decide (elemR a i) && decide (elemR b i)) := by
  rw [Bool.eq_iff_iff]; simp only [Bool.and_eq_true, decide_eq_true_eq]; exact meet_elem a b i
theorem dec_compl (a : List (Int × Int)) (i : Int) (h0 : 0 ≤ i) (h1 : i + 1 ≤ 9223372036854775807) : decide (elemR (complR a (i + 1)) i) = !decide (elemR a i) := by
  rw [Bool.eq_iff_iff]; simp only [Bool.not_eq_true', decide_eq_true_eq, decide_eq_false_iff_not]; rw [compl_elem a h1]
  exact ⟨fun h => h.2.2, fun h => ⟨h0, by omega, h⟩⟩
theorem dec_compl' (a : List (Int × Int)) (i : Int) (h1 : i + 1 ≤ 9223372036854775807) : decide (elemR (complR a (i + 1)) (i + 1)) = false := by
  rw [decide_eq_false_iff_not, compl_elem a h1]; intro h; omega
theorem check_yes (l : List (Int × Int)) (h : Norm (-1) l) (v : Value) (w : World) (hv : RunsIn v l w) :
    Calls Try.prog 16 #[v] w fun e w' => e = .returned (.bool true) ∧ Below w.heap.size w w' := by
  have := check_any l h.fit v w hv
  rwa [decide_eq_true h] at this

set_option maxHeartbeats 16000000 in
theorem each_walk (a b : List (Int × Int)) (hfa : fitR a) (hfb : fitR b) (va vb : Value) (i : Int) (hi : I64 i) (w : World) (hva : RunsIn va a w) (hvb : RunsIn vb b w) :
    Calls Try.prog 7 #[va, vb, .int .i64 i] w fun e w' => e = .returned (.bool true) ∧ Below w.heap.size w w' := by
  obtain ⟨ada, capa, rfl, -⟩ := id hva
  obtain ⟨adb, capb, rfl, -⟩ := id hvb
  by_cases hla : a.length ≤ 150
  · by_cases hlb : b.length ≤ 150
    · have hb := Below.refl w.heap.size w
      have HA := Lib.hid (fun W h => has_any a hfa (.slice ada a.length capa) i W h)
      have HB := Lib.hid (fun W h => has_any b hfb (.slice adb b.length capb) i W h)
      have CU := Lib.hid (fun W h k => union_any a b hfa hfb (by omega) (.slice ada a.length capa) (.slice adb b.length capb) W h k)
      have CM := Lib.hid (fun W h k => minus_any a b hfa hfb (by omega) (.slice ada a.length capa) (.slice adb b.length capb) W h k)
      have CT := Lib.hid (fun W h k => meet_any a b hfa hfb (by omega) (.slice ada a.length capa) (.slice adb b.length capb) W h k)
      have HU := fun v W h => has_any (unionR a b) (norm_norm _).fit v i W h
      have HM := fun v W h => has_any (minusR a b) (minus_norm _ _).fit v i W h
      have HT := fun v W h => has_any (meetR a b) (minus_norm _ _).fit v i W h
      have KU := Lib.hid (fun v W h => check_yes (unionR a b) (norm_norm _) v W h)
      have KM := Lib.hid (fun v W h => check_yes (minusR a b) (minus_norm _ _) v W h)
      have KT := Lib.hid (fun v W h => check_yes (meetR a b) (minus_norm _ _) v W h)
      have CC := Lib.hid (fun (h0 : 0 ≤ i) (h1 : i ≤ 4611686018427387904) W h => compl_any a hfa (by omega) (i + 1) ⟨by omega, by omega⟩ (.slice ada a.length capa) W h)
      have HC : ∀ (h0 : 0 ≤ i) (h1 : i ≤ 4611686018427387904) v W (h : RunsIn v (complR a (i + 1)) W), Calls Try.prog 19 #[v, .int .i64 i] W fun e w' => e = .returned (.bool (!decide (elemR a i))) ∧ Below W.heap.size W w' := fun h0 h1 v W h => by
        have := has_any (complR a (i + 1)) (fit_compl _ _) v i W h
        rwa [dec_compl a i h0 (by omega)] at this
      have HC' : ∀ (h1 : i ≤ 4611686018427387904) v W (h : RunsIn v (complR a (i + 1)) W), Calls Try.prog 19 #[v, .int .i64 (i + 1)] W fun e w' => e = .returned (.bool false) ∧ Below W.heap.size W w' := fun h1 v W h => by
        have := has_any (complR a (i + 1)) (fit_compl _ _) v (i + 1) W h
        rwa [dec_compl' a i (by omega)] at this
      have KC := Lib.hid (fun v W h => check_yes (complR a (i + 1)) (compl_norm _ _) v W h)
      have AL := Lib.hid alive_any
      have HC' := Lib.hid HC'
      simp only [dec_or, dec_minus, dec_meet] at HU HM HT
      obtain ⟨hi1, hi2⟩ := hi
      generalize decide (elemR a i) = x at *
      generalize decide (elemR b i) = y at *
      have HU := Lib.hid HU
      have HM := Lib.hid HM
      have HT := Lib.hid HT
      have HC := Lib.hid HC
      clear hfa hfb
      cases x with
      | true => cases y with
        | true =>
          simp only [Bool.or_true, Bool.or_false, Bool.and_true, Bool.and_false, Bool.not_true, Bool.not_false, Bool.false_or, Bool.true_or, Bool.false_and, Bool.true_and] at HU HM HT HC
          go_enter Try.func7, Try.ntmps7
          go_wp2_with fail
          refine (HA.out w hva).mono ?_; rintro e w1 ⟨rfl, b⟩
          have hva := runsIn_kept hva b
          have hvb := runsIn_kept hvb b
          have hb := bnext hb b
          clear b HA
          go_wp2_with fail
          refine (HB.out _ hvb).mono ?_; rintro e w2 ⟨rfl, b⟩
          have hva := runsIn_kept hva b
          have hvb := runsIn_kept hvb b
          have hb := bnext hb b
          clear b HB
          go_wp2_with fail
          refine (CU.out _ hva hvb).mono ?_; rintro e w3 ⟨vu, rfl, ru, b⟩
          have hva := runsIn_kept hva b
          have hvb := runsIn_kept hvb b
          have hu := runsAt_in ru
          have hb := bnext hb b
          clear b ru CU
          go_wp2_with fail
          refine (CM.out _ hva hvb).mono ?_; rintro e w4 ⟨vm, rfl, rm, b⟩
          have hva := runsIn_kept hva b
          have hvb := runsIn_kept hvb b
          have hu := runsIn_kept hu b
          have hm := runsAt_in rm
          have hb := bnext hb b
          clear b rm CM
          go_wp2_with fail
          refine (CT.out _ hva hvb).mono ?_; rintro e w5 ⟨vt, rfl, rt, b⟩
          have hva := runsIn_kept hva b
          have hu := runsIn_kept hu b
          have hm := runsIn_kept hm b
          have ht := runsAt_in rt
          have hb := bnext hb b
          clear b rt CT hvb
          go_wp2_with fail
          refine (HU.out _ _ hu).mono ?_; rintro e w6 ⟨rfl, b⟩
          have hva := runsIn_kept hva b
          have hu := runsIn_kept hu b
          have hm := runsIn_kept hm b
          have ht := runsIn_kept ht b
          have hb := bnext hb b
          clear b HU
          go_wp2_with fail
          refine (HM.out _ _ hm).mono ?_; rintro e w7 ⟨rfl, b⟩
          have hva := runsIn_kept hva b
          have hu := runsIn_kept hu b
          have hm := runsIn_kept hm b
          have ht := runsIn_kept ht b
          have hb := bnext hb b
          clear b HM
          go_wp2_with fail
          refine (HT.out _ _ ht).mono ?_; rintro e w8 ⟨rfl, b⟩
          have hva := runsIn_kept hva b
          have hu := runsIn_kept hu b
          have hm := runsIn_kept hm b
          have ht := runsIn_kept ht b
          have hb := bnext hb b
          clear b HT
          go_wp2_with fail
          refine (KU.out _ _ hu).mono ?_; rintro e w9 ⟨rfl, b⟩
          have hva := runsIn_kept hva b
          have hm := runsIn_kept hm b
          have ht := runsIn_kept ht b
          have hb := bnext hb b
          clear b KU hu
          go_wp2_with fail
          refine (KM.out _ _ hm).mono ?_; rintro e w10 ⟨rfl, b⟩
          have hva := runsIn_kept hva b
          have ht := runsIn_kept ht b
          have hb := bnext hb b
          clear b KM hm
          go_wp2_with fail
          refine (KT.out _ _ ht).mono ?_; rintro e w11 ⟨rfl, b⟩
          have hva := runsIn_kept hva b
          have hb := bnext hb b
          clear b KT ht
          by_cases hi0 : i < 0
          · clear hva CC HC HC' KC
            go_wp2_with fail
            refine (AL.out _).mono ?_; rintro e w12 ⟨rfl, b⟩
            have hb := bnext hb b
            clear b AL
            go_wp2
            go_ret
            exact ⟨rfl, hb⟩
          · by_cases hi1 : 4611686018427387904 < i
            · have hi0 : 0 ≤ i := by omega
              clear hva CC HC HC' KC
              go_wp2_with fail
              refine (AL.out _).mono ?_; rintro e w12 ⟨rfl, b⟩
              have hb := bnext hb b
              clear b AL
              go_wp2
              go_ret
              exact ⟨rfl, hb⟩
            · have hi2 : i ≤ 4611686018427387904 := by omega
              have hi3 : 0 ≤ i := by omega
              go_wp2_with fail
              refine (CC.out hi3 hi2 _ hva).mono ?_; rintro e w12 ⟨vc, rfl, rc, b⟩
              have hc := runsAt_in rc
              have hb := bnext hb b
              clear b rc CC hva
              go_wp2_with fail
              refine (HC.out hi3 hi2 _ _ hc).mono ?_; rintro e w13 ⟨rfl, b⟩
              have hc := runsIn_kept hc b
              have hb := bnext hb b
              clear b HC
              go_wp2_with fail
              refine (HC'.out hi2 _ _ hc).mono ?_; rintro e w14 ⟨rfl, b⟩
              have hc := runsIn_kept hc b
              have hb := bnext hb b
              clear b HC'
              go_wp2_with fail
              refine (KC.out _ _ hc).mono ?_; rintro e w15 ⟨rfl, b⟩
              have hb := bnext hb b
              clear b KC hc
              go_wp2_with fail
              refine (AL.out _).mono ?_; rintro e w16 ⟨rfl, b⟩
              have hb := bnext hb b
              clear b AL
              go_wp2
              go_ret
              exact ⟨rfl, hb⟩
        | false =>
          simp only [Bool.or_true, Bool.or_false, Bool.and_true, Bool.and_false, Bool.not_true, Bool.not_false, Bool.false_or, Bool.true_or, Bool.false_and, Bool.true_and] at HU HM HT HC
          go_enter Try.func7, Try.ntmps7
          go_wp2_with fail
          refine (HA.out w hva).mono ?_; rintro e w1 ⟨rfl, b⟩
          have hva := runsIn_kept hva b
          have hvb := runsIn_kept hvb b
          have hb := bnext hb b
          clear b HA
          go_wp2_with fail
          refine (HB.out _ hvb).mono ?_; rintro e w2 ⟨rfl, b⟩
          have hva := runsIn_kept hva b
          have hvb := runsIn_kept hvb b
          have hb := bnext hb b
          clear b HB
          go_wp2_with fail
          refine (CU.out _ hva hvb).mono ?_; rintro e w3 ⟨vu, rfl, ru, b⟩
          have hva := runsIn_kept hva b
          have hvb := runsIn_kept hvb b
          have hu := runsAt_in ru
          have hb := bnext hb b
          clear b ru CU
          go_wp2_with fail
          refine (CM.out _ hva hvb).mono ?_; rintro e w4 ⟨vm, rfl, rm, b⟩
          have hva := runsIn_kept hva b
          have hvb := runsIn_kept hvb b
          have hu := runsIn_kept hu b
          have hm := runsAt_in rm
          have hb := bnext hb b
          clear b rm CM
          go_wp2_with fail
          refine (CT.out _ hva hvb).mono ?_; rintro e w5 ⟨vt, rfl, rt, b⟩
          have hva := runsIn_kept hva b
          have hu := runsIn_kept hu b
          have hm := runsIn_kept hm b
          have ht := runsAt_in rt
          have hb := bnext hb b
          clear b rt CT hvb
          go_wp2_with fail
          refine (HU.out _ _ hu).mono ?_; rintro e w6 ⟨rfl, b⟩
          have hva := runsIn_kept hva b
          have hu := runsIn_kept hu b
          have hm := runsIn_kept hm b
          have ht := runsIn_kept ht b
          have hb := bnext hb b
          clear b HU
          go_wp2_with fail
          refine (HM.out _ _ hm).mono ?_; rintro e w7 ⟨rfl, b⟩
          have hva := runsIn_kept hva b
          have hu := runsIn_kept hu b
          have hm := runsIn_kept hm b
          have ht := runsIn_kept ht b
          have hb := bnext hb b
          clear b HM
          go_wp2_with fail
          refine (HT.out _ _ ht).mono ?_; rintro e w8 ⟨rfl, b⟩
          have hva := runsIn_kept hva b
          have hu := runsIn_kept hu b
          have hm := runsIn_kept hm b
          have ht := runsIn_kept ht b
          have hb := bnext hb b
          clear b HT
          go_wp2_with fail
          refine (KU.out _ _ hu).mono ?_; rintro e w9 ⟨rfl, b⟩
          have hva := runsIn_kept hva b
          have hm := runsIn_kept hm b
          have ht := runsIn_kept ht b
          have hb := bnext hb b
          clear b KU hu
          go_wp2_with fail
          refine (KM.out _ _ hm).mono ?_; rintro e w10 ⟨rfl, b⟩
          have hva := runsIn_kept hva b
          have ht := runsIn_kept ht b
          have hb := bnext hb b
          clear b KM hm
          go_wp2_with fail
          refine (KT.out _ _ ht).mono ?_; rintro e w11 ⟨rfl, b⟩
          have hva := runsIn_kept hva b
          have hb := bnext hb b
          clear b KT ht
          by_cases hi0 : i < 0
          · clear hva CC HC HC' KC
            go_wp2_with fail
            refine (AL.out _).mono ?_; rintro e w12 ⟨rfl, b⟩
            have hb := bnext hb b
            clear b AL
            go_wp2
            go_ret
            exact ⟨rfl, hb⟩
          · by_cases hi1 : 4611686018427387904 < i
            · have hi0 : 0 ≤ i := by omega
              clear hva CC HC HC' KC
              go_wp2_with fail
              refine (AL.out _).mono ?_; rintro e w12 ⟨rfl, b⟩
              have hb := bnext hb b
              clear b AL
              go_wp2
              go_ret
              exact ⟨rfl, hb⟩
            · have hi2 : i ≤ 4611686018427387904 := by omega
              have hi3 : 0 ≤ i := by omega
              go_wp2_with fail
              refine (CC.out hi3 hi2 _ hva).mono ?_; rintro e w12 ⟨vc, rfl, rc, b⟩
              have hc := runsAt_in rc
              have hb := bnext hb b
              clear b rc CC hva
              go_wp2_with fail
              refine (HC.out hi3 hi2 _ _ hc).mono ?_; rintro e w13 ⟨rfl, b⟩
              have hc := runsIn_kept hc b
              have hb := bnext hb b
              clear b HC
              go_wp2_with fail
              refine (HC'.out hi2 _ _ hc).mono ?_; rintro e w14 ⟨rfl, b⟩
              have hc := runsIn_kept hc b
              have hb := bnext hb b
              clear b HC'
              go_wp2_with fail
              refine (KC.out _ _ hc).mono ?_; rintro e w15 ⟨rfl, b⟩
              have hb := bnext hb b
              clear b KC hc
              go_wp2_with fail
              refine (AL.out _).mono ?_; rintro e w16 ⟨rfl, b⟩
              have hb := bnext hb b
              clear b AL
              go_wp2
              go_ret
              exact ⟨rfl, hb⟩
      | false => cases y with
        | true =>
          simp only [Bool.or_true, Bool.or_false, Bool.and_true, Bool.and_false, Bool.not_true, Bool.not_false, Bool.false_or, Bool.true_or, Bool.false_and, Bool.true_and] at HU HM HT HC
          go_enter Try.func7, Try.ntmps7
          go_wp2_with fail
          refine (HA.out w hva).mono ?_; rintro e w1 ⟨rfl, b⟩
          have hva := runsIn_kept hva b
          have hvb := runsIn_kept hvb b
          have hb := bnext hb b
          clear b HA
          go_wp2_with fail
          refine (HB.out _ hvb).mono ?_; rintro e w2 ⟨rfl, b⟩
          have hva := runsIn_kept hva b
          have hvb := runsIn_kept hvb b
          have hb := bnext hb b
          clear b HB
          go_wp2_with fail
          refine (CU.out _ hva hvb).mono ?_; rintro e w3 ⟨vu, rfl, ru, b⟩
          have hva := runsIn_kept hva b
          have hvb := runsIn_kept hvb b
          have hu := runsAt_in ru
          have hb := bnext hb b
          clear b ru CU
          go_wp2_with fail
          refine (CM.out _ hva hvb).mono ?_; rintro e w4 ⟨vm, rfl, rm, b⟩
          have hva := runsIn_kept hva b
          have hvb := runsIn_kept hvb b
          have hu := runsIn_kept hu b
          have hm := runsAt_in rm
          have hb := bnext hb b
          clear b rm CM
          go_wp2_with fail
          refine (CT.out _ hva hvb).mono ?_; rintro e w5 ⟨vt, rfl, rt, b⟩
          have hva := runsIn_kept hva b
          have hu := runsIn_kept hu b
          have hm := runsIn_kept hm b
          have ht := runsAt_in rt
          have hb := bnext hb b
          clear b rt CT hvb
          go_wp2_with fail
          refine (HU.out _ _ hu).mono ?_; rintro e w6 ⟨rfl, b⟩
          have hva := runsIn_kept hva b
          have hu := runsIn_kept hu b
          have hm := runsIn_kept hm b
          have ht := runsIn_kept ht b
          have hb := bnext hb b
          clear b HU
          go_wp2_with fail
          refine (HM.out _ _ hm).mono ?_; rintro e w7 ⟨rfl, b⟩
          have hva := runsIn_kept hva b
          have hu := runsIn_kept hu b
          have hm := runsIn_kept hm b
          have ht := runsIn_kept ht b
          have hb := bnext hb b
          clear b HM
          go_wp2_with fail
          refine (HT.out _ _ ht).mono ?_; rintro e w8 ⟨rfl, b⟩
          have hva := runsIn_kept hva b
          have hu := runsIn_kept hu b
          have hm := runsIn_kept hm b
          have ht := runsIn_kept ht b
          have hb := bnext hb b
          clear b HT
          go_wp2_with fail
          refine (KU.out _ _ hu).mono ?_; rintro e w9 ⟨rfl, b⟩
          have hva := runsIn_kept hva b
          have hm := runsIn_kept hm b
          have ht := runsIn_kept ht b
          have hb := bnext hb b
          clear b KU hu
          go_wp2_with fail
          refine (KM.out _ _ hm).mono ?_; rintro e w10 ⟨rfl, b⟩
          have hva := runsIn_kept hva b
          have ht := runsIn_kept ht b
          have hb := bnext hb b
          clear b KM hm
          go_wp2_with fail
          refine (KT.out _ _ ht).mono ?_; rintro e w11 ⟨rfl, b⟩
          have hva := runsIn_kept hva b
          have hb := bnext hb b
          clear b KT ht
          by_cases hi0 : i < 0
          · clear hva CC HC HC' KC
            go_wp2_with fail
            refine (AL.out _).mono ?_; rintro e w12 ⟨rfl, b⟩
            have hb := bnext hb b
            clear b AL
            go_wp2
            go_ret
            exact ⟨rfl, hb⟩
          · by_cases hi1 : 4611686018427387904 < i
            · have hi0 : 0 ≤ i := by omega
              clear hva CC HC HC' KC
              go_wp2_with fail
              refine (AL.out _).mono ?_; rintro e w12 ⟨rfl, b⟩
              have hb := bnext hb b
              clear b AL
              go_wp2
              go_ret
              exact ⟨rfl, hb⟩
            · have hi2 : i ≤ 4611686018427387904 := by omega
              have hi3 : 0 ≤ i := by omega
              go_wp2_with fail
              refine (CC.out hi3 hi2 _ hva).mono ?_; rintro e w12 ⟨vc, rfl, rc, b⟩
              have hc := runsAt_in rc
              have hb := bnext hb b
              clear b rc CC hva
              go_wp2_with fail
              refine (HC.out hi3 hi2 _ _ hc).mono ?_; rintro e w13 ⟨rfl, b⟩
              have hc := runsIn_kept hc b
              have hb := bnext hb b
              clear b HC
              go_wp2_with fail
              refine (HC'.out hi2 _ _ hc).mono ?_; rintro e w14 ⟨rfl, b⟩
              have hc := runsIn_kept hc b
              have hb := bnext hb b
              clear b HC'
              go_wp2_with fail
              refine (KC.out _ _ hc).mono ?_; rintro e w15 ⟨rfl, b⟩
              have hb := bnext hb b
              clear b KC hc
              go_wp2_with fail
              refine (AL.out _).mono ?_; rintro e w16 ⟨rfl, b⟩
              have hb := bnext hb b
              clear b AL
              go_wp2
              go_ret
              exact ⟨rfl, hb⟩
        | false =>
          simp only [Bool.or_true, Bool.or_false, Bool.and_true, Bool.and_false, Bool.not_true, Bool.not_false, Bool.false_or, Bool.true_or, Bool.false_and, Bool.true_and] at HU HM HT HC
          go_enter Try.func7, Try.ntmps7
          go_wp2_with fail
          refine (HA.out w hva).mono ?_; rintro e w1 ⟨rfl, b⟩
          have hva := runsIn_kept hva b
          have hvb := runsIn_kept hvb b
          have hb := bnext hb b
          clear b HA
          go_wp2_with fail
          refine (HB.out _ hvb).mono ?_; rintro e w2 ⟨rfl, b⟩
          have hva := runsIn_kept hva b
          have hvb := runsIn_kept hvb b
          have hb := bnext hb b
          clear b HB
          go_wp2_with fail
          refine (CU.out _ hva hvb).mono ?_; rintro e w3 ⟨vu, rfl, ru, b⟩
          have hva := runsIn_kept hva b
          have hvb := runsIn_kept hvb b
          have hu := runsAt_in ru
          have hb := bnext hb b
          clear b ru CU
          go_wp2_with fail
          refine (CM.out _ hva hvb).mono ?_; rintro e w4 ⟨vm, rfl, rm, b⟩
          have hva := runsIn_kept hva b
          have hvb := runsIn_kept hvb b
          have hu := runsIn_kept hu b
          have hm := runsAt_in rm
          have hb := bnext hb b
          clear b rm CM
          go_wp2_with fail
          refine (CT.out _ hva hvb).mono ?_; rintro e w5 ⟨vt, rfl, rt, b⟩
          have hva := runsIn_kept hva b
          have hu := runsIn_kept hu b
          have hm := runsIn_kept hm b
          have ht := runsAt_in rt
          have hb := bnext hb b
          clear b rt CT hvb
          go_wp2_with fail
          refine (HU.out _ _ hu).mono ?_; rintro e w6 ⟨rfl, b⟩
          have hva := runsIn_kept hva b
          have hu := runsIn_kept hu b
          have hm := runsIn_kept hm b
          have ht := runsIn_kept ht b
          have hb := bnext hb b
          clear b HU
          go_wp2_with fail
          refine (HM.out _ _ hm).mono ?_; rintro e w7 ⟨rfl, b⟩
          have hva := runsIn_kept hva b
          have hu := runsIn_kept hu b
          have hm := runsIn_kept hm b
          have ht := runsIn_kept ht b
          have hb := bnext hb b
          clear b HM
          go_wp2_with fail
          refine (HT.out _ _ ht).mono ?_; rintro e w8 ⟨rfl, b⟩
          have hva := runsIn_kept hva b
          have hu := runsIn_kept hu b
          have hm := runsIn_kept hm b
          have ht := runsIn_kept ht b
          have hb := bnext hb b
          clear b HT
          go_wp2_with fail
          refine (KU.out _ _ hu).mono ?_; rintro e w9 ⟨rfl, b⟩
          have hva := runsIn_kept hva b
          have hm := runsIn_kept hm b
          have ht := runsIn_kept ht b
          have hb := bnext hb b
          clear b KU hu
          go_wp2_with fail
          refine (KM.out _ _ hm).mono ?_; rintro e w10 ⟨rfl, b⟩
          have hva := runsIn_kept hva b
          have ht := runsIn_kept ht b
          have hb := bnext hb b
          clear b KM hm
          go_wp2_with fail
          refine (KT.out _ _ ht).mono ?_; rintro e w11 ⟨rfl, b⟩
          have hva := runsIn_kept hva b
          have hb := bnext hb b
          clear b KT ht
          by_cases hi0 : i < 0
          · clear hva CC HC HC' KC
            go_wp2_with fail
            refine (AL.out _).mono ?_; rintro e w12 ⟨rfl, b⟩
            have hb := bnext hb b
            clear b AL
            go_wp2
            go_ret
            exact ⟨rfl, hb⟩
          · by_cases hi1 : 4611686018427387904 < i
            · have hi0 : 0 ≤ i := by omega
              clear hva CC HC HC' KC
              go_wp2_with fail
              refine (AL.out _).mono ?_; rintro e w12 ⟨rfl, b⟩
              have hb := bnext hb b
              clear b AL
              go_wp2
              go_ret
              exact ⟨rfl, hb⟩
            · have hi2 : i ≤ 4611686018427387904 := by omega
              have hi3 : 0 ≤ i := by omega
              go_wp2_with fail
              refine (CC.out hi3 hi2 _ hva).mono ?_; rintro e w12 ⟨vc, rfl, rc, b⟩
              have hc := runsAt_in rc
              have hb := bnext hb b
              clear b rc CC hva
              go_wp2_with fail
              refine (HC.out hi3 hi2 _ _ hc).mono ?_; rintro e w13 ⟨rfl, b⟩
              have hc := runsIn_kept hc b
              have hb := bnext hb b
              clear b HC
              go_wp2_with fail
              refine (HC'.out hi2 _ _ hc).mono ?_; rintro e w14 ⟨rfl, b⟩
              have hc := runsIn_kept hc b
              have hb := bnext hb b
              clear b HC'
              go_wp2_with fail
              refine (KC.out _ _ hc).mono ?_; rintro e w15 ⟨rfl, b⟩
              have hb := bnext hb b
              clear b KC hc
              go_wp2_with fail
              refine (AL.out _).mono ?_; rintro e w16 ⟨rfl, b⟩
              have hb := bnext hb b
              clear b AL
              go_wp2
              go_ret
              exact ⟨rfl, hb⟩
    · have hlb : 150 < b.length := by omega
      clear hva hvb
      go_enter Try.func7, Try.ntmps7
      go_wp2
      go_ret
      exact ⟨rfl, Below.refl _ _⟩
  · have hla : 150 < a.length := by omega
    clear hva hvb
    go_enter Try.func7, Try.ntmps7
    go_wp2
    go_ret
    exact ⟨rfl, Below.refl _ _⟩
end Go.Proofs.Ytmdkekbhondkbaa
