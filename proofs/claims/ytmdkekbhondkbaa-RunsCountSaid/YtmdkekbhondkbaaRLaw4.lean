/- The walk of RunsCount. -/
import Derived.Test.YtmdkekbhondkbaaRLaw2
import Derived.Test.YtmdkekbhondkbaaRCard
namespace Go.Proofs.Ytmdkekbhondkbaa
set_option linter.unusedVariables false
open Go.RowKit Go.Shelf

theorem sumI_snoc (l : List Int) (k : Nat) (h : k < l.length) : sumI (l.take (k + 1)) = sumI (l.take k) + l[k] := by
  rw [List.take_succ_eq_append_getElem h, sumI_append]; simp [sumI]
theorem sumI_nonneg : ∀ l : List Int, (∀ x ∈ l, 0 ≤ x) → 0 ≤ sumI l
  | [], _ => Int.le_refl _
  | x :: l, h => by
    have := sumI_nonneg l (fun y hy => h y (List.mem_cons_of_mem _ hy))
    have := h x (by simp)
    rw [sumI]; omega
theorem sumI_take (l : List Int) (h : ∀ x ∈ l, 0 ≤ x) (k : Nat) : 0 ≤ sumI (l.take k) ∧ sumI (l.take k) ≤ sumI l := by
  have h1 := sumI_nonneg (l.take k) fun x hx => h x (List.mem_of_mem_take hx)
  have h2 := sumI_nonneg (l.drop k) fun x hx => h x (List.mem_of_mem_drop hx)
  have h3 := sumI_append (l.take k) (l.drop k)
  rw [List.take_append_drop] at h3
  omega
theorem below40 (a : List (Int × Int)) (i : Int) (h : elemR (meetR a [(0, 1099511627776)]) i) : i < ((1099511627776 : Nat) : Int) := by
  have := ((meet_elem _ _ i).1 h).2
  simp only [elemR_cons, elemR_nil, or_false] at this
  have h2 : i < 0 + 1099511627776 := this.2.2
  omega
theorem lens_pos (l : List (Int × Int)) (hok : ∀ r ∈ l, okR r) : ∀ x ∈ lensR l, 0 ≤ x := fun x hx => by
  obtain ⟨r, hr, rfl⟩ := List.mem_map.1 ((lens_perm l).mem_iff.1 hx)
  have := (hok r hr).2.1; omega

theorem union_norm (a b : List (Int × Int)) : Norm (-1) (unionR a b) := norm_norm _
theorem meet_norm (a b : List (Int × Int)) : Norm (-1) (meetR a b) := minus_norm _ _
set_option maxHeartbeats 16000000 in
theorem count_walk (a b : List (Int × Int)) (fa : fitR a) (fb : fitR b) (va vb : Value) (w : World) (ha : RunsIn va a w) (hb0 : RunsIn vb b w) :
    Calls Try.prog 9 #[va, vb] w fun e w' => e = .returned (.bool true) ∧ Below w.heap.size w w' := by
  obtain ⟨ada, capa, rfl, -⟩ := id ha
  obtain ⟨adb, capb, rfl, -⟩ := id hb0
  by_cases hla : a.length ≤ 100
  · by_cases hlb : b.length ≤ 100
    · have AL := Lib.hid alive_any
      have fall : fitR [((0 : Int), (1099511627776 : Int))] := fun r hr => by
        simp at hr; subst hr; exact ⟨⟨by omega, by omega⟩, by show _ ≤ _; omega, by show _ ≤ _; omega⟩
      have lx := meet_len a [(0, 1099511627776)]
      have ly := meet_len b [(0, 1099511627776)]
      simp only [List.length_singleton] at lx ly
      have nx : Norm (-1) (meetR a [(0, 1099511627776)]) := minus_norm _ _
      have ny : Norm (-1) (meetR b [(0, 1099511627776)]) := minus_norm _ _
      have ex := below40 a
      have ey := below40 b
      have CX := Lib.hid (fun W h => meet_any a [(0, 1099511627776)] fa fall (by simp; omega) (.slice ada a.length capa) (.slice (some ⟨w.heap.size, 0, none⟩) 1 1) W h)
      have CY := Lib.hid (fun W h => meet_any b [(0, 1099511627776)] fb fall (by simp; omega) (.slice adb b.length capb) (.slice (some ⟨w.heap.size, 0, none⟩) 1 1) W h)
      generalize meetR a [(0, 1099511627776)] = X at *
      generalize meetR b [(0, 1099511627776)] = Y at *
      have c1 := card1 nx ny ex ey
      have c2 := card2 (y := Y) nx ex
      have c3 := card3 (by omega) nx ex
      have bX := sum_below nx ex
      have bY := sum_below ny ey
      have bM := sum_below (x := meetR X Y) (minus_norm _ _) (fun i hi => ex i ((meet_elem X Y i).1 hi).1)
      have bU := sum_below (x := unionR X Y) (norm_norm _) (fun i hi => ((union_elem X Y i).1 hi).elim (ex i) (ey i))
      have bD := sum_below (x := minusR X Y) (minus_norm _ _) (fun i hi => ex i ((minus_elem X Y i).1 hi).1)
      have bC := sum_below (x := complR X ((1099511627776 : Nat) : Int)) (compl_norm _ _) (fun i hi => ((compl_elem X (by omega) i).1 hi).2.1)
      have lU := union_len X Y
      have lM := meet_len X Y
      have lD := minus_len X Y
      have lC := compl_len X (n := ((1099511627776 : Nat) : Int)) (by omega)
      have KX : ∀ v W, RunsIn v X W → Calls Try.prog 21 #[v] W fun e w' => e = .returned (.int .i64 (sumR X)) ∧ Below W.heap.size W w' := fun v W h => by
        have := count_any X nx.fit (by omega) v W h; rwa [norm_self nx] at this
      have KY : ∀ v W, RunsIn v Y W → Calls Try.prog 21 #[v] W fun e w' => e = .returned (.int .i64 (sumR Y)) ∧ Below W.heap.size W w' := fun v W h => by
        have := count_any Y ny.fit (by omega) v W h; rwa [norm_self ny] at this
      have KU : ∀ v W, RunsIn v (unionR X Y) W → Calls Try.prog 21 #[v] W fun e w' => e = .returned (.int .i64 (sumR (unionR X Y))) ∧ Below W.heap.size W w' := fun v W h => by
        have := count_any (unionR X Y) (fit_union _ _) (by omega) v W h; rwa [norm_self (union_norm X Y)] at this
      have KM : ∀ v W, RunsIn v (meetR X Y) W → Calls Try.prog 21 #[v] W fun e w' => e = .returned (.int .i64 (sumR (meetR X Y))) ∧ Below W.heap.size W w' := fun v W h => by
        have := count_any (meetR X Y) (fit_meet _ _) (by omega) v W h; rwa [norm_self (meet_norm X Y)] at this
      have KD : ∀ v W, RunsIn v (minusR X Y) W → Calls Try.prog 21 #[v] W fun e w' => e = .returned (.int .i64 (sumR (minusR X Y))) ∧ Below W.heap.size W w' := fun v W h => by
        have := count_any (minusR X Y) (fit_minus _ _) (by omega) v W h; rwa [norm_self (minus_norm X Y)] at this
      have KC : ∀ v W, RunsIn v (complR X ((1099511627776 : Nat) : Int)) W → Calls Try.prog 21 #[v] W fun e w' => e = .returned (.int .i64 (sumR (complR X ((1099511627776 : Nat) : Int)))) ∧ Below W.heap.size W w' := fun v W h => by
        have := count_any (complR X ((1099511627776 : Nat) : Int)) (fit_compl _ _) (by omega) v W h; rwa [norm_self (compl_norm _ _)] at this
      have hokX : ∀ r ∈ X, okR r := fun r hr => (nx.mem r hr).1
      obtain ⟨L, LX, HT, HR, HL, HZ, hsum, hlen⟩ : ∃ L : List Int, (∀ v W, RunsIn v X W → Calls Try.prog 14 #[v] W fun e w' => ∃ v', e = .returned v' ∧ IntsAt W.heap.size v' L w' ∧ Below W.heap.size W w') ∧
          (∀ k, 0 ≤ sumI (L.take k) ∧ sumI (L.take k) ≤ sumI L) ∧ (∀ k (h : k + 1 < L.length), L[k] ≤ L[k + 1]) ∧ (∀ h : 0 < L.length, L[L.length - 1] = maxR X) ∧ (L.length = 0 → maxR X = 0) ∧ sumI L = sumR X ∧ L.length = X.length :=
        ⟨lensR X, fun v W h => by have := lengths_any X nx.fit (by omega) v W h; rwa [norm_self nx] at this, sumI_take _ (lens_pos X hokX), lens_rise X, lens_last X hokX, lens_none X, lens_sum X, lens_len X⟩
      have GX : ∀ v W, RunsIn v X W → Calls Try.prog 23 #[v] W fun e w' => e = .returned (.int .i64 (maxR X)) ∧ Below W.heap.size W w' := fun v W h => by
        have := largest_any X nx.fit (by omega) v W h; rwa [norm_self nx] at this
      have FU := Lib.hid (fun va vb W h k => union_any X Y nx.fit ny.fit (by omega) va vb W h k)
      have FM := Lib.hid (fun va vb W h k => meet_any X Y nx.fit ny.fit (by omega) va vb W h k)
      have FD := Lib.hid (fun va vb W h k => minus_any X Y nx.fit ny.fit (by omega) va vb W h k)
      have FC : Hid (∀ v W, RunsIn v X W → Calls Try.prog 34 #[v, .int .i64 1099511627776] W fun e w' => ∃ v', e = .returned v' ∧ RunsAt W.heap.size v' (complR X ((1099511627776 : Nat) : Int)) w' ∧ Below W.heap.size W w') :=
        Lib.hid (fun v W h => compl_any X nx.fit (by omega) ((1099511627776 : Nat) : Int) ⟨by omega, by omega⟩ v W h)
      have HT := Lib.hid HT
      have HR := Lib.hid HR
      have HL := Lib.hid HL
      have HZ := Lib.hid HZ
      have hlX : X.length ≤ 101 := by omega
      generalize sumR (unionR X Y) = sU at *
      generalize sumR (meetR X Y) = sM at *
      generalize sumR (minusR X Y) = sD at *
      generalize sumR (complR X ((1099511627776 : Nat) : Int)) = sC at *
      generalize sumR X = sX at *
      generalize sumR Y = sY at *
      generalize maxR X = mx at *
      have hL : L.length ≤ 101 := by omega
      obtain ⟨bX1, bX2⟩ := bX
      obtain ⟨bY1, bY2⟩ := bY
      obtain ⟨bM1, bM2⟩ := bM
      obtain ⟨bU1, bU2⟩ := bU
      obtain ⟨bD1, bD2⟩ := bD
      obtain ⟨bC1, bC2⟩ := bC
      have d1 : (sU + sM == sX + sY) = true := by rw [beq_iff_eq]; exact c1
      have d2 : (sD + sM == sX) = true := by rw [beq_iff_eq]; exact c2
      have d3 : (sX + sC == 1099511627776) = true := by rw [beq_iff_eq]; exact c3
      have d4 : (sX == sX) = true := by simp
      have d5 : (mx == mx) = true := by simp
      have HS := Lib.hid hsum
      have KX := Lib.hid KX
      have KY := Lib.hid KY
      have KU := Lib.hid KU
      have KM := Lib.hid KM
      have KD := Lib.hid KD
      have KC := Lib.hid KC
      have LX := Lib.hid LX
      have GX := Lib.hid GX
      have hall := lit_in [(0, 1099511627776)] w #[.int .i64 0, .int .i64 1099511627776] rfl (by decide) 1 rfl
      have hb := balloc1 w (.cells #[.int .i64 0, .int .i64 1099511627776] 37)
      have ha := runsIn_kept ha hb
      have hb0 := runsIn_kept hb0 hb
      clear c1 c2 c3 hsum lx ly nx ny ex ey lU lM lD lC hokX fa fb fall hlen hlX
      go_enter Try.func9, Try.ntmps9
      go_wp2_with fail
      refine (CX.out _ ha hall).mono ?_; rintro e w1 ⟨vx, rfl, rx, b⟩
      have hb0 := runsIn_kept hb0 b
      have hall := runsIn_kept hall b
      have hx := runsAt_in rx
      have hb := bnext hb b
      clear b rx CX ha
      go_wp2_with fail
      refine (CY.out _ hb0 hall).mono ?_; rintro e w2 ⟨vy, rfl, ry, b⟩
      have hx := runsIn_kept hx b
      have hy := runsAt_in ry
      have hb := bnext hb b
      clear b ry CY hb0 hall
      go_wp2_with fail
      refine (KX.out _ _ hx).mono ?_; rintro e w3 ⟨rfl, b⟩
      have hx := runsIn_kept hx b
      have hy := runsIn_kept hy b
      have hb := bnext hb b
      clear b KX
      go_wp2_with fail
      refine (LX.out _ _ hx).mono ?_; rintro e w4 ⟨vl, rfl, rl, b⟩
      have hx := runsIn_kept hx b
      have hy := runsIn_kept hy b
      have hb := bnext hb b
      obtain ⟨adl, capl, rfl, l1, l2, l3⟩ := shape_of rl
      have l2 : capl ≤ 9223372036854775807 := l2
      clear b LX
      go_wp2
      go_loopw [9, 11] (fun ps p wr => ∃ (k : Nat) (s : Int), p = .int .i64 k ∧ ps = .int .i64 s ∧ k ≤ L.length ∧ Hid (s = sumI (L.take k)) ∧ Below w4.heap.size w4 wr) (fun _ p _ => L.length - (intOf p).toNat)
      case atStart => exact ⟨0, 0, rfl, rfl, Nat.zero_le _, Lib.hid rfl, Below.refl _ _⟩
      case round =>
        obtain ⟨k, s, rfl, rfl, hk, HK, hbr⟩ := hrel
        by_cases hlt : k < L.length
        · obtain ⟨g, rfl, hgB, hg⟩ := l3 (by omega)
          have q1 := int_cell (row_kept rl hbr) k hlt
          have HN : Hid (s + L[k] = sumI (L.take (k + 1))) := Lib.hid (by rw [sumI_snoc L k hlt, HK.out])
          have b1 := HT.out k
          have b2 := HT.out (k + 1)
          rw [← HN.out, HS.out] at b2
          rw [← HK.out] at b1
          have b3 := b2.2
          have b4 := b2.1
          have e1 : ∀ q, (wr.drewN q).cell? ⟨g, k, none⟩ = some (.int .i64 L[k]) := fun _ => q1
          rcases Nat.eq_zero_or_pos k with h0 | h0
          · have d0 : decide (0 < k) = false := decide_eq_false (by omega)
            generalize L[k] = x at *
            clear h0 b1 b2 HT HR HL HZ rl l3 hx hy
            go_wp2
            go_quiet (fail)
            go_wp2
            exact ⟨⟨k + 1, s + x, by go_num, rfl, by omega, HN, below_drewN hbr _⟩, by simp [intOf]; omega⟩
          · obtain ⟨j, rfl⟩ : ∃ j, k = j + 1 := ⟨k - 1, by omega⟩
            have q2 := int_cell (row_kept rl hbr) j (by omega)
            have e2 : ∀ q, (wr.drewN q).cell? ⟨g, j, none⟩ = some (.int .i64 (L[j]'(by omega))) := fun _ => q2
            have hle := HR.out j hlt
            have d0 : decide (L[j+1] < (L[j]'(by omega))) = false := decide_eq_false (by omega)
            generalize L[j+1] = x at *
            generalize L[j]'(by omega) = y at *
            clear h0 b1 b2 HT HR HL HZ rl l3 hx hy
            go_wp2
            go_quiet (fail)
            go_wp2
            exact ⟨⟨j + 1 + 1, s + x, by go_num, rfl, by omega, HN, below_drewN hbr _⟩, by simp [intOf]; omega⟩
        · obtain rfl : k = L.length := by omega
          have hs : s = sX := by have := HK.out; rw [List.take_length, HS.out] at this; exact this
          subst hs
          have hx := runsIn_kept hx hbr
          have hy := runsIn_kept hy hbr
          have hb := bnext hb hbr
          rcases Nat.eq_zero_or_pos L.length with h0 | h0
          · have hmx : mx = 0 := HZ.out h0
            subst hmx
            have dl : ((L.length : Int) > 0) ↔ False := by rw [h0]; simp
            have dl2 : decide ((0 : Int) < (L.length : Int)) = false := by rw [h0]; rfl
            have dl3 : decide (0 < L.length) = false := by rw [h0]; rfl
            clear h0 HK HT HR HL HZ HS rl l3 hbr dl
            go_wp2_with fail
            refine (FU.out _ _ _ hx hy).mono ?_; rintro e w5 ⟨v5, rfl, r5, b⟩
            have hx := runsIn_kept hx b
            have hy := runsIn_kept hy b
            have h5 := runsAt_in r5
            have hb := bnext hb b
            clear b r5 FU
            go_wp2_with fail
            refine (KU.out _ _ h5).mono ?_; rintro e w6 ⟨rfl, b⟩
            have hx := runsIn_kept hx b
            have hy := runsIn_kept hy b
            have hb := bnext hb b
            clear b KU h5
            go_wp2_with fail
            refine (FM.out _ _ _ hx hy).mono ?_; rintro e w7 ⟨v5, rfl, r5, b⟩
            have hx := runsIn_kept hx b
            have hy := runsIn_kept hy b
            have h5 := runsAt_in r5
            have hb := bnext hb b
            clear b r5
            go_wp2_with fail
            refine (KM.out _ _ h5).mono ?_; rintro e w8 ⟨rfl, b⟩
            have hx := runsIn_kept hx b
            have hy := runsIn_kept hy b
            have hb := bnext hb b
            clear b h5
            go_wp2_with fail
            refine (KY.out _ _ hy).mono ?_; rintro e w9 ⟨rfl, b⟩
            have hx := runsIn_kept hx b
            have hy := runsIn_kept hy b
            have hb := bnext hb b
            clear b KY
            go_wp2_with fail
            refine (FD.out _ _ _ hx hy).mono ?_; rintro e w10 ⟨v5, rfl, r5, b⟩
            have hx := runsIn_kept hx b
            have hy := runsIn_kept hy b
            have h5 := runsAt_in r5
            have hb := bnext hb b
            clear b r5 FD
            go_wp2_with fail
            refine (KD.out _ _ h5).mono ?_; rintro e w11 ⟨rfl, b⟩
            have hx := runsIn_kept hx b
            have hy := runsIn_kept hy b
            have hb := bnext hb b
            clear b KD h5
            go_wp2_with fail
            refine (FM.out _ _ _ hx hy).mono ?_; rintro e w12 ⟨v5, rfl, r5, b⟩
            have hx := runsIn_kept hx b
            have h5 := runsAt_in r5
            have hb := bnext hb b
            clear b r5 FM hy
            go_wp2_with fail
            refine (KM.out _ _ h5).mono ?_; rintro e w13 ⟨rfl, b⟩
            have hx := runsIn_kept hx b
            have hb := bnext hb b
            clear b KM h5
            go_wp2_with fail
            refine (FC.out _ _ hx).mono ?_; rintro e w14 ⟨v5, rfl, r5, b⟩
            have hx := runsIn_kept hx b
            have h5 := runsAt_in r5
            have hb := bnext hb b
            clear b r5 FC
            go_wp2_with fail
            refine (KC.out _ _ h5).mono ?_; rintro e w15 ⟨rfl, b⟩
            have hx := runsIn_kept hx b
            have hb := bnext hb b
            clear b KC h5
            go_wp2_with fail
            refine (GX.out _ _ hx).mono ?_; rintro e w16 ⟨rfl, b⟩
            have hb := bnext hb b
            clear b GX hx
            go_wp2_with fail
            refine (AL.out _).mono ?_; rintro e w17 ⟨rfl, b⟩
            have hb := bnext hb b
            clear b AL
            go_wp2
            go_ret
            exact ⟨rfl, hb⟩
          · obtain ⟨g, rfl, hgB, hg⟩ := l3 h0
            have q1 := int_cell (row_kept rl hbr) (L.length - 1) (by omega)
            rw [HL.out h0] at q1
            obtain ⟨j, hj⟩ : ∃ j, L.length = j + 1 := ⟨L.length - 1, by omega⟩
            rw [show L.length - 1 = j by omega] at q1
            have dl3 : decide (0 < L.length) = true := decide_eq_true h0
            clear HK HT HR HL HZ HS rl l3 hbr
            go_wp2_with fail
            refine (FU.out _ _ _ hx hy).mono ?_; rintro e w5 ⟨v5, rfl, r5, b⟩
            have hx := runsIn_kept hx b
            have hy := runsIn_kept hy b
            have h5 := runsAt_in r5
            have hb := bnext hb b
            clear b r5 FU
            go_wp2_with fail
            refine (KU.out _ _ h5).mono ?_; rintro e w6 ⟨rfl, b⟩
            have hx := runsIn_kept hx b
            have hy := runsIn_kept hy b
            have hb := bnext hb b
            clear b KU h5
            go_wp2_with fail
            refine (FM.out _ _ _ hx hy).mono ?_; rintro e w7 ⟨v5, rfl, r5, b⟩
            have hx := runsIn_kept hx b
            have hy := runsIn_kept hy b
            have h5 := runsAt_in r5
            have hb := bnext hb b
            clear b r5
            go_wp2_with fail
            refine (KM.out _ _ h5).mono ?_; rintro e w8 ⟨rfl, b⟩
            have hx := runsIn_kept hx b
            have hy := runsIn_kept hy b
            have hb := bnext hb b
            clear b h5
            go_wp2_with fail
            refine (KY.out _ _ hy).mono ?_; rintro e w9 ⟨rfl, b⟩
            have hx := runsIn_kept hx b
            have hy := runsIn_kept hy b
            have hb := bnext hb b
            clear b KY
            go_wp2_with fail
            refine (FD.out _ _ _ hx hy).mono ?_; rintro e w10 ⟨v5, rfl, r5, b⟩
            have hx := runsIn_kept hx b
            have hy := runsIn_kept hy b
            have h5 := runsAt_in r5
            have hb := bnext hb b
            clear b r5 FD
            go_wp2_with fail
            refine (KD.out _ _ h5).mono ?_; rintro e w11 ⟨rfl, b⟩
            have hx := runsIn_kept hx b
            have hy := runsIn_kept hy b
            have hb := bnext hb b
            clear b KD h5
            go_wp2_with fail
            refine (FM.out _ _ _ hx hy).mono ?_; rintro e w12 ⟨v5, rfl, r5, b⟩
            have hx := runsIn_kept hx b
            have h5 := runsAt_in r5
            have hb := bnext hb b
            clear b r5 FM hy
            go_wp2_with fail
            refine (KM.out _ _ h5).mono ?_; rintro e w13 ⟨rfl, b⟩
            have hx := runsIn_kept hx b
            have hb := bnext hb b
            clear b KM h5
            go_wp2_with fail
            refine (FC.out _ _ hx).mono ?_; rintro e w14 ⟨v5, rfl, r5, b⟩
            have hx := runsIn_kept hx b
            have h5 := runsAt_in r5
            have hb := bnext hb b
            clear b r5 FC
            go_wp2_with fail
            refine (KC.out _ _ h5).mono ?_; rintro e w15 ⟨rfl, b⟩
            have hx := runsIn_kept hx b
            have hb := bnext hb b
            clear b KC h5
            go_wp2_with fail
            refine (GX.out _ _ hx).mono ?_; rintro e w16 ⟨rfl, b⟩
            have hb := bnext hb b
            clear b GX hx
            go_wp2_with fail
            refine (AL.out _).mono ?_; rintro e w17 ⟨rfl, b⟩
            have hb := bnext hb b
            clear b AL
            go_wp2
            go_ret
            exact ⟨rfl, hb⟩
    · have hlb : 100 < b.length := by omega
      clear ha hb0
      go_enter Try.func9, Try.ntmps9
      go_wp2
      go_ret
      exact ⟨rfl, Below.refl _ _⟩
  · have hla : 100 < a.length := by omega
    clear ha hb0
    go_enter Try.func9, Try.ntmps9
    go_wp2
    go_ret
    exact ⟨rfl, Below.refl _ _⟩
end Go.Proofs.Ytmdkekbhondkbaa
