/- The document's Largest, Count, Check, Has. -/
import Derived.Test.YtmdkekbhondkbaaRRef3
namespace Go.Proofs.Ytmdkekbhondkbaa
set_option linter.unusedVariables false
open Go.RowKit Go.Shelf

set_option maxHeartbeats 4000000 in
theorem rlargest_any (l : List (Int × Int)) (hf : fitR l) (hl : l.length ≤ 1000) (v : Value) (w : World) (hv : RunsIn v l w) :
    Calls Try.prog 24 #[v] w fun e w' => e = .returned (.int .i64 (maxR (normR l))) ∧ Below w.heap.size w w' := by
  have hok : ∀ r ∈ normR l, okR r := fun r hr => ((norm_norm l).mem r hr).1
  have hlen := norm_len l
  obtain ⟨L, N, HL, HZ, hll⟩ : ∃ L : List Int, Hid (Calls Try.prog 15 #[v] w fun e w' => ∃ v', e = .returned v' ∧ IntsAt w.heap.size v' L w' ∧ Below w.heap.size w w') ∧
      (∀ h : 0 < L.length, L[L.length - 1] = maxR (normR l)) ∧ (L.length = 0 → maxR (normR l) = 0) ∧ L.length = (normR l).length :=
    ⟨lensR (normR l), Lib.hid (rlengths_any l hf hl v w hv), lens_last (normR l) hok, lens_none (normR l), lens_len (normR l)⟩
  clear hv hok
  generalize maxR (normR l) = mx at *
  go_enter Try.func24, Try.ntmps24
  go_wp2_with fail
  refine N.out.mono ?_; rintro e w1 ⟨vl, rfl, rl, hb⟩
  obtain ⟨adl, capl, rfl, l1, l2, l3⟩ := shape_of rl
  have l2 : capl ≤ 9223372036854775807 := l2
  clear N
  rcases Nat.eq_zero_or_pos L.length with h0 | h0
  · have hmx : mx = 0 := HZ h0
    subst hmx
    have dl : ((L.length : Int) == 0) = true := by rw [h0]; rfl
    clear HL HZ rl l3 hll
    go_wp2
    go_ret
    exact ⟨rfl, hb⟩
  · obtain ⟨g, rfl, hgB, hg⟩ := l3 h0
    have q1 := int_cell rl (L.length - 1) (by omega)
    rw [HL h0] at q1
    obtain ⟨j, hj⟩ : ∃ j, L.length = j + 1 := ⟨L.length - 1, by omega⟩
    rw [show L.length - 1 = j by omega] at q1
    have dl : ((L.length : Int) == 0) = false := by rw [beq_eq_false_iff_ne]; omega
    clear HL HZ rl l3 hll
    go_wp2
    go_ret
    exact ⟨rfl, hb⟩

set_option maxHeartbeats 4000000 in
theorem rcount_any (l : List (Int × Int)) (hf : fitR l) (hl : l.length ≤ 1000) (v : Value) (w : World) (hv : RunsIn v l w) :
    Calls Try.prog 22 #[v] w fun e w' => e = .returned (.int .i64 (sumR (normR l))) ∧ Below w.heap.size w w' := by
  have N := Lib.hid (rnorm_any l hf (by omega) v w hv)
  have HS := Lib.hid (sum_take (normR l) (norm_norm l))
  have hok : ∀ r ∈ normR l, okR r := fun r hr => ((norm_norm l).mem r hr).1
  have hlen := norm_len l
  clear hv
  generalize normR l = m at *
  go_enter Try.func22, Try.ntmps22
  go_wp2_with fail
  refine N.out.mono ?_; rintro e w1 ⟨vm, rfl, hm, hb1⟩
  obtain ⟨adm, capm, rfl, m1, m2, m3⟩ := shape_of hm
  have m2 : capm ≤ 9223372036854775807 := m2
  clear N
  go_wp2
  go_loopw [3, 5] (fun c p wr => ∃ (k : Nat) (s : Int), p = .int .i64 k ∧ c = .int .i64 s ∧ k ≤ m.length ∧ Hid (s = sumR (m.take k)) ∧ Below w1.heap.size w1 wr) (fun _ p _ => m.length - (intOf p).toNat)
  case atStart => exact ⟨0, 0, rfl, rfl, Nat.zero_le _, Lib.hid rfl, Below.refl _ _⟩
  case round =>
    obtain ⟨k, s, rfl, rfl, hk, HK, hb⟩ := hrel
    by_cases hlt : k < m.length
    · obtain ⟨g, rfl, hgB, hg⟩ := m3 (by omega)
      obtain ⟨c1, c2⟩ := run_cells (row_kept hm hb) k hlt
      obtain ⟨hr1, hr2, hr3⟩ := hok _ (List.getElem_mem hlt)
      have HN : Hid (s + m[k].2 = sumR (m.take (k + 1))) := Lib.hid (by rw [List.take_succ_eq_append_getElem hlt, sum_snoc, HK.out])
      have b1 := HS.out k
      have b2 := HS.out (k + 1)
      rw [← HN.out] at b2
      rw [← HK.out] at b1
      generalize m[k].1 = a at *
      generalize m[k].2 = b at *
      have b3 := b2.2
      have b4 := b1.1
      clear hm m3 HS b1 b2 hok
      go_wp2
      exact ⟨⟨k + 1, s + b, by go_num, rfl, by omega, HN, hb⟩, by simp [intOf]; omega⟩
    · obtain rfl : k = m.length := by omega
      have HE : Hid (s = sumR m) := Lib.hid (by have := HK.out; rwa [List.take_length] at this)
      clear hm m3 HS
      go_wp2
      go_ret
      exact ⟨ret_int HE.out, bnext hb1 hb⟩

set_option maxHeartbeats 4000000 in
theorem rcheck_any (l : List (Int × Int)) (hf : fitR l) (v : Value) (w : World) (hv : RunsIn v l w) :
    Calls Try.prog 17 #[v] w fun e w' => e = .returned (.bool (decide (Norm (-1) l))) ∧ Below w.heap.size w w' := by
  obtain ⟨ad, cap, rfl, h1, h2, h3, -⟩ := id hv
  have h2 : cap ≤ 9223372036854775807 := h2
  have mixed : Try.prog.follows .mixedOrders = true := by kernel_rfl
  go_enter Try.func17, Try.ntmps17
  go_wp2
  go_loopw [3] (fun p wr => ∃ k : Nat, p = .int .i64 k ∧ k ≤ l.length ∧ Hid (∀ j < k, normAt l j) ∧ Below w.heap.size w wr) (fun p _ => l.length - (intOf p).toNat)
  case atStart => exact ⟨0, rfl, Nat.zero_le _, Lib.hid (fun j h => by omega), Below.refl _ _⟩
  case round =>
    obtain ⟨k, rfl, hk, HK, hb⟩ := hrel
    by_cases hlt : k < l.length
    · obtain ⟨g, o, rfl, hg, hc⟩ := h3 (by omega)
      have hg2 : g < wr.heap.size := Nat.lt_of_lt_of_le hg hb.size
      obtain ⟨c1, c2⟩ := hc k hlt
      have c1 : wr.cell? ⟨g, o + k * 2, none⟩ = _ := (hb.cell (p := ⟨g, o + k * 2, none⟩) hg).trans c1
      have c2 : wr.cell? ⟨g, o + k * 2 + 1, none⟩ = _ := (hb.cell (p := ⟨g, o + k * 2 + 1, none⟩) hg).trans c2
      have y1 := cell_gr (a := ⟨g, o + k * 2, none⟩) hg2 c1
      have y2 := cell_gr (a := ⟨g, o + k * 2 + 1, none⟩) hg2 c2
      have hfk := fit_at hf k hlt
      have HN : Hid (normAt l k → ∀ j < k + 1, normAt l j) := Lib.hid fun h j hj => by
        by_cases e : j = k
        · subst e; exact h
        · exact HK.out j (by omega)
      have HD : Hid (¬ normAt l k → decide (Norm (-1) l) = false) := Lib.hid fun h => by
        rw [decide_eq_false_iff_not, norm_iff]; exact fun hn => h (hn k)
      have V := may_gr l[k].1 l[k].2 hfk.1 hfk.2
      by_cases hok : okR l[k]
      · rw [show decide (okR (l[k].1, l[k].2)) = true from decide_eq_true hok] at V
        rcases Nat.eq_zero_or_pos k with h0 | h0
        · have HE := Lib.hid (HN.out fun h => ⟨hok, fun h => by omega⟩)
          generalize l[k].1 = a at *
          generalize l[k].2 = b at *
          have V := Lib.hid V
          have d0 : decide (0 < k) = false := decide_eq_false (by omega)
          clear h0
          clear hc h3 hv HD HN hok
          go_wp2
          refine wp_region_quiet_grown mixed (by kernel_rfl) ?_
          repeat (go_big_quiet_step (first | (go_at_call 42; refine Calls.grown_of (V.out _))))
          refine wpQuiet_nil ?_
          intro _ hw'
          obtain ⟨⟨nq, osq⟩, hw''⟩ := hw'
          subst hw''
          go_wp2
          exact ⟨⟨k + 1, by go_num, by omega, HE, bgrow (below_drewN hb _) _⟩, by simp [intOf]; omega⟩
        · obtain ⟨j, rfl⟩ : ∃ j, k = j + 1 := ⟨k - 1, by omega⟩
          obtain ⟨c3, c4⟩ := hc j (by omega)
          have c3 : wr.cell? ⟨g, o + j * 2, none⟩ = _ := (hb.cell (p := ⟨g, o + j * 2, none⟩) hg).trans c3
          have c4 : wr.cell? ⟨g, o + j * 2 + 1, none⟩ = _ := (hb.cell (p := ⟨g, o + j * 2 + 1, none⟩) hg).trans c4
          have z3 := cell_gr (a := ⟨g, o + j * 2, none⟩) hg2 c3
          have z4 := cell_gr (a := ⟨g, o + j * 2 + 1, none⟩) hg2 c4
          have hj := okR_fit ((HK.out j (by omega)) (by omega)).1
          have hj2 : I64 (l[j].1 + l[j].2) := by
            have h := ((HK.out j (by omega)) (by omega)).1
            have := h.1; have := h.2.1; have := h.2.2
            exact ⟨by omega, by omega⟩
          obtain ⟨hj3, hj4⟩ := hj2
          have HN1 : Hid (l[j].1 + l[j].2 < l[j+1].1 → ∀ m < j + 1 + 1, normAt l m) := Lib.hid fun h => HN.out fun h2 => ⟨hok, fun _ => h⟩
          have HD1 : Hid (¬ l[j].1 + l[j].2 < l[j+1].1 → decide (Norm (-1) l) = false) := Lib.hid fun h => HD.out fun h2 => h ((h2 hlt).2 (by omega))
          generalize l[j+1].1 = a at *
          generalize l[j+1].2 = b at *
          generalize l[j].1 = a' at *
          generalize l[j].2 = b' at *
          have V := Lib.hid V
          clear hc h3 hv HD HN hok c3 c4 c1 c2
          by_cases ht : a' + b' < a
          · have HE := Lib.hid (HN1.out ht)
            have d1 : decide (a ≤ a' + b') = false := decide_eq_false (by omega)
            clear ht HN1 HD1
            go_wp2
            refine wp_region_quiet_grown mixed (by kernel_rfl) ?_
            repeat (go_big_quiet_step (first | (go_at_call 42; refine Calls.grown_of (V.out _))))
            refine wpQuiet_nil ?_
            intro _ hw'
            obtain ⟨⟨nq, osq⟩, hw''⟩ := hw'
            subst hw''
            go_wp2
            exact ⟨⟨j + 1 + 1, by go_num, by omega, HE, bgrow (below_drewN hb _) _⟩, by simp [intOf]; omega⟩
          · have HE := Lib.hid (HD1.out ht)
            have d1 : decide (a ≤ a' + b') = true := decide_eq_true (by omega)
            clear ht HN1 HD1
            go_wp2
            refine wp_region_quiet_grown mixed (by kernel_rfl) ?_
            repeat (go_big_quiet_step (first | (go_at_call 42; refine Calls.grown_of (V.out _))))
            refine wpQuiet_nil ?_
            intro _ hw'
            obtain ⟨⟨nq, osq⟩, hw''⟩ := hw'
            subst hw''
            go_wp2
            go_ret
            exact ⟨ret_bool (by rw [HE.out]), bgrow (below_drewN hb _) _⟩
      · rw [show decide (okR (l[k].1, l[k].2)) = false from decide_eq_false hok] at V
        have HE := Lib.hid (HD.out fun h => hok (h hlt).1)
        generalize l[k].1 = a at *
        generalize l[k].2 = b at *
        have V := Lib.hid V
        clear hc h3 hv HD HN hok
        go_wp2
        refine wp_region_quiet_grown mixed (by kernel_rfl) ?_
        repeat (go_big_quiet_step (first | (go_at_call 42; refine Calls.grown_of (V.out _))))
        refine wpQuiet_nil ?_
        intro _ hw'
        obtain ⟨⟨nq, osq⟩, hw''⟩ := hw'
        subst hw''
        go_wp2
        go_ret
        exact ⟨ret_bool (by rw [HE.out]), bgrow (below_drewN hb _) _⟩
    · obtain rfl : k = l.length := by omega
      have HE : Hid (decide (Norm (-1) l) = true) := Lib.hid (decide_eq_true ((norm_iff l).2 fun j => by
        by_cases hj : j < l.length
        · exact HK.out j hj
        · exact fun h => absurd h hj))
      clear h3 hv
      go_wp2
      go_ret
      exact ⟨ret_bool (by rw [HE.out]), hb⟩

set_option maxHeartbeats 4000000 in
theorem rhas_any (l : List (Int × Int)) (hf : fitR l) (v : Value) (i : Int) (hi : I64 i) (w : World) (hv : RunsIn v l w) :
    Calls Try.prog 20 #[v, .int .i64 i] w fun e w' => e = .returned (.bool (decide (elemR l i))) ∧ Below w.heap.size w w' := by
  obtain ⟨ad, cap, rfl, h1, h2, h3, -⟩ := id hv
  have h2 : cap ≤ 9223372036854775807 := h2
  obtain ⟨hi1, hi2⟩ := hi
  have mixed : Try.prog.follows .mixedOrders = true := by kernel_rfl
  have HY : Hid (∀ k (h : k < l.length), inR l[k] i → decide (elemR l i) = true) := Lib.hid fun k h hk => by
    rw [← any_elem, List.any_eq_true]; exact ⟨_, List.getElem_mem h, decide_eq_true hk⟩
  have HZ : Hid ((∀ j (h : j < l.length), ¬ inR l[j] i) → decide (elemR l i) = false) := Lib.hid fun h => by
    rw [← any_elem, List.any_eq_false]
    intro r hr
    obtain ⟨j, hj, rfl⟩ := List.getElem_of_mem hr
    simpa using h j hj
  go_enter Try.func20, Try.ntmps20
  go_wp2
  go_loopw [5] (fun p wr => ∃ k : Nat, p = .int .i64 k ∧ k ≤ l.length ∧ Hid (∀ j (h : j < l.length), j < k → ¬ inR l[j] i) ∧ Below w.heap.size w wr) (fun p _ => l.length - (intOf p).toNat)
  case atStart => exact ⟨0, rfl, Nat.zero_le _, Lib.hid (fun j _ h => by omega), Below.refl _ _⟩
  case round =>
    obtain ⟨k, rfl, hk, HK, hb⟩ := hrel
    by_cases hlt : k < l.length
    · obtain ⟨g, o, rfl, hg, hc⟩ := h3 (by omega)
      have hg2 : g < wr.heap.size := Nat.lt_of_lt_of_le hg hb.size
      obtain ⟨c1, c2⟩ := hc k hlt
      have c1 : wr.cell? ⟨g, o + k * 2, none⟩ = _ := (hb.cell (p := ⟨g, o + k * 2, none⟩) hg).trans c1
      have c2 : wr.cell? ⟨g, o + k * 2 + 1, none⟩ = _ := (hb.cell (p := ⟨g, o + k * 2 + 1, none⟩) hg).trans c2
      have y1 := cell_gr (a := ⟨g, o + k * 2, none⟩) hg2 c1
      have y2 := cell_gr (a := ⟨g, o + k * 2 + 1, none⟩) hg2 c2
      have hfk := fit_at hf k hlt
      have HN : Hid (¬ inR l[k] i → ∀ j (h : j < l.length), j < k + 1 → ¬ inR l[j] i) := Lib.hid fun h j hj1 hj => by
        by_cases e : j = k
        · subst e; exact h
        · exact HK.out j hj1 (by omega)
      have HI : Hid (inR l[k] i ↔ okR (l[k].1, l[k].2) ∧ l[k].1 ≤ i ∧ i < l[k].1 + l[k].2) := Lib.hid Iff.rfl
      have HY1 := Lib.hid (HY.out k hlt)
      have V := may_gr l[k].1 l[k].2 hfk.1 hfk.2
      generalize inR l[k] i = P at *
      generalize l[k].1 = a at *
      generalize l[k].2 = b at *
      by_cases hok : okR (a, b)
      · rw [decide_eq_true hok] at V
        have V := Lib.hid V
        have ha0 : 0 ≤ a := hok.1
        have hb1 : 1 ≤ b := hok.2.1
        have hab : a + b ≤ 9223372036854775807 := hok.2.2
        by_cases h1 : a ≤ i
        · have d1 : decide (a ≤ i) = true := decide_eq_true h1
          by_cases h2 : i - a < b
          · have d2 : decide (i - a < b) = true := decide_eq_true h2
            have HE := Lib.hid (HY1.out (HI.out.2 ⟨hok, h1, by omega⟩))
            clear hc h3 hv HN HY HZ HY1 HI hok c1 c2
            go_wp2
            refine wp_region_quiet_grown mixed (by kernel_rfl) ?_
            repeat (go_big_quiet_step (first | (go_at_call 42; refine Calls.grown_of (V.out _))))
            refine wpQuiet_nil ?_
            intro _ hw'
            obtain ⟨⟨nq, osq⟩, hw''⟩ := hw'
            subst hw''
            go_wp2
            go_ret
            exact ⟨ret_bool (by rw [HE.out]), bgrow (below_drewN hb _) _⟩
          · have d2 : decide (i - a < b) = false := decide_eq_false h2
            have HE := Lib.hid (HN.out fun h => by have := (HI.out.1 h).2.2; omega)
            clear hc h3 hv HN HY HZ HY1 HI hok c1 c2
            go_wp2
            refine wp_region_quiet_grown mixed (by kernel_rfl) ?_
            repeat (go_big_quiet_step (first | (go_at_call 42; refine Calls.grown_of (V.out _))))
            refine wpQuiet_nil ?_
            intro _ hw'
            obtain ⟨⟨nq, osq⟩, hw''⟩ := hw'
            subst hw''
            go_wp2
            exact ⟨⟨k + 1, by go_num, by omega, HE, bgrow (below_drewN hb _) _⟩, by simp [intOf]; omega⟩
        · have d1 : decide (a ≤ i) = false := decide_eq_false h1
          have HE := Lib.hid (HN.out fun h => h1 (HI.out.1 h).2.1)
          clear hc h3 hv HN HY HZ HY1 HI hok c1 c2
          go_wp2
          refine wp_region_quiet_grown mixed (by kernel_rfl) ?_
          repeat (go_big_quiet_step (first | (go_at_call 42; refine Calls.grown_of (V.out _))))
          refine wpQuiet_nil ?_
          intro _ hw'
          obtain ⟨⟨nq, osq⟩, hw''⟩ := hw'
          subst hw''
          go_wp2
          exact ⟨⟨k + 1, by go_num, by omega, HE, bgrow (below_drewN hb _) _⟩, by simp [intOf]; omega⟩
      · rw [decide_eq_false hok] at V
        have V := Lib.hid V
        have HE := Lib.hid (HN.out fun h => hok (HI.out.1 h).1)
        clear hc h3 hv HN HY HZ HY1 HI hok c1 c2
        go_wp2
        refine wp_region_quiet_grown mixed (by kernel_rfl) ?_
        repeat (go_big_quiet_step (first | (go_at_call 42; refine Calls.grown_of (V.out _))))
        refine wpQuiet_nil ?_
        intro _ hw'
        obtain ⟨⟨nq, osq⟩, hw''⟩ := hw'
        subst hw''
        go_wp2
        exact ⟨⟨k + 1, by go_num, by omega, HE, bgrow (below_drewN hb _) _⟩, by simp [intOf]; omega⟩
    · obtain rfl : k = l.length := by omega
      have HE := Lib.hid (HZ.out fun j h => HK.out j h h)
      clear h3 hv
      go_wp2
      go_ret
      exact ⟨ret_bool (by rw [HE.out]), hb⟩
end Go.Proofs.Ytmdkekbhondkbaa
