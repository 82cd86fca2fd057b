/- The document's part, Find, Count; the program's End, Count. -/
import Derived.Test.YtgcbfiecgiijkaaTFind
namespace Go.Proofs.Ytgcbfiecgiijkaa
set_option linter.unusedVariables false
open Go.RowKit

def noE : Ent := ⟨0, 0, 0⟩
abbrev partA (o : Option Ent) : Value := .tuple #[entV (o.getD noE), .bool o.isSome]
set_option maxRecDepth 100000 in
set_option maxHeartbeats 4000000 in
theorem rpart_any (y : Ent) (hok : EntOk true y) (a b : Int) (ha : I64 a) (hb : I64 b) (w : World) :
    Calls Try.prog 62 #[entV y, .int .i64 a, .int .i64 b] w fun e w' => e = .returned (partA (part y a b)) ∧ Below w.heap.size w w' := by
  have hk := (entT y).1 hok
  obtain ⟨m1, hm1⟩ : ∃ m1, max y.log a = m1 := ⟨_, rfl⟩
  obtain ⟨m2, hm2⟩ : ∃ m2, min (y.log + y.len) b = m2 := ⟨_, rfl⟩
  rw [part_at _ _ _ hm1 hm2]
  have i1 : (if y.log < a then a else y.log) = m1 := by rw [← hm1]; split <;> omega
  have i2 : (if b < y.log + y.len then b else y.log + y.len) = m2 := by rw [← hm2]; split <;> omega
  have i3 : (if a < y.log then y.log else a) = m1 := by rw [← hm1]; split <;> omega
  have i4 : (if y.log + y.len < b then y.log + y.len else b) = m2 := by rw [← hm2]; split <;> omega
  have q1 : y.log ≤ m1 := by omega
  have q2 : m2 ≤ y.log + y.len := by omega
  obtain ⟨ha1, ha2⟩ := ha
  obtain ⟨hb1, hb2⟩ := hb
  by_cases hp : m1 < m2
  · rw [if_pos hp]
    have d1 : decide (m2 ≤ m1) = false := decide_eq_false (by omega)
    have hB := balloc (balloc1 w (.cells (entC y) 37)) (.cells #[.int .i64 m1, .int .i64 (y.phys + m1 - y.log), .int .i64 (m2 - m1)] 37)
    clear hok
    obtain ⟨ya, yp, yz⟩ := y
    dsimp only at *
    go_enter Try.func62, Try.ntmps62
    go_wp2
    (try simp only [Exit.inBlock, Exit.then])
    refine bodyPost_ret (v := .tuple #[.agg #[.int .i64 m1, .int .i64 (yp + m1 - ya), .int .i64 (m2 - m1)], .bool true]) ?_ rfl ⟨rfl, ?_⟩
    · rw [results_cell_tmp rfl]
      go_simp
    · exact hB
  · rw [if_neg hp]
    have d1 : decide (m2 ≤ m1) = true := decide_eq_true (by omega)
    have hB := balloc (balloc1 w (.cells (entC y) 37)) (.cells #[.int .i64 0, .int .i64 0, .int .i64 0] 37)
    clear hok
    obtain ⟨ya, yp, yz⟩ := y
    dsimp only at *
    go_enter Try.func62, Try.ntmps62
    go_wp2
    (try simp only [Exit.inBlock, Exit.then])
    refine bodyPost_ret (v := .tuple #[.agg #[.int .i64 0, .int .i64 0, .int .i64 0], .bool false]) ?_ rfl ⟨rfl, ?_⟩
    · rw [results_cell_tmp rfl]
      go_simp
    · exact hB
set_option maxRecDepth 100000 in
set_option maxHeartbeats 4000000 in
theorem rfind_any (l : List Ent) (hf : fitE l) (hl : l.length ≤ 4000) (p : Int) (hp : I64 p) (v : Value) (w : World) (hv : EntsIn v l w) :
    Calls Try.prog 13 #[v, .int .i64 p] w fun e w' => e = .returned (foundV l p) ∧ Below w.heap.size w w' := by
  have mixed : Try.prog.follows .mixedOrders = true := by kernel_rfl
  have C := fun w hv => xrcheck_any l hf hl v w hv
  have HV := Lib.hid hv
  obtain ⟨hp1, hp2⟩ := hp
  by_cases hok : RowOk true l
  · rw [decide_eq_true hok] at C
    have C := Lib.hid C
    have hr := (row_rise l).1 hok
    have hfe : fE l p = findE l p := by unfold fE; rw [if_pos hok]
    obtain ⟨ad, cap, rfl, c1, c2, c3, -⟩ := entsIn_cells hv
    have H3 := Lib.hid c3
    have HOK := Lib.hid hr.mem
    have HIT : Hid (∀ k, k < l.length → (eat l k).log ≤ p → p < (eat l k).log + (eat l k).len → fP l p = (eat l k).phys + p - (eat l k).log ∧ fL l p = (eat l k).log + (eat l k).len - p ∧ fB l p = true) := Lib.hid fun k hk h1 h2 => f_some (hfe.trans (find_at hr (eat_mem hk) ⟨h1, h2⟩))
    have MISS : Hid ((∀ j, j < l.length → ¬ inE (eat l j) p) → fP l p = 0 ∧ fL l p = 0 ∧ fB l p = false) := Lib.hid fun h => f_none (hfe.trans (find_none h))
    unfold foundV
    generalize fP l p = vP at *
    generalize fL l p = vL at *
    generalize fB l p = vB at *
    clear c3 hv hok hr hfe
    go_enter Try.func13, Try.ntmps13
    go_wp2_with fail
    refine (C.out _ HV.out).mono ?_; rintro e w1 ⟨rfl, b1⟩
    clear C HV
    go_wp2
    go_loopw [7, 8] (fun q u8 wr => ∃ k : Nat, q = .int .i64 k ∧ k ≤ l.length ∧ Hid (∀ j, j < k → ¬ inE (eat l j) p) ∧ Below w.heap.size w wr) (fun q _ _ => l.length - (intOf q).toNat)
    case atStart => exact ⟨0, rfl, Nat.zero_le _, Lib.hid (fun j hj => by omega), b1⟩
    case round =>
      obtain ⟨k, rfl, hk, HK, hb⟩ := hrel
      by_cases hlt : k < l.length
      · obtain ⟨g, o, rfl, hg, hc⟩ := H3.out (by omega)
        obtain ⟨x1, x2, x3⟩ := hc wr hb k hlt
        have hky := (entT _).1 (HOK.out _ (eat_mem hlt)).1
        have HHIT := Lib.hid (HIT.out k hlt)
        have HKN : Hid (¬ inE (eat l k) p → ∀ j, j < k + 1 → ¬ inE (eat l j) p) := Lib.hid fun h j hj => by
          by_cases e : j = k
          · subst e; exact h
          · exact HK.out j (by omega)
        have kb := fun q : BelowP (wr.alloc (.cells (entC (eat l k)) 37)) => ent_new wr (eat l k) 37 q
        have k0 := fun q => (kb q).1
        have k1 := fun q => (kb q).2.1
        have k2 := fun q => (kb q).2.2
        have hb1 := balloc hb (.cells (entC (eat l k)) 37)
        clear kb hc H3 HOK HIT HK MISS
        by_cases h1 : (eat l k).log ≤ p
        · have d1 : decide ((eat l k).log ≤ p) = true := decide_eq_true h1
          by_cases h2 : p < (eat l k).log + (eat l k).len
          · have d2 : decide (p < (eat l k).log + (eat l k).len) = true := decide_eq_true h2
            have HR := Lib.hid (HHIT.out h1 h2)
            clear HHIT HKN
            generalize eat l k = y at *
            obtain ⟨ya, yp, yz⟩ := y
            dsimp only at *
            go_wp2
            generalize wr.alloc (.cells #[.int .i64 ya, .int .i64 yp, .int .i64 yz] 37) = w0 at *
            refine wp_region_quiet_below mixed (by kernel_rfl) ?_
            repeat (go_big_quiet_step (fail))
            refine wpQuiet_nil ?_
            intro w0q hw'
            obtain ⟨⟨wq, bq⟩, hw''⟩ := hw'
            have hw2 : wq = w0q := hw''.symm
            clear hw''
            subst hw2
            have hb2 := bnext hb1 bq
            clear k0 k1 k2
            go_wp2
            go_ret3
            exact ⟨by rw [HR.out.1, HR.out.2.1, HR.out.2.2]; rfl, hb2⟩
          · have d2 : decide (p < (eat l k).log + (eat l k).len) = false := decide_eq_false h2
            have HN := Lib.hid (HKN.out fun h => h2 h.2)
            clear HHIT HKN h2
            generalize eat l k = y at *
            obtain ⟨ya, yp, yz⟩ := y
            dsimp only at *
            clear k0 k1 k2
            go_wp2
            exact ⟨⟨k + 1, by go_num, by omega, HN, hb1⟩, by simp [intOf]; omega⟩
        · have d1 : decide ((eat l k).log ≤ p) = false := decide_eq_false h1
          have HN := Lib.hid (HKN.out fun h => h1 h.1)
          clear HHIT HKN h1
          generalize eat l k = y at *
          obtain ⟨ya, yp, yz⟩ := y
          dsimp only at *
          clear k0 k1 k2
          go_wp2
          exact ⟨⟨k + 1, by go_num, by omega, HN, hb1⟩, by simp [intOf]; omega⟩
      · obtain rfl : k = l.length := by omega
        have HR := Lib.hid (MISS.out HK.out)
        go_wp2
        go_ret3
        exact ⟨by rw [HR.out.1, HR.out.2.1, HR.out.2.2]; rfl, hb⟩
  · rw [decide_eq_false hok] at C
    have hfe : fE l p = none := by unfold fE; rw [if_neg hok]
    obtain ⟨eP, eL, eB⟩ := f_none hfe
    have C := Lib.hid C
    clear hok hfe
    unfold foundV
    rw [eP, eL, eB]
    obtain ⟨ad, cap, rfl, -⟩ := entsIn_cells hv
    go_enter Try.func13, Try.ntmps13
    go_wp2_with fail
    refine (C.out _ HV.out).mono ?_; rintro e w1 ⟨rfl, b1⟩
    go_wp2
    go_ret3
    exact ⟨rfl, b1⟩
theorem countX_take {l : List Ent} (h : ∀ e ∈ l, EntOk true e) (hl : l.length ≤ 4000) (k : Nat) (hk : k < l.length) : countX (l.take (k + 1)) = countX (l.take k) + (eat l k).len := by
  rw [List.take_succ_eq_append_getElem hk, countX_append, eat_eq hk]; simp [countX]
theorem countX_le {l : List Ent} (h : ∀ e ∈ l, EntOk true e) : 0 ≤ countX l ∧ countX l ≤ 4096 * (l.length : Int) := by
  induction l with
  | nil => simp [countX]
  | cons e l ih =>
    have := ih fun x hx => h x (by simp [hx])
    have := entOk_low (h e (by simp))
    simp only [countX, List.length_cons]; omega
abbrev countV (l : List Ent) : Int := if RowOk true l then countX l else 0
set_option maxRecDepth 100000 in
set_option maxHeartbeats 4000000 in
theorem xcount_any (l : List Ent) (hf : fitE l) (hl : l.length ≤ 4000) (v : Value) (w : World) (hv : EntsIn v l w) :
    Calls Try.prog 21 #[v] w fun e w' => e = .returned (.int .i64 (countV l)) ∧ Below w.heap.size w w' := by
  have C := fun w hv => xcheck_any l hf v w hv
  have HV := Lib.hid hv
  obtain ⟨ad, cap, rfl, c1, c2, c3, -⟩ := entsIn_cells hv
  have H3 := Lib.hid c3
  clear c3 hv
  by_cases hok : RowOk true l
  · rw [decide_eq_true hok] at C
    have C := Lib.hid C
    unfold countV
    rw [if_pos hok]
    have hr := (row_rise l).1 hok
    have HT : Hid (∀ k, k < l.length → countX (l.take (k + 1)) = countX (l.take k) + (eat l k).len) := Lib.hid fun k hk => countX_take (fun e he => (hr.mem e he).1) hl k hk
    have HLE : Hid (∀ k, 0 ≤ countX (l.take k) ∧ countX (l.take k) ≤ 16384000) := Lib.hid fun k => by
      have := countX_le (l := l.take k) fun e he => (hr.mem e (List.mem_of_mem_take he)).1
      have h2 : (l.take k).length ≤ 4000 := by rw [List.length_take]; omega
      omega
    have H0 : Hid (countX (l.take 0) = 0) := Lib.hid rfl
    have HF : Hid (countX (l.take l.length) = countX l) := Lib.hid (by rw [List.take_length])
    obtain ⟨T, hT⟩ : ∃ T : Nat → Int, T = fun k => countX (l.take k) := ⟨_, rfl⟩
    have HT : Hid (∀ k, k < l.length → T (k + 1) = T k + (eat l k).len) := Lib.hid (by rw [hT]; exact HT.out)
    have HLE : Hid (∀ k, 0 ≤ T k ∧ T k ≤ 16384000) := Lib.hid (by rw [hT]; exact HLE.out)
    have H0 : Hid (T 0 = 0) := Lib.hid (by rw [hT]; exact H0.out)
    have HF : Hid (T l.length = countX l) := Lib.hid (by rw [hT]; exact HF.out)
    clear hT hok hr
    go_enter Try.func21, Try.ntmps21
    go_wp2_with fail
    refine (C.out _ HV.out).mono ?_; rintro e w1 ⟨rfl, b1⟩
    clear C HV
    go_wp2
    go_loopw [3, 11] (fun q p wr => ∃ k : Nat, q = .int .i64 (T k) ∧ p = .int .i64 k ∧ k ≤ l.length ∧ Below w.heap.size w wr) (fun _ p _ => l.length - (intOf p).toNat)
    case atStart => exact ⟨0, by rw [H0.out], rfl, Nat.zero_le _, b1⟩
    case round =>
      obtain ⟨k, rfl, rfl, hk, hb⟩ := hrel
      by_cases hlt : k < l.length
      · obtain ⟨g, o, rfl, hg, hc⟩ := H3.out (by omega)
        obtain ⟨x1, x2, x3⟩ := hc wr hb k hlt
        have hle1 := HLE.out k
        have hle2 := HLE.out (k + 1)
        have HN := Lib.hid (HT.out k hlt)
        rw [HT.out k hlt] at hle2
        have hb1 := balloc hb (.cells (entC (eat l k)) 37)
        clear hc H3 HT HLE H0 HF
        generalize T k = t at *
        generalize eat l k = y at *
        obtain ⟨ya, yp, yz⟩ := y
        dsimp only at *
        go_wp2
        exact ⟨⟨k + 1, by rw [HN.out], by go_num, by omega, hb1⟩, by simp [intOf]; omega⟩
      · obtain rfl : k = l.length := by omega
        rw [HF.out]
        go_wp2
        go_ret
        exact ⟨rfl, hb⟩
  · rw [decide_eq_false hok] at C
    have C := Lib.hid C
    unfold countV
    rw [if_neg hok]
    clear hok H3
    go_enter Try.func21, Try.ntmps21
    go_wp2_with fail
    refine (C.out _ HV.out).mono ?_; rintro e w1 ⟨rfl, b1⟩
    go_wp2
    go_ret
    exact ⟨rfl, b1⟩
set_option maxRecDepth 100000 in
set_option maxHeartbeats 4000000 in
theorem rcount_any (l : List Ent) (hf : fitE l) (hl : l.length ≤ 4000) (v : Value) (w : World) (hv : EntsIn v l w) :
    Calls Try.prog 22 #[v] w fun e w' => e = .returned (.int .i64 (countV l)) ∧ Below w.heap.size w w' := by
  have C := fun w hv => xrcheck_any l hf hl v w hv
  have HV := Lib.hid hv
  obtain ⟨ad, cap, rfl, c1, c2, c3, -⟩ := entsIn_cells hv
  have H3 := Lib.hid c3
  clear c3 hv
  by_cases hok : RowOk true l
  · rw [decide_eq_true hok] at C
    have C := Lib.hid C
    unfold countV
    rw [if_pos hok]
    have hr := (row_rise l).1 hok
    obtain ⟨T, hT⟩ : ∃ T : Nat → Int, T = fun k => countX (l.take k) := ⟨_, rfl⟩
    have HT : Hid (∀ k, k < l.length → T (k + 1) = T k + (eat l k).len) := Lib.hid (by rw [hT]; exact fun k hk => countX_take (fun e he => (hr.mem e he).1) hl k hk)
    have HLE : Hid (∀ k, 0 ≤ T k ∧ T k ≤ 16384000) := Lib.hid (by
      rw [hT]; intro k
      have := countX_le (l := l.take k) fun e he => (hr.mem e (List.mem_of_mem_take he)).1
      have h2 : (l.take k).length ≤ 4000 := by rw [List.length_take]; omega
      show 0 ≤ countX (l.take k) ∧ countX (l.take k) ≤ 16384000
      omega)
    have H0 : Hid (T 0 = 0) := Lib.hid (by rw [hT]; rfl)
    have HF : Hid (T l.length = countX l) := Lib.hid (by rw [hT]; show countX (l.take l.length) = _; rw [List.take_length])
    clear hT hok hr
    go_enter Try.func22, Try.ntmps22
    go_wp2
    go_loopw [3, 4] (fun q p wr => ∃ k : Nat, q = .int .i64 (T k) ∧ p = .int .i64 k ∧ k ≤ l.length ∧ Below w.heap.size w wr) (fun _ p _ => l.length - (intOf p).toNat)
    case atStart => exact ⟨0, by rw [H0.out], rfl, Nat.zero_le _, Below.refl _ _⟩
    case round =>
      obtain ⟨k, rfl, rfl, hk, hb⟩ := hrel
      by_cases hlt : k < l.length
      · obtain ⟨g, o, rfl, hg, hc⟩ := H3.out (by omega)
        have hle1 := HLE.out k
        have hle2 := HLE.out (k + 1)
        have HN := Lib.hid (HT.out k hlt)
        rw [HT.out k hlt] at hle2
        have HVr := Lib.hid (HV.out.kept hb)
        have HC := Lib.hid fun W (b : Below w.heap.size w W) => hc W b k hlt
        clear hc H3 HT HLE H0 HF HV
        generalize T k = t at *
        generalize eat l k = y at *
        obtain ⟨ya, yp, yz⟩ := y
        dsimp only at *
        go_wp2_with fail
        refine (C.out _ HVr.out).mono ?_; rintro e w1 ⟨rfl, b1⟩
        have hb1 := bnext hb b1
        obtain ⟨x1, x2, x3⟩ := HC.out w1 hb1
        go_wp2
        exact ⟨⟨k + 1, by rw [HN.out], by go_num, by omega, hb1⟩, by simp [intOf]; omega⟩
      · obtain rfl : k = l.length := by omega
        rw [HF.out]
        go_wp2
        go_ret
        exact ⟨rfl, hb⟩
  · rw [decide_eq_false hok] at C
    have C := Lib.hid C
    unfold countV
    rw [if_neg hok]
    clear hok H3
    by_cases h0 : l.length = 0
    · rw [h0] at *
      go_enter Try.func22, Try.ntmps22
      go_wp2
      go_loopw [3, 4] (fun q p wr => q = .int .i64 0 ∧ p = .int .i64 0 ∧ Below w.heap.size w wr) (fun _ p _ => 0)
      case atStart => exact ⟨rfl, rfl, Below.refl _ _⟩
      case round =>
        obtain ⟨rfl, rfl, hb⟩ := hrel
        go_wp2
        go_ret
        exact ⟨rfl, hb⟩
    · have d0 : (0 : Int) < (l.length : Int) := by omega
      go_enter Try.func22, Try.ntmps22
      go_wp2
      go_loopw [3, 4] (fun q p wr => q = .int .i64 0 ∧ p = .int .i64 0 ∧ Below w.heap.size w wr) (fun _ p _ => 0)
      case atStart => exact ⟨rfl, rfl, Below.refl _ _⟩
      case round =>
        obtain ⟨rfl, rfl, hb⟩ := hrel
        have HVr := Lib.hid (HV.out.kept hb)
        clear HV
        go_wp2_with fail
        refine (C.out _ HVr.out).mono ?_; rintro e w1 ⟨rfl, b1⟩
        go_wp2
        go_ret
        exact ⟨rfl, bnext hb b1⟩
end Go.Proofs.Ytgcbfiecgiijkaa
