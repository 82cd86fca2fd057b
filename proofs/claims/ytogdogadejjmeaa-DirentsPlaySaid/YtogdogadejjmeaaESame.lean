/- Same, great. -/
import Derived.Test.YtogdogadejjmeaaEIdx
import Derived.Laws.StructEq
namespace Go.Proofs.Ytogdogadejjmeaa
set_option linter.unusedVariables false
open Go.RowKit

theorem den_held : Try.prog.stoodInHeld 25 = false := by kernel_rfl
set_option maxRecDepth 100000 in
set_option maxHeartbeats 4000000 in
theorem run_den_eq (s t : Den) (w : World) : (Op.equalIn 10000 25 (denV s) (denV t)).run Try.prog w = .ok (decide (s = t)) w := by
  have gh := den_held
  obtain ⟨a0, a1⟩ := s
  obtain ⟨b0, b1⟩ := t
  by_cases h0 : a0 = b0
  · have e0 : (a0.toList == b0.toList) = true := by rw [str_beq]; exact decide_eq_true h0
    by_cases h1 : a1 = b1
    · have e1 : (a1 == b1) = true := by rw [beq_iff_eq]; exact h1
      have HR : Hid (decide (Den.mk a0 a1 = Den.mk b0 b1) = true) := Lib.hid (by simp [*])
      rw [HR.out]
      clear h0 h1
      go_simp
    · have e1 : (a1 == b1) = false := by rw [beq_eq_false_iff_ne]; exact h1
      have HR : Hid (decide (Den.mk a0 a1 = Den.mk b0 b1) = false) := Lib.hid (by simp [*])
      rw [HR.out]
      clear h0 h1
      go_simp
  · have e0 : (a0.toList == b0.toList) = false := by rw [str_beq]; exact decide_eq_false h0
    have HR : Hid (decide (Den.mk a0 a1 = Den.mk b0 b1) = false) := Lib.hid (by simp [*])
    rw [HR.out]
    clear h0
    go_simp
set_option maxRecDepth 100000 in
set_option maxHeartbeats 4000000 in
theorem esame_any (l m : List Den) (v u : Value) (w : World) (hv : DensIn v l w) (hu : DensIn u m w) :
    Calls Try.prog 12 #[v, u] w fun e w' => e = .returned (.bool (decide (l = m))) ∧ Below w.heap.size w w' := by
  obtain ⟨ad, cap, rfl, c1, c2, c3, -⟩ := densIn_cells hv
  obtain ⟨ad2, cap2, rfl, c1', c2', c3', -⟩ := densIn_cells hu
  have mixed : Try.prog.follows .mixedOrders = true := by kernel_rfl
  have H3 := Lib.hid c3
  have H4 := Lib.hid c3'
  clear c3 c3' hv hu
  by_cases hl : l.length = m.length
  · have dl : ((l.length : Int) != (m.length : Int)) = false := by simp [hl]
    have HE : Hid ((∀ i, i < l.length → dat l i = dat m i) → decide (l = m) = true) := Lib.hid fun h => decide_eq_true (List.ext_getElem hl fun i h1 h2 => by
      have := h i h1
      rwa [dat_eq h1, dat_eq h2] at this)
    have HN : Hid (∀ i, dat l i ≠ dat m i → decide (l = m) = false) := Lib.hid fun i h => decide_eq_false fun e => h (by rw [e])
    have HL := Lib.hid hl
    clear hl
    go_enter Try.func12, Try.ntmps12
    go_wp2
    go_loopw [5] (fun p wr => ∃ k : Nat, p = .int .i64 k ∧ k ≤ l.length ∧ Hid (∀ i, i < k → dat l i = dat m i) ∧ Below w.heap.size w wr) (fun p _ => l.length - (intOf p).toNat)
    case atStart => exact ⟨0, rfl, Nat.zero_le _, Lib.hid (fun i h => by omega), Below.refl _ _⟩
    case round =>
      obtain ⟨k, rfl, hk, HK, hb⟩ := hrel
      by_cases hlt : k < l.length
      · have hltm : k < m.length := by have := HL.out; omega
        obtain ⟨g, o, rfl, hg, hc⟩ := H3.out (by omega)
        obtain ⟨g2, o2, rfl, hg2, hc2⟩ := H4.out (by omega)
        have k0 := fun p : BelowP wr => (hc p.to (hb.trans (p.h.mono hb.size)) k hlt).1
        have k1 := fun p : BelowP wr => (hc p.to (hb.trans (p.h.mono hb.size)) k hlt).2
        have n0 := fun p : BelowP wr => (hc2 p.to (hb.trans (p.h.mono hb.size)) k hltm).1
        have n1 := fun p : BelowP wr => (hc2 p.to (hb.trans (p.h.mono hb.size)) k hltm).2
        have RE := fun w => run_den_eq (dat l k) (dat m k) w
        by_cases he : dat l k = dat m k
        · have HKN : Hid (∀ i, i < k + 1 → dat l i = dat m i) := Lib.hid fun i hi => by
            by_cases e : i = k
            · subst e; exact he
            · exact HK.out i (by omega)
          rw [decide_eq_true he] at RE
          clear HK he hc hc2 HE HN
          generalize dat l k = yl at *
          generalize dat m k = ym at *
          obtain ⟨a0, a1⟩ := yl
          obtain ⟨b0, b1⟩ := ym
          dsimp only at *
          go_wp2
          refine wp_region_quiet_below mixed (by kernel_rfl) ?_
          repeat (go_big_quiet_step (fail))
          refine wpQuiet_nil ?_
          intro w0q hw'
          obtain ⟨⟨wq, bq⟩, hw''⟩ := hw'
          have hw2 : wq = w0q := hw''.symm
          clear hw''
          subst hw2
          have hb2 := bnext hb bq
          clear k0 k1 n0 n1 RE
          go_wp2
          exact ⟨⟨k + 1, by go_num, by omega, HKN, hb2⟩, by simp [intOf]; omega⟩
        · have HR := Lib.hid (HN.out k he)
          rw [decide_eq_false he] at RE
          clear HK he hc hc2 HE HN
          generalize dat l k = yl at *
          generalize dat m k = ym at *
          obtain ⟨a0, a1⟩ := yl
          obtain ⟨b0, b1⟩ := ym
          dsimp only at *
          go_wp2
          refine wp_region_quiet_below mixed (by kernel_rfl) ?_
          repeat (go_big_quiet_step (fail))
          refine wpQuiet_nil ?_
          intro w0q hw'
          obtain ⟨⟨wq, bq⟩, hw''⟩ := hw'
          have hw2 : wq = w0q := hw''.symm
          clear hw''
          subst hw2
          have hb2 := bnext hb bq
          clear k0 k1 n0 n1 RE
          go_wp2
          go_ret
          exact ⟨ret_bool (by rw [HR.out]), hb2⟩
      · obtain rfl : k = l.length := by omega
        have HR := Lib.hid (HE.out HK.out)
        go_wp2
        go_ret
        exact ⟨ret_bool (by rw [HR.out]), hb⟩
  · have dl : ((l.length : Int) != (m.length : Int)) = true := by simp; omega
    have HR : Hid (decide (l = m) = false) := Lib.hid (decide_eq_false fun e => hl (by rw [e]))
    rw [HR.out]
    clear hl
    go_enter Try.func12, Try.ntmps12
    go_wp2
    go_ret
    exact ⟨rfl, Below.refl _ _⟩
/-- how much the law goes through: each entry one, and its name, but no more than a million -/
def bulk : List Den → Nat
  | [] => 0
  | d :: l => 1 + min d.name.size 1000000 + bulk l
theorem bulk_append (a b : List Den) : bulk (a ++ b) = bulk a + bulk b := by
  induction a with
  | nil => simp [bulk]
  | cons d a ih => simp [bulk, ih]; omega
theorem bulk_take {l : List Den} {k : Nat} (h : k < l.length) : bulk (l.take (k + 1)) = bulk (l.take k) + 1 + min (dat l k).name.size 1000000 := by
  rw [List.take_succ_eq_append_getElem h, bulk_append, dat_eq h]; simp [bulk]; omega
theorem bulk_le (l : List Den) (k : Nat) : bulk (l.take k) ≤ bulk l := by
  have := bulk_append (l.take k) (l.drop k)
  rw [List.take_append_drop] at this
  omega
def greatB (l : List Den) : Bool := decide (3000 < bulk l) || decide (100 < l.length)
set_option maxHeartbeats 4000000 in
theorem great_any (l : List Den) (hf : ∀ d ∈ l, d.name.size ≤ maxLen) (v : Value) (w : World) (hv : DensIn v l w) :
    Calls Try.prog 9 #[v] w fun e w' => e = .returned (.bool (greatB l)) ∧ Below w.heap.size w w' := by
  obtain ⟨ad, cap, rfl, h1, h2, h3, -⟩ := densIn_cells hv
  have HS := Lib.hid fun k => @bulk_take l k
  have HL := Lib.hid (bulk_le l)
  have HZ : Hid (∀ k, k < l.length → (dat l k).name.size ≤ 9223372036854775807) := Lib.hid fun k hk => hf _ (dat_mem hk)
  have HE : Hid (bulk (l.take l.length) ≤ 3000 → greatB l = decide (100 < l.length)) := Lib.hid fun h => by
    rw [List.take_length] at h
    unfold greatB; rw [decide_eq_false (by omega : ¬ 3000 < bulk l), Bool.false_or]
  have HT : Hid (∀ k, 3000 < bulk (l.take k) → greatB l = true) := Lib.hid fun k h => by
    have := bulk_le l k
    unfold greatB; rw [decide_eq_true (by omega : 3000 < bulk l), Bool.true_or]
  have H0 : Hid (bulk (l.take 0) = 0) := Lib.hid rfl
  generalize greatB l = R at *
  obtain ⟨U, hU⟩ : ∃ U : Nat → Nat, U = fun k => bulk (l.take k) := ⟨_, rfl⟩
  have hU2 : ∀ k, bulk (l.take k) = U k := fun k => by rw [hU]
  simp only [hU2] at HS HE HT H0 HL
  clear hU hU2 hv hf HL
  obtain ⟨D, hD⟩ : ∃ D : Nat → Den, D = dat l := ⟨_, rfl⟩
  rw [← hD] at HS h3 HZ
  generalize l.length = n at *
  clear hD
  go_enter Try.func9, Try.ntmps9
  go_wp2
  go_loopw [3, 4] (fun p q wr => ∃ k : Nat, q = .int .i64 k ∧ p = .int .i64 (U k : Int) ∧ k ≤ n ∧ U k ≤ 3000 ∧ Below w.heap.size w wr) (fun _ q _ => n - (intOf q).toNat)
  case atStart => exact ⟨0, rfl, by rw [H0.out]; rfl, Nat.zero_le _, by rw [H0.out]; omega, Below.refl _ _⟩
  case round =>
    obtain ⟨k, rfl, rfl, hk, hu, hb⟩ := hrel
    by_cases hlt : k < n
    · obtain ⟨g, o, rfl, hg, hc⟩ := h3 (by omega)
      obtain ⟨c1, c2⟩ := hc wr hb k hlt
      have hs := HS.out k hlt
      have hz := HZ.out k hlt
      have HTk := HT.out (k + 1)
      generalize D k = d at *
      obtain ⟨nm, ino⟩ := d
      dsimp only at *
      have hmin : (if (1000000 : Int) < (nm.size : Int) then (1000000 : Int) else (nm.size : Int)) = ((min nm.size 1000000 : Nat) : Int) := by split <;> omega
      generalize hx : U (k + 1) = x at *
      have hz2 : (U k : Int) + 1 + ((min nm.size 1000000 : Nat) : Int) = (x : Int) := by omega
      have hz3 : ((min nm.size 1000000 : Nat) : Int) ≤ 1000000 := by omega
      have hz4 : (0 : Int) ≤ ((min nm.size 1000000 : Nat) : Int) := by omega
      generalize ((min nm.size 1000000 : Nat) : Int) = mn at *
      by_cases hbig : 3000 < x
      · have HR := Lib.hid (HTk hbig)
        have t1 : decide ((3000 : Int) < (x : Int)) = true := decide_eq_true (by omega)
        clear h3 hc hs HTk HE HT hx
        go_wp2
        go_ret
        exact ⟨by rw [HR.out]; rfl, hb⟩
      · have t1 : decide ((3000 : Int) < (x : Int)) = false := decide_eq_false (by omega)
        have HX := Lib.hid hx
        clear h3 hc hs HTk HE HT hx
        go_wp2
        exact ⟨⟨k + 1, by go_num, by rw [HX.out, ← hz2, ← hmin], by omega, by rw [HX.out]; omega, hb⟩, by simp [intOf]; omega⟩
    · obtain rfl : k = n := by omega
      have HR := Lib.hid (HE.out hu)
      go_wp2
      go_ret
      exact ⟨ret_bool (by rw [HR.out]; first | rfl | (rw [decide_eq_decide]; omega)), hb⟩
end Go.Proofs.Ytogdogadejjmeaa
