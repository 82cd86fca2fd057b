/- SameEntries, Same. -/
import Derived.Test.YtfepjjjoikcljaaICheck
import Derived.Laws.StructEq
namespace Go.Proofs.Ytfepjjjoikcljaa
set_option linter.unusedVariables false
open Go.RowKit

theorem ent_held : Try.prog.stoodInHeld 26 = false := by kernel_rfl
set_option maxRecDepth 100000 in
set_option maxHeartbeats 4000000 in
theorem run_ent_eq (s t : Ent) (w : World) : (Op.equalIn 10000 26 (entV s) (entV t)).run Try.prog w = .ok (decide (s = t)) w := by
  have gh := ent_held
  obtain ⟨a0, a1, a2⟩ := s
  obtain ⟨b0, b1, b2⟩ := t
  by_cases h0 : a0 = b0
  · have e0 : (a0 == b0) = true := by rw [beq_iff_eq]; exact h0
    by_cases h1 : a1 = b1
    · have e1 : (a1 == b1) = true := by rw [beq_iff_eq]; exact h1
      by_cases h2 : a2 = b2
      · have e2 : (a2 == b2) = true := by rw [beq_iff_eq]; exact h2
        have HR : Hid (decide (Ent.mk a0 a1 a2 = Ent.mk b0 b1 b2) = true) := Lib.hid (by simp [*])
        rw [HR.out]
        clear h0 h1 h2
        go_simp
      · have e2 : (a2 == b2) = false := by rw [beq_eq_false_iff_ne]; exact h2
        have HR : Hid (decide (Ent.mk a0 a1 a2 = Ent.mk b0 b1 b2) = false) := Lib.hid (by simp [*])
        rw [HR.out]
        clear h0 h1 h2
        go_simp
    · have e1 : (a1 == b1) = false := by rw [beq_eq_false_iff_ne]; exact h1
      have HR : Hid (decide (Ent.mk a0 a1 a2 = Ent.mk b0 b1 b2) = false) := Lib.hid (by simp [*])
      rw [HR.out]
      clear h0 h1
      go_simp
  · have e0 : (a0 == b0) = false := by rw [beq_eq_false_iff_ne]; exact h0
    have HR : Hid (decide (Ent.mk a0 a1 a2 = Ent.mk b0 b1 b2) = false) := Lib.hid (by simp [*])
    rw [HR.out]
    clear h0
    go_simp
set_option maxRecDepth 100000 in
set_option maxHeartbeats 4000000 in
theorem sameEnts_any (l m : List Ent) (v u : Value) (w : World) (hv : EntsIn v l w) (hu : EntsIn u m w) :
    Calls Try.prog 25 #[v, u] w fun e w' => e = .returned (.bool (decide (l = m))) ∧ Below w.heap.size w w' := by
  obtain ⟨ad, cap, rfl, c1, c2, c3, -⟩ := entsIn_cells hv
  obtain ⟨ad2, cap2, rfl, c1', c2', c3', -⟩ := entsIn_cells hu
  have mixed : Try.prog.follows .mixedOrders = true := by kernel_rfl
  have H3 := Lib.hid c3
  have H4 := Lib.hid c3'
  clear c3 c3' hv hu
  by_cases hl : l.length = m.length
  · have dl : ((l.length : Int) != (m.length : Int)) = false := by simp [hl]
    have HE : Hid ((∀ i, i < l.length → eat l i = eat m i) → decide (l = m) = true) := Lib.hid fun h => decide_eq_true (List.ext_getElem hl fun i h1 h2 => by
      have := h i h1
      rwa [eat_eq h1, eat_eq h2] at this)
    have HN : Hid (∀ i, eat l i ≠ eat m i → decide (l = m) = false) := Lib.hid fun i h => decide_eq_false fun e => h (by rw [e])
    have HL := Lib.hid hl
    clear hl
    go_enter Try.func25, Try.ntmps25
    go_wp2
    go_loopw [5] (fun p wr => ∃ k : Nat, p = .int .i64 k ∧ k ≤ l.length ∧ Hid (∀ i, i < k → eat l i = eat m i) ∧ Below w.heap.size w wr) (fun p _ => l.length - (intOf p).toNat)
    case atStart => exact ⟨0, rfl, Nat.zero_le _, Lib.hid (fun i h => by omega), Below.refl _ _⟩
    case round =>
      obtain ⟨k, rfl, hk, HK, hb⟩ := hrel
      by_cases hlt : k < l.length
      · have hltm : k < m.length := by have := HL.out; omega
        obtain ⟨g, o, rfl, hg, hc⟩ := H3.out (by omega)
        obtain ⟨g2, o2, rfl, hg2, hc2⟩ := H4.out (by omega)
        have k0 := fun p : BelowP wr => (hc p.to (hb.trans (p.h.mono hb.size)) k hlt).1
        have k1 := fun p : BelowP wr => (hc p.to (hb.trans (p.h.mono hb.size)) k hlt).2.1
        have k2 := fun p : BelowP wr => (hc p.to (hb.trans (p.h.mono hb.size)) k hlt).2.2
        have n0 := fun p : BelowP wr => (hc2 p.to (hb.trans (p.h.mono hb.size)) k hltm).1
        have n1 := fun p : BelowP wr => (hc2 p.to (hb.trans (p.h.mono hb.size)) k hltm).2.1
        have n2 := fun p : BelowP wr => (hc2 p.to (hb.trans (p.h.mono hb.size)) k hltm).2.2
        have RE := fun w => run_ent_eq (eat l k) (eat m k) w
        by_cases he : eat l k = eat m k
        · have HKN : Hid (∀ i, i < k + 1 → eat l i = eat m i) := Lib.hid fun i hi => by
            by_cases e : i = k
            · subst e; exact he
            · exact HK.out i (by omega)
          rw [decide_eq_true he] at RE
          clear HK he hc hc2 HE HN
          generalize eat l k = yl at *
          generalize eat m k = ym at *
          obtain ⟨a0, a1, a2⟩ := yl
          obtain ⟨b0, b1, b2⟩ := ym
          dsimp only at *
          go_wp2
          refine wp_region_quiet_below mixed (by kernel_rfl) ?_
          repeat (go_big_quiet_step (fail))
          refine wpQuiet_nil ?_
          intro w0q hw'
          obtain ⟨⟨wq, bq⟩, hw''⟩ := hw'
          have hw2 : wq = w0q := hw''.symm
          clear hw''
          subst hw2
          have hb2 := bnext hb bq
          clear k0 k1 k2 n0 n1 n2 RE
          go_wp2
          exact ⟨⟨k + 1, by go_num, by omega, HKN, hb2⟩, by simp [intOf]; omega⟩
        · have HR := Lib.hid (HN.out k he)
          rw [decide_eq_false he] at RE
          clear HK he hc hc2 HE HN
          generalize eat l k = yl at *
          generalize eat m k = ym at *
          obtain ⟨a0, a1, a2⟩ := yl
          obtain ⟨b0, b1, b2⟩ := ym
          dsimp only at *
          go_wp2
          refine wp_region_quiet_below mixed (by kernel_rfl) ?_
          repeat (go_big_quiet_step (fail))
          refine wpQuiet_nil ?_
          intro w0q hw'
          obtain ⟨⟨wq, bq⟩, hw''⟩ := hw'
          have hw2 : wq = w0q := hw''.symm
          clear hw''
          subst hw2
          have hb2 := bnext hb bq
          clear k0 k1 k2 n0 n1 n2 RE
          go_wp2
          go_ret
          exact ⟨ret_bool (by rw [HR.out]), hb2⟩
      · obtain rfl : k = l.length := by omega
        have HR := Lib.hid (HE.out HK.out)
        go_wp2
        go_ret
        exact ⟨ret_bool (by rw [HR.out]), hb⟩
  · have dl : ((l.length : Int) != (m.length : Int)) = true := by simp; omega
    have HR : Hid (decide (l = m) = false) := Lib.hid (decide_eq_false fun e => hl (by rw [e]))
    rw [HR.out]
    clear hl
    go_enter Try.func25, Try.ntmps25
    go_wp2
    go_ret
    exact ⟨rfl, Below.refl _ _⟩
set_option maxRecDepth 100000 in
set_option maxHeartbeats 4000000 in
theorem isame_any (x y : Ino) (v u : Value) (w : World) (hv : EntsIn v x.root w) (hu : EntsIn u y.root w) :
    Calls Try.prog 13 #[inoV x v, inoV y u] w fun e w' => e = .returned (.bool (decide (x = y))) ∧ Below w.heap.size w w' := by
  have hb := balloc (balloc1 w (.cells (inoC x v) 24)) (.cells (inoC y u) 24)
  have SE := Lib.hid (sameEnts_any x.root y.root v u _ (hv.kept hb) (hu.kept hb))
  obtain ⟨ad, cap, rfl, -⟩ := entsIn_cells hv
  obtain ⟨ad2, cap2, rfl, -⟩ := entsIn_cells hu
  clear hv hu
  obtain ⟨a0, a1, a2, a3, a4, a5⟩ := x
  obtain ⟨b0, b1, b2, b3, b4, b5⟩ := y
  dsimp only at *
  by_cases h0 : a0 = b0
  · have e0 : (a0 == b0) = true := by rw [beq_iff_eq]; exact h0
    by_cases h1 : a1 = b1
    · have e1 : (a1 == b1) = true := by rw [beq_iff_eq]; exact h1
      by_cases h2 : a2 = b2
      · have e2 : (a2 == b2) = true := by rw [beq_iff_eq]; exact h2
        by_cases h3 : a3 = b3
        · have e3 : (a3 == b3) = true := by rw [beq_iff_eq]; exact h3
          by_cases h4 : a4 = b4
          · have e4 : (a4 == b4) = true := by rw [beq_iff_eq]; exact h4
            have HR : Hid (decide (Ino.mk a0 a1 a2 a3 a4 a5 = Ino.mk b0 b1 b2 b3 b4 b5) = decide (a5 = b5)) := Lib.hid (by simp [*])
            rw [HR.out]
            clear HR h0 h1 h2 h3 h4
            generalize decide (a5 = b5) = rb at *
            go_enter Try.func13, Try.ntmps13
            go_wp2_with fail
            refine SE.out.mono ?_; rintro e w1 ⟨rfl, b1⟩
            go_wp2
            go_ret
            exact ⟨rfl, bnext hb b1⟩
          · have e4 : (a4 == b4) = false := by rw [beq_eq_false_iff_ne]; exact h4
            have HR : Hid (decide (Ino.mk a0 a1 a2 a3 a4 a5 = Ino.mk b0 b1 b2 b3 b4 b5) = false) := Lib.hid (by simp [*])
            rw [HR.out]
            clear HR h0 h1 h2 h3 h4
            go_enter Try.func13, Try.ntmps13
            go_wp2
            go_ret
            exact ⟨rfl, hb⟩
        · have e3 : (a3 == b3) = false := by rw [beq_eq_false_iff_ne]; exact h3
          have HR : Hid (decide (Ino.mk a0 a1 a2 a3 a4 a5 = Ino.mk b0 b1 b2 b3 b4 b5) = false) := Lib.hid (by simp [*])
          rw [HR.out]
          clear HR h0 h1 h2 h3
          go_enter Try.func13, Try.ntmps13
          go_wp2
          go_ret
          exact ⟨rfl, hb⟩
      · have e2 : (a2 == b2) = false := by rw [beq_eq_false_iff_ne]; exact h2
        have HR : Hid (decide (Ino.mk a0 a1 a2 a3 a4 a5 = Ino.mk b0 b1 b2 b3 b4 b5) = false) := Lib.hid (by simp [*])
        rw [HR.out]
        clear HR h0 h1 h2
        go_enter Try.func13, Try.ntmps13
        go_wp2
        go_ret
        exact ⟨rfl, hb⟩
    · have e1 : (a1 == b1) = false := by rw [beq_eq_false_iff_ne]; exact h1
      have HR : Hid (decide (Ino.mk a0 a1 a2 a3 a4 a5 = Ino.mk b0 b1 b2 b3 b4 b5) = false) := Lib.hid (by simp [*])
      rw [HR.out]
      clear HR h0 h1
      go_enter Try.func13, Try.ntmps13
      go_wp2
      go_ret
      exact ⟨rfl, hb⟩
  · have e0 : (a0 == b0) = false := by rw [beq_eq_false_iff_ne]; exact h0
    have HR : Hid (decide (Ino.mk a0 a1 a2 a3 a4 a5 = Ino.mk b0 b1 b2 b3 b4 b5) = false) := Lib.hid (by simp [*])
    rw [HR.out]
    clear HR h0
    go_enter Try.func13, Try.ntmps13
    go_wp2
    go_ret
    exact ⟨rfl, hb⟩
end Go.Proofs.Ytfepjjjoikcljaa
