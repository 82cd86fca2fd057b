import Derived.Test.YtknefoemgifbfaaGreatPd23
import Derived.Test.YtknefoemgifbfaaGreatPd20
import Derived.Laws.StructEq
set_option linter.unusedVariables false
set_option linter.unusedSimpArgs false
set_option linter.constructorNameAsVariable false
set_option maxRecDepth 100000
set_option maxHeartbeats 16000000
namespace Go.Proofs.YtknefoemgifbfaaGreat
open Go.RowKit
theorem endX_at {l : List Ent} {m : Nat} (h : l.length = m + 1) : endX l = (eat l m).log + (eat l m).len := by
 rcases ent_snoc_cases l with rfl | ⟨k, q, rfl⟩
 ·simp at h
 ·have hm : m = k.length := by simp at h; omega
  subst hm;rw [endX_snoc, eat_append_at]
open Go.RowKit
def fE (l : List Ent) (p : Int) : Option Ent := if RowOk true l then findE l p else none
def fP (l : List Ent) (p : Int) : Int := match fE l p with | some e => e.phys + p - e.log | none => 0
def fL (l : List Ent) (p : Int) : Int := match fE l p with | some e => e.log + e.len - p | none => 0
def fB (l : List Ent) (p : Int) : Bool := (fE l p).isSome
abbrev foundV (l : List Ent) (p : Int) : Value := .tuple #[.int .i64 (fP l p), .int .i64 (fL l p), .bool (fB l p)]
open Go.RowKit
def noE : Ent := ⟨0, 0, 0⟩
abbrev partA (o : Option Ent) : Value := .tuple #[entV (o.getD noE), .bool o.isSome]
abbrev countV (l : List Ent) : Int := if RowOk true l then countX l else 0
open Go.RowKit
abbrev endV (l : List Ent) : Int := if RowOk true l then endX l else 0
theorem xendl_any (l : List Ent) (hf : fitE l) (hl : l.length ≤ 4000) (v : Value) (w : World) (hv : EntsIn v l w) :
 Calls Tryz.prog 99 #[v] w fun e w' => e = .returned (.int .i64 (endV l)) ∧ Below w.heap.size w w' := by
 have C := Lib.hid fun w hv => xcheck_any l hf v w hv;obtain ⟨ad, cap, rfl, c1, c2, c3, -⟩ := entsIn_cells hv;have HV := Lib.hid hv;unfold endV;by_cases hok : RowOk true l
 ·rw [decide_eq_true hok] at C
  rw [if_pos hok];by_cases h0 : l.length = 0
  ·have hnil : l = [] := List.length_eq_zero_iff.1 h0
   subst hnil;clear c3 hv hok
   go_enter Tryz.func99, Tryz.ntmps99
   go_wp2_with fail
   refine (C.out _ HV.out).mono ?_; rintro e w1 ⟨rfl, b1⟩;go_wp2;go_ret;exact ⟨rfl, b1⟩
  ·obtain ⟨m, hm⟩ : ∃ m, l.length = m + 1 := ⟨l.length - 1, by omega⟩
   have hml : m ≤ 4000 := by omega
   obtain ⟨g, o, rfl, hg, hc⟩ := c3 (by omega);have hmem := ((row_rise l).1 hok).mem (eat l m) (eat_mem (by omega));have hk := (entT _).1 hmem.1;have HE : Hid (endX l = (eat l m).log + (eat l m).len) := Lib.hid (endX_at hm);have E := fun w => xend_any (eat l m) ⟨by omega, by omega⟩ w;have HC := Lib.hid fun W (b : Below w.heap.size w W) => hc W b m (by omega);rw [HE.out];rw [hm] at *
   have dl : ((m : Int) + 1 == 0) = false := by rw [beq_eq_false_iff_ne]; omega
   have dw : IntKind.i64.wrap (m : Int) = (m : Int) := IntWalk.i64_in _ (by omega)
   have b1' : (0 : Int) ≤ (m : Int) := by omega
   have b2' : (m : Int) < (m : Int) + 1 := by omega
   have E := Lib.hid E;clear hc hv hok h0 hmem HE hm;generalize eat l m = y at *;obtain ⟨ya, yp, yz⟩ := y;dsimp only at *
   go_enter Tryz.func99, Tryz.ntmps99
   go_wp2_with fail
   refine (C.out _ HV.out).mono ?_; rintro e w1 ⟨rfl, b1⟩;obtain ⟨x0, x1, x2⟩ := HC.out w1 b1;clear C HV;go_wp2_with fail
   refine (E.out _).mono ?_; rintro e w2 ⟨rfl, b2⟩;have hb2 := bnext b1 b2;go_wp2;go_ret;exact ⟨rfl, hb2⟩
 ·rw [decide_eq_false hok] at C
  rw [if_neg hok];clear c3 hv hok
  go_enter Tryz.func99, Tryz.ntmps99
  go_wp2_with fail
  refine (C.out _ HV.out).mono ?_; rintro e w1 ⟨rfl, b1⟩;go_wp2;go_ret;exact ⟨rfl, b1⟩
theorem ext_held : Tryz.prog.stoodInHeld 53 = false := by kernel_rfl
theorem run_ext_eq (s t : Ent) (w : World) : (Op.equalIn 10000 53 (entV s) (entV t)).run Tryz.prog w = .ok (decide (s = t)) w := by
 have gh := ext_held;obtain ⟨a0, a1, a2⟩ := s;obtain ⟨b0, b1, b2⟩ := t;by_cases h0 : a0 = b0
 ·have e0 : (a0 == b0) = true := by rw [beq_iff_eq]; exact h0
  by_cases h1 : a1 = b1
  ·have e1 : (a1 == b1) = true := by rw [beq_iff_eq]; exact h1
   by_cases h2 : a2 = b2
   ·have e2 : (a2 == b2) = true := by rw [beq_iff_eq]; exact h2
    have HR : Hid (decide (Ent.mk a0 a1 a2 = Ent.mk b0 b1 b2) = true) := Lib.hid (by simp [*]);rw [HR.out];clear h0 h1 h2;go_simp
   ·have e2 : (a2 == b2) = false := by rw [beq_eq_false_iff_ne]; exact h2
    have HR : Hid (decide (Ent.mk a0 a1 a2 = Ent.mk b0 b1 b2) = false) := Lib.hid (by simp [*]);rw [HR.out];clear h0 h1 h2;go_simp
  ·have e1 : (a1 == b1) = false := by rw [beq_eq_false_iff_ne]; exact h1
   have HR : Hid (decide (Ent.mk a0 a1 a2 = Ent.mk b0 b1 b2) = false) := Lib.hid (by simp [*]);rw [HR.out];clear h0 h1;go_simp
 ·have e0 : (a0 == b0) = false := by rw [beq_eq_false_iff_ne]; exact h0
  have HR : Hid (decide (Ent.mk a0 a1 a2 = Ent.mk b0 b1 b2) = false) := Lib.hid (by simp [*]);rw [HR.out];clear h0;go_simp
theorem samex_any (l m : List Ent) (v u : Value) (w : World) (hv : EntsIn v l w) (hu : EntsIn u m w) :
 Calls Tryz.prog 22 #[v, u] w fun e w' => e = .returned (.bool (decide (l = m))) ∧ Below w.heap.size w w' := by
 obtain ⟨ad, cap, rfl, c1, c2, c3, -⟩ := entsIn_cells hv;obtain ⟨ad2, cap2, rfl, c1', c2', c3', -⟩ := entsIn_cells hu
 have mixed : Tryz.prog.follows .mixedOrders = true := by kernel_rfl
 have H3 := Lib.hid c3;have H4 := Lib.hid c3';clear c3 c3' hv hu;by_cases hl : l.length = m.length
 ·have dl : ((l.length : Int) != (m.length : Int)) = false := by simp [hl]
  have HE : Hid ((∀ i, i < l.length → eat l i = eat m i) → decide (l = m) = true) := Lib.hid fun h => decide_eq_true (List.ext_getElem hl fun i h1 h2 => by
   have := h i h1
   rwa [eat_eq h1, eat_eq h2] at this)
  have HN : Hid (∀ i, eat l i ≠ eat m i → decide (l = m) = false) := Lib.hid fun i h => decide_eq_false fun e => h (by rw [e]);have HL := Lib.hid hl;clear hl
  go_enter Tryz.func22, Tryz.ntmps22
  go_wp2
  go_loopw [5] (fun p wr => ∃ k : Nat, p = .int .i64 k ∧ k ≤ l.length ∧ Hid (∀ i, i < k → eat l i = eat m i) ∧ Below w.heap.size w wr) (fun p _ => l.length - (intOf p).toNat)
  case atStart => exact ⟨0, rfl, Nat.zero_le _, Lib.hid (fun i h => by omega), Below.refl _ _⟩
  case round =>
   obtain ⟨k, rfl, hk, HK, hb⟩ := hrel;by_cases hlt : k < l.length
   ·have hltm : k < m.length := by have := HL.out; omega
    obtain ⟨g, o, rfl, hg, hc⟩ := H3.out (by omega);obtain ⟨g2, o2, rfl, hg2, hc2⟩ := H4.out (by omega);have k0 := fun p : BelowP wr => (hc p.to (hb.trans (p.h.mono hb.size)) k hlt).1;have k1 := fun p : BelowP wr => (hc p.to (hb.trans (p.h.mono hb.size)) k hlt).2.1;have k2 := fun p : BelowP wr => (hc p.to (hb.trans (p.h.mono hb.size)) k hlt).2.2;have n0 := fun p : BelowP wr => (hc2 p.to (hb.trans (p.h.mono hb.size)) k hltm).1;have n1 := fun p : BelowP wr => (hc2 p.to (hb.trans (p.h.mono hb.size)) k hltm).2.1;have n2 := fun p : BelowP wr => (hc2 p.to (hb.trans (p.h.mono hb.size)) k hltm).2.2;have RE := fun w => run_ext_eq (eat l k) (eat m k) w;by_cases he : eat l k = eat m k
    ·have HKN : Hid (∀ i, i < k + 1 → eat l i = eat m i) := Lib.hid fun i hi => by
      by_cases e : i = k
      ·subst e; exact he
      ·exact HK.out i (by omega)
     rw [decide_eq_true he] at RE;clear HK he hc hc2 HE HN;generalize eat l k = yl at *;generalize eat m k = ym at *;obtain ⟨a0, a1, a2⟩ := yl;obtain ⟨b0, b1, b2⟩ := ym;dsimp only at *;go_wp2;refine wp_region_quiet_below mixed (by kernel_rfl) ?_
     repeat (go_big_quiet_step (fail))
     refine wpQuiet_nil ?_;intro w0q hw';obtain ⟨⟨wq, bq⟩, hw''⟩ := hw';have hw2 : wq = w0q := hw''.symm;clear hw'';subst hw2;have hb2 := bnext hb bq;clear k0 k1 k2 n0 n1 n2 RE;go_wp2;exact ⟨⟨k + 1, by go_num, by omega, HKN, hb2⟩, by simp [intOf]; omega⟩
    ·have HR := Lib.hid (HN.out k he)
     rw [decide_eq_false he] at RE;clear HK he hc hc2 HE HN;generalize eat l k = yl at *;generalize eat m k = ym at *;obtain ⟨a0, a1, a2⟩ := yl;obtain ⟨b0, b1, b2⟩ := ym;dsimp only at *;go_wp2;refine wp_region_quiet_below mixed (by kernel_rfl) ?_
     repeat (go_big_quiet_step (fail))
     refine wpQuiet_nil ?_;intro w0q hw';obtain ⟨⟨wq, bq⟩, hw''⟩ := hw';have hw2 : wq = w0q := hw''.symm;clear hw'';subst hw2;have hb2 := bnext hb bq;clear k0 k1 k2 n0 n1 n2 RE;go_wp2;go_ret;exact ⟨ret_bool (by rw [HR.out]), hb2⟩
   ·obtain rfl : k = l.length := by omega
    have HR := Lib.hid (HE.out HK.out);go_wp2;go_ret;exact ⟨ret_bool (by rw [HR.out]), hb⟩
 ·have dl : ((l.length : Int) != (m.length : Int)) = true := by simp; omega
  have HR : Hid (decide (l = m) = false) := Lib.hid (decide_eq_false fun e => hl (by rw [e]));rw [HR.out];clear hl
  go_enter Tryz.func22, Tryz.ntmps22
  go_wp2;go_ret;exact ⟨rfl, Below.refl _ _⟩
theorem samex_yes (l : List Ent) (v u : Value) (w : World) (hv : EntsIn v l w) (hu : EntsIn u l w) :
 Calls Tryz.prog 22 #[v, u] w fun e w' => e = .returned (.bool true) ∧ Below w.heap.size w w' :=
 (samex_any l l v u w hv hu).mono fun e w' ⟨he, h⟩ => ⟨by rw [he, decide_eq_true rfl], h⟩
end Go.Proofs.YtknefoemgifbfaaGreat
