import Derived.Deep.CutBlock
import Derived.Deep.DeepCutAuto
import Derived.Test.YtknefoemgifbfaaGreatPd16
set_option linter.unusedVariables false
set_option linter.unusedSimpArgs false
set_option linter.constructorNameAsVariable false
set_option maxRecDepth 100000
set_option maxHeartbeats 16000000
namespace Go.Proofs.YtknefoemgifbfaaGreat
open Go.RowKit
open Go.RowKit
theorem drop_eat {l : List Ent} {k : Nat} (h : k < l.length) : l.drop k = eat l k :: l.drop (k + 1) := by rw [List.drop_eq_getElem_cons h, eat_eq h]
theorem rise_drop_no {l : List Ent} {k : Nat} {F : Int} (h : k < l.length) (hn : ¬ (EntOk true (eat l k) ∧ F ≤ (eat l k).log)) : ¬ Rise F (l.drop k) := by
 rw [drop_eat h]; exact fun q => hn ⟨q.2.1, q.1⟩
theorem rise_drop_on {l : List Ent} {k : Nat} {F : Int} (h : k < l.length) (h1 : EntOk true (eat l k)) (h2 : F ≤ (eat l k).log) : Rise F (l.drop k) ↔ Rise ((eat l k).log + (eat l k).len) (l.drop (k + 1)) := by
 rw [drop_eat h]; exact ⟨fun q => q.2.2, fun q => ⟨h2, h1, q⟩⟩
theorem xcheck_any (l : List Ent) (hf : fitE l) (v : Value) (w : World) (hv : EntsIn v l w) :
 Calls Tryz.prog 58 #[v] w fun e w' => e = .returned (.bool (decide (RowOk true l))) ∧ Below w.heap.size w w' := by
 obtain ⟨ad, cap, rfl, c1, c2, c3, -⟩ := entsIn_cells hv;have H3 := Lib.hid c3;have H0 : Hid (RowOk true l ↔ Rise 0 (l.drop 0)) := Lib.hid (row_rise l);clear c3 hv
 go_enter Tryz.func58, Tryz.ntmps58
 go_wp2
 go_loopw [3, 8] (fun q p wr => ∃ (k : Nat) (F : Int), q = .int .i64 F ∧ p = .int .i64 k ∧ k ≤ l.length ∧ Hid (RowOk true l ↔ Rise F (l.drop k)) ∧ Below w.heap.size w wr) (fun _ p _ => l.length - (intOf p).toNat)
 case atStart => exact ⟨0, 0, rfl, rfl, Nat.zero_le _, H0, Below.refl _ _⟩
 case round =>
  obtain ⟨k, F, rfl, rfl, hk, HK, hb⟩ := hrel;by_cases hlt : k < l.length
  ·obtain ⟨g, o, rfl, hg, hc⟩ := H3.out (by omega)
   obtain ⟨x1, x2, x3⟩ := hc wr hb k hlt;have hfk := fitE_at hf hlt;have HNO : Hid (¬ (EntOk true (eat l k) ∧ F ≤ (eat l k).log) → decide (RowOk true l) = false) := Lib.hid fun h => decide_eq_false fun q => rise_drop_no hlt h (HK.out.1 q);have HON : Hid (EntOk true (eat l k) → F ≤ (eat l k).log → (RowOk true l ↔ Rise ((eat l k).log + (eat l k).len) (l.drop (k + 1)))) := Lib.hid fun a b => HK.out.trans (rise_drop_on hlt a b);have V := fun w => xvalid_any (eat l k) hfk.2.2 w;have kb := fun p : BelowP (wr.alloc (.cells (entC (eat l k)) 53)) => ent_new wr (eat l k) 53 p;have hb1 := balloc hb (.cells (entC (eat l k)) 53);have hF : ∀ p : BelowP (wr.alloc (.cells (entC (eat l k)) 53)), True := fun _ => trivial;by_cases hok : EntOk true (eat l k)
   ·rw [decide_eq_true hok] at V
    have V := Lib.hid V;have hlow := entOk_low hok;by_cases ha : F ≤ (eat l k).log
    ·have HE := Lib.hid (HON.out hok ha)
     have t1 : decide ((eat l k).log < F) = false := decide_eq_false (by omega);have E := Lib.hid fun w => xend_any (eat l k) ⟨by omega, by omega⟩ w;clear hok HNO HON ha HK hfk hc hlow hF;generalize eat l k = yk at *;obtain ⟨ea, ep, ez⟩ := yk;dsimp only at *;go_wp2_with fail
     refine (V.out _).mono ?_; rintro e w1 ⟨rfl, b1⟩;have hb2 := bnext hb1 b1;obtain ⟨k0, k1, k2⟩ := kb ⟨w1, b1⟩;clear x1 x2 x3 kb;go_wp2_with fail
     refine (E.out _).mono ?_; rintro e w2 ⟨rfl, b2⟩;have hb3 := bnext hb2 b2;clear k0 k1 k2;go_wp2;exact ⟨⟨k + 1, ea + ez, rfl, by go_num, by omega, HE, hb3⟩, by simp [intOf]; omega⟩
    ·have HE := Lib.hid (HNO.out fun h => ha h.2)
     have t1 : decide ((eat l k).log < F) = true := decide_eq_true (by omega);clear hok HNO HON ha HK hfk hc hlow hF;generalize eat l k = yk at *;obtain ⟨ea, ep, ez⟩ := yk;dsimp only at *;go_wp2_with fail
     refine (V.out _).mono ?_; rintro e w1 ⟨rfl, b1⟩;have hb2 := bnext hb1 b1;obtain ⟨k0, k1, k2⟩ := kb ⟨w1, b1⟩;clear x1 x2 x3 kb;go_wp2;go_ret;exact ⟨ret_bool (by rw [HE.out]), hb2⟩
   ·rw [decide_eq_false hok] at V
    have V := Lib.hid V;have HE := Lib.hid (HNO.out fun h => hok h.1);clear hok HNO HON HK hfk hc hF;generalize eat l k = yk at *;obtain ⟨ea, ep, ez⟩ := yk;dsimp only at *;go_wp2_with fail
    refine (V.out _).mono ?_; rintro e w1 ⟨rfl, b1⟩;have hb2 := bnext hb1 b1;clear x1 x2 x3 kb;go_wp2;go_ret;exact ⟨ret_bool (by rw [HE.out]), hb2⟩
  ·obtain rfl : k = l.length := by omega
   have HE : Hid (decide (RowOk true l) = true) := Lib.hid (decide_eq_true (HK.out.2 (by rw [List.drop_length]; trivial)));go_wp2;go_ret;exact ⟨ret_bool (by rw [HE.out]), hb⟩
open Go.RowKit
theorem part_at (y : Ent) (a b : Int) {m1 m2 : Int} (h1 : max y.log a = m1) (h2 : min (y.log + y.len) b = m2) : part y a b = if m1 < m2 then some ⟨m1, y.phys + m1 - y.log, m2 - m1⟩ else none := by
 subst h1 h2;unfold part;rw [Int.max_comm a, Int.min_comm b]
theorem keep_len (l : List Ent) (a b : Int) : (keep l a b).length ≤ l.length := by unfold keep; exact List.length_filterMap_le _ _
theorem ok_fit {l : List Ent} (h : ∀ e ∈ l, EntOk true e) : fitE l := fun e he => by
 have := entOk_low (h e he);exact ⟨⟨by omega, by omega⟩, ⟨by omega, by omega⟩, ⟨by omega, by omega⟩⟩
theorem eat_mem {l : List Ent} {k : Nat} (h : k < l.length) : eat l k ∈ l := by rw [eat_eq h]; exact List.getElem_mem _
theorem xwithin_any (l : List Ent) (hok : ∀ e ∈ l, EntOk true e) (hl : l.length ≤ 4000) (a b : Int) (v : Value) (w : World) (hv : EntsIn v l w) :
 Calls Tryz.prog 127 #[v, .int .i64 a, .int .i64 b] w fun e w' => ∃ v', e = .returned v' ∧ ExtsAt w.heap.size v' (keep l a b) w' ∧ Below w.heap.size w w' := by
 obtain ⟨ad, cap, rfl, c1, c2, c3, -⟩ := entsIn_cells hv
 have mixed : Tryz.prog.follows .mixedOrders = true := by kernel_rfl
 have H3 := Lib.hid c3;have H0 : Hid ([] ++ keep (l.drop 0) a b = keep l a b) := Lib.hid rfl
 have HD : Hid (∀ k, k < l.length → keep (l.drop k) a b = (part (eat l k) a b).toList ++ keep (l.drop (k + 1)) a b) := Lib.hid fun k hk => by rw [drop_eat hk, keep_cons]
 have HE : Hid (keep (l.drop l.length) a b = []) := Lib.hid (by rw [List.drop_length]; rfl);have HOK := Lib.hid hok;clear c3 hv hok;generalize keep l a b = R at *
 go_enter Tryz.func127, Tryz.ntmps127
 go_wp2
 go_loopw [7, 10, 11, 14] (fun vo p10 p11 p wr => ∃ (k : Nat) (out : List Ent), p = .int .i64 k ∧ k ≤ l.length ∧ out.length ≤ k ∧ Hid (out ++ keep (l.drop k) a b = R) ∧ ExtsAt w.heap.size vo out wr ∧ Below w.heap.size w wr) (fun _ _ _ p _ => l.length - (intOf p).toNat)
 case atStart => exact ⟨0, [], rfl, Nat.zero_le _, Nat.le_refl _, H0, World.ownsRow_nil _ _ _ _, Below.refl _ _⟩
 case round =>
  obtain ⟨k, out, rfl, hk, hol, HR, hown, hb⟩ := hrel;by_cases hlt : k < l.length
  ·obtain ⟨g, o, rfl, hg, hc⟩ := H3.out (by omega)
   obtain ⟨x1, x2, x3⟩ := hc wr hb k hlt;have hoky := HOK.out _ (eat_mem hlt);have hlow := entOk_low hoky;have hky := (entT _).1 hoky;have HR2 : Hid (out ++ ((part (eat l k) a b).toList ++ keep (l.drop (k + 1)) a b) = R) := Lib.hid (by rw [← HD.out k hlt]; exact HR.out);have E := fun w => xend_any (eat l k) ⟨by omega, by omega⟩ w;have kb := fun p : BelowP (wr.alloc (.cells (entC (eat l k)) 53)) => ent_new wr (eat l k) 53 p;have k0 := fun p => (kb p).1;have k1 := fun p => (kb p).2.1;have k2 := fun p => (kb p).2.2;have hb1 := balloc hb (.cells (entC (eat l k)) 53);have hown1 := hown.alloc (.cells (entC (eat l k)) 53);obtain ⟨m1, hm1⟩ : ∃ m1, max (eat l k).log a = m1 := ⟨_, rfl⟩;obtain ⟨m2, hm2⟩ : ∃ m2, min ((eat l k).log + (eat l k).len) b = m2 := ⟨_, rfl⟩;rw [part_at _ _ _ hm1 hm2] at HR2
   have i1 : (if (eat l k).log < a then a else (eat l k).log) = m1 := by rw [← hm1]; split <;> omega
   have i2 : (if b < (eat l k).log + (eat l k).len then b else (eat l k).log + (eat l k).len) = m2 := by rw [← hm2]; split <;> omega
   have i3 : (if a < (eat l k).log then (eat l k).log else a) = m1 := by rw [← hm1]; split <;> omega
   have i4 : (if (eat l k).log + (eat l k).len < b then (eat l k).log + (eat l k).len else b) = m2 := by rw [← hm2]; split <;> omega
   have q1 : (eat l k).log ≤ m1 := by omega
   have q2 : m2 ≤ (eat l k).log + (eat l k).len := by omega
   have P := fun (h : m1 ≤ m2) w => xpart_any (eat l k) m1 m2 q1 h q2 hoky w;clear kb hc hoky HR hown hb hlow H3 HD;by_cases hp : m1 < m2
   ·rw [if_pos hp] at HR2
    have P := Lib.hid (P (by omega));have d1 : decide (m1 < m2) = true := decide_eq_true hp;have HR3 : Hid ((out ++ [⟨m1, (eat l k).phys + m1 - (eat l k).log, m2 - m1⟩]) ++ keep (l.drop (k + 1)) a b = R) := Lib.hid (by rw [← HR2.out]; simp);clear HR2 hp;have E := Lib.hid E;generalize eat l k = yk at *;obtain ⟨ea, ep, ez⟩ := yk;dsimp only at *;clear q1 q2 hky;go_wp2;generalize wr.alloc (.cells #[.int .i64 ea, .int .i64 ep, .int .i64 ez] 53) = wq0 at *;refine wp_region_quiet_below mixed (by kernel_rfl) ?_
    repeat (go_big_quiet_step (first | (go_at_call 78; refine calls_below (E.out _))))
    refine wpQuiet_nil ?_;intro w0q hw';obtain ⟨⟨wq, bq⟩, hw''⟩ := hw';have hw2 : wq = w0q := hw''.symm;clear hw'';subst hw2;have hb2 := bnext hb1 bq;have hown2 := row_kept hown1 bq;have k0 := k0 ⟨wq, bq⟩;have k1 := k1 ⟨wq, bq⟩;have k2 := k2 ⟨wq, bq⟩;dsimp only at k0 k1 k2;clear hb1 hown1 bq E;go_wp2_with fail
    refine (P.out _).mono ?_; rintro e w3 ⟨rfl, b3⟩;have hb3 := bnext hb2 b3;have hown3 := row_kept hown2 b3;have hs3 := hb3.size;clear hb2 hown2 b3 P k0 k1 k2
    go_wp2_with (at_builtin; refine wpList_app3 rfl _ _ 42 53 rfl Tryz.underlying42 ext_info w.heap.size _ out ⟨m1, ep + m1 - ea, m2 - m1⟩ rfl (hown3.alloc _) w3 rfl _ rfl rfl (by omega) (by rw [size_alloc]; omega) ?_)
    intro v' w4 h4 g4;have hb4 := (balloc hb3 _).trans (below_of_row (hown3.alloc _) g4 (by rw [size_alloc]; omega));have h4 := Lib.hid h4;clear hown3 g4 hb3;go_wp2;exact ⟨⟨k + 1, _, by go_num, by omega, by simp; omega, HR3, ents_snoc h4.out, hb4⟩, by simp [intOf]; omega⟩
   ·rw [if_neg hp] at HR2
    have d1 : decide (m1 < m2) = false := decide_eq_false hp;have HR3 : Hid (out ++ keep (l.drop (k + 1)) a b = R) := Lib.hid (by rw [← HR2.out]; simp);clear HR2 P hp;have E := Lib.hid E;generalize eat l k = yk at *;obtain ⟨ea, ep, ez⟩ := yk;dsimp only at *;clear q1 q2 hky;go_wp2;generalize wr.alloc (.cells #[.int .i64 ea, .int .i64 ep, .int .i64 ez] 53) = wq0 at *;refine wp_region_quiet_below mixed (by kernel_rfl) ?_
    repeat (go_big_quiet_step (first | (go_at_call 78; refine calls_below (E.out _))))
    refine wpQuiet_nil ?_;intro w0q hw';obtain ⟨⟨wq, bq⟩, hw''⟩ := hw';have hw2 : wq = w0q := hw''.symm;clear hw'';subst hw2;have hb2 := bnext hb1 bq;have hown2 := row_kept hown1 bq;clear hb1 hown1 bq E k0 k1 k2;go_wp2;exact ⟨⟨k + 1, out, by go_num, by omega, by omega, HR3, hown2, hb2⟩, by simp [intOf]; omega⟩
  ·obtain rfl : k = l.length := by omega
   have HR3 : Hid (out = R) := Lib.hid (by have := HR.out; rw [HE.out, List.append_nil] at this; exact this);rw [HR3.out] at hown;go_wp2;go_ret;exact ⟨_, rfl, hown, hb⟩
open Go.RowKit
def idxE (p : Ent → Bool) (l : List Ent) : Int := match l.findIdx? p with | some i => i | none => -1
end Go.Proofs.YtknefoemgifbfaaGreat
