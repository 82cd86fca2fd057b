import Derived.Test.YtknefoemgifbfaaGreatPd43
import Derived.Test.YtknefoemgifbfaaGreatPd41
set_option linter.unusedVariables false
set_option linter.unusedSimpArgs false
set_option linter.constructorNameAsVariable false
set_option maxRecDepth 100000
set_option maxHeartbeats 16000000
namespace Go.Proofs.YtknefoemgifbfaaGreat
open Go.RowKit
theorem insert_any (A L : List Ent) (i : Nat) (hi : i ≤ A.length) (hA4 : A.length ≤ 4000) (hL4 : L.length ≤ 4000) (B : Nat) (v u : Value) (w : World) (hB : B ≤ w.heap.size) (hv : ExtsAt B v A w) (hu : EntsIn u L w) (hup : ∀ g o n c, 0 < L.length → u = .slice (some ⟨g, o, none⟩) n c → g < B) :
 Calls Tryz.prog 102 #[v, .int .i64 (i : Int), u] w fun e w' => ∃ u', e = .returned u' ∧ EntsIn u' (insE A i L) w' ∧ Below B w w' := by
 by_cases hL : L.length = 0
 ·have hnil : L = [] := List.length_eq_zero_iff.1 hL
  subst hnil;have hvi := rowE_in hv;obtain ⟨va, vc, rfl, p1, p2, -⟩ := entsIn_cells hvi;obtain ⟨ua, uc, rfl, -⟩ := entsIn_cells hu;refine (ins_none va A.length vc i hi p1 p2 ua uc w).mono ?_; rintro e w' ⟨rfl, rfl⟩;exact ⟨_, rfl, by unfold insE; rw [List.nil_append, List.take_append_drop]; exact hvi, Below.refl _ _⟩
 ·by_cases hin : i = A.length
  ·subst hin
   refine (ins_end A L (by omega) (by omega) B v u w hB hv hu).mono ?_; rintro e w' ⟨u', rfl, h1, h2⟩;refine ⟨u', rfl, ?_, h2⟩
   have : insE A A.length L = A ++ L := by unfold insE; rw [List.take_length, List.drop_length, List.append_nil]
   rw [this]; exact rowE_in h1
  ·have hvi := rowE_in hv
   obtain ⟨ua, uc, rfl, u1, u2, u3, -⟩ := entsIn_cells hu;obtain ⟨ug, uo, rfl, -⟩ := u3 (by omega);have h1 := hup ug uo _ _ (by omega) rfl;rcases hv.2 with ⟨e, h0⟩ | ⟨g, cap, cur, rfl, hbg, hg, hnc, hcm, hcs, htake⟩
   ·omega
   ·by_cases hroom : A.length + L.length ≤ cap
    ·refine (ins_room A L i (by omega) (by omega) g cap cur hroom hcm w hg (by simpa using hcs) (by simpa using htake) ug uo uc hu (by omega) (by omega)).mono ?_; rintro e w' ⟨rfl, h2, h3⟩
     exact ⟨_, rfl, h2, h3 B hbg⟩
    ·refine (ins_grow A L i (by omega) (by omega) hA4 hL4 g cap hnc (by omega) w hvi ug uo uc hu).mono ?_; rintro e w' ⟨G, rfl, h2, h3⟩
     exact ⟨_, rfl, h2, h3.mono hB⟩
theorem pun_len (l : List Ent) (a n : Int) : (punO l a n).length ≤ 2048 := by
 unfold punO;by_cases h : PunOk l a n
 ·rw [if_pos h]
  unfold punX;obtain ⟨h1, h2, h3, h4, h5⟩ := h;by_cases h0 : n = 0
  ·rw [if_pos h0]; exact prow_len h1
  ·rw [if_neg h0]; exact prow_len ((row_rise _).2 (punch_rise ((row_rise l).1 h1) (by omega) (by omega)))
 ·rw [if_neg h]; exact Nat.zero_le _
def rpP (t : Int) (x : Ent) : Bool := decide (t ≤ x.log)
def rpAt (K : List Ent) (t : Int) : Nat := if 0 ≤ idxF (rpP t) K then (idxF (rpP t) K).toNat else K.length
theorem idxF_lt (p : Ent → Bool) (l : List Ent) : idxF p l < (l.length : Int) ∨ l.length = 0 := by
 unfold idxF
 cases h : l.findIdx? p with
 | none => by_cases e : l.length = 0
           ·exact .inr e
           ·left; show (-1 : Int) < _; omega
 | some i =>
   rw [List.findIdx?_eq_some_iff_getElem] at h;obtain ⟨hi, -⟩ := h
   left; show (i : Int) < _; omega
theorem rpAt_le (K : List Ent) (t : Int) : rpAt K t ≤ K.length := by
 unfold rpAt;split
 ·rename_i h
  rcases idxF_lt (rpP t) K with h1 | h1
  ·omega
  ·have : K = [] := List.length_eq_zero_iff.1 h1
   subst this
   simp [idxF] at h
 ·exact Nat.le_refl _
def replA (l : List Ent) (a t : Int) (L : List Ent) : List Ent := insE (punO l a (t - a)) (rpAt (punO l a (t - a)) t) L
theorem rep1_any (x : Ent) (t : Int) (b : Nat) (W : World) (hb : Blk b #[.int .i64 t] 3 W) :
 Calls Tryz.prog 101 #[entV x, .pointer (some ⟨b, 0, none⟩)] W fun e W' => e = .returned (.bool (rpP t x)) ∧ Below W.heap.size W W' := by
 obtain ⟨xa, xp, xz⟩ := x;have hb1 := balloc1 W (.cells (entC ⟨xa, xp, xz⟩) 53);have b0 := (hb.kept1 hb1).cell 0;simp only [List.getElem?_toArray, List.getElem?_cons_zero, List.getElem?_cons_succ] at b0;have HB := Lib.hid hb1;have lb := (hb.kept1 hb1).lt;unfold rpP;dsimp only;clear hb hb1;by_cases h1 : t ≤ xa
 ·have d1 : decide (t ≤ xa) = true := decide_eq_true h1
  have d2 : decide (xa ≥ t) = true := decide_eq_true h1;rw [d1]
  go_enter Tryz.func101, Tryz.ntmps101
  go_wp2;go_ret;exact ⟨by simp, HB.out⟩
 ·have d1 : decide (t ≤ xa) = false := decide_eq_false h1
  have d2 : decide (xa ≥ t) = false := decide_eq_false h1;rw [d1]
  go_enter Tryz.func101, Tryz.ntmps101
  go_wp2;go_ret;exact ⟨by simp, HB.out⟩
open Go.RowKit
theorem fkreplaced_any (l : List Ent) (hf : fitE l) (hl : l.length ≤ 2100) (a t : Int) (ha : 0 ≤ a) (hat : a ≤ t) (ht : t ≤ 2048) (L : List Ent) (hL4 : L.length ≤ 4000) (v u : Value) (w : World) (hv : EntsIn v l w) (hu : EntsIn u L w) :
 Calls Tryz.prog 71 #[v, .int .i64 a, .int .i64 t, u] w fun e w' => ∃ u', e = .returned u' ∧ EntsIn u' (replA l a t L) w' ∧ Below w.heap.size w w' := by
 have mixed : Tryz.prog.follows .mixedOrders = true := by kernel_rfl
 have eg : ∀ args w, (callFunc 101 args).run Tryz.prog w = .ok (.enter 101 args) w := enters_of Tryz.func101 (by kernel_rfl) rfl;have hb1 := balloc1 w (.cells #[.int .i64 t] 3);have HT1 : Hid (Blk w.heap.size #[.int .i64 t] 3 (w.alloc (.cells #[.int .i64 t] 3))) := Lib.hid (Blk.new _ _ _);have HPU := Lib.hid (xpunch_any l hf hl a (t - a) ⟨by omega, by omega⟩ ⟨by omega, by omega⟩ v _ (hv.kept hb1));have HB1 := Lib.hid hb1;have HU := Lib.hid hu;have HEG := Lib.hid eg;have HRA : Hid (replA l a t L = insE (punO l a (t - a)) (rpAt (punO l a (t - a)) t) L) := Lib.hid rfl;have hKl := pun_len l a (t - a);have c0 := HT1.out.cell 0;simp only [List.getElem?_toArray, List.getElem?_cons_zero, List.getElem?_cons_succ] at c0;obtain ⟨va, vc, rfl, -⟩ := entsIn_cells hv;obtain ⟨ua, uc, rfl, -⟩ := entsIn_cells hu
 have hw1 : IntKind.i64.wrap (t - a) = t - a := by rw [IntKind.wrap_i64]; omega
 obtain ⟨ln, hln⟩ : ∃ n, l.length = n := ⟨_, rfl⟩;obtain ⟨um, hum⟩ : ∃ n, L.length = n := ⟨_, rfl⟩;rw [hln] at HPU ⊢;rw [hum] at HU hL4 ⊢;have HUM := Lib.hid hum;clear eg hv hu hb1 hf hl hln hum;generalize hw2 : w.alloc (.cells #[.int .i64 t] 3) = w1 at *
 go_enter Tryz.func71, Tryz.ntmps71
 go_upto_region 1 with fail
 clear hw2;go_wp2_with fail
 refine HPU.out.mono ?_; rintro e w2 ⟨vo, vf, rfl, ho, hfr, b2⟩;obtain ⟨K, hK⟩ : ∃ K, punO l a (t - a) = K := ⟨_, rfl⟩;rw [hK] at ho HRA hKl;obtain ⟨ka, kc, rfl, -⟩ := shape_of ho
 obtain ⟨fa, fn, fc, rfl⟩ : ∃ ad n c, vf = .slice ad n c := by obtain ⟨ad, c, e, -⟩ := shape_of hfr; exact ⟨ad, _, c, e⟩
 have hT2 := HT1.out.kept1 b2;have hws := HB1.out.size;have hs2 := b2.size;have HIX := Lib.hid (xindexf_any (rpP t) 101 #[.pointer (some ⟨w.heap.size, 0, none⟩)] K (by omega) _ w2 (rowE_in ho) HEG.out fun x W hb => rep1_any x t w.heap.size W (hT2.kept1 hb));have HO := Lib.hid ho;have HB2 := Lib.hid (bnext HB1.out b2);have HS1 := Lib.hid HT1.out.lt;have hmf : ∀ (fn : Fn) (first cap : Array Value) (w : World), (Instr.makeFunc fn first cap).run Tryz.prog w = .ok (.func fn first cap) w := fun _ _ _ _ => rfl;obtain ⟨kn, hkn⟩ : ∃ n, K.length = n := ⟨_, rfl⟩;have hrl := rpAt_le K t;have HIL := Lib.hid (idxF_lt (rpP t) K);obtain ⟨ix, hix⟩ : ∃ x, idxF (rpP t) K = x := ⟨_, rfl⟩;obtain ⟨p, hp⟩ : ∃ p, rpAt K t = p := ⟨_, rfl⟩;have HPX : Hid (p = if 0 ≤ ix then ix.toNat else kn) := Lib.hid (by rw [← hp, ← hix, ← hkn]; rfl);rw [hix] at HIX HIL;rw [hp] at hrl HRA;rw [hkn] at HIX HIL hrl hKl ⊢;have HKN := Lib.hid hkn;clear ho hfr b2 hT2 c0 HPU hK hkn hp hix HT1;go_wp2_with fail
 refine HIX.out.mono ?_; rintro e w3 ⟨rfl, b3⟩;have HB3 := Lib.hid (bnext HB2.out b3);have HO3 := Lib.hid (row_kept HO.out b3);have hs3 := b3.size
 have HIN := Lib.hid (insert_any K L p (by rw [HKN.out]; exact hrl) (by rw [HKN.out]; omega) (by rw [HUM.out]; exact hL4) w1.heap.size _ _ w3 (Nat.le_trans hs2 hs3) HO3.out (HU.out.kept HB3.out) (fun g o n c h0 e => by
  have hx := HU.out;rw [e] at hx
  exact Nat.lt_of_lt_of_le (ents_lt hx h0) hws))
 rw [HKN.out] at HIN;clear b3 HIX HO HO3 HU;by_cases h0 : 0 ≤ ix
 ·have hixp : ix = (p : Int) := by rw [HPX.out, if_pos h0]; omega
  subst hixp;have d1 : decide ((p : Int) ≥ 0) = true := decide_eq_true h0;have d2 : decide ((0 : Int) ≤ (p : Int)) = true := decide_eq_true h0;go_wp2_with fail
  refine HIN.out.mono ?_; rintro e w4 ⟨u', rfl, hu', b4⟩;have HU4 := Lib.hid hu';have HB4 := Lib.hid (HB3.out.trans (b4.mono hws));obtain ⟨xa, xc, rfl, -⟩ := entsIn_cells hu';clear hu' b4;go_wp2;go_ret;exact ⟨_, rfl, by rw [HRA.out]; exact HU4.out, HB4.out⟩
 ·have hixp : p = kn := by rw [HPX.out, if_neg h0]
  subst hixp;have d1 : decide (ix ≥ 0) = false := decide_eq_false h0;have d2 : decide (0 ≤ ix) = false := decide_eq_false h0;go_wp2_with fail
  refine HIN.out.mono ?_; rintro e w4 ⟨u', rfl, hu', b4⟩;have HU4 := Lib.hid hu';have HB4 := Lib.hid (HB3.out.trans (b4.mono hws));obtain ⟨xa, xc, rfl, -⟩ := entsIn_cells hu';clear hu' b4;go_wp2;go_ret;exact ⟨_, rfl, by rw [HRA.out]; exact HU4.out, HB4.out⟩
end Go.Proofs.YtknefoemgifbfaaGreat
