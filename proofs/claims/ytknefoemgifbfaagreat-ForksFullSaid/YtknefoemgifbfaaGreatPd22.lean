import Derived.Test.YtknefoemgifbfaaGreatPd17
import Derived.Test.YtknefoemgifbfaaGreatPd21
set_option linter.unusedVariables false
set_option linter.unusedSimpArgs false
set_option linter.constructorNameAsVariable false
set_option maxRecDepth 100000
set_option maxHeartbeats 16000000
namespace Go.Proofs.YtknefoemgifbfaaGreat
open Go.RowKit
structure Reads (fn : Nat) (caps : Array Value) (rd : Rd) (B : Nat) (w0 : World) : Prop where
 ent : ∀ args w, (callFunc fn args).run Tryz.prog w = .ok (.enter fn args) w
 call : ∀ (b : Int) W, 0 ≤ b → b < 4096 → Below B w0 W → Calls Tryz.prog fn (#[.int .i64 b] ++ caps) W fun e w' => e = .returned (.tuple #[.string (rd b).1, .int .i64 (rd b).2]) ∧ Below W.heap.size W w'
 size : ∀ b, (rd b).1.size ≤ maxLen
def rdF (fn : Nat) (caps : Array Value) (seen : List Int) (sv : Value) : Nat → Value := fun j => if j = 0 then .func (.func fn) #[] caps else if j < 4097 then .bool (decide ((j : Int) - 1 ∈ seen)) else sv
theorem rdF_zero (fn : Nat) (caps : Array Value) (seen : List Int) (sv : Value) : rdF fn caps seen sv 0 = .func (.func fn) #[] caps := rfl
theorem rdF_seen (fn : Nat) (caps : Array Value) (seen : List Int) (sv : Value) (p : Nat) (hp : p < 4096) : rdF fn caps seen sv (1 + p) = .bool (decide ((p : Int) ∈ seen)) := by
 unfold rdF;rw [if_neg (by omega), if_pos (by omega), show ((1 + p : Nat) : Int) - 1 = (p : Int) by omega]
theorem rdF_shape (fn : Nat) (caps : Array Value) (seen : List Int) (sv : Value) : rdF fn caps seen sv 4097 = sv := by unfold rdF; rw [if_neg (by omega), if_neg (by omega)]
theorem rdF_mark (fn : Nat) (caps : Array Value) (seen : List Int) (sv : Value) (p : Nat) (hp : p < 4096) : ∀ j, j < 4098 → upd (rdF fn caps seen sv) (1 + p) (.bool true) j = rdF fn caps ((p : Int) :: seen) sv j := by
 intro j hj;unfold upd rdF;by_cases h0 : j = 0
 ·subst h0; rw [if_neg (by omega), if_pos rfl, if_pos rfl]
 ·by_cases h1 : j < 4097
  ·rw [if_neg h0, if_neg h0, if_pos h1, if_pos h1]
   by_cases h2 : j = 1 + p
   ·rw [if_pos h2]
    have : ((j : Int) - 1 ∈ (p : Int) :: seen) := by rw [show (j : Int) - 1 = (p : Int) by omega]; exact List.mem_cons_self ..
    rw [decide_eq_true this]
   ·rw [if_neg h2]
    congr 1
    apply decide_eq_decide.2
    rw [List.mem_cons];constructor
    ·exact .inr
    ·rintro (h | h)
     ·omega
     ·exact h
  ·rw [if_neg (by omega), if_neg h0, if_neg h0, if_neg h1, if_neg h1]
def TyAt (g : Nat) (t : TypeId) (w : World) : Prop := ∃ cur q, w.heap[g]? = some (.cells cur t q)
theorem TyAt.eq_block {g : Nat} {t : TypeId} {w w' : World} (h : TyAt g t w) (e : w'.heap[g]? = w.heap[g]?) : TyAt g t w' := by
 obtain ⟨c, q, h⟩ := h; exact ⟨c, q, e.trans h⟩
theorem TyAt.set {g : Nat} {t : TypeId} {w : World} (h : TyAt g t w) (p : Addr) (v : Value) : TyAt g t (w.setCell p v) := by
 obtain ⟨c, q, h⟩ := h;by_cases e : p.block = g
 ·subst e
  exact ⟨if p.spot.isSome then c else c.setIfInBounds p.off v, q, by unfold World.setCell; simp [Array.getElem?_modify, h]⟩
 ·exact ⟨c, q, (Below.heap_setCell w p v g (fun x => e x.symm)).trans h⟩
structure RdAt (R fn : Nat) (caps : Array Value) (seen : List Int) (sv : Value) (w : World) : Prop where
 c : CellsAt R 4098 (rdF fn caps seen sv) w
 t : TyAt R 147 w
theorem RdAt.kept1 {R fn : Nat} {caps : Array Value} {seen : List Int} {sv : Value} {w w' : World} (h : RdAt R fn caps seen sv w) (b : Below w.heap.size w w') : RdAt R fn caps seen sv w' := ⟨h.c.kept1 b, h.t.eq_block (b.block R h.c.1)⟩
theorem RdAt.eq_block {R fn : Nat} {caps : Array Value} {seen : List Int} {sv : Value} {w w' : World} (h : RdAt R fn caps seen sv w) (hs : w.heap.size ≤ w'.heap.size) (e : w'.heap[R]? = w.heap[R]?) : RdAt R fn caps seen sv w' := ⟨h.c.eq_block hs e, h.t.eq_block e⟩
theorem RdAt.mark {R fn : Nat} {caps : Array Value} {seen : List Int} {sv : Value} {w : World} (h : RdAt R fn caps seen sv w) {p : Nat} (hp : p < 4096) : RdAt R fn caps ((p : Int) :: seen) sv (w.setCell ⟨R, 1 + p, none⟩ (.bool true)) :=
 ⟨(h.c.set (i := 1 + p) (by omega) (.bool true)).congr (rdF_mark fn caps seen sv p hp), h.t.set _ _⟩
def nodeSeen (x : Ent) (seen : List Int) : List Int := if x.phys ∈ seen then seen else x.phys :: seen
def nodeErr (rd : Rd) (x : Ent) (leaf : Bool) (seen : List Int) : Int := match nodeA rd x leaf seen with | .error c => c | .ok _ => 0
def nodeL? (rd : Rd) (x : Ent) (leaf : Bool) (seen : List Int) : List Ent := match nodeA rd x leaf seen with | .error _ => [] | .ok (m, _) => m
theorem nodeA_ok {rd : Rd} {x : Ent} {leaf : Bool} {seen : List Int} (h1 : x.phys ∉ seen) (h2 : (rd x.phys).2 = 0) (h3 : decE (rd x.phys).1 = 0) (h4 : decF (rd x.phys).1 = leaf) (h5 : (eat (decL (rd x.phys).1) 0).log = x.log) :
 nodeA rd x leaf seen = .ok (decL (rd x.phys).1, x.phys :: seen) := by
 unfold nodeA;rw [if_neg h1, if_neg (by rw [h2]; exact fun h => h rfl)];unfold decE at h3
 cases h : decN (rd x.phys).1 with
 | none => rw [h] at h3; simp at h3
 | some q =>
   obtain ⟨m, is⟩ := q;unfold decF at h4; unfold decL at h5 ⊢;rw [h] at h4 h5 ⊢;simp only [Option.map_some, Option.getD_some] at h4 h5 ⊢;rw [if_pos ⟨h4, h5⟩]
theorem nodeA_no {rd : Rd} {x : Ent} {leaf : Bool} {seen : List Int} (h1 : x.phys ∉ seen) (h2 : (rd x.phys).2 = 0) (h3 : decE (rd x.phys).1 ≠ 0 ∨ decF (rd x.phys).1 ≠ leaf ∨ (eat (decL (rd x.phys).1) 0).log ≠ x.log) :
 nodeA rd x leaf seen = .error 80 := by
 unfold nodeA;rw [if_neg h1, if_neg (by rw [h2]; exact fun h => h rfl)]
 cases h : decN (rd x.phys).1 with
 | none => rfl
 | some q =>
   obtain ⟨m, is⟩ := q;unfold decE decF decL at h3;rw [h] at h3;simp only [Option.isSome_some, if_true, Option.map_some, Option.getD_some, ne_eq, not_true_eq_false, false_or] at h3 ⊢;rw [if_neg (fun q => h3.elim (fun a => a q.1) (fun a => a q.2))]
theorem fknode_any (fn : Nat) (caps : Array Value) (rd : Rd) (B : Nat) (w0 : World) (hr : Reads fn caps rd B w0) (x : Ent) (hx : 0 ≤ x.phys ∧ x.phys < 4096) (leaf : Bool) (R : Nat) (hR : B ≤ R) (seen : List Int) (sv : Value) (w : World) (hb : Below B w0 w) (h : RdAt R fn caps seen sv w) :
 Calls Tryz.prog 112 #[.pointer (some ⟨R, 0, none⟩), entV x, .bool leaf] w fun e w' => ∃ v, e = .returned (.tuple #[v, .int .i64 (nodeErr rd x leaf seen)]) ∧ EntsAt w.heap.size v (nodeL? rd x leaf seen) w' ∧ RdAt R fn caps (nodeSeen x seen) sv w' ∧ Zone R (R + 1) w w' := by
 have mixed : Tryz.prog.follows .mixedOrders = true := by kernel_rfl
 obtain ⟨xa, xp, xz⟩ := x;dsimp only at hx;obtain ⟨p, rfl⟩ := Int.eq_ofNat_of_zero_le hx.1
 have hp : p < 4096 := by omega
 obtain ⟨w1, hw1⟩ : ∃ w1, w.alloc (.cells #[.int .i64 xa, .int .i64 (p : Int), .int .i64 xz] 31) = w1 := ⟨_, rfl⟩;obtain ⟨bx, hbx⟩ : ∃ bx, w.heap.size = bx := ⟨_, rfl⟩
 have hb1 : Below w.heap.size w w1 := by rw [← hw1]; exact balloc1 _ _
 have hX : Blk bx #[.int .i64 xa, .int .i64 (p : Int), .int .i64 xz] 31 w1 := by rw [← hw1, ← hbx]; exact Blk.new _ _ _
 have H := Lib.hid (h.kept1 hb1);have HX := Lib.hid hX;have HB1 := Lib.hid hb1;have HW1 := Lib.hid hw1
 have hRx : R < bx := by rw [← hbx]; exact h.c.1
 have HBX := Lib.hid hbx;have c0 : ∀ p : BelowP w1, p.to.cell? ⟨R, 0, none⟩ = some (.func (.func fn) #[] caps) := fun p => ((H.out.kept1 p.h).c.2 0 (by omega)).1
 have c1 : ∀ q : BelowP w1, q.to.cell? ⟨R, 1 + p, none⟩ = some (.bool (decide ((p : Int) ∈ seen))) := fun q => by
  have := ((H.out.kept1 q.h).c.2 (1 + p) (by omega)).1;rwa [rdF_seen _ _ _ _ p hp] at this
 have x0 : ∀ q : BelowP w1, q.to.cell? ⟨bx, 0, none⟩ = some (.int .i64 xa) := fun q => (HX.out.kept1 q.h).cell 0;have x1 : ∀ q : BelowP w1, q.to.cell? ⟨bx, 1, none⟩ = some (.int .i64 (p : Int)) := fun q => (HX.out.kept1 q.h).cell 1;clear hw1 hb1 hX h;by_cases hs : (p : Int) ∈ seen
 ·rw [decide_eq_true hs] at c1
  have e1 : nodeErr rd ⟨xa, p, xz⟩ leaf seen = 80 := by unfold nodeErr nodeA; rw [if_pos hs]
  have e2 : nodeL? rd ⟨xa, p, xz⟩ leaf seen = [] := by unfold nodeL? nodeA; rw [if_pos hs]
  have e3 : nodeSeen ⟨xa, p, xz⟩ seen = seen := by unfold nodeSeen; rw [if_pos hs]
  rw [e1, e2, e3];clear hr hb e1 e2 e3 hs c0
  go_enter Tryz.func112, Tryz.ntmps112
  go_upto_region 1 with fail
  rw [HW1.out];refine wp_region_quiet_below mixed (by kernel_rfl) ?_
  repeat (go_big_quiet_step (fail))
  refine wpQuiet_nil ?_;intro w0q hw';obtain ⟨⟨wq, bq⟩, hw''⟩ := hw';have hw2 : wq = w0q := hw''.symm;clear hw'';subst hw2;have HN := Lib.hid (H.out.kept1 bq);have HZ := Lib.hid (Zone.of_below (bnext HB1.out bq) R (R + 1));clear c1 x0 x1 bq;go_wp2
  go_ret2
  exact ⟨_, rfl, World.ownsRow_nil _ _ _ _, HN.out, HZ.out⟩
 ·rw [decide_eq_false hs] at c1
  have HNS := Lib.hid hs;have HR := Lib.hid hr;have hent := hr.ent
  have e3 : nodeSeen ⟨xa, p, xz⟩ seen = (p : Int) :: seen := by unfold nodeSeen; rw [if_neg hs]
  rw [e3];have HBB := Lib.hid hb;clear e3 hs hr hb;have HSZ := HR.out.size (p : Int)
  have FERR : Hid ((rd (p : Int)).2 ≠ 0 → nodeErr rd ⟨xa, p, xz⟩ leaf seen = (rd (p : Int)).2 ∧ nodeL? rd ⟨xa, p, xz⟩ leaf seen = []) := Lib.hid fun h => by
   unfold nodeErr nodeL? nodeA; rw [if_neg HNS.out, if_pos h]; exact ⟨rfl, rfl⟩
  have FNO : Hid ((rd (p : Int)).2 = 0 → (decE (rd (p : Int)).1 ≠ 0 ∨ decF (rd (p : Int)).1 ≠ leaf ∨ (eat (decL (rd (p : Int)).1) 0).log ≠ xa) → nodeErr rd ⟨xa, p, xz⟩ leaf seen = 80 ∧ nodeL? rd ⟨xa, p, xz⟩ leaf seen = []) := Lib.hid fun h2 h3 => by
   have := nodeA_no (x := ⟨xa, p, xz⟩) HNS.out h2 h3;unfold nodeErr nodeL?; rw [this]; exact ⟨rfl, rfl⟩
  have FOK : Hid ((rd (p : Int)).2 = 0 → decE (rd (p : Int)).1 = 0 → decF (rd (p : Int)).1 = leaf → (eat (decL (rd (p : Int)).1) 0).log = xa → nodeErr rd ⟨xa, p, xz⟩ leaf seen = 0 ∧ nodeL? rd ⟨xa, p, xz⟩ leaf seen = decL (rd (p : Int)).1) := Lib.hid fun h2 h3 h4 h5 => by
   have := nodeA_ok (x := ⟨xa, p, xz⟩) HNS.out h2 h3 h4 h5;unfold nodeErr nodeL?; rw [this]; exact ⟨rfl, rfl⟩
  obtain ⟨s, E, hse⟩ : ∃ s E, rd (p : Int) = (s, E) := ⟨_, _, rfl⟩;rw [hse] at HSZ FERR FNO FOK;dsimp only at HSZ FERR FNO FOK;obtain ⟨NE, hNE⟩ : ∃ NE, nodeErr rd ⟨xa, p, xz⟩ leaf seen = NE := ⟨_, rfl⟩;obtain ⟨NL, hNL⟩ : ∃ NL, nodeL? rd ⟨xa, p, xz⟩ leaf seen = NL := ⟨_, rfl⟩;rw [hNE, hNL] at FERR FNO FOK ⊢;have HSE := Lib.hid hse;clear hNE hNL hse HNS
  go_enter Tryz.func112, Tryz.ntmps112
  go_upto_region 1 with fail
  rw [HW1.out];refine wp_region_quiet_below mixed (by kernel_rfl) ?_
  repeat (go_big_quiet_step (fail))
  refine wpQuiet_nil ?_;intro w0q hw';obtain ⟨⟨wq, bq⟩, hw''⟩ := hw';have hw2 : wq = w0q := hw''.symm;clear hw'';subst hw2;have H := Lib.hid (H.out.kept1 bq);have HX := Lib.hid (HX.out.kept1 bq);have HZ := Lib.hid (Zone.of_below (bnext HB1.out bq) R (R + 1));clear c0 c1 x0 x1 bq HW1 HB1;have x1 : ∀ q : BelowP wq, q.to.cell? ⟨bx, 1, none⟩ = some (.int .i64 (p : Int)) := fun q => (HX.out.kept1 q.h).cell 1;go_wp2;refine wp_region_tail_below 6 mixed (by kernel_rfl) ?_;simp only [List.take_succ_cons, List.take_zero, List.drop_succ_cons, List.drop_zero]
  repeat (go_big_quiet_step (fail))
  refine wpQuiet_nil ?_;intro w0q hw';obtain ⟨⟨wq, bq⟩, hw''⟩ := hw';have hw2 : wq = w0q := hw''.symm;clear hw'';subst hw2;have H := Lib.hid (H.out.kept1 bq);have HX := Lib.hid (HX.out.kept1 bq);have HZ := Lib.hid (HZ.out.trans (Zone.of_below bq R (R + 1)));clear x1 bq;obtain ⟨w4, hw4⟩ : ∃ w4, wq.setCell ⟨R, 1 + p, none⟩ (.bool true) = w4 := ⟨_, rfl⟩;have cz := (H.out.c.2 (1 + p) (by omega)).1;have fz := (H.out.c.2 (1 + p) (by omega)).2;have hlt := H.out.c.1;have H4 : Hid (RdAt R fn caps ((p : Int) :: seen) sv w4) := Lib.hid (by rw [← hw4]; exact H.out.mark hp);have Z4 : Hid (Zone R (R + 1) w w4) := Lib.hid (by rw [← hw4]; exact HZ.out.set (Nat.le_refl _) (Nat.lt_succ_self _) _);have X4 : Hid (Blk bx #[.int .i64 xa, .int .i64 (p : Int), .int .i64 xz] 31 w4) := Lib.hid (by rw [← hw4]; exact Blk.kept HX.out (Zone.set (Zone.refl R (R + 1) wq) (p := ⟨R, 1 + p, none⟩) (Nat.le_refl _) (Nat.lt_succ_self _) (.bool true)) (.inr (by omega)));have HW4 := Lib.hid hw4;clear hw4 H HX HZ
  go_upto_region 4 with fail
  rw [HW4.out];clear cz fz HW4;have c0 : ∀ p : BelowP w4, p.to.cell? ⟨R, 0, none⟩ = some (.func (.func fn) #[] caps) := fun p => ((H4.out.kept1 p.h).c.2 0 (by omega)).1;have x1 : ∀ q : BelowP w4, q.to.cell? ⟨bx, 1, none⟩ = some (.int .i64 (p : Int)) := fun q => (X4.out.kept1 q.h).cell 1;have C := Lib.hid fun q : BelowP w4 => (by have h9 := HR.out.call (p : Int) q.to (by omega) (by omega) (HBB.out.trans ((Z4.out.trans (Zone.of_below q.h R (R + 1))).below (by have := HBB.out.size; have := hR; omega) hR)); rw [HSE.out] at h9; exact h9 : Calls Tryz.prog fn (#[.int .i64 (p : Int)] ++ caps) q.to fun e w' => e = .returned (.tuple #[.string s, .int .i64 E]) ∧ Below q.to.heap.size q.to w');refine wp_region_quiet_below mixed (by kernel_rfl) ?_
  repeat (go_big_quiet_step (refine calls_below (C.out _)))
  refine wpQuiet_nil ?_;intro w0q hw';obtain ⟨⟨wq, bq⟩, hw''⟩ := hw';have hw2 : wq = w0q := hw''.symm;clear hw'';subst hw2;have H4 := Lib.hid (H4.out.kept1 bq);have X4 := Lib.hid (X4.out.kept1 bq);have Z4 := Lib.hid (Z4.out.trans (Zone.of_below bq R (R + 1)));have hsw := Z4.out.size;clear c0 x1 bq C HR HBB hent;by_cases hE : E = 0
  ·subst hE
   have DC := Lib.hid (fkdec_any s HSZ wq)
   have FE : decE s = 0 ∨ decE s = 80 := by
    unfold decE;split
    ·exact .inl rfl
    ·exact .inr rfl
   have FL : Hid (decE s = 0 → 0 < (decL s).length) := Lib.hid fun h => by
    unfold decE at h;unfold decL
    cases hd : decN s with
    | none => rw [hd] at h; simp at h
    | some q => obtain ⟨m, is⟩ := q; exact (decN_some hd).1.1
   clear FERR;obtain ⟨fl, hfl⟩ : ∃ fl, decF s = fl := ⟨_, rfl⟩;rw [hfl] at FNO FOK DC;clear hfl;generalize decL s = m at *;rcases FE with hD | hD
   ·rw [hD] at FNO FOK FL DC
    clear hD;by_cases hfl : fl = leaf
    ·subst hfl
     go_wp2_with fail
     refine DC.out.mono ?_; rintro e w7 ⟨v, rfl, hv, b7⟩;have hpos := FL.out (by trivial);obtain ⟨ad, cp, rfl, v1, v2, v3, -⟩ := entsIn_cells (entsAt_in hv);obtain ⟨gl, ol, rfl, hgl, hcl⟩ := v3 hpos
     have l0 : ∀ q : BelowP w7, q.to.cell? ⟨gl, ol, none⟩ = some (.int .i64 (eat m 0).log) := fun q => by
      have := (hcl q.to q.h 0 hpos).1;rwa [Nat.zero_mul, Nat.add_zero] at this
     have H4 := Lib.hid (H4.out.kept1 b7);have X4 := Lib.hid (X4.out.kept1 b7);have Z4 := Lib.hid (Z4.out.trans (Zone.of_below b7 R (R + 1)));obtain ⟨ml, hmm⟩ : ∃ ml, m.length = ml := ⟨_, rfl⟩;have HV : Hid (EntsAt w.heap.size (.slice (some ⟨gl, ol, none⟩) ml cp) m w7) := Lib.hid (by rw [← hmm]; exact row_down hsw hv);have x0 : ∀ q : BelowP w7, q.to.cell? ⟨bx, 0, none⟩ = some (.int .i64 xa) := fun q => (X4.out.kept1 q.h).cell 0;have hml : 0 < m.length := hpos;clear b7 DC FL hv v3 hcl;generalize hll : (eat m 0).log = la at *;rw [hmm] at v1 hml ⊢;clear hll hmm hpos;by_cases hla : la = xa
     ·have tl : (la == xa) = true := by rw [beq_iff_eq]; exact hla
      obtain ⟨rfl, rfl⟩ := FOK.out (by trivial) (by trivial) (by trivial) hla;clear FNO FOK
      cases fl
      all_goals
       go_upto_region 8 with fail
       refine wp_region_quiet_below mixed (by kernel_rfl) ?_
       repeat (go_big_quiet_step (fail))
       refine wpQuiet_nil ?_;intro w0q hw';obtain ⟨⟨wq, bq⟩, hw''⟩ := hw';have hw2 : wq = w0q := hw''.symm;clear hw'';subst hw2;have H4 := Lib.hid (H4.out.kept1 bq);have Z4 := Lib.hid (Z4.out.trans (Zone.of_below bq R (R + 1)));have HV := Lib.hid (row_kept HV.out bq);clear bq l0 x0;go_wp2
       go_ret2
       exact ⟨_, rfl, HV.out, H4.out, Z4.out⟩
     ·have tl : (la == xa) = false := by rw [beq_eq_false_iff_ne]; exact hla
      obtain ⟨rfl, rfl⟩ := FNO.out (by trivial) (.inr (.inr hla));clear FNO FOK
      cases fl
      all_goals
       go_upto_region 8 with fail
       refine wp_region_quiet_below mixed (by kernel_rfl) ?_
       repeat (go_big_quiet_step (fail))
       refine wpQuiet_nil ?_;intro w0q hw';obtain ⟨⟨wq, bq⟩, hw''⟩ := hw';have hw2 : wq = w0q := hw''.symm;clear hw'';subst hw2;have H4 := Lib.hid (H4.out.kept1 bq);have Z4 := Lib.hid (Z4.out.trans (Zone.of_below bq R (R + 1)));clear bq l0 x0;go_wp2
       go_ret2
       exact ⟨_, rfl, World.ownsRow_nil _ _ _ _, H4.out, Z4.out⟩
    ·obtain ⟨rfl, rfl⟩ := FNO.out (by trivial) (.inr (.inl hfl))
     clear FNO FOK FL;go_wp2_with fail
     refine DC.out.mono ?_; rintro e w7 ⟨v, rfl, -, b7⟩;have H4 := Lib.hid (H4.out.kept1 b7);have Z4 := Lib.hid (Z4.out.trans (Zone.of_below b7 R (R + 1)));clear b7 DC
     cases fl <;> cases leaf
     case false.false => exact absurd rfl hfl
     case true.true => exact absurd rfl hfl
     all_goals
      clear hfl
      go_upto_region 8 with fail
      refine wp_region_quiet_below mixed (by kernel_rfl) ?_
      repeat (go_big_quiet_step (fail))
      refine wpQuiet_nil ?_;intro w0q hw';obtain ⟨⟨wq, bq⟩, hw''⟩ := hw';have hw2 : wq = w0q := hw''.symm;clear hw'';subst hw2;have H4 := Lib.hid (H4.out.kept1 bq);have Z4 := Lib.hid (Z4.out.trans (Zone.of_below bq R (R + 1)));clear bq;go_wp2
      go_ret2
      exact ⟨_, rfl, World.ownsRow_nil _ _ _ _, H4.out, Z4.out⟩
   ·rw [hD] at FNO FOK FL DC
    clear hD;obtain ⟨rfl, rfl⟩ := FNO.out (by trivial) (.inl (by decide));clear FNO FOK FL;go_wp2_with fail
    refine DC.out.mono ?_; rintro e w7 ⟨v, rfl, -, b7⟩;have H4 := Lib.hid (H4.out.kept1 b7);have Z4 := Lib.hid (Z4.out.trans (Zone.of_below b7 R (R + 1)));clear b7 DC
    go_upto_region 8 with fail
    refine wp_region_quiet_below mixed (by kernel_rfl) ?_
    repeat (go_big_quiet_step (fail))
    refine wpQuiet_nil ?_;intro w0q hw';obtain ⟨⟨wq, bq⟩, hw''⟩ := hw';have hw2 : wq = w0q := hw''.symm;clear hw'';subst hw2;have H4 := Lib.hid (H4.out.kept1 bq);have Z4 := Lib.hid (Z4.out.trans (Zone.of_below bq R (R + 1)));clear bq;go_wp2
    go_ret2
    exact ⟨_, rfl, World.ownsRow_nil _ _ _ _, H4.out, Z4.out⟩
  ·have tE : (E == 0) = false := by rw [beq_eq_false_iff_ne]; exact hE
   obtain ⟨rfl, rfl⟩ := FERR.out hE;clear FERR FNO FOK;go_wp2
   go_ret2
   exact ⟨_, rfl, World.ownsRow_nil _ _ _ _, H4.out, Z4.out⟩
open Go.RowKit
structure Grows (B : Nat) (w w' : World) : Prop where
 os : w'.os = w.os
 tape : w'.tape = w.tape
 output : w'.output = w.output
 size : w.heap.size ≤ w'.heap.size
 block : ∀ k, k < w.heap.size → w'.heap[k]? = w.heap[k]? ∨ (B ≤ k ∧ ∃ c c' t q q', t ≠ 31 ∧ w.heap[k]? = some (.cells c t q) ∧ w'.heap[k]? = some (.cells c' t q'))
theorem Grows.refl (B : Nat) (w : World) : Grows B w w := ⟨rfl, rfl, rfl, Nat.le_refl _, fun _ _ => .inl rfl⟩
theorem Grows.of_below {B : Nat} {w w' : World} (h : Below w.heap.size w w') : Grows B w w' := ⟨h.os, h.tape, h.output, h.size, fun k hk => .inl (h.block k hk)⟩
theorem Grows.below {B : Nat} {w w' : World} (h : Grows B w w') (hB : B ≤ w.heap.size) : Below B w w' := ⟨h.os, h.tape, h.output, h.size, fun k hk => (h.block k (by omega)).elim id fun q => by omega⟩
theorem Grows.trans {B : Nat} {a b c : World} (h : Grows B a b) (k : Grows B b c) : Grows B a c := by
 refine ⟨k.os.trans h.os, k.tape.trans h.tape, k.output.trans h.output, Nat.le_trans h.size k.size, fun i hi => ?_⟩;rcases h.block i hi with h1 | ⟨hb, c1, c2, t, q1, q2, ht, e1, e2⟩
 ·rcases k.block i (Nat.lt_of_lt_of_le hi h.size) with k1 | ⟨hb, d1, d2, t, q1, q2, ht, e1, e2⟩
  ·exact .inl (k1.trans h1)
  ·exact .inr ⟨hb, d1, d2, t, q1, q2, ht, h1 ▸ e1, e2⟩
 ·rcases k.block i (Nat.lt_of_lt_of_le hi h.size) with k1 | ⟨_, d1, d2, t2, p1, p2, ht2, f1, f2⟩
  ·exact .inr ⟨hb, c1, c2, t, q1, q2, ht, e1, k1.trans e2⟩
  ·rw [e2] at f1
   injection f1 with f1
   injection f1 with f3 f4 f5
   subst f4;exact .inr ⟨hb, c1, d2, t, q1, p2, ht, e1, f2⟩
theorem Grows.mono {B C : Nat} {w w' : World} (h : Grows B w w') (hC : C ≤ B) : Grows C w w' := ⟨h.os, h.tape, h.output, h.size, fun k hk => (h.block k hk).imp id fun ⟨a, r⟩ => ⟨by omega, r⟩⟩
theorem Grows.zone1 {B R : Nat} {t : TypeId} {w w' : World} (ht : t ≠ 31) (hB : B ≤ R) (z : Zone R (R + 1) w w') (h : TyAt R t w) (h' : TyAt R t w') : Grows B w w' := by
 refine ⟨z.os, z.tape, z.output, z.size, fun k hk => ?_⟩;by_cases e : k = R
 ·subst e
  obtain ⟨c, q, e1⟩ := h;obtain ⟨c', q', e2⟩ := h';exact .inr ⟨hB, c, c', t, q, q', ht, e1, e2⟩
 ·exact .inl (z.block k hk (by omega))
def EntsS (B : Nat) (v : Value) (x : List Ent) (w : World) : Prop := ∀ w', Grows B w w' → EntsIn v x w'
theorem EntsS.now {B : Nat} {v : Value} {x : List Ent} {w : World} (h : EntsS B v x w) : EntsIn v x w := h w (Grows.refl _ _)
theorem EntsS.kept {B : Nat} {v : Value} {x : List Ent} {w w' : World} (h : EntsS B v x w) (g : Grows B w w') : EntsS B v x w' := fun a ha => h a (g.trans ha)
theorem EntsS.old {B : Nat} {v : Value} {x : List Ent} {w0 w : World} (h : EntsIn v x w0) (hB : w0.heap.size ≤ B) (hb : Below w0.heap.size w0 w) (hw : B ≤ w.heap.size) : EntsS B v x w := fun a ha => h.kept (hb.trans ((ha.below hw).mono hB))
theorem EntsS.own {B C : Nat} {v : Value} {x : List Ent} {w : World} (h : EntsAt C v x w) : EntsS B v x w := fun a ha => by
 refine entsAt_in (B := C) ⟨h.1, ?_⟩;rcases h.2 with b | ⟨g, cap, cur, b1, b2, b3, b4⟩
 ·exact .inl b
 ·refine .inr ⟨g, cap, cur, b1, b2, ?_, b4⟩
  rcases ha.block g (lt_of_block b3) with e | ⟨_, c1, c2, t, q1, q2, ht, e1, e2⟩
  ·exact e.trans b3
  ·rw [b3] at e1
   injection e1 with e1
   injection e1 with _ e3 _
   exact absurd e3.symm ht
def StaysG (v v' : Value) (w w' : World) : Prop := v'.ownBlock = v.ownBlock ∨ ((∀ k, v'.ownBlock = some k → w.heap.size ≤ k) ∧ ∀ g, v.ownBlock = some g → w'.heap[g]? = w.heap[g]?)
theorem Grows.row {B B' n : Nat} {e : TypeId} (he : e ≠ 31) {v v' : Value} {xs ys : List Value} {m : Nat} {w w' : World} (h : w.ownsRow B' e 1 v n xs) (hB : B ≤ B') (g : w.grownBy w' v.ownBlock) (h' : w'.ownsRow B' e 1 v' m ys) (hv : StaysG v v' w w') : Grows B w w' := by
 refine ⟨g.os, g.tape, g.output, g.size, fun k hk => ?_⟩;by_cases hq : some k = v.ownBlock
 ·rcases hv with hv | hv
  ·refine .inr ?_
   rcases h.2 with ⟨b1, b2⟩ | ⟨q, cap, cur, b1, b2, b3, b4⟩
   ·rw [b1] at hq; cases hq
   ·rw [b1] at hq hv
    simp only [Value.ownBlock] at hq hv
    injection hq with hq
    subst hq;rcases h'.2 with ⟨d1, d2⟩ | ⟨q', cap', cur', d1, d2, d3, d4⟩
    ·rw [d1] at hv; cases hv
    ·rw [d1] at hv
     simp only [Value.ownBlock] at hv
     injection hv with hv
     subst hv;exact ⟨by omega, cur, cur', e, _, _, he, b3, d3⟩
  ·exact .inl (hv.2 k hq.symm)
 ·exact .inl (g.block k hk hq)
theorem drew_alloc_at (w : World) (o : Obj) (g : Nat) (hg : g < w.heap.size) : (w.drew.alloc o).heap[g]? = w.heap[g]? := ((Below.refl w.heap.size w).drew.alloc (Nat.le_refl _) o).block g hg
theorem pushS_run (w : World) (base : Nat) (T e : TypeId) (ty : TypeId) (z : Value) (bytes : Nat) (ht : Tryz.prog.underlying T = some (.slice e)) (hi : (Tryz.prog.info? e).map (fun i => (i.zero, i.size, i.bytes)) = some (some z, 1, bytes)) (hzs : z.cells.size = 1) (hby : bytes ≤ 64)
 (v : Value) (n : Nat) (xs : List Value) (hn : n ≤ 1000000) (hown : w.ownsRow base e 1 v n xs) (W : World) (u : Value) (hW : w = W.alloc (.cells #[u] e)) (hu : u.oneCell' = true) (hbase : base ≤ w.heap.size) :
 ∃ v' w', (Builtin.append_ #[T, T] ty #[v, .slice (some ⟨W.heap.size, 0, none⟩) 1 1]).run Tryz.prog w = .ok v' w' ∧ w'.ownsRow base e 1 v' (n + 1) (xs ++ [u]) ∧ w.grownBy w' v.ownBlock ∧ StaysG v v' w w' := by
 obtain ⟨i, hi0, hz0, hs0, hb0⟩ := info_parts hi
 have hnews : ∀ j x, [u][j]? = some x → w.cell? ((⟨W.heap.size, 0, none⟩ : Addr).add j) = some x := by
  subst hW;intro j x hj;rw [add_at, Nat.zero_add, World.cell?_alloc_mark]
  simpa using hj
 have h1 : ∀ x ∈ [u], x.oneCell' = true := fun x hx => by rw [List.mem_singleton] at hx; subst hx; exact hu
 have hbyt : (n + 1) * bytes ≤ 140737488355328 := by
  have : (n + 1) * bytes ≤ 1000001 * 64 := Nat.mul_le_mul (by omega) hby;omega
 have R := fun b (hb : b ≤ w.heap.size) (ho : w.ownsRow b e 1 v n xs) => run_append_own (P := Tryz.prog) w b T ty e i z 1 bytes ht hi0 hz0 hs0 hb0 hzs (by decide) v n xs ho ⟨W.heap.size, 0, none⟩ 1 1 [u] rfl hnews h1 (by unfold maxLen; omega) hbyt hb;obtain ⟨v', w', hr, h2, h3, _⟩ := R base hbase hown;refine ⟨v', w', hr, h2, h3, ?_⟩;rcases hown.2 with ⟨rfl, rfl⟩ | ⟨g, cap, cur, rfl, hbg, hg, hnc, hcm, hcs, htake⟩
 ·have hx : xs = [] := List.eq_nil_of_length_eq_zero (by simpa using hown.1)
  subst hx;obtain ⟨v2, w2, hr2, k2, _, _⟩ := R w.heap.size (Nat.le_refl _) (World.ownsRow_nil _ _ _ _);rw [hr] at hr2
  obtain ⟨rfl, rfl⟩ : v' = v2 ∧ w' = w2 := by injection hr2 with a b; exact ⟨a, b⟩
  exact .inr ⟨fun k hk => (k2.lt k hk).1, fun g hg => by cases hg⟩
 ·by_cases hroom : n + 1 ≤ cap
  ·obtain ⟨w2, hr2, _, _⟩ := run_append_fits (P := Tryz.prog) w base T ty e i 1 ht hi0 hs0 g n cap xs hown ⟨W.heap.size, 0, none⟩ 1 1 [u] rfl hnews h1 hroom
   rw [hr] at hr2
   injection hr2 with a b
   subst a;exact .inl rfl
  ·have hr2 := run_append_grow (P := Tryz.prog) w T ty e i z ht hi0 hz0 ⟨g, 0, none⟩ n cap xs (by rw [hs0]; exact hown.1) (hown.cells (g := g) rfl) ⟨W.heap.size, 0, none⟩ 1 1 [u] (by rw [hs0]; rfl) hnews (by omega) (by omega) (growslice_fits (by omega) (by rw [hb0]; exact hbyt))
   rw [hr] at hr2
   injection hr2 with a b
   subst a
   refine .inr ⟨fun k hk => by
    have : some w.heap.size = some k := hk
    injection this with h; omega, fun q hq => ?_⟩
   obtain rfl : g = q := by simpa [Value.ownBlock] using hq
   exact (congrArg (fun y : World => y.heap[g]?) b).trans (drew_alloc_at w _ g (lt_of_block hg))
open Go.RowKit
theorem pushA_len (S : Shp) (r : Nat) (l : List Ent) : (pushA S r l).length = S.length := by unfold pushA; rw [List.length_modify]
theorem rowA_push {S : Shp} {r : Nat} (hr : r < S.length) (l : List Ent) : rowA (pushA S r l) r = rowA S r ++ [l] := by
 unfold rowA pushA;rw [List.getElem?_modify]
 simp [List.getElem?_eq_getElem hr]
theorem rowA_push_ne (S : Shp) {r k : Nat} (h : k ≠ r) (l : List Ent) : rowA (pushA S r l) k = rowA S k := by
 unfold rowA pushA;rw [List.getElem?_modify]
 simp [show ¬ r = k from fun e => h e.symm]
theorem own_ty {B z n g : Nat} {e : TypeId} {v : Value} {xs : List Value} {w : World} (h : w.ownsRow B e z v n xs) (hg : v.ownBlock = some g) : TyAt g e w ∧ g < w.heap.size ∧ B ≤ g := by
 rcases h.2 with ⟨b1, b2⟩ | ⟨q, cap, cur, b1, b2, b3, b4⟩
 ·rw [b1] at hg; cases hg
 ·rw [b1] at hg
  obtain rfl : q = g := by simpa [Value.ownBlock] using hg
  exact ⟨⟨_, _, b3⟩, lt_of_block b3, b2⟩
theorem ty_one {g : Nat} {s t : TypeId} {w : World} (h : TyAt g s w) (k : TyAt g t w) : s = t := by
 obtain ⟨c, q, h⟩ := h;obtain ⟨c', q', k⟩ := k;rw [h] at k
 injection k with k
 injection k with _ k _
theorem own_eq {B z n : Nat} {e : TypeId} {v : Value} {xs : List Value} {w w' : World} (h : w.ownsRow B e z v n xs) (hb : ∀ g, v.ownBlock = some g → w'.heap[g]? = w.heap[g]?) : w'.ownsRow B e z v n xs := by
 refine ⟨h.1, ?_⟩;rcases h.2 with b | ⟨q, cap, cur, b1, b2, b3, b4⟩
 ·exact .inl b
 ·exact .inr ⟨q, cap, cur, b1, b2, (hb q (by rw [b1]; rfl)).trans b3, b4⟩
def Keeps (P : Value → List Ent → World → Prop) (B : Nat) : Prop := ∀ v x w w', P v x w → Grows B w w' → P v x w'
theorem keeps_ents {C B : Nat} (h : C ≤ B) : Keeps (EntsS C) B := fun v x w w' a g => a.kept (g.mono h)
structure ShpAt (P : Value → List Ent → World → Prop) (B G : Nat) (S : Shp) (V : Nat → Value) (w : World) : Prop where
 le : Keeps P B
 big : B ≤ G
 cells : CellsAt G S.length V w
 ty : TyAt G 149 w
 rows : ∀ r, r < S.length → ∃ Vs : List Value, Vs.length = (rowA S r).length ∧ w.ownsRow B 22 1 (V r) (rowA S r).length Vs ∧ ∀ k (h1 : k < Vs.length) (h2 : k < (rowA S r).length), P Vs[k] (rowA S r)[k] w
 apart : ∀ r r' g, r < S.length → r' < S.length → (V r).ownBlock = some g → (V r').ownBlock = some g → r = r'
theorem ShpAt.other {P : Value → List Ent → World → Prop} {B G R : Nat} {S : Shp} {V : Nat → Value} {w w' : World} (h : ShpAt P B G S V w) (hR : TyAt R 147 w) (z : Zone R (R + 1) w w') (g : Grows B w w') : ShpAt P B G S V w' := by
 have hG : G ≠ R := fun e => by
  subst e;exact absurd (ty_one h.ty hR) (by decide)
 have eG : w'.heap[G]? = w.heap[G]? := z.block G h.cells.1 (by omega);refine ⟨h.le, h.big, h.cells.eq_block z.size eG, h.ty.eq_block eG, fun r hr => ?_, h.apart⟩;obtain ⟨Vs, h1, h2, h3⟩ := h.rows r hr;refine ⟨Vs, h1, own_eq h2 fun q hq => ?_, fun k a b => h.le _ _ _ _ (h3 k a b) g⟩;obtain ⟨t1, t2, _⟩ := own_ty h2 hq
 have : q ≠ R := fun e => by
  subst e;exact absurd (ty_one t1 hR) (by decide)
 exact z.block q t2 (by omega)
theorem ShpAt.kept {P : Value → List Ent → World → Prop} {B G : Nat} {S : Shp} {V : Nat → Value} {w w' : World} (h : ShpAt P B G S V w) (b : Below w.heap.size w w') : ShpAt P B G S V w' := by
 refine ⟨h.le, h.big, h.cells.kept1 b, h.ty.eq_block (b.block G h.cells.1), fun r hr => ?_, h.apart⟩;obtain ⟨Vs, h1, h2, h3⟩ := h.rows r hr;exact ⟨Vs, h1, row_kept h2 b, fun k x y => h.le _ _ _ _ (h3 k x y) (Grows.of_below b)⟩
theorem ShpAt.push {P : Value → List Ent → World → Prop} {B G : Nat} {S : Shp} {V : Nat → Value} {w : World} (h : ShpAt P B G S V w) {r : Nat} (hr : r < S.length) {Vs : List Value} (hVl : Vs.length = (rowA S r).length) (hrow : w.ownsRow B 22 1 (V r) (rowA S r).length Vs)
 (hP : ∀ k (h1 : k < Vs.length) (h2 : k < (rowA S r).length), P Vs[k] (rowA S r)[k] w) {l : List Ent} {lv : Value} (hl : P lv l w) {v' : Value} {w' : World} (k1 : w'.ownsRow B 22 1 v' ((rowA S r).length + 1) (Vs ++ [lv]))
 (g : w.grownBy w' (V r).ownBlock) (st : StaysG (V r) v' w w') : ShpAt P B G (pushA S r l) (upd V r v') (w'.setCell ⟨G, r, none⟩ v') ∧ Grows B w (w'.setCell ⟨G, r, none⟩ v') := by
 have G1 : Grows B w w' := Grows.row (by decide) hrow (Nat.le_refl _) g k1 st;have eG : w'.heap[G]? = w.heap[G]? := g.block G h.cells.1 fun e => absurd (ty_one h.ty (own_ty hrow e.symm).1) (by decide);have cG : CellsAt G S.length V w' := h.cells.eq_block g.size eG;have tG : TyAt G 149 w' := h.ty.eq_block eG;have z2 : Zone G (G + 1) w' (w'.setCell ⟨G, r, none⟩ v') := Zone.set (Zone.refl G (G + 1) w') (p := ⟨G, r, none⟩) (Nat.le_refl _) (Nat.lt_succ_self _) v';have tG2 : TyAt G 149 (w'.setCell ⟨G, r, none⟩ v') := tG.set _ _;have G2 : Grows B w' (w'.setCell ⟨G, r, none⟩ v') := Grows.zone1 (by decide) h.big z2 tG tG2;have G12 := G1.trans G2
 have keep : ∀ {v : Value} {n : Nat} {xs : List Value}, w'.ownsRow B 22 1 v n xs → (w'.setCell ⟨G, r, none⟩ v').ownsRow B 22 1 v n xs := fun k => own_eq k fun q hq => by
  obtain ⟨t1, t2, _⟩ := own_ty k hq
  have : q ≠ G := fun e => by
   subst e;exact absurd (ty_one tG t1) (by decide)
  exact z2.block q t2 (by omega)
 refine ⟨⟨h.le, h.big, ?_, tG2, fun k hk => ?_, fun a b q ha hb e1 e2 => ?_⟩, G12⟩
 ·rw [pushA_len]; exact cG.set hr v'
 ·rw [pushA_len] at hk
  by_cases e : k = r
  ·subst e
   refine ⟨Vs ++ [lv], ?_, ?_, ?_⟩
   ·rw [rowA_push hr, List.length_append, List.length_append, hVl]; rfl
   ·rw [rowA_push hr, List.length_append]
    have : upd V k v' k = v' := by unfold upd; rw [if_pos rfl]
    rw [this];exact keep k1
   ·rw [rowA_push hr]
    intro j h1 h2;by_cases hj : j < Vs.length
    ·rw [List.getElem_append_left hj, List.getElem_append_left (by omega)]
     exact h.le _ _ _ _ (hP j hj (by omega)) G12
    ·rw [List.length_append, List.length_singleton] at h1
     obtain rfl : j = Vs.length := by omega
     rw [List.getElem_append_right (Nat.le_refl _), List.getElem_append_right (by omega)];simp only [List.getElem_singleton];exact h.le _ _ _ _ hl G12
  ·obtain ⟨Us, u1, u2, u3⟩ := h.rows k hk
   have hu : upd V r v' k = V k := by unfold upd; rw [if_neg e]
   rw [rowA_push_ne S e, hu];refine ⟨Us, u1, keep (own_eq u2 fun q hq => g.block q (own_ty u2 hq).2.1 fun e2 => e ?_), fun j a b => h.le _ _ _ _ (u3 j a b) G12⟩;exact h.apart k r q hk hr hq e2.symm
 ·rw [pushA_len] at ha hb
  unfold upd at e1 e2;by_cases h1 : a = r
  ·by_cases h2 : b = r
   ·rw [h1, h2]
   ·rw [if_pos h1] at e1
    rw [if_neg h2] at e2;exfalso;rcases st with st | ⟨st, _⟩
    ·rw [st] at e1
     exact h2 (h.apart b r q hb hr e2 e1)
    ·obtain ⟨Us, u1, u2, u3⟩ := h.rows b hb
     have := (own_ty u2 e2).2.1;have := st q e1;omega
  ·rw [if_neg h1] at e1
   by_cases h2 : b = r
   ·rw [if_pos h2] at e2
    exfalso;rcases st with st | ⟨st, _⟩
    ·rw [st] at e2
     exact h1 (h.apart a r q ha hr e1 e2)
    ·obtain ⟨Us, u1, u2, u3⟩ := h.rows a ha
     have := (own_ty u2 e1).2.1;have := st q e2;omega
   ·rw [if_neg h2] at e2
    exact h.apart a b q ha hb e1 e2
open Go.RowKit
structure Turns (p : TypeId → Prop) (B : Nat) (w w' : World) : Prop where
 os : w'.os = w.os
 tape : w'.tape = w.tape
 output : w'.output = w.output
 size : w.heap.size ≤ w'.heap.size
 block : ∀ k, k < w.heap.size → w'.heap[k]? = w.heap[k]? ∨ (B ≤ k ∧ ∃ c c' t q q', p t ∧ w.heap[k]? = some (.cells c t q) ∧ w'.heap[k]? = some (.cells c' t q'))
section
variable {p : TypeId → Prop} {B : Nat} {w w' a b : World}
theorem Turns.refl (p : TypeId → Prop) (B : Nat) (w : World) : Turns p B w w := ⟨rfl, rfl, rfl, Nat.le_refl _, fun _ _ => .inl rfl⟩
theorem Turns.of_below (h : Below w.heap.size w w') : Turns p B w w' := ⟨h.os, h.tape, h.output, h.size, fun k hk => .inl (h.block k hk)⟩
theorem Turns.below (h : Turns p B w w') (hB : B ≤ w.heap.size) : Below B w w' := ⟨h.os, h.tape, h.output, h.size, fun k hk => (h.block k (by omega)).elim id fun q => by omega⟩
theorem Turns.trans {c : World} (h : Turns p B a b) (k : Turns p B b c) : Turns p B a c := by
 refine ⟨k.os.trans h.os, k.tape.trans h.tape, k.output.trans h.output, Nat.le_trans h.size k.size, fun i hi => ?_⟩;rcases h.block i hi with h1 | ⟨hb, c1, c2, t, q1, q2, ht, e1, e2⟩
 ·rcases k.block i (Nat.lt_of_lt_of_le hi h.size) with k1 | ⟨hb, d1, d2, t, q1, q2, ht, e1, e2⟩
  ·exact .inl (k1.trans h1)
  ·exact .inr ⟨hb, d1, d2, t, q1, q2, ht, h1 ▸ e1, e2⟩
 ·rcases k.block i (Nat.lt_of_lt_of_le hi h.size) with k1 | ⟨_, d1, d2, t2, p1, p2, ht2, f1, f2⟩
  ·exact .inr ⟨hb, c1, c2, t, q1, q2, ht, e1, k1.trans e2⟩
  ·rw [e2] at f1
   injection f1 with f1
   injection f1 with f3 f4 f5
   subst f4;exact .inr ⟨hb, c1, d2, t, q1, p2, ht, e1, f2⟩
theorem Turns.mono {p' : TypeId → Prop} {B' : Nat} (h : Turns p B w w') (hp : ∀ t, p t → p' t) (hB : B' ≤ B) : Turns p' B' w w' :=
 ⟨h.os, h.tape, h.output, h.size, fun k hk => (h.block k hk).imp id fun ⟨a, c, c', t, q, q', ht, e⟩ => ⟨by omega, c, c', t, q, q', hp t ht, e⟩⟩
theorem Grows.turns (h : Grows B w w') : Turns (fun t => t ≠ 31) B w w' := ⟨h.os, h.tape, h.output, h.size, h.block⟩
theorem Turns.grows (h : Turns p B w w') (hp : ¬ p 31) : Grows B w w' := ⟨h.os, h.tape, h.output, h.size, fun k hk => (h.block k hk).imp id fun ⟨a, c, c', t, q, q', ht, e⟩ => ⟨a, c, c', t, q, q', fun x => hp (x ▸ ht), e⟩⟩
theorem Turns.ty (h : Turns p B w w') {g : Nat} {t : TypeId} (hg : TyAt g t w) (ht : ¬ p t) : w'.heap[g]? = w.heap[g]? := by
 obtain ⟨c, q, e⟩ := hg;rcases h.block g (lt_of_block e) with h1 | ⟨_, c1, c2, t1, q1, q2, h1, e1, e2⟩
 ·exact h1
 ·rw [e] at e1
  injection e1 with e1
  injection e1 with _ e3 _
  exact absurd (e3 ▸ h1) ht
theorem Turns.row (h : Turns p B w w') {C z n : Nat} {e : TypeId} {v : Value} {xs : List Value} (k : w.ownsRow C e z v n xs) (he : ¬ p e) : w'.ownsRow C e z v n xs := own_eq k fun g hg => h.ty (own_ty k hg).1 he
theorem Turns.blk (h : Turns p B w w') {g : Nat} {cs : Array Value} {t : TypeId} (k : Blk g cs t w) (he : ¬ p t) : Blk g cs t w' := (h.ty ⟨_, _, k⟩ he).trans k
theorem Turns.old (h : Turns p B w w') (hB : B ≤ w.heap.size) {w0 : World} (h0 : w0.heap.size ≤ B) (k : Below w0.heap.size w0 w) : Below w0.heap.size w0 w' := k.trans ((h.below hB).mono h0)
theorem Turns.one {R : Nat} {t : TypeId} (ht : p t) (hB : B ≤ R) (z : Zone R (R + 1) w w') (h : TyAt R t w) (h' : TyAt R t w') : Turns p B w w' := by
 refine ⟨z.os, z.tape, z.output, z.size, fun k hk => ?_⟩;by_cases e : k = R
 ·subst e
  obtain ⟨c, q, e1⟩ := h;obtain ⟨c', q', e2⟩ := h';exact .inr ⟨hB, c, c', t, q, q', ht, e1, e2⟩
 ·exact .inl (z.block k hk (by omega))
theorem Turns.set {R i : Nat} {t : TypeId} (ht : p t) (hB : B ≤ R) (h : TyAt R t w) (v : Value) : Turns p B w (w.setCell ⟨R, i, none⟩ v) :=
 Turns.one ht hB (Zone.set (Zone.refl R (R + 1) w) (p := ⟨R, i, none⟩) (Nat.le_refl _) (Nat.lt_succ_self _) v) h (h.set _ _)
theorem Turns.drew (h : Turns p B w a) : Turns p B w a.drew := h.trans (Turns.of_below (Below.refl _ _).drew)
theorem Turns.alloc (h : Turns p B w a) (o : Obj) : Turns p B w (a.alloc o) := h.trans (Turns.of_below (balloc1 _ _))
theorem Turns.grown {B' n m : Nat} {e : TypeId} (he : p e) {z : Nat} {v v' : Value} {xs ys : List Value} (h : w.ownsRow B' e z v n xs) (hB : B ≤ B') (g : w.grownBy w' v.ownBlock) (ht : ∀ q, v.ownBlock = some q → TyAt q e w') : Turns p B w w' := by
 refine ⟨g.os, g.tape, g.output, g.size, fun k hk => ?_⟩;by_cases hq : some k = v.ownBlock
 ·refine .inr ?_
  rcases h.2 with ⟨b1, b2⟩ | ⟨q, cap, cur, b1, b2, b3, b4⟩
  ·rw [b1] at hq; cases hq
  ·rw [b1] at hq ht
   simp only [Value.ownBlock] at hq ht
   injection hq with hq
   subst hq;obtain ⟨c', q', e'⟩ := ht k rfl;exact ⟨by omega, cur, c', e, _, _, he, b3, e'⟩
 ·exact .inl (g.block k hk hq)
end
def noTree (t : TypeId) : Prop := t ≠ 31 ∧ t ≠ 22 ∧ t ≠ 149
def isTree (t : TypeId) : Prop := t = 31 ∨ t = 22 ∨ t = 149
theorem noTree_e : ¬ noTree 31 := fun h => h.1 rfl
theorem noTree_n : ¬ noTree 22 := fun h => h.2.1 rfl
theorem noTree_s : ¬ noTree 149 := fun h => h.2.2 rfl
theorem ShpAt.turns {P : Value → List Ent → World → Prop} {B C G : Nat} {S : Shp} {V : Nat → Value} {w w' : World} (h : ShpAt P B G S V w) (g : Turns noTree C w w') (hP : ∀ v x w w', P v x w → Turns noTree C w w' → P v x w') : ShpAt P B G S V w' := by
 have eG : w'.heap[G]? = w.heap[G]? := g.ty h.ty noTree_s;refine ⟨h.le, h.big, h.cells.eq_block g.size eG, h.ty.eq_block eG, fun r hr => ?_, h.apart⟩;obtain ⟨Vs, h1, h2, h3⟩ := h.rows r hr;exact ⟨Vs, h1, g.row h2 noTree_n, fun k a b => hP _ _ _ _ (h3 k a b) g⟩
theorem ents_turns {C D : Nat} (h : C ≤ D) (v : Value) (x : List Ent) (w w' : World) (a : EntsS C v x w) (g : Turns noTree D w w') : EntsS C v x w' := a.kept ((g.mono (fun _ y => y) h).grows noTree_e)
theorem own_turns {B D : Nat} (v : Value) (x : List Ent) (w w' : World) (a : EntsAt B v x w) (g : Turns noTree D w w') : EntsAt B v x w' := g.row a noTree_e
theorem keeps_own (B C : Nat) : Keeps (EntsAt B) C := fun v x w w' a g => g.turns.row a fun h => h rfl
structure Leaves (p : TypeId → Prop) (B : Nat) (w w' : World) : Prop where
 os : w'.os = w.os
 tape : w'.tape = w.tape
 output : w'.output = w.output
 size : w.heap.size ≤ w'.heap.size
 block : ∀ k, k < w.heap.size → w'.heap[k]? = w.heap[k]? ∨ (B ≤ k ∧ ∃ t, p t ∧ TyAt k t w)
theorem Leaves.of_below {p : TypeId → Prop} {B : Nat} {w w' : World} (h : Below w.heap.size w w') : Leaves p B w w' := ⟨h.os, h.tape, h.output, h.size, fun k hk => .inl (h.block k hk)⟩
theorem Turns.leaves {p : TypeId → Prop} {B : Nat} {w w' : World} (h : Turns p B w w') : Leaves p B w w' := ⟨h.os, h.tape, h.output, h.size, fun k hk => (h.block k hk).imp id fun ⟨a, c, c', t, q, q', ht, e, _⟩ => ⟨a, t, ht, c, q, e⟩⟩
theorem Leaves.grown {p : TypeId → Prop} {B B' n z : Nat} {e : TypeId} {v : Value} {xs : List Value} {w w' : World} (he : p e) (h : w.ownsRow B' e z v n xs) (hB : B ≤ B') (g : w.grownBy w' v.ownBlock) : Leaves p B w w' := by
 refine ⟨g.os, g.tape, g.output, g.size, fun k hk => ?_⟩;by_cases hq : some k = v.ownBlock
 ·obtain ⟨t1, t2, t3⟩ := own_ty h hq.symm
  exact .inr ⟨by omega, e, he, t1⟩
 ·exact .inl (g.block k hk hq)
theorem Turns.behindL {p q : TypeId → Prop} {C B : Nat} {w a b : World} (h : Turns p C w a) (k : Leaves q B a b) (hB : w.heap.size ≤ B) : Turns p C w b := by
 refine ⟨k.os.trans h.os, k.tape.trans h.tape, k.output.trans h.output, Nat.le_trans h.size k.size, fun i hi => ?_⟩
 have h1 : b.heap[i]? = a.heap[i]? := (k.block i (Nat.lt_of_lt_of_le hi h.size)).elim id fun x => by omega
 rw [h1]; exact h.block i hi
structure Fr where
 rel : World → World → Prop
 refl : ∀ w, rel w w
 trans : ∀ {a b c}, rel a b → rel b c → rel a c
 below : ∀ {w w'}, Below w.heap.size w w' → rel w w'
 ty : ∀ {w w' g}, rel w w' → TyAt g 31 w ∨ TyAt g 22 w → w'.heap[g]? = w.heap[g]?
def frC (C : Nat) : Fr := ⟨Turns noTree C, Turns.refl _ _, Turns.trans, Turns.of_below, fun h k => k.elim (fun a => h.ty a noTree_e) fun a => h.ty a noTree_n⟩
structure Gens (C B : Nat) (w w' : World) : Prop where
 os : w'.os = w.os
 tape : w'.tape = w.tape
 output : w'.output = w.output
 size : w.heap.size ≤ w'.heap.size
 block : ∀ k, k < w.heap.size → w'.heap[k]? = w.heap[k]? ∨ ∃ c c' t q q', ((C ≤ k ∧ noTree t) ∨ (B ≤ k ∧ t ≠ 31 ∧ t ≠ 22)) ∧ w.heap[k]? = some (.cells c t q) ∧ w'.heap[k]? = some (.cells c' t q')
theorem Gens.refl (C B : Nat) (w : World) : Gens C B w w := ⟨rfl, rfl, rfl, Nat.le_refl _, fun _ _ => .inl rfl⟩
theorem Gens.of_below {C B : Nat} {w w' : World} (h : Below w.heap.size w w') : Gens C B w w' := ⟨h.os, h.tape, h.output, h.size, fun k hk => .inl (h.block k hk)⟩
theorem Gens.trans {C B : Nat} {a b c : World} (h : Gens C B a b) (k : Gens C B b c) : Gens C B a c := by
 refine ⟨k.os.trans h.os, k.tape.trans h.tape, k.output.trans h.output, Nat.le_trans h.size k.size, fun i hi => ?_⟩;rcases h.block i hi with h1 | ⟨c1, c2, t, q1, q2, ht, e1, e2⟩
 ·rcases k.block i (Nat.lt_of_lt_of_le hi h.size) with k1 | ⟨d1, d2, t, q1, q2, ht, e1, e2⟩
  ·exact .inl (k1.trans h1)
  ·exact .inr ⟨d1, d2, t, q1, q2, ht, h1 ▸ e1, e2⟩
 ·rcases k.block i (Nat.lt_of_lt_of_le hi h.size) with k1 | ⟨d1, d2, t2, p1, p2, ht2, f1, f2⟩
  ·exact .inr ⟨c1, c2, t, q1, q2, ht, e1, k1.trans e2⟩
  ·rw [e2] at f1
   injection f1 with f1
   injection f1 with f3 f4 f5
   subst f4;exact .inr ⟨c1, d2, t, q1, p2, ht, e1, f2⟩
theorem Gens.ty {C B : Nat} {w w' : World} (h : Gens C B w w') {g : Nat} {t : TypeId} (hg : TyAt g t w) (h1 : ¬ noTree t) (h2 : t = 31 ∨ t = 22) : w'.heap[g]? = w.heap[g]? := by
 obtain ⟨c, q, e⟩ := hg;rcases h.block g (lt_of_block e) with k1 | ⟨c1, c2, t1, q1, q2, k1, e1, e2⟩
 ·exact k1
 ·rw [e] at e1
  injection e1 with e1
  injection e1 with _ e3 _
  subst e3;rcases k1 with ⟨-, k1⟩ | ⟨-, k1, k2⟩
  ·exact absurd k1 h1
  ·rcases h2 with h2 | h2
   ·exact absurd h2 k1
   ·exact absurd h2 k2
def frG (C B : Nat) : Fr := ⟨Gens C B, Gens.refl _ _, Gens.trans, Gens.of_below, fun h k => k.elim (fun a => h.ty a noTree_e (.inl rfl)) fun a => h.ty a noTree_n (.inr rfl)⟩
theorem Turns.gens {C B : Nat} {w w' : World} (h : Turns noTree C w w') : Gens C B w w' := ⟨h.os, h.tape, h.output, h.size, fun k hk => (h.block k hk).imp id fun ⟨a, c, c', t, q, q', ht, e⟩ => ⟨c, c', t, q, q', .inl ⟨a, ht⟩, e⟩⟩
theorem Gens.turns {C B : Nat} {w0 w w' : World} (h : Turns noTree C w0 w) (k : Gens C B w w') (hB : w0.heap.size ≤ B) : Turns noTree C w0 w' := by
 refine ⟨k.os.trans h.os, k.tape.trans h.tape, k.output.trans h.output, Nat.le_trans h.size k.size, fun i hi => ?_⟩
 have k2 : w'.heap[i]? = w.heap[i]? ∨ (C ≤ i ∧ ∃ c c' t q q', noTree t ∧ w.heap[i]? = some (.cells c t q) ∧ w'.heap[i]? = some (.cells c' t q')) := by
  rcases k.block i (Nat.lt_of_lt_of_le hi h.size) with k1 | ⟨c, c', t, q, q', ht, e⟩
  ·exact .inl k1
  ·rcases ht with ⟨hc, ht⟩ | ⟨hb, -⟩
   ·exact .inr ⟨hc, c, c', t, q, q', ht, e⟩
   ·omega
 rcases h.block i hi with h1 | ⟨hb, c1, c2, t, q1, q2, ht, e1, e2⟩
 ·rcases k2 with k1 | ⟨hb, d1, d2, t, q1, q2, ht, e1, e2⟩
  ·exact .inl (k1.trans h1)
  ·exact .inr ⟨hb, d1, d2, t, q1, q2, ht, h1 ▸ e1, e2⟩
 ·rcases k2 with k1 | ⟨_, d1, d2, t2, p1, p2, ht2, f1, f2⟩
  ·exact .inr ⟨hb, c1, c2, t, q1, q2, ht, e1, k1.trans e2⟩
  ·rw [e2] at f1
   injection f1 with f1
   injection f1 with f3 f4 f5
   subst f4;exact .inr ⟨hb, c1, d2, t, q1, p2, ht, e1, f2⟩
def EntsT (C : Fr) (v : Value) (x : List Ent) (w : World) : Prop := ∀ w', C.rel w w' → EntsIn v x w'
def StRows {α : Type} (P : Value → α → World → Prop) (C : Fr) (v : Value) (L : List α) (w : World) : Prop :=
 ∃ Vs : List Value, Vs.length = L.length ∧ (∀ w', C.rel w w' → RowIn 1 v L.length Vs w') ∧ ∀ k (h1 : k < Vs.length) (h2 : k < L.length), P Vs[k] L[k] w
abbrev NodesT (C : Fr) (v : Value) (L : List (List Ent)) (w : World) : Prop := StRows (EntsT C) C v L w
abbrev ShapeT (C : Fr) (v : Value) (S : Shp) (w : World) : Prop := StRows (NodesT C) C v S w
theorem EntsT.kept {C : Fr} {v : Value} {x : List Ent} {w w' : World} (h : EntsT C v x w) (g : C.rel w w') : EntsT C v x w' := fun a ha => h a (C.trans g ha)
theorem EntsT.now {C : Fr} {v : Value} {x : List Ent} {w : World} (h : EntsT C v x w) : EntsIn v x w := h w (C.refl _)
theorem EntsT.of_own {C : Fr} {B : Nat} {v : Value} {x : List Ent} {w : World} (h : EntsAt B v x w) : EntsT C v x w := fun a g => entsAt_in (own_eq h fun q hq => C.ty g (.inl (own_ty h hq).1))
theorem EntsT.of_s {C D : Nat} (hC : D ≤ C) {v : Value} {x : List Ent} {w : World} (h : EntsS D v x w) : EntsT (frC C) v x w := fun a g => (ents_turns hC v x w a h g).now
theorem EntsT.old {C : Nat} {v : Value} {x : List Ent} {w0 w : World} (h : EntsIn v x w0) (h0 : w0.heap.size ≤ C) (hC : C ≤ w.heap.size) (hb : Below w0.heap.size w0 w) : EntsT (frC C) v x w := fun a g => h.kept (Turns.old g hC h0 hb)
theorem StRows.kept {α : Type} {P : Value → α → World → Prop} {C : Fr} {v : Value} {L : List α} {w w' : World} (hP : ∀ v x, P v x w → P v x w') (h : StRows P C v L w) (g : C.rel w w') : StRows P C v L w' := by
 obtain ⟨Vs, h1, h2, h3⟩ := h;exact ⟨Vs, h1, fun a ha => h2 a (C.trans g ha), fun k a b => hP _ _ (h3 k a b)⟩
theorem StRows.rows {α : Type} {P Q : Value → α → World → Prop} {C : Fr} {v : Value} {L : List α} {w : World} (hP : ∀ v x, P v x w → Q v x w) (h : StRows P C v L w) : RowsIn Q v L w := by
 obtain ⟨Vs, h1, h2, h3⟩ := h;exact ⟨Vs, h1, h2 w (C.refl _), fun k a b => hP _ _ (h3 k a b)⟩
theorem StRows.own {α : Type} {P : Value → α → World → Prop} {e : TypeId} {C : Fr} (he : ∀ {w w' g}, C.rel w w' → TyAt g e w → w'.heap[g]? = w.heap[g]?) {B : Nat} {v : Value} {L : List α} {w : World} (h : RowsAt P e B v L w) : StRows P C v L w := by
 obtain ⟨Vs, h1, h2, h3⟩ := h;exact ⟨Vs, h1, fun a g => own_in (own_eq h2 fun q hq => he g (own_ty h2 hq).1), h3⟩
theorem NodesT.keep {C : Fr} {v : Value} {L : List (List Ent)} {w w' : World} (h : NodesT C v L w) (g : C.rel w w') : NodesT C v L w' := StRows.kept (fun _ _ k => EntsT.kept k g) h g
theorem ShapeT.keep {C : Fr} {v : Value} {S : Shp} {w w' : World} (h : ShapeT C v S w) (g : C.rel w w') : ShapeT C v S w' := StRows.kept (fun _ _ k => NodesT.keep k g) h g
theorem NodesT.in {C : Fr} {v : Value} {L : List (List Ent)} {w : World} (h : NodesT C v L w) : NodesIn v L w := StRows.rows (fun _ _ k => EntsT.now k) h
theorem ShapeT.in {C : Fr} {v : Value} {S : Shp} {w : World} (h : ShapeT C v S w) : ShapeIn v S w := StRows.rows (fun _ _ k => NodesT.in k) h
theorem StRows.cells {α : Type} {P : Value → α → World → Prop} {C : Fr} {v : Value} {L : List α} {w : World} (h : StRows P C v L w) : ∃ ad cap, v = .slice ad L.length cap ∧ L.length ≤ cap ∧ cap ≤ 9223372036854775807 ∧
 ∀ k (hk : k < L.length), ∃ g o u, ad = some ⟨g, o, none⟩ ∧ (∀ w', C.rel w w' → w'.cell? ⟨g, o + k, none⟩ = some u) ∧ P u L[k] w := by
 obtain ⟨Vs, h1, h2, h3⟩ := h;obtain ⟨ad, cap, rfl, a1, a2, a3, -⟩ := (h2 w (C.refl _)).shape;refine ⟨ad, cap, rfl, a1, a2, fun k hk => ?_⟩;obtain ⟨g, o, rfl, -, -⟩ := a3 (by omega);refine ⟨g, o, Vs[k]'(by omega), rfl, fun w' ht => ?_, h3 k (by omega) hk⟩;obtain ⟨ad2, cap2, e, -, -, b3, -⟩ := (h2 w' ht).shape
 injection e with e _ _
 subst e;obtain ⟨g', o', e2, -, hc⟩ := b3 (by omega)
 injection e2 with e2
 injection e2 with q1 q2 q3
 subst q1 q2;exact hc k _ (List.getElem?_eq_getElem (by omega))
theorem fr_n (C : Fr) : ∀ {w w' : World} {g : Nat}, C.rel w w' → TyAt g 22 w → w'.heap[g]? = w.heap[g]? := fun h k => C.ty h (.inr k)
theorem frC_s (C : Nat) : ∀ {w w' : World} {g : Nat}, (frC C).rel w w' → TyAt g 149 w → w'.heap[g]? = w.heap[g]? := fun h k => Turns.ty h k noTree_s
theorem ShpAt.st {P : Value → List Ent → World → Prop} {B C G : Nat} {S : Shp} {V : Nat → Value} {w : World} (h : ShpAt P B G S V w) (hD : S.length ≤ 1000) (hP : ∀ v x, P v x w → EntsT (frC C) v x w) : ShapeT (frC C) (.slice (some ⟨G, 0, none⟩) S.length S.length) S w := by
 refine ⟨(List.range S.length).map V, by simp, fun a g => ?_, fun k h1 h2 => ?_⟩
 ·have eG : a.heap[G]? = w.heap[G]? := g.ty h.ty noTree_s
  have hcl := h.cells.eq_block g.size eG;refine ⟨by simp, _, _, rfl, Nat.le_refl _, by unfold maxLen; omega, fun _ => ⟨G, 0, rfl, hcl.1, fun k u hk => ?_⟩, fun e => by cases e⟩;rw [Nat.zero_add];have hlt := (List.getElem?_eq_some_iff.1 hk).1;rw [List.length_map, List.length_range] at hlt;rw [List.getElem?_map, List.getElem?_range hlt] at hk
  injection hk with hk
  rw [← hk];exact (hcl.2 k hlt).1
 ·obtain ⟨Vs, v1, v2, v3⟩ := h.rows k h2
  rw [rowA_at h2] at v1 v2 v3;simp only [List.getElem_map, List.getElem_range];exact ⟨Vs, v1, fun a g => own_in (g.row v2 noTree_n), fun j a b => hP _ _ (v3 j a b)⟩
theorem Turns.behind {p q : TypeId → Prop} {C B : Nat} {w a b : World} (h : Turns p C w a) (k : Turns q B a b) (hB : w.heap.size ≤ B) : Turns p C w b := by
 refine ⟨k.os.trans h.os, k.tape.trans h.tape, k.output.trans h.output, Nat.le_trans h.size k.size, fun i hi => ?_⟩
 have h1 : b.heap[i]? = a.heap[i]? := (k.block i (Nat.lt_of_lt_of_le hi h.size)).elim id fun x => by omega
 rw [h1]; exact h.block i hi
open Go.RowKit
abbrev chgC (c : Int × ByteArray) : Array Value := #[.int .i64 c.1, .string c.2]
def chgsL (L : List (Int × ByteArray)) : List Value := L.flatMap fun c => [Value.int .i64 c.1, Value.string c.2]
theorem chgsL_length (L : List (Int × ByteArray)) : (chgsL L).length = L.length * 2 := by
 induction L with
 | nil => rfl
 | cons c L ih => show ([_, _] ++ chgsL L).length = _; rw [List.length_append, ih, List.length_cons]; simp; omega
theorem chgsL_append (L M : List (Int × ByteArray)) : chgsL (L ++ M) = chgsL L ++ chgsL M := by unfold chgsL; rw [List.flatMap_append]
theorem chgsL_at : ∀ (L : List (Int × ByteArray)) (k : Nat) (hk : k < L.length), (chgsL L)[2 * k]? = some (.int .i64 L[k].1) ∧ (chgsL L)[2 * k + 1]? = some (.string L[k].2)
 | c :: L, 0, _ => ⟨rfl, rfl⟩
 | c :: L, k + 1, hk => by
   have := chgsL_at L k (by simpa using hk);exact ⟨this.1, this.2⟩
abbrev ChgsIn (v : Value) (L : List (Int × ByteArray)) (w : World) : Prop := RowIn 2 v L.length (chgsL L) w
theorem ChgsIn.open {v : Value} {L : List (Int × ByteArray)} {w : World} (h : ChgsIn v L w) : ∃ ad cap, v = .slice ad L.length cap ∧ L.length ≤ cap ∧ cap ≤ 9223372036854775807 ∧
 (0 < L.length → ∃ g o, ad = some ⟨g, o, none⟩ ∧ g < w.heap.size ∧ ∀ k (hk : k < L.length), w.cell? ⟨g, o + k * 2, none⟩ = some (.int .i64 L[k].1) ∧ w.cell? ⟨g, o + k * 2 + 1, none⟩ = some (.string L[k].2)) := by
 obtain ⟨ad, cap, e, h1, h2, h3, -⟩ := h.shape;refine ⟨ad, cap, e, h1, h2, fun hp => ?_⟩;obtain ⟨g, o, e2, hg, hc⟩ := h3 (by rw [chgsL_length]; omega);refine ⟨g, o, e2, hg, fun k hk => ?_⟩;have := chgsL_at L k hk;exact ⟨by rw [show o + k * 2 = o + 2 * k by omega]; exact hc _ _ this.1, by rw [show o + k * 2 + 1 = o + (2 * k + 1) by omega]; exact hc _ _ this.2⟩
theorem chg_info : (Tryz.prog.info? 72).map (fun i => (i.zero, i.size, i.bytes)) = some (some (.agg #[.int .i64 0, .string ⟨#[]⟩]), 2, 24) := by kernel_rfl
abbrev ChgsOwn (B : Nat) (v : Value) (L : List (Int × ByteArray)) (w : World) : Prop := w.ownsRow B 72 2 v L.length (chgsL L)
theorem new_chg (w : World) (c : Int × ByteArray) : ∀ (j : Nat) (u : Value), [Value.int .i64 c.1, Value.string c.2][j]? = some u → (w.alloc (.cells (chgC c) 72)).cell? ((⟨w.heap.size, 0, none⟩ : Addr).add j) = some u := fun j u hj => by
 rw [add_at, Nat.zero_add, World.cell?_alloc_mark]
 simpa using hj
theorem wpList_appCg {ops : Array Oper} {rest : List Oper} {o : Oper} {a : Act} {Q : Exit → Act → World → Prop} {w : World} (hgd : o.guard = none) (s x : Operand)
 (ho : o.op = .call { callee := .builtin .append, args := #[s, x], argTypes := #[36, 36] })
 (base : Nat) (v : Value) (L : List (Int × ByteArray)) (k : Int × ByteArray) (hs : a.eval s = v) (hown : ChgsOwn base v L w) (W : World) (hW : w = W.alloc (.cells (chgC k) 72)) (hx : a.eval x = .slice (some ⟨W.heap.size, 0, none⟩) 1 1)
 (hlen : L.length ≤ 4000000) (hbase : base ≤ w.heap.size)
 (h : ∀ v' w', ChgsOwn base v' (L ++ [k]) w' → w.grownBy w' v.ownBlock → wpList Tryz.prog ops Q rest (a.put o.dst v') w') : wpList Tryz.prog ops Q (o :: rest) a w := by
 obtain ⟨i0, hi, hz0, hz1, hz2⟩ := info_parts chg_info;subst hW;refine wpList_append_own (w := W.alloc (.cells (chgC k) 72)) hgd s x 36 ho base 72 i0 (.agg #[.int .i64 0, .string ⟨#[]⟩]) 2 24 Tryz.underlying36 hi hz0 hz1 hz2 rfl (by decide) v _ _ hs hown ⟨W.heap.size, 0, none⟩ 1 1 [.int .i64 k.1, .string k.2] hx rfl (new_chg W k) (fun u hu => by simp at hu; rcases hu with rfl | rfl <;> rfl) (by unfold maxLen; omega) (by omega) hbase ?_;intro v' w' h1 h2 _;refine h v' w' ?_ h2
 show w'.ownsRow _ _ _ _ (L ++ [k]).length (chgsL (L ++ [k]))
 rw [List.length_append, chgsL_append]; exact h1
open Go.RowKit
theorem rows_info : (Tryz.prog.info? 22).map (fun i => (i.zero, i.size, i.bytes)) = some (some (.slice none 0 0), 1, 24) := by kernel_rfl
theorem push_facts {P : Value → List Ent → World → Prop} {B G R fn : Nat} {caps : Array Value} {seen : List Int} {S : Shp} {V : Nat → Value} {w : World} {row : Nat} (hBw : B ≤ w.heap.size) (hR : B ≤ R) (h : ShpAt P B G S V w) (hd : RdAt R fn caps seen (.slice (some ⟨G, 0, none⟩) S.length S.length) w) (hr : row < S.length) (hn : (rowA S row).length ≤ 1000000) {l : List Ent} {lv : Value} (hl : P lv l w) (hone : lv.oneCell' = true) :
 w.drew.cell? ⟨R, 4097, none⟩ = some (.slice (some ⟨G, 0, none⟩) S.length S.length) ∧ w.drew.cell? ⟨G, row, none⟩ = some (V row) ∧
 (w.drew.alloc (.cells #[lv] 22)).cell? ⟨R, 4097, none⟩ = some (.slice (some ⟨G, 0, none⟩) S.length S.length) ∧ (w.drew.alloc (.cells #[lv] 22)).cell? ⟨G, row, none⟩ = some (V row) ∧
 ∃ v' w2, (∃ av cv, v' = .slice av ((rowA S row).length + 1) cv) ∧ (Builtin.append_ #[149, 149] 149 #[V row, .slice (some ⟨w.drew.heap.size, 0, none⟩) 1 1]).run Tryz.prog (w.drew.alloc (.cells #[lv] 22)) = .ok v' w2 ∧
  w2.cell? ⟨R, 4097, none⟩ = some (.slice (some ⟨G, 0, none⟩) S.length S.length) ∧ w2.cell? ⟨G, row, none⟩ = some (V row) ∧ w2.frozen? ⟨G, row, none⟩ = false ∧
  (w2.setCell ⟨G, row, none⟩ v').cell? ⟨R, 4097, none⟩ = some (.slice (some ⟨G, 0, none⟩) S.length S.length) ∧
  ShpAt P B G (pushA S row l) (upd V row v') (w2.setCell ⟨G, row, none⟩ v') ∧ RdAt R fn caps seen (.slice (some ⟨G, 0, none⟩) S.length S.length) (w2.setCell ⟨G, row, none⟩ v') ∧ Grows B w (w2.setCell ⟨G, row, none⟩ v') := by
 have bd : Below w.heap.size w w.drew := (Below.refl _ w).drew;have b1 : Below w.drew.heap.size w.drew (w.drew.alloc (.cells #[lv] 22)) := balloc1 _ _;have ba := bnext bd b1;have hd0 := hd.kept1 bd;have hda := hd.kept1 ba;have ha := h.kept ba;have hsz := ba.size;have hla := h.le _ _ _ _ hl (Grows.of_below ba)
 have sv : ∀ {x : World}, RdAt R fn caps seen (.slice (some ⟨G, 0, none⟩) S.length S.length) x → x.cell? ⟨R, 4097, none⟩ = some (.slice (some ⟨G, 0, none⟩) S.length S.length) := fun k => by
  have := (k.c.2 4097 (by omega)).1;rwa [rdF_shape] at this
 obtain ⟨Vs, v1, v2, v3⟩ := ha.rows row hr;obtain ⟨v', w2, hrun, k1, g, st⟩ := pushS_run (w.drew.alloc (.cells #[lv] 22)) B 149 22 149 (.slice none 0 0) 24 Tryz.underlying149 rows_info (by rfl) (by decide) (V row) (rowA S row).length Vs hn v2 w.drew lv rfl hone (by omega);have G1 : Grows B _ w2 := Grows.row (by decide) v2 (Nat.le_refl _) g k1 st;obtain ⟨p1, p2⟩ := ha.push hr v1 v2 v3 hla k1 g st
 have hRG : R ≠ G := fun e => by
  subst e;exact absurd (ty_one ha.ty hda.t) (by decide)
 have hd2 : RdAt R fn caps seen (.slice (some ⟨G, 0, none⟩) S.length S.length) w2 := hda.eq_block g.size (g.block R hda.c.1 fun e => absurd (ty_one hda.t (own_ty v2 e.symm).1) (by decide));have hd3 : RdAt R fn caps seen (.slice (some ⟨G, 0, none⟩) S.length S.length) (w2.setCell ⟨G, row, none⟩ v') := hd2.eq_block (by simp [World.setCell]) (Below.heap_setCell w2 ⟨G, row, none⟩ v' R hRG);have c2 : CellsAt G S.length V w2 := ha.cells.eq_block g.size (g.block G ha.cells.1 fun e => absurd (ty_one ha.ty (own_ty v2 e.symm).1) (by decide));exact ⟨sv hd0, ((h.kept bd).cells.2 row hr).1, sv hda, (ha.cells.2 row hr).1, v', w2, (by obtain ⟨av, cv, e, -⟩ := shape_of k1; exact ⟨av, cv, e⟩), hrun, sv hd2, (c2.2 row hr).1, (c2.2 row hr).2, sv hd3, p1, hd3, (Grows.of_below ba).trans p2⟩
open Go.RowKit
def SeenOk (seen : List Int) : Prop := seen.Nodup ∧ ∀ b ∈ seen, 0 ≤ b ∧ b < 4096
theorem nodup_len : ∀ (m : Nat) (l : List Int), l.Nodup → (∀ b ∈ l, 0 ≤ b ∧ b < (m : Int)) → l.length ≤ m
 | 0, l, _, h => by
   cases l with
   | nil => exact Nat.le_refl _
   | cons b l => have := h b (List.mem_cons_self ..); omega
 | m + 1, l, hn, h => by
   have h1 : l.length ≤ (l.filter fun b => decide (b ≠ (m : Int))).length + 1 := by
    clear h
    induction l with
    | nil => simp
    | cons b l ih =>
      have hn2 := List.nodup_cons.1 hn;by_cases e : b = (m : Int)
      ·have : l.filter (fun b => decide (b ≠ (m : Int))) = l := List.filter_eq_self.2 fun c hc => decide_eq_true fun e2 => hn2.1 (by rw [e, ← e2]; exact hc)
       rw [List.filter_cons_of_neg (by simp [e]), this];exact Nat.le_refl _
      ·rw [List.filter_cons_of_pos (by simpa using e), List.length_cons, List.length_cons]
       have := ih hn2.2;omega
   have h2 := nodup_len m (l.filter fun b => decide (b ≠ (m : Int))) (hn.filter _) fun b hb => by
    rw [List.mem_filter] at hb;have := h b hb.1;have := of_decide_eq_true hb.2;omega
   omega
theorem SeenOk.len {seen : List Int} (h : SeenOk seen) : seen.length ≤ 4096 := nodup_len 4096 seen h.1 h.2
def Cnt (S : Shp) (seen : List Int) (c : Nat) : Prop := ∀ k, (rowA S k).length ≤ seen.length + c ∧ ∀ x ∈ rowA S k, x.length ≤ 10 ∧ fitE x
theorem cnt_push {S : Shp} {seen : List Int} {r : Nat} (h : Cnt S seen 0) (hr : r < S.length) (l : List Ent) (hl : l.length ≤ 10 ∧ fitE l) : Cnt (pushA S r l) seen 1 := fun k => by
 by_cases e : k = r
 ·subst e
  rw [rowA_push hr, List.length_append];refine ⟨by have := (h k).1; simp; omega, fun x hx => ?_⟩;rcases List.mem_append.1 hx with hx | hx
  ·exact (h k).2 x hx
  ·rw [List.mem_singleton.1 hx]; exact hl
 ·rw [rowA_push_ne S e]; exact ⟨by have := (h k).1; omega, (h k).2⟩
abbrev takeF (rd : Rd) (r : Nat) : Shp × List Int → Ent → Except Int (Shp × List Int) := fun st x => match nodeA rd x (r == 0) st.2 with
 | .error e => .error e
 | .ok (m, seen) => takeA rd r m (st.1, seen)
theorem takeA_succ (rd : Rd) (r : Nat) (l : List Ent) (st : Shp × List Int) : takeA rd (r + 1) l st = l.foldlM (takeF rd r) (pushA st.1 (r + 1) l, st.2) := by rw [takeA]; rfl
theorem fold_next {f : Shp × List Int → Ent → Except Int (Shp × List Int)} {l : List Ent} {s0 s : Shp × List Int} {k : Nat} (h : k < l.length) (hf : (l.take k).foldlM f s0 = Except.ok s) : (l.take (k + 1)).foldlM f s0 = f s (eat l k) := by
 rw [List.take_succ_eq_append_getElem h, List.foldlM_append, hf, eat_eq h]
 show (List.foldlM f s [l[k]] : Except Int _) = _
 rw [List.foldlM_cons]
 cases f s l[k] <;> rfl
theorem fold_stop {f : Shp × List Int → Ent → Except Int (Shp × List Int)} {l : List Ent} {s0 : Shp × List Int} {k : Nat} {c : Int} (hf : (l.take k).foldlM f s0 = Except.error c) : l.foldlM f s0 = Except.error c := by
 have h : l.foldlM f s0 = (l.take k ++ l.drop k).foldlM f s0 := by rw [List.take_append_drop]
 rw [h, List.foldlM_append, hf]; rfl
theorem nodeA_err {rd : Rd} {x : Ent} {leaf : Bool} {seen : List Int} {c : Int} (h : nodeA rd x leaf seen = .error c) : nodeErr rd x leaf seen = c ∧ c ≠ 0 := by
 refine ⟨by unfold nodeErr; rw [h], ?_⟩;unfold nodeA at h
 split at h
 ·injection h with h; omega
 ·split at h
  ·injection h with h; rename_i k; rw [← h]; exact k
  ·split at h
   ·injection h with h; omega
   ·split at h
    ·cases h
    ·injection h with h; omega
theorem nodeA_yes {rd : Rd} {x : Ent} {leaf : Bool} {seen : List Int} {m : List Ent} {seen2 : List Int} (h : nodeA rd x leaf seen = .ok (m, seen2)) : nodeErr rd x leaf seen = 0 ∧ nodeL? rd x leaf seen = m ∧ nodeSeen x seen = seen2 ∧ x.phys ∉ seen ∧ seen2 = x.phys :: seen ∧ NodeOk m leaf := by
 have e1 : nodeErr rd x leaf seen = 0 := by unfold nodeErr; rw [h]
 have e2 : nodeL? rd x leaf seen = m := by unfold nodeL?; rw [h]
 refine ⟨e1, e2, ?_⟩;unfold nodeA at h
 split at h
 ·cases h
 ·rename_i k1
  split at h
  ·cases h
  ·split at h
   ·cases h
   ·rename_i m2 is hd
    split at h
    ·rename_i k2
     injection h with h
     injection h with h1 h2
     subst h1 h2;refine ⟨by unfold nodeSeen; rw [if_neg k1], k1, rfl, ?_⟩;have := (decN_some hd).1;rw [k2.1] at this;exact this
    ·cases h
theorem node_fit {m : List Ent} {leaf : Bool} (h : NodeOk m leaf) : fitE m := fun x hx => by
 obtain ⟨i, hi, e⟩ := List.mem_iff_getElem.1 hx;obtain ⟨h1, h2, h3⟩ := ent_small h.2.2 hi;rw [eat_eq hi, e] at h1 h2 h3;exact ⟨⟨by omega, by omega⟩, ⟨by omega, by omega⟩, ⟨by omega, by omega⟩⟩
theorem node_phys {m : List Ent} (h : NodeOk m false) : ∀ x ∈ m, 0 ≤ x.phys ∧ x.phys < 4096 := fun x hx => by
 obtain ⟨i, hi, e⟩ := List.mem_iff_getElem.1 hx;have := (entOk_node _).1 (h.2.2 i hi).1;rw [eat_eq hi, e] at this;obtain ⟨_, _, h2, h3⟩ := this;omega
def TakeEnd (C B G R fn : Nat) (caps : Array Value) (D : Nat) (a : Except Int (Shp × List Int)) (w : World) (e : Ending) (w' : World) : Prop :=
 Grows B w w' ∧ match a with
 | .ok (S', seen') => e = .returned (.int .i64 0) ∧ S'.length = D ∧ (∃ V', ShpAt (EntsS C) B G S' V' w') ∧ RdAt R fn caps seen' (.slice (some ⟨G, 0, none⟩) D D) w' ∧ SeenOk seen' ∧ Cnt S' seen' 1
 | .error c => e = .returned (.int .i64 c) ∧ c ≠ 0
def Takes (fn : Nat) (caps : Array Value) (rd : Rd) (C B G R : Nat) (w0 : World) (D r : Nat) : Prop :=
 ∀ (l : List Ent) (lv : Value) (S : Shp) (V : Nat → Value) (seen : List Int) (w : World), S.length = D → r < D → Below B w0 w → B ≤ w.heap.size → ShpAt (EntsS C) B G S V w → RdAt R fn caps seen (.slice (some ⟨G, 0, none⟩) D D) w → EntsS C lv l w → SeenOk seen → Cnt S seen 0 →
  l.length ≤ 10 ∧ fitE l → (r = 0 ∨ ∀ x ∈ l, 0 ≤ x.phys ∧ x.phys < 4096) →
  Calls Tryz.prog 83 #[.pointer (some ⟨R, 0, none⟩), lv, .int .i64 (r : Int)] w (TakeEnd C B G R fn caps D (takeA rd r l (S, seen)) w)
theorem take_step (fn : Nat) (caps : Array Value) (rd : Rd) (C B G R : Nat) (w0 : World) (hrd : Reads fn caps rd B w0) (hR : B ≤ R) (hCB : C ≤ B) (D r : Nat) (hD : D ≤ 1000) (IH : r = 0 ∨ Takes fn caps rd C B G R w0 D (r - 1)) : Takes fn caps rd C B G R w0 D r := by
 intro l lv S V seen w hSD hrD hb0 hBw hsp hrdat hl hso hcn hl1000 hph;subst hSD
 have mixed : Tryz.prog.follows .mixedOrders = true := by kernel_rfl
 obtain ⟨la, lc, rfl, l1, l2, -⟩ := entsIn_cells hl.now;obtain ⟨A0, B0, A1, B1, v', w2, ⟨av, cv, rfl⟩, hrun, A2, B2, F2, A3, P3, D3, G3⟩ := push_facts hBw hR hsp hrdat hrD (by have := (hcn r).1; have := hso.len; omega) hl rfl;have HA0 := Lib.hid A0;have rd0 := Lib.hid B0;have HA := Lib.hid (And.intro A1 trivial);have ra := Lib.hid B1;have R1 := Lib.hid hrun;have HA2 := Lib.hid (And.intro A2 (And.intro B2 F2));have r2 := Lib.hid B2;have HA3 := Lib.hid A3;have HSP := Lib.hid P3;have HRD := Lib.hid D3;have HGR := Lib.hid G3;have HSO := Lib.hid hso;have HCN := Lib.hid (cnt_push hcn hrD l hl1000);have hl1000 := hl1000.1;have HREAD := Lib.hid hrd;have HIH := Lib.hid IH;have HB0 := Lib.hid hb0;have HLS := Lib.hid hl;have HGRW : Hid (∀ a, Grows B w a → Grows B w a) := Lib.hid fun a h => h;have HCNN := HCN
 have HFL : Hid (r ≠ 0 → takeA rd r l (S, seen) = l.foldlM (takeF rd (r - 1)) (pushA S r l, seen)) := Lib.hid fun h => by
  obtain ⟨q, rfl⟩ : ∃ q, r = q + 1 := ⟨r - 1, by omega⟩;exact takeA_succ rd q l (S, seen)
 have HPH := Lib.hid hph;have hpl := pushA_len S r l;clear A0 B0 A1 B1 hrun A2 B2 F2 A3 P3 D3 G3 hsp hrdat hl hso hcn IH hrd hb0 hph
 go_enter Tryz.func83, Tryz.ntmps83
 go_upto_region 1 with fail
 refine wp_region_held_drew (S := fun w9 => w9.cell? ⟨R, 4097, none⟩ = some (.slice (some ⟨G, 0, none⟩) S.length S.length)) mixed HA0.out (fun hHeld => ?_);generalize w.drew = wd at *;refine tk 0 _ rfl (by intro w9 hSw; clear hSw; go_simp; try with_reducible rfl) hHeld ?_
 try simp only [Act.put, za, zb, zc, zd, ze, zf]
 refine tk 1 _ rfl (by intro w9 hSw; clear hSw; go_simp; try with_reducible rfl) hHeld ?_
 try simp only [Act.put, za, zb, zc, zd, ze, zf]
 refine tk 2 _ rfl (by intro w9 hSw; clear hSw; go_simp; try with_reducible rfl) hHeld ?_
 try simp only [Act.put, za, zb, zc, zd, ze, zf]
 refine tk 3 _ rfl (by intro w9 hSw; have e9 := hSw; go_simp; try with_reducible rfl) hHeld ?_
 try simp only [Act.put, za, zb, zc, zd, ze, zf]
 refine tk 4 _ rfl (by intro w9 hSw; clear hSw; go_simp; try with_reducible rfl) hHeld ?_
 try simp only [Act.put, za, zb, zc, zd, ze, zf]
 refine tk 5 _ rfl (by intro w9 hSw; clear hSw; go_simp; try with_reducible rfl) hHeld ?_
 try simp only [Act.put, za, zb, zc, zd, ze, zf]
 refine tk 6 _ rfl (by intro w9 hSw; clear hSw; go_simp; try with_reducible rfl) hHeld ?_
 try simp only [Act.put, za, zb, zc, zd, ze, zf]
 refine tk 7 _ rfl (by intro w9 hSw; clear hSw; go_simp; try with_reducible rfl) hHeld ?_
 try simp only [Act.put, za, zb, zc, zd, ze, zf]
 refine tk 8 _ rfl (by intro w9 hSw; have e9 := hSw; go_simp; try with_reducible rfl) hHeld ?_
 try simp only [Act.put, za, zb, zc, zd, ze, zf]
 refine tk 9 _ rfl (by intro w9 hSw; clear hSw; go_simp; try with_reducible rfl) hHeld ?_
 try simp only [Act.put, za, zb, zc, zd, ze, zf]
 refine tk 10 _ rfl (by intro w9 hSw; clear hSw; go_simp; try with_reducible rfl) hHeld ?_
 try simp only [Act.put, za, zb, zc, zd, ze, zf]
 refine tk 12 _ rfl (by intro w9 hSw; clear hSw; go_simp; try with_reducible rfl) hHeld ?_
 try simp only [Act.put, za, zb, zc, zd, ze, zf]
 refine wpAnyH_ready (rs := [11, 13]) (by kernel_rfl) (by simp) ?_;refine AllReadyH.cons (o := _) rfl (fun K hK => ?_) ?_
 ·have cr := rd0.out
  go_simp;clear cr;clear hHeld;refine hK.out _ _ (HA0.out) (fun hHeld => ?_);clear hK K
  try simp only [Act.put, za, zb, zc, zd, ze, zf]
  refine wpAnyH_ready (rs := [13]) (by kernel_rfl) (by simp) ?_;refine AllReadyH.cons (o := _) rfl (fun K hK => ?_) ?_
  ·go_simp
   clear hHeld;refine hK.out _ _ (HA.out.1) (fun hHeld => ?_);clear hK K
   try simp only [Act.put, za, zb, zc, zd, ze, zf]
   refine wpAnyH_ready (rs := [14]) (by kernel_rfl) (by simp) ?_;refine AllReadyH.cons (o := _) rfl (fun K hK => ?_) ?_
   ·refine step_append rfl _ _ _ rfl rfl rfl R1.out ?_
    try go_simp
    clear hHeld;refine hK.out _ _ (HA2.out.1) (fun hHeld => ?_);clear hK K
    try simp only [Act.put, za, zb, zc, zd, ze, zf]
    refine tk 15 _ rfl (by intro w9 hSw; clear hSw; go_simp; try with_reducible rfl) hHeld ?_
    try simp only [Act.put, za, zb, zc, zd, ze, zf]
    refine wpAnyH_ready (rs := [16]) (by kernel_rfl) (by simp) ?_;refine AllReadyH.cons (o := _) rfl (fun K hK => ?_) ?_
    ·have cr := HA2.out.2.1
     have fr := HA2.out.2.2;go_simp;clear cr fr;clear hHeld;refine hK.out _ _ (HA3.out) (fun hHeld => ?_);clear hK K
     try simp only [Act.put, za, zb, zc, zd, ze, zf]
     refine ⟨by kernel_rfl, ?_⟩;clear hHeld;clear HA0 HA rd0 ra HA2 R1 HA3 r2;by_cases h0 : r = 0
     ·subst h0
      clear HIH HCNN HFL;go_wp2;go_ret;exact ⟨HGR.out, rfl, pushA_len _ _ _, ⟨_, HSP.out⟩, HRD.out, HSO.out, HCN.out⟩
     ·have t0 : ((r : Int) == 0) = false := by rw [beq_eq_false_iff_ne]; omega
      obtain ⟨lf, hlf⟩ : ∃ lf : Bool, ((r : Int) == 1) = lf := ⟨_, rfl⟩;have HLF : Hid ((r - 1 == 0) = lf) := Lib.hid (by rw [← hlf, Bool.eq_iff_iff, beq_iff_eq, beq_iff_eq]; omega)
      have hw1 : IntKind.i64.wrap ((r : Int) - 1) = ((r - 1 : Nat) : Int) := by rw [IntWalk.i64_in _ (by omega)]; omega
      have HTK := Lib.hid (HIH.out.resolve_left h0);have HPX := Lib.hid (HPH.out.resolve_left h0);have HFE := Lib.hid (HFL.out h0);obtain ⟨P0, hP0⟩ : ∃ P0, pushA S r l = P0 := ⟨_, rfl⟩;rw [hP0] at HSP HCN HFE hpl;clear HIH HPH h0 HFL hP0 HCNN;go_wp2
      go_loopw [32] (fun p wr => ∃ (k : Nat) (S1 : Shp) (V1 : Nat → Value) (seen1 : List Int), p = .int .i64 (k : Int) ∧ k ≤ l.length ∧ S1.length = S.length ∧ Hid ((l.take k).foldlM (takeF rd (r - 1)) (P0, seen) = .ok (S1, seen1)) ∧ Hid (ShpAt (EntsS C) B G S1 V1 wr) ∧ Hid (RdAt R fn caps seen1 (.slice (some ⟨G, 0, none⟩) S.length S.length) wr) ∧ Hid (SeenOk seen1) ∧ Hid (Cnt S1 seen1 1) ∧ Hid (Grows B w wr)) (fun p _ => l.length - (intOf p).toNat)
      case atStart => exact ⟨0, _, _, _, rfl, Nat.zero_le _, hpl, Lib.hid rfl, HSP, HRD, HSO, HCN, HGR⟩
      case round =>
       clear HSP HRD HSO HCN hpl;obtain ⟨k, S1, V1, seen1, rfl, hk, hS1, HF, HSP, HRD, HSO, HCN, HGRR⟩ := hrel;by_cases hlt : k < l.length
       ·obtain ⟨la2, lc2, eqv, -, -, u3, -⟩ := entsIn_cells (HLS.out _ ((HGRW.out _ HGRR.out).mono hCB))
        injection eqv with q1 q2 q3
        obtain ⟨gu, ou, q4, -, u4⟩ := u3 (by omega);rw [q4] at q1;subst q1;obtain ⟨e1, e2, e3⟩ := u4 _ (Below.refl _ _) k hlt;have HX := HPX.out _ (List.getElem_mem hlt);rw [← eat_eq hlt] at HX;have HNX := Lib.hid (fold_next hlt HF.out)
        have HER : Hid (∀ c, takeF rd (r - 1) (S1, seen1) (eat l k) = .error c → takeA rd r l (S, seen) = .error c) := Lib.hid fun c hc => by rw [HFE.out]; exact fold_stop (k := k + 1) (by rw [HNX.out]; exact hc)
        clear HPX HF HFE u3 u4 q2 q3;obtain ⟨y, hy⟩ : ∃ y, eat l k = y := ⟨_, rfl⟩;rw [hy] at e1 e2 e3 HX HNX HER;clear hy;obtain ⟨ya, yp, yz⟩ := y;dsimp only at e1 e2 e3 HX;obtain ⟨bx, hbx⟩ : ∃ bx, wr.heap.size = bx := ⟨_, rfl⟩;obtain ⟨wy, hwy⟩ : ∃ wy, wr.alloc (.cells #[.int .i64 ya, .int .i64 yp, .int .i64 yz] 31) = wy := ⟨_, rfl⟩
        have b1 : Below wr.heap.size wr wy := by rw [← hwy]; exact balloc1 _ _
        have hX : Blk bx #[.int .i64 ya, .int .i64 yp, .int .i64 yz] 31 wy := by rw [← hwy, ← hbx]; exact Blk.new _ _ _
        have k0 := hX.cell 0;have k1 := hX.cell 1;have k2 := hX.cell 2;simp only [List.getElem?_toArray, List.getElem?_cons_zero, List.getElem?_cons_succ] at k0 k1 k2;have HSP := Lib.hid (HSP.out.kept b1);have HRD := Lib.hid (HRD.out.kept1 b1);have HGRR := Lib.hid (HGRR.out.trans (Grows.of_below b1));have HWY := Lib.hid hwy;have HN := Lib.hid (fknode_any fn caps rd B w0 HREAD.out ⟨ya, yp, yz⟩ HX lf R hR seen1 _ wy (HB0.out.trans (HGRR.out.below hBw)) HRD.out);clear hwy b1 hX
        go_upto_region 7 with fail
        rw [HWY.out];clear e1 e2 e3 HWY
        cases hna : nodeA rd ⟨ya, yp, yz⟩ lf seen1 with
        | error c =>
          obtain ⟨n1, n2⟩ := nodeA_err hna;rw [n1] at HN;have HE : Hid (takeA rd r l (S, seen) = .error c) := Lib.hid (HER.out c (by show (match nodeA rd ⟨ya, yp, yz⟩ (r - 1 == 0) seen1 with | .error e => Except.error e | .ok (m, seen) => takeA rd (r - 1) m (S1, seen)) = _; rw [HLF.out, hna]))
          have te : (c == 0) = false := by rw [beq_eq_false_iff_ne]; exact n2
          clear hna n1 HER HNX HTK;go_wp2_with fail
          refine HN.out.mono ?_; rintro e w3 ⟨nv, rfl, -, hrd3, z3⟩;have HGRR := Lib.hid (HGRR.out.trans (Grows.zone1 (t := 147) (by decide) hR z3 HRD.out.t hrd3.t));clear hrd3 z3 HN HSP HRD k0 k1 k2;go_wp2;go_ret;unfold TakeEnd;rw [HE.out];exact ⟨HGRR.out, rfl, n2⟩
        | ok q =>
          obtain ⟨m, seen2⟩ := q;obtain ⟨n1, n2, n3, n4, n5, n6⟩ := nodeA_yes hna;rw [n1, n2, n3] at HN;have HTF : Hid (takeF rd (r - 1) (S1, seen1) ⟨ya, yp, yz⟩ = takeA rd (r - 1) m (S1, seen2)) := Lib.hid (by show (match nodeA rd ⟨ya, yp, yz⟩ (r - 1 == 0) seen1 with | .error e => Except.error e | .ok (m, seen) => takeA rd (r - 1) m (S1, seen)) = _; rw [HLF.out, hna])
          have HSO2 : Hid (SeenOk seen2) := Lib.hid (by rw [n5]; exact ⟨List.nodup_cons.2 ⟨n4, HSO.out.1⟩, fun b hb => by
           rcases List.mem_cons.1 hb with e | e
           ·rw [e]; exact HX
           ·exact HSO.out.2 b e⟩)
          have HCN2 : Hid (Cnt S1 seen2 0) := Lib.hid fun j => by
           have h8 := HCN.out j;exact ⟨by rw [n5, List.length_cons]; have := h8.1; omega, h8.2⟩
          have HM : Hid ((m.length ≤ 10 ∧ fitE m) ∧ (r - 1 = 0 ∨ ∀ x ∈ m, 0 ≤ x.phys ∧ x.phys < 4096)) := Lib.hid ⟨⟨n6.2.1, node_fit n6⟩, by
           by_cases e : r - 1 = 0
           ·exact .inl e
           ·right
            have : lf = false := by rw [← HLF.out]; simpa using e
            rw [this] at n6
            exact node_phys n6⟩
          clear hna n1 n2 n3 n4 n5 n6 HSO HCN;go_wp2_with fail
          refine HN.out.mono ?_; rintro e w3 ⟨nv, rfl, hnv, hrd3, z3⟩;have g3 := Grows.zone1 (B := B) (t := 147) (by decide) hR z3 HRD.out.t hrd3.t;have HSP := Lib.hid (HSP.out.other HRD.out.t z3 g3);have HGRR := Lib.hid (HGRR.out.trans g3);have HRD := Lib.hid hrd3;have HNV : Hid (EntsS C nv m w3) := Lib.hid (EntsS.own hnv);have HTC := Lib.hid (HTK.out m nv S1 V1 seen2 w3 hS1 (by omega) (HB0.out.trans (HGRR.out.below hBw)) (by have := HGRR.out.size; omega) HSP.out HRD.out HNV.out HSO2.out HCN2.out HM.out.1 HM.out.2);clear hrd3 z3 g3 hnv HN HSP HRD HNV HSO2 HCN2 HM HTK k0 k1 k2;go_wp2_with fail
          refine HTC.out.mono ?_; rintro e w4 ⟨g4, h4⟩;have HGRR := Lib.hid (HGRR.out.trans g4)
          cases hta : takeA rd (r - 1) m (S1, seen2) with
          | error c =>
            rw [hta] at h4;obtain ⟨rfl, n2⟩ := h4;have HE : Hid (takeA rd r l (S, seen) = .error c) := Lib.hid (HER.out c (by rw [HTF.out, hta]))
            have te : (c == 0) = false := by rw [beq_eq_false_iff_ne]; exact n2
            clear hta HER HNX HTF HTC g4;go_wp2;go_ret;unfold TakeEnd;rw [HE.out];exact ⟨HGRR.out, rfl, n2⟩
          | ok q2 =>
            obtain ⟨S2, seen3⟩ := q2;rw [hta] at h4;obtain ⟨rfl, hS2, ⟨V2, hsp2⟩, hrd2, hso2, hcn2⟩ := h4;have HF2 : Hid ((l.take (k + 1)).foldlM (takeF rd (r - 1)) (P0, seen) = .ok (S2, seen3)) := Lib.hid (by rw [HNX.out, HTF.out, hta]);have HSP := Lib.hid hsp2;have HRD := Lib.hid hrd2;have HSO := Lib.hid hso2;have HCN := Lib.hid hcn2;clear hta HER HNX HTF HTC g4 hsp2 hrd2 hso2 hcn2;go_wp2;exact ⟨⟨k + 1, S2, V2, seen3, by go_num, by omega, hS2, HF2, HSP, HRD, HSO, HCN, HGRR⟩, by simp [intOf]; omega⟩
       ·obtain rfl : k = l.length := by omega
        have HE : Hid (takeA rd r l (S, seen) = .ok (S1, seen1)) := Lib.hid (by rw [HFE.out, ← HF.out, List.take_length]);clear HF;go_wp2;go_ret;unfold TakeEnd;rw [HE.out];exact ⟨HGRR.out, rfl, hS1, ⟨_, HSP.out⟩, HRD.out, HSO.out, HCN.out⟩
    exact AllReadyH.nil
   exact AllReadyH.nil
  exact AllReadyH.nil
 refine AllReadyH.cons (o := _) rfl (fun K hK => ?_) ?_
 ·go_simp
  clear hHeld;refine hK.out _ _ (HA.out.1) (fun hHeld => ?_);clear hK K
  try simp only [Act.put, za, zb, zc, zd, ze, zf]
  refine wpAnyH_ready (rs := [11]) (by kernel_rfl) (by simp) ?_;refine AllReadyH.cons (o := _) rfl (fun K hK => ?_) ?_
  ·have cr := ra.out
   go_simp;clear cr;clear hHeld;refine hK.out _ _ (HA.out.1) (fun hHeld => ?_);clear hK K
   try simp only [Act.put, za, zb, zc, zd, ze, zf]
   refine wpAnyH_ready (rs := [14]) (by kernel_rfl) (by simp) ?_;refine AllReadyH.cons (o := _) rfl (fun K hK => ?_) ?_
   ·refine step_append rfl _ _ _ rfl rfl rfl R1.out ?_
    try go_simp
    clear hHeld;refine hK.out _ _ (HA2.out.1) (fun hHeld => ?_);clear hK K
    try simp only [Act.put, za, zb, zc, zd, ze, zf]
    refine tk 15 _ rfl (by intro w9 hSw; clear hSw; go_simp; try with_reducible rfl) hHeld ?_
    try simp only [Act.put, za, zb, zc, zd, ze, zf]
    refine wpAnyH_ready (rs := [16]) (by kernel_rfl) (by simp) ?_;refine AllReadyH.cons (o := _) rfl (fun K hK => ?_) ?_
    ·have cr := HA2.out.2.1
     have fr := HA2.out.2.2;go_simp;clear cr fr;clear hHeld;refine hK.out _ _ (HA3.out) (fun hHeld => ?_);clear hK K
     try simp only [Act.put, za, zb, zc, zd, ze, zf]
     refine ⟨by kernel_rfl, ?_⟩;clear hHeld;clear HA0 HA rd0 ra HA2 R1 HA3 r2;by_cases h0 : r = 0
     ·subst h0
      clear HIH HCNN HFL;go_wp2;go_ret;exact ⟨HGR.out, rfl, pushA_len _ _ _, ⟨_, HSP.out⟩, HRD.out, HSO.out, HCN.out⟩
     ·have t0 : ((r : Int) == 0) = false := by rw [beq_eq_false_iff_ne]; omega
      obtain ⟨lf, hlf⟩ : ∃ lf : Bool, ((r : Int) == 1) = lf := ⟨_, rfl⟩;have HLF : Hid ((r - 1 == 0) = lf) := Lib.hid (by rw [← hlf, Bool.eq_iff_iff, beq_iff_eq, beq_iff_eq]; omega)
      have hw1 : IntKind.i64.wrap ((r : Int) - 1) = ((r - 1 : Nat) : Int) := by rw [IntWalk.i64_in _ (by omega)]; omega
      have HTK := Lib.hid (HIH.out.resolve_left h0);have HPX := Lib.hid (HPH.out.resolve_left h0);have HFE := Lib.hid (HFL.out h0);obtain ⟨P0, hP0⟩ : ∃ P0, pushA S r l = P0 := ⟨_, rfl⟩;rw [hP0] at HSP HCN HFE hpl;clear HIH HPH h0 HFL hP0 HCNN;go_wp2
      go_loopw [32] (fun p wr => ∃ (k : Nat) (S1 : Shp) (V1 : Nat → Value) (seen1 : List Int), p = .int .i64 (k : Int) ∧ k ≤ l.length ∧ S1.length = S.length ∧ Hid ((l.take k).foldlM (takeF rd (r - 1)) (P0, seen) = .ok (S1, seen1)) ∧ Hid (ShpAt (EntsS C) B G S1 V1 wr) ∧ Hid (RdAt R fn caps seen1 (.slice (some ⟨G, 0, none⟩) S.length S.length) wr) ∧ Hid (SeenOk seen1) ∧ Hid (Cnt S1 seen1 1) ∧ Hid (Grows B w wr)) (fun p _ => l.length - (intOf p).toNat)
      case atStart => exact ⟨0, _, _, _, rfl, Nat.zero_le _, hpl, Lib.hid rfl, HSP, HRD, HSO, HCN, HGR⟩
      case round =>
       clear HSP HRD HSO HCN hpl;obtain ⟨k, S1, V1, seen1, rfl, hk, hS1, HF, HSP, HRD, HSO, HCN, HGRR⟩ := hrel;by_cases hlt : k < l.length
       ·obtain ⟨la2, lc2, eqv, -, -, u3, -⟩ := entsIn_cells (HLS.out _ ((HGRW.out _ HGRR.out).mono hCB))
        injection eqv with q1 q2 q3
        obtain ⟨gu, ou, q4, -, u4⟩ := u3 (by omega);rw [q4] at q1;subst q1;obtain ⟨e1, e2, e3⟩ := u4 _ (Below.refl _ _) k hlt;have HX := HPX.out _ (List.getElem_mem hlt);rw [← eat_eq hlt] at HX;have HNX := Lib.hid (fold_next hlt HF.out)
        have HER : Hid (∀ c, takeF rd (r - 1) (S1, seen1) (eat l k) = .error c → takeA rd r l (S, seen) = .error c) := Lib.hid fun c hc => by rw [HFE.out]; exact fold_stop (k := k + 1) (by rw [HNX.out]; exact hc)
        clear HPX HF HFE u3 u4 q2 q3;obtain ⟨y, hy⟩ : ∃ y, eat l k = y := ⟨_, rfl⟩;rw [hy] at e1 e2 e3 HX HNX HER;clear hy;obtain ⟨ya, yp, yz⟩ := y;dsimp only at e1 e2 e3 HX;obtain ⟨bx, hbx⟩ : ∃ bx, wr.heap.size = bx := ⟨_, rfl⟩;obtain ⟨wy, hwy⟩ : ∃ wy, wr.alloc (.cells #[.int .i64 ya, .int .i64 yp, .int .i64 yz] 31) = wy := ⟨_, rfl⟩
        have b1 : Below wr.heap.size wr wy := by rw [← hwy]; exact balloc1 _ _
        have hX : Blk bx #[.int .i64 ya, .int .i64 yp, .int .i64 yz] 31 wy := by rw [← hwy, ← hbx]; exact Blk.new _ _ _
        have k0 := hX.cell 0;have k1 := hX.cell 1;have k2 := hX.cell 2;simp only [List.getElem?_toArray, List.getElem?_cons_zero, List.getElem?_cons_succ] at k0 k1 k2;have HSP := Lib.hid (HSP.out.kept b1);have HRD := Lib.hid (HRD.out.kept1 b1);have HGRR := Lib.hid (HGRR.out.trans (Grows.of_below b1));have HWY := Lib.hid hwy;have HN := Lib.hid (fknode_any fn caps rd B w0 HREAD.out ⟨ya, yp, yz⟩ HX lf R hR seen1 _ wy (HB0.out.trans (HGRR.out.below hBw)) HRD.out);clear hwy b1 hX
        go_upto_region 7 with fail
        rw [HWY.out];clear e1 e2 e3 HWY
        cases hna : nodeA rd ⟨ya, yp, yz⟩ lf seen1 with
        | error c =>
          obtain ⟨n1, n2⟩ := nodeA_err hna;rw [n1] at HN;have HE : Hid (takeA rd r l (S, seen) = .error c) := Lib.hid (HER.out c (by show (match nodeA rd ⟨ya, yp, yz⟩ (r - 1 == 0) seen1 with | .error e => Except.error e | .ok (m, seen) => takeA rd (r - 1) m (S1, seen)) = _; rw [HLF.out, hna]))
          have te : (c == 0) = false := by rw [beq_eq_false_iff_ne]; exact n2
          clear hna n1 HER HNX HTK;go_wp2_with fail
          refine HN.out.mono ?_; rintro e w3 ⟨nv, rfl, -, hrd3, z3⟩;have HGRR := Lib.hid (HGRR.out.trans (Grows.zone1 (t := 147) (by decide) hR z3 HRD.out.t hrd3.t));clear hrd3 z3 HN HSP HRD k0 k1 k2;go_wp2;go_ret;unfold TakeEnd;rw [HE.out];exact ⟨HGRR.out, rfl, n2⟩
        | ok q =>
          obtain ⟨m, seen2⟩ := q;obtain ⟨n1, n2, n3, n4, n5, n6⟩ := nodeA_yes hna;rw [n1, n2, n3] at HN;have HTF : Hid (takeF rd (r - 1) (S1, seen1) ⟨ya, yp, yz⟩ = takeA rd (r - 1) m (S1, seen2)) := Lib.hid (by show (match nodeA rd ⟨ya, yp, yz⟩ (r - 1 == 0) seen1 with | .error e => Except.error e | .ok (m, seen) => takeA rd (r - 1) m (S1, seen)) = _; rw [HLF.out, hna])
          have HSO2 : Hid (SeenOk seen2) := Lib.hid (by rw [n5]; exact ⟨List.nodup_cons.2 ⟨n4, HSO.out.1⟩, fun b hb => by
           rcases List.mem_cons.1 hb with e | e
           ·rw [e]; exact HX
           ·exact HSO.out.2 b e⟩)
          have HCN2 : Hid (Cnt S1 seen2 0) := Lib.hid fun j => by
           have h8 := HCN.out j;exact ⟨by rw [n5, List.length_cons]; have := h8.1; omega, h8.2⟩
          have HM : Hid ((m.length ≤ 10 ∧ fitE m) ∧ (r - 1 = 0 ∨ ∀ x ∈ m, 0 ≤ x.phys ∧ x.phys < 4096)) := Lib.hid ⟨⟨n6.2.1, node_fit n6⟩, by
           by_cases e : r - 1 = 0
           ·exact .inl e
           ·right
            have : lf = false := by rw [← HLF.out]; simpa using e
            rw [this] at n6
            exact node_phys n6⟩
          clear hna n1 n2 n3 n4 n5 n6 HSO HCN;go_wp2_with fail
          refine HN.out.mono ?_; rintro e w3 ⟨nv, rfl, hnv, hrd3, z3⟩;have g3 := Grows.zone1 (B := B) (t := 147) (by decide) hR z3 HRD.out.t hrd3.t;have HSP := Lib.hid (HSP.out.other HRD.out.t z3 g3);have HGRR := Lib.hid (HGRR.out.trans g3);have HRD := Lib.hid hrd3;have HNV : Hid (EntsS C nv m w3) := Lib.hid (EntsS.own hnv);have HTC := Lib.hid (HTK.out m nv S1 V1 seen2 w3 hS1 (by omega) (HB0.out.trans (HGRR.out.below hBw)) (by have := HGRR.out.size; omega) HSP.out HRD.out HNV.out HSO2.out HCN2.out HM.out.1 HM.out.2);clear hrd3 z3 g3 hnv HN HSP HRD HNV HSO2 HCN2 HM HTK k0 k1 k2;go_wp2_with fail
          refine HTC.out.mono ?_; rintro e w4 ⟨g4, h4⟩;have HGRR := Lib.hid (HGRR.out.trans g4)
          cases hta : takeA rd (r - 1) m (S1, seen2) with
          | error c =>
            rw [hta] at h4;obtain ⟨rfl, n2⟩ := h4;have HE : Hid (takeA rd r l (S, seen) = .error c) := Lib.hid (HER.out c (by rw [HTF.out, hta]))
            have te : (c == 0) = false := by rw [beq_eq_false_iff_ne]; exact n2
            clear hta HER HNX HTF HTC g4;go_wp2;go_ret;unfold TakeEnd;rw [HE.out];exact ⟨HGRR.out, rfl, n2⟩
          | ok q2 =>
            obtain ⟨S2, seen3⟩ := q2;rw [hta] at h4;obtain ⟨rfl, hS2, ⟨V2, hsp2⟩, hrd2, hso2, hcn2⟩ := h4;have HF2 : Hid ((l.take (k + 1)).foldlM (takeF rd (r - 1)) (P0, seen) = .ok (S2, seen3)) := Lib.hid (by rw [HNX.out, HTF.out, hta]);have HSP := Lib.hid hsp2;have HRD := Lib.hid hrd2;have HSO := Lib.hid hso2;have HCN := Lib.hid hcn2;clear hta HER HNX HTF HTC g4 hsp2 hrd2 hso2 hcn2;go_wp2;exact ⟨⟨k + 1, S2, V2, seen3, by go_num, by omega, hS2, HF2, HSP, HRD, HSO, HCN, HGRR⟩, by simp [intOf]; omega⟩
       ·obtain rfl : k = l.length := by omega
        have HE : Hid (takeA rd r l (S, seen) = .ok (S1, seen1)) := Lib.hid (by rw [HFE.out, ← HF.out, List.take_length]);clear HF;go_wp2;go_ret;unfold TakeEnd;rw [HE.out];exact ⟨HGRR.out, rfl, hS1, ⟨_, HSP.out⟩, HRD.out, HSO.out, HCN.out⟩
    exact AllReadyH.nil
   exact AllReadyH.nil
  exact AllReadyH.nil
 exact AllReadyH.nil
open Go.RowKit
theorem made_at (z : Value) (n j : Nat) (h : j < n) : (madeCells #[z] n)[j]? = some z := by
 have e : (madeCells #[z] n)[j]? = (madeCells #[z] n).toList[j]? := by simp
 rw [e, toList_madeCells_one]; simp [h]
theorem rowA_repl (D r : Nat) : rowA (List.replicate D ([] : List (List Ent))) r = [] := by
 unfold rowA;rw [List.getElem?_replicate]
 split <;> rfl
theorem shape_start (w : World) (D : Nat) {P : Value → List Ent → World → Prop} {B : Nat} (hC : Keeps P B) (hB : B ≤ w.heap.size) : ShpAt P B w.heap.size (List.replicate D []) (fun _ => .slice none 0 0) (w.alloc (.cells (madeCells #[.slice none 0 0] D) 149)) := by
 refine ⟨hC, hB, ?_, ⟨_, _, heap_alloc_new _ _⟩, fun r hr => ⟨[], ?_, ?_, ?_⟩, fun a b g _ _ h _ => by cases h⟩
 ·rw [List.length_replicate]
  exact CellsAt.alloc_new w _ _ D _ fun j hj => made_at _ _ _ hj
 ·rw [rowA_repl]; rfl
 ·rw [rowA_repl]; exact World.ownsRow_nil _ _ _ _
 ·intro k h1; simp at h1
theorem reader_zero : Tryz.zeroCells147 = (Value.nilFunc :: (List.replicate 4096 (Value.bool false) ++ [Value.slice none 0 0])).toArray := by kernel_rfl
theorem reader_info : (Tryz.prog.info? 147).map (·.size) = some 4098 := by kernel_rfl
abbrev rdC (Z : Array Value) (fn : Nat) (caps : Array Value) (sv : Value) : Array Value := (Z.setIfInBounds 0 (.func (.func fn) #[] caps)).setIfInBounds 4097 sv
theorem rdC_at (fn : Nat) (caps : Array Value) (sv : Value) : ∀ j, j < 4098 → (rdC Tryz.zeroCells147 fn caps sv)[j]? = some (rdF fn caps [] sv j) := by
 intro j hj;unfold rdC;rw [reader_zero];by_cases h0 : j = 0
 ·subst h0
  rw [rdF_zero, Array.getElem?_setIfInBounds, if_neg (by omega), Array.getElem?_setIfInBounds, if_pos rfl, if_pos (by rw [List.size_toArray, List.length_cons, List.length_append, List.length_replicate, List.length_singleton]; omega)]
 ·by_cases h1 : j = 4097
  ·subst h1
   rw [rdF_shape, Array.getElem?_setIfInBounds, if_pos rfl, if_pos (by rw [Array.size_setIfInBounds, List.size_toArray, List.length_cons, List.length_append, List.length_replicate, List.length_singleton]; omega)]
  ·rw [Array.getElem?_setIfInBounds, if_neg (by omega), Array.getElem?_setIfInBounds, if_neg (by omega)]
   unfold rdF;rw [if_neg h0, if_pos (by omega), List.getElem?_toArray];obtain ⟨k, rfl⟩ : ∃ k, j = k + 1 := ⟨j - 1, by omega⟩;rw [List.getElem?_cons_succ, List.getElem?_append_left (by rw [List.length_replicate]; omega), List.getElem?_replicate, if_pos (by omega)]
   simp
theorem rdC_size (fn : Nat) (caps : Array Value) (sv : Value) : (rdC Tryz.zeroCells147 fn caps sv).size = 4098 := by
 unfold rdC;rw [reader_zero, Array.size_setIfInBounds, Array.size_setIfInBounds, List.size_toArray, List.length_cons, List.length_append, List.length_replicate, List.length_singleton]
theorem reader_size : (Tryz.zeroCells147).size = 4098 := by
 rw [reader_zero, List.size_toArray, List.length_cons, List.length_append, List.length_replicate, List.length_singleton]
theorem rdC_one (fn : Nat) (caps : Array Value) (ad : Option Addr) (n c : Nat) : (rdC Tryz.zeroCells147 fn caps (.slice ad n c)).all (·.oneCell') = true := by
 rw [reader_zero, ← Array.all_toList, List.all_eq_true];intro x hx;simp only [Array.toList_setIfInBounds] at hx;rcases List.mem_or_eq_of_mem_set hx with hx | rfl
 ·rcases List.mem_or_eq_of_mem_set hx with hx | rfl
  ·rcases List.mem_cons.1 hx with rfl | hx
   ·rfl
   ·rcases List.mem_append.1 hx with hx | hx
    ·rw [List.eq_of_mem_replicate hx]; rfl
    ·rw [List.mem_singleton.1 hx]; rfl
  ·rfl
 ·rfl
theorem shape_info : (Tryz.prog.info? 149).map (fun i => (i.zero, i.size, i.bytes)) = some (some (.slice none 0 0), 1, 24) := by kernel_rfl
theorem shape_made (n : Nat) (hn : n ≤ 1000) (w : World) : (Instr.makeSlice 104 (.int .i64 (n : Int)) (.int .i64 (n : Int))).run Tryz.prog w = .ok (.slice (some ⟨w.heap.size, 0, none⟩) n n) (w.alloc (.cells (madeCells #[.slice none 0 0] n) 149)) := by
 obtain ⟨i, hi, hz, hs, hb⟩ := info_parts shape_info;have h := run_make (P := Tryz.prog) w 104 149 i _ Tryz.underlying104 hi hz .i64 .i64 n n (by omega) (by omega) (by rw [hb]; omega) (by omega)
 simpa [hs, Value.cells] using h
open Go.RowKit
section
variable {σ : Type} (f : Chg σ) (s0 : σ) (S : Shp)
def wSR (r : Nat) : σ := (chgS f s0 (S.take r)).1
def wSK (r k : Nat) : σ × List (List Ent) := chgN f (wSR f s0 S r) ((rowA S r).take k)
def wL (r k : Nat) : List Ent := nodeAt (rowA S r) k
def wSJ (r k j : Nat) : σ × List Ent := accL f (wSK f s0 S r k).1 ((wL S r k).take j)
def wRT (r k : Nat) : Nat → List (List Ent) := fun q => if q < r then rowA (chgS f s0 S).2 q else if q = r then (wSK f s0 S r k).2 else []
theorem chgS_at {r : Nat} (h : r < S.length) : rowA (chgS f s0 S).2 r = (chgN f (wSR f s0 S r) (rowA S r)).2 ∧ wSR f s0 S (r + 1) = (chgN f (wSR f s0 S r) (rowA S r)).1 := by
 have e := accL_take (chgN f) s0 S h;refine ⟨?_, by unfold wSR chgS; rw [e, rowA_at h]⟩
 have key : ∀ k, r < k → k ≤ S.length → rowA (accL (chgN f) s0 (S.take k)).2 r = (chgN f (wSR f s0 S r) (rowA S r)).2 := fun k => by
  induction k with
  | zero => intro h; omega
  | succ k ih =>
    intro h1 h2;rw [accL_take (chgN f) s0 S (show k < S.length by omega)]
    have hl : (accL (chgN f) s0 (S.take k)).2.length = k := by rw [accL_len, List.length_take]; omega
    by_cases hk : k = r
    ·subst hk
     unfold rowA at *;rw [List.getElem?_append_right (by omega), hl, Nat.sub_self, List.getElem?_eq_getElem h];rfl
    ·have h3 := ih (by omega) (by omega)
     unfold rowA at h3 ⊢;rw [List.getElem?_append_left (by omega)];exact h3
 have := key S.length h (Nat.le_refl _);rw [List.take_length] at this;exact this
theorem wSK_all {r : Nat} (h : r < S.length) : wSR f s0 S (r + 1) = (wSK f s0 S r (rowA S r).length).1 := by
 unfold wSK; rw [List.take_length]; exact (chgS_at f s0 S h).2
theorem wSK_succ {r k : Nat} (h : k < (rowA S r).length) : wSK f s0 S r (k + 1) = ((wSJ f s0 S r k (wL S r k).length).1, (wSK f s0 S r k).2 ++ [(wSJ f s0 S r k (wL S r k).length).2]) := by
 unfold wSK wSJ wL nodeAt chgN;rw [accL_take _ _ _ h, List.take_length, List.getElem?_eq_getElem h];rfl
theorem wSJ_succ {r k j : Nat} (h : j < (wL S r k).length) : wSJ f s0 S r k (j + 1) = ((f (wSJ f s0 S r k j).1 (eat (wL S r k) j)).1, (wSJ f s0 S r k j).2 ++ [(f (wSJ f s0 S r k j).1 (eat (wL S r k) j)).2]) := by
 unfold wSJ; rw [accL_take _ _ _ h, eat_eq h]
theorem wSJ_len {r k j : Nat} (h : j ≤ (wL S r k).length) : (wSJ f s0 S r k j).2.length = j := by unfold wSJ; rw [accL_len, List.length_take]; omega
theorem wRT_push {r k : Nat} (h : k < (rowA S r).length) : ∀ q, wRT f s0 S r (k + 1) q = if q = r then wRT f s0 S r k r ++ [(wSJ f s0 S r k (wL S r k).length).2] else wRT f s0 S r k q := by
 intro q;unfold wRT;by_cases e : q = r
 ·subst e
  rw [if_neg (by omega), if_pos rfl, if_pos rfl, if_neg (by omega), if_pos rfl, wSK_succ f s0 S h]
 ·rw [if_neg e, if_neg e, if_neg e]
theorem wRT_next {r : Nat} (h : r < S.length) : wRT f s0 S (r + 1) 0 = wRT f s0 S r (rowA S r).length := by
 funext q
 unfold wRT;by_cases e : q = r
 ·subst e
  rw [if_pos (by omega), if_neg (by omega), if_pos rfl, (chgS_at f s0 S h).1];unfold wSK; rw [List.take_length]
 ·by_cases h1 : q < r
  ·rw [if_pos (by omega), if_pos h1]
  ·rw [if_neg (by omega), if_neg h1, if_neg e]
   split <;> rfl
theorem wRT_zero : wRT f s0 S 0 0 = fun _ => [] := by
 funext q; unfold wRT; rw [if_neg (by omega)]; split <;> rfl
theorem wRT_all : wRT f s0 S S.length 0 = rowA (chgS f s0 S).2 := by
 funext q; unfold wRT
 by_cases h : q < S.length
 ·rw [if_pos h]
 ·rw [if_neg h, rowA_none (by rw [chgS_len]; omega)]; split <;> rfl
theorem wSR_all : wSR f s0 S S.length = (chgS f s0 S).1 := by unfold wSR; rw [List.take_length]
theorem wL_at {r k : Nat} (h : k < (rowA S r).length) : wL S r k = (rowA S r)[k] := by unfold wL nodeAt; rw [List.getElem?_eq_getElem h]; rfl
end
theorem shp_ext {S T : Shp} (h : S.length = T.length) (hr : ∀ q, rowA S q = rowA T q) : S = T := by
 apply List.ext_getElem h
 intro i h1 h2;have := hr i;rw [rowA_at h1, rowA_at h2] at this;exact this
structure Turner {σ : Type} (f : Chg σ) (fn : Nat) (caps : Array Value) (I : σ → World → Prop) (C B : Nat) : Prop where
 ent : ∀ args w, (callFunc fn args).run Tryz.prog w = .ok (.enter fn args) w
 call : ∀ s x W, B ≤ W.heap.size → (I64 x.log ∧ I64 x.phys ∧ I64 x.len) → I s W → Calls Tryz.prog fn (#[entV x] ++ caps) W fun e W' => e = .returned (entV (f s x).2) ∧ I (f s x).1 W' ∧ Turns noTree C W W'
 keep : ∀ s W W', B ≤ W.heap.size → I s W → Leaves isTree B W W' → I s W'
structure WAt {σ : Type} (I : σ → World → Prop) (C : Nat) (w : World) (G n : Nat) (s : σ) (R : Nat → List (List Ent)) (wr : World) : Prop where
 shp : ∃ Sq V, Sq.length = n ∧ (∀ q, rowA Sq q = R q) ∧ ShpAt (EntsAt w.heap.size) w.heap.size G Sq V wr
 inv : I s wr
 tr : Turns noTree C w wr
theorem push_out {P : Value → List Ent → World → Prop} {B G : Nat} {S : Shp} {V : Nat → Value} {w : World} {row : Nat} (hBw : B ≤ w.heap.size) (h : ShpAt P B G S V w) (hr : row < S.length) (hn : (rowA S row).length ≤ 1000000) {l : List Ent} {lv : Value} (hl : P lv l w) (hone : lv.oneCell' = true) :
 w.cell? ⟨G, row, none⟩ = some (V row) ∧ ∃ v' w2, (∃ av cv, v' = .slice av ((rowA S row).length + 1) cv) ∧ (Builtin.append_ #[149, 149] 149 #[V row, .slice (some ⟨w.heap.size, 0, none⟩) 1 1]).run Tryz.prog (w.alloc (.cells #[lv] 22)) = .ok v' w2 ∧
  w2.cell? ⟨G, row, none⟩ = some (V row) ∧ w2.frozen? ⟨G, row, none⟩ = false ∧
  ShpAt P B G (pushA S row l) (upd V row v') (w2.setCell ⟨G, row, none⟩ v') ∧ Leaves isTree B w (w2.setCell ⟨G, row, none⟩ v') := by
 have ba : Below w.heap.size w (w.alloc (.cells #[lv] 22)) := balloc1 _ _;have ha := h.kept ba;have hsz := ba.size;have hla := h.le _ _ _ _ hl (Grows.of_below ba);obtain ⟨Vs, v1, v2, v3⟩ := ha.rows row hr;obtain ⟨v', w2, hrun, k1, g, st⟩ := pushS_run (w.alloc (.cells #[lv] 22)) B 149 22 149 (.slice none 0 0) 24 Tryz.underlying149 rows_info (by rfl) (by decide) (V row) (rowA S row).length Vs hn v2 w lv rfl hone (by omega);obtain ⟨p1, p2⟩ := ha.push hr v1 v2 v3 hla k1 g st;have eG : w2.heap[G]? = (w.alloc (.cells #[lv] 22)).heap[G]? := g.block G ha.cells.1 fun e => absurd (ty_one ha.ty (own_ty v2 e.symm).1) (by decide);have c2 : CellsAt G S.length V w2 := ha.cells.eq_block g.size eG;have h3 := h.rows row hr;obtain ⟨Us, u1, u2, u3⟩ := h3;refine ⟨(h.cells.2 row hr).1, v', w2, (by obtain ⟨av, cv, e, -⟩ := shape_of k1; exact ⟨av, cv, e⟩), hrun, (c2.2 row hr).1, (c2.2 row hr).2, p1, ⟨?_, ?_, ?_, by have := p2.size; omega, fun k hk => ?_⟩⟩
 ·exact p2.os
 ·exact p2.tape
 ·exact p2.output
 ·by_cases hG : k = G
  ·subst hG; exact .inr ⟨h.big, _, .inr (.inr rfl), h.ty⟩
  ·by_cases hq : (V row).ownBlock = some k
   ·obtain ⟨t1, t2, t3⟩ := own_ty u2 hq
    exact .inr ⟨t3, _, .inr (.inl rfl), t1⟩
   ·refine .inl ?_
    rw [Below.heap_setCell w2 ⟨G, row, none⟩ v' k hG, g.block k (by omega) (fun e => hq e.symm)];exact ba.block k hk
theorem fkwith_any {σ : Type} (f : Chg σ) (fn : Nat) (caps : Array Value) (I : σ → World → Prop) (C : Nat) (w : World) (hT : Turner f fn caps I C w.heap.size) (S : Shp) (hS : SmallS S) (hn : ∀ r, ∀ x ∈ rowA S r, x.length ≤ 1000000 ∧ fitE x) (v : Value) (hv : ShapeT (frC C) v S w) (s0 : σ) (h0 : I s0 w) :
 Calls Tryz.prog 60 #[v, .func (.func fn) #[] caps] w fun e w' => ∃ G V, e = .returned (.slice (some ⟨G, 0, none⟩) S.length S.length) ∧ ShpAt (EntsAt w.heap.size) w.heap.size G (chgS f s0 S).2 V w' ∧ I (chgS f s0 S).1 w' ∧ Turns noTree C w w' := by
 have hent := hT.ent;have HT := Lib.hid hT;obtain ⟨ad, cap, rfl, c1, c2, hc⟩ := hv.cells;have HC := Lib.hid hc;obtain ⟨h1000, hS2⟩ := hS;have HS2 := Lib.hid hS2
 have HN : Hid (∀ r k, k < (rowA S r).length → (wL S r k).length ≤ 1000000 ∧ fitE (wL S r k)) := Lib.hid fun r k hk => by rw [wL_at S hk]; exact hn r _ (List.getElem_mem hk)
 have hmk := shape_made S.length h1000 w;have hst := shape_start w S.length (P := EntsAt w.heap.size) (B := w.heap.size) (keeps_own _ _) (Nat.le_refl _);have hb1 : Below w.heap.size w (w.alloc (.cells (madeCells #[.slice none 0 0] S.length) 149)) := balloc1 _ _;generalize w.alloc (.cells (madeCells #[.slice none 0 0] S.length) 149) = w1 at *;have HW1 : Hid (WAt I C w w.heap.size S.length (wSR f s0 S 0) (wRT f s0 S 0 0) w1) := Lib.hid ⟨⟨_, _, List.length_replicate, fun q => by rw [wRT_zero, rowA_repl], hst⟩, hT.keep _ _ _ (Nat.le_refl _) h0 (Leaves.of_below hb1), Turns.of_below hb1⟩;have HE1 : Hid (∀ r, r < S.length → wSR f s0 S (r + 1) = (wSK f s0 S r (rowA S r).length).1) := Lib.hid fun r h => wSK_all f s0 S h;have HE2 : Hid (∀ r k, k < (rowA S r).length → wSK f s0 S r (k + 1) = ((wSJ f s0 S r k (wL S r k).length).1, (wSK f s0 S r k).2 ++ [(wSJ f s0 S r k (wL S r k).length).2])) := Lib.hid fun r k h => wSK_succ f s0 S h;have HE3 : Hid (∀ r k j, j < (wL S r k).length → wSJ f s0 S r k (j + 1) = ((f (wSJ f s0 S r k j).1 (eat (wL S r k) j)).1, (wSJ f s0 S r k j).2 ++ [(f (wSJ f s0 S r k j).1 (eat (wL S r k) j)).2])) := Lib.hid fun r k j h => wSJ_succ f s0 S h;have HB0 := Lib.hid hb1;clear hv hc hT h0 hS2 hn hst hb1;obtain ⟨m, hm⟩ : ∃ m, S.length = m := ⟨_, rfl⟩;have HM := Lib.hid hm;rw [hm] at hmk HW1 c1 h1000 ⊢;clear hm
 go_enter Tryz.func60, Tryz.ntmps60
 go_wp2
 go_loopw [6, 7, 9, 10, 12, 18] (fun q6 q7 q9 q10 q12 p wr => ∃ r : Nat, p = .int .i64 (r : Int) ∧ r ≤ m ∧ Hid (WAt I C w w.heap.size m (wSR f s0 S r) (wRT f s0 S r 0) wr)) (fun _ _ _ _ _ p _ => m - (intOf p).toNat)
 case atStart => exact ⟨0, rfl, Nat.zero_le _, HW1⟩
 case round =>
  obtain ⟨r, rfl, hr, HW⟩ := hrel;clear HW1 hmk;by_cases hlt : r < m
  ·obtain ⟨g, o, u, rfl, hcell, hnod⟩ := HC.out r (by rw [HM.out]; exact hlt)
   have hwt := HW.out.tr;have k0 := hcell wr hwt;rw [← rowA_at (by rw [HM.out]; exact hlt)] at hnod;obtain ⟨a1, cp1, rfl, d1, d2, hcr⟩ := hnod.cells;have HCR := Lib.hid hcr;have hrl := (HS2.out r).1;have HWK : Hid (WAt I C w w.heap.size m (wSK f s0 S r 0).1 (wRT f s0 S r 0) wr) := HW;obtain ⟨M, hM⟩ : ∃ M, (rowA S r).length = M := ⟨_, rfl⟩;have HML := Lib.hid hM;have HEr := Lib.hid (HE1.out r (by rw [HM.out]; exact hlt));rw [hM] at hrl d1 k0 HEr;clear hcell hnod hcr hM hwt HW;go_wp2
   go_loopw [9, 10, 12, 25] (fun q9 q10 q12 p wz => ∃ k : Nat, p = .int .i64 (k : Int) ∧ k ≤ M ∧ Hid (WAt I C w w.heap.size m (wSK f s0 S r k).1 (wRT f s0 S r k) wz)) (fun _ _ _ p _ => M - (intOf p).toNat)
   case atStart => exact ⟨0, rfl, Nat.zero_le _, HWK⟩
   case round =>
    obtain ⟨wz, hren⟩ : ∃ x, x = wr := ⟨_, rfl⟩;subst hren;obtain ⟨k, rfl, hk, HW⟩ := hrel;clear HWK;by_cases hkl : k < M
    ·obtain ⟨g2, o2, u2, rfl, hcell2, hents⟩ := HCR.out k (by rw [HML.out]; exact hkl)
     have hwt := HW.out.tr;have k2 := hcell2 wz hwt;rw [← wL_at S (by rw [HML.out]; exact hkl)] at hents;obtain ⟨a3, cp3, rfl, -⟩ := entsIn_cells hents.now;have hnl := (HN.out r k (by rw [HML.out]; exact hkl)).1;have HFT := Lib.hid (HN.out r k (by rw [HML.out]; exact hkl)).2;have HENT := Lib.hid hents;have HEk := Lib.hid (HE2.out r k (by rw [HML.out]; exact hkl));have HEj := Lib.hid (HE3.out r k);have HLJ : Hid (∀ j, j ≤ (wL S r k).length → (wSJ f s0 S r k j).2.length = j) := Lib.hid fun j hj => wSJ_len f s0 S hj;have HWS := HW.out.tr.size;obtain ⟨w3, hmk3, hown3, b3⟩ := room_run (T := 22) (e := 31) Tryz.underlying22 entry_info (wL S r k).length hnl wz;have HO3 : Hid (EntsAt wz.heap.size (.slice (some ⟨wz.heap.size, 0, none⟩) 0 (wL S r k).length) (wSJ f s0 S r k 0).2 w3) := Lib.hid hown3;have HI3 : Hid (I (wSJ f s0 S r k 0).1 w3) := Lib.hid (HT.out.keep _ _ _ HWS HW.out.inv (Leaves.of_below b3));have HT3 : Hid (Turns noTree C wz w3) := Lib.hid (Turns.of_below b3);have HRP := Lib.hid (wRT_push f s0 S (r := r) (k := k) (by rw [HML.out]; exact hkl));obtain ⟨N, hN⟩ : ∃ N, (wL S r k).length = N := ⟨_, rfl⟩;have HNL := Lib.hid hN;rw [hN] at hnl hmk3 HO3 HEk HLJ HRP k2;clear hcell2 hents hwt hown3 b3 hN;go_wp2
     go_loopw [10, 12, 34] (fun cv q12 p wy => ∃ j : Nat, p = .int .i64 (j : Int) ∧ j ≤ N ∧ Hid (EntsAt wz.heap.size cv (wSJ f s0 S r k j).2 wy) ∧ Hid (I (wSJ f s0 S r k j).1 wy) ∧ Hid (Turns noTree C wz wy)) (fun _ _ p _ => N - (intOf p).toNat)
     case atStart => exact ⟨0, rfl, Nat.zero_le _, HO3, HI3, HT3⟩
     case round =>
      obtain ⟨wy, hren⟩ : ∃ x, x = wr := ⟨_, rfl⟩;subst hren;obtain ⟨j, rfl, hj, HO, HI, HTR⟩ := hrel;clear HO3 HI3 HT3 hmk3;by_cases hjl : j < N
      ·have hwy := HTR.out.size
       obtain ⟨ad5, cp5, eqv, -, -, u3, -⟩ := entsIn_cells (HENT.out wy (HW.out.tr.trans HTR.out))
       injection eqv with q1 q2 q3
       obtain ⟨gu, ou, q4, -, u4⟩ := u3 (by rw [HNL.out]; omega);rw [q4] at q1;subst q1;obtain ⟨e1, e2, e3⟩ := u4 _ (Below.refl _ _) j (by rw [HNL.out]; exact hjl);have hfx := fitE_at HFT.out (show j < (wL S r k).length by rw [HNL.out]; exact hjl);have HX := Lib.hid (HEj.out j (by rw [HNL.out]; exact hjl));have hln := HLJ.out j hj;have HLN := Lib.hid hln;clear u3 u4 q2 q3 q4 hln;generalize eat (wL S r k) j = x at *;have hb5 : Below wy.heap.size wy (wy.alloc (.cells (entC x) 31)) := balloc1 _ _;have HC5 := Lib.hid (HT.out.call (wSJ f s0 S r k j).1 x (wy.alloc (.cells (entC x) 31)) (by rw [size_alloc]; omega) hfx (HT.out.keep _ _ _ (by omega) HI.out (Leaves.of_below hb5)));have HO5 := Lib.hid (HO.out.alloc (.cells (entC x) 31));have HT5 := Lib.hid (HTR.out.alloc (.cells (entC x) 31));obtain ⟨xa, xp, xz⟩ := x;dsimp only at e1 e2 e3;clear HO HI HTR hb5 hfx;go_wp2_with fail
       refine HC5.out.mono ?_; rintro e w6 ⟨rfl, hI6, ht6⟩;have HI6 := Lib.hid hI6;have HO6 := Lib.hid (ht6.row HO5.out noTree_e);have HT6 := Lib.hid (HT5.out.trans ht6);have hw6 := HT6.out.size;have HX2 := HX;clear HC5 HO5 HT5 hI6 ht6 e1 e2 e3;generalize (f (wSJ f s0 S r k j).1 ⟨xa, xp, xz⟩).2 = y at *;obtain ⟨ya, yp, yz⟩ := y
       go_wp2_with (at_builtin; refine wpList_appE rfl _ _ 22 31 rfl Tryz.underlying22 entry_info wz.heap.size _ (wSJ f s0 S r k j).2 rfl ?_ _ [⟨ya, yp, yz⟩] rfl ?_ ?_ ?_ ?_)
       ·exact HO6.out.alloc _
       ·exact one_in w6 ⟨ya, yp, yz⟩ 31
       ·rw [HLN.out]; show _ + 1 ≤ _; omega
       ·rw [size_alloc]; omega
       intro v' w7 h7 g7;have HO7 : Hid (EntsAt wz.heap.size v' (wSJ f s0 S r k (j + 1)).2 w7) := Lib.hid (by rw [HX.out]; exact ents_snoc h7);have L7 : Leaves isTree wz.heap.size (w6.alloc (.cells (entC ⟨ya, yp, yz⟩) 31)) w7 := Leaves.grown (.inl rfl) (HO6.out.alloc _) (Nat.le_refl _) g7;have HT7 : Hid (Turns noTree C wz w7) := Lib.hid ((HT6.out.alloc _).behindL L7 (Nat.le_refl _))
       have HI7 : Hid (I (wSJ f s0 S r k (j + 1)).1 w7) := Lib.hid (by
        rw [HX.out];refine HT.out.keep _ _ _ (by rw [size_alloc]; omega) (HT.out.keep _ _ _ (by omega) HI6.out (Leaves.of_below (balloc1 w6 (.cells (entC ⟨ya, yp, yz⟩) 31)))) ?_
        exact ⟨L7.os, L7.tape, L7.output, L7.size, fun q hq => (L7.block q hq).imp id fun ⟨a, b⟩ => ⟨by omega, b⟩⟩)
       clear h7 g7 L7 HO6 HT6 HI6 HX HX2;go_wp2;exact ⟨⟨j + 1, by go_num, by omega, HO7, HI7, HT7⟩, by simp [intOf]; omega⟩
      ·obtain rfl : j = N := by omega
       obtain ⟨Sq, V, s1, s2, s3⟩ := HW.out.shp;have s4 := s3.turns HTR.out fun v x w w' => own_turns v x w w';have hwy := HTR.out.size;obtain ⟨av, cv, rfl, -⟩ := entsIn_cells (entsAt_in HO.out)
       have hrl2 : (rowA Sq r).length ≤ 1000000 := by
        rw [s2, wRT, if_neg (by omega), if_pos rfl]
        show (accL _ _ _).2.length ≤ _
        rw [accL_len, List.length_take]; omega
       obtain ⟨Vs, -, v2, -⟩ := s4.rows r (by omega);obtain ⟨p1, v', w8, ⟨va, vc, rfl⟩, p2, p3, p4, p5, p6⟩ := push_out (by omega) s4 (row := r) (by omega) hrl2 (l := (wSJ f s0 S r k j).2) (row_down HWS HO.out) rfl;obtain ⟨ra, rc, e8, r1, r2, -⟩ := shape_of v2;rw [e8] at p1 p2 p3;have HR8 := Lib.hid p2
       have HN8 : Hid (WAt I C w w.heap.size m (wSK f s0 S r (k + 1)).1 (wRT f s0 S r (k + 1)) (w8.setCell ⟨w.heap.size, r, none⟩ (.slice va ((rowA Sq r).length + 1) vc))) := Lib.hid ⟨⟨_, _, (pushA_len _ _ _).trans s1, fun q => by
        rw [HRP.out q];by_cases e : q = r
        ·subst e; rw [rowA_push (by omega), if_pos rfl, s2]
        ·rw [rowA_push_ne _ e, if_neg e, s2], p5⟩, by
        rw [HEk.out]
        exact HT.out.keep _ _ _ (by omega) HI.out p6, (HW.out.tr.trans HTR.out).behindL p6 (Nat.le_refl _)⟩
       have r2 : rc ≤ 9223372036854775807 := r2;have hsq : Sq.length = m := s1;clear p2 p5 p6 s2 s3 s4 v2 e8 HO HI HTR hsq s1
       go_wp2_with (at_builtin; refine Lib.wpList_append_run _ rfl _ _ _ _ rfl _ _ rfl rfl _ _ HR8.out ?_)
       go_wp2;exact ⟨⟨k + 1, by go_num, by omega, HN8⟩, by simp [intOf]; omega⟩
    ·obtain rfl : k = M := by omega
     have HN9 : Hid (WAt I C w w.heap.size m (wSR f s0 S (r + 1)) (wRT f s0 S (r + 1) 0) wz) := Lib.hid (by
      rw [HEr.out, wRT_next f s0 S (by rw [HM.out]; exact hlt), HML.out]; exact HW.out)
     clear HW;go_wp2;exact ⟨⟨r + 1, by go_num, by omega, HN9⟩, by simp [intOf]; omega⟩
  ·obtain rfl : r = m := by omega
   obtain ⟨Sq, V, s1, s2, s3⟩ := HW.out.shp
   have HEND : Hid (ShpAt (EntsAt w.heap.size) w.heap.size w.heap.size (chgS f s0 S).2 V wr) := Lib.hid (by
    have : Sq = (chgS f s0 S).2 := shp_ext (by rw [chgS_len, s1, HM.out]) fun q => by rw [s2, ← wRT_all, HM.out]
    rw [← this]; exact s3)
   have HI9 : Hid (I (chgS f s0 S).1 wr) := Lib.hid (by rw [← wSR_all, HM.out]; exact HW.out.inv);have HT9 := Lib.hid HW.out.tr;clear s1 s2 s3 HW;go_wp2;go_ret;exact ⟨_, _, rfl, HEND.out, HI9.out, HT9.out⟩
open Go.RowKit
theorem hdr_info : (Tryz.prog.info? 22).map (fun i => (i.zero, i.size, i.bytes)) = some (some (.slice none 0 0), 1, 24) := by kernel_rfl
theorem row_info : (Tryz.prog.info? 149).map (fun i => (i.zero, i.size, i.bytes)) = some (some (.slice none 0 0), 1, 24) := by kernel_rfl
theorem wpList_one {ops : Array Oper} {rest : List Oper} {o : Oper} {a : Act} {Q : Exit → Act → World → Prop} {w : World} (hgd : o.guard = none) (s x : Operand) (T e : TypeId)
 (ho : o.op = .call { callee := .builtin .append, args := #[s, x], argTypes := #[T, T] }) (ht : Tryz.prog.underlying T = some (.slice e)) (hinf : (Tryz.prog.info? e).map (fun i => (i.zero, i.size, i.bytes)) = some (some (.slice none 0 0), 1, 24))
 (base : Nat) (v : Value) (n : Nat) (xs : List Value) (hs : a.eval s = v) (hown : w.ownsRow base e 1 v n xs) (ad : Addr) (m c : Nat) (news : List Value) (hx : a.eval x = .slice (some ad) m c) (hl : news.length = m)
 (hnews : ∀ j u, news[j]? = some u → w.cell? (ad.add j) = some u) (h1 : ∀ u ∈ news, u.oneCell' = true) (hlen : n + m ≤ 4000000) (hbase : base ≤ w.heap.size)
 (h : ∀ v' w', w'.ownsRow base e 1 v' (n + m) (xs ++ news) → w.grownBy w' v.ownBlock → wpList Tryz.prog ops Q rest (a.put o.dst v') w') : wpList Tryz.prog ops Q (o :: rest) a w := by
 obtain ⟨i0, hi, hz0, hz1, hz2⟩ := info_parts hinf;refine wpList_append_own w hgd s x T ho base e i0 (.slice none 0 0) 1 24 ht hi hz0 hz1 hz2 rfl (by decide) v n xs hs hown ad m c news hx (by omega) hnews h1 (by unfold maxLen; omega) (by omega) hbase ?_;intro v' w' h1 h2 _;exact h v' w' h1 h2
theorem one_cell (w : World) (u : Value) (t : TypeId) : ∀ (j : Nat) (x : Value), [u][j]? = some x → (w.alloc (.cells #[u] t)).cell? ((⟨w.heap.size, 0, none⟩ : Addr).add j) = some x := by
 intro j x hj;rw [add_at, Nat.zero_add, World.cell?_alloc_mark]
 simpa using hj
theorem room_rows (n : Nat) (hn : n ≤ 1000000) (W : World) :
 ∃ w', (Instr.makeSlice 149 (.int .i64 0) (.int .i64 (n : Int))).run Tryz.prog W = .ok (.slice (some ⟨W.heap.size, 0, none⟩) 0 n) w' ∧ w'.ownsRow W.heap.size 22 1 (.slice (some ⟨W.heap.size, 0, none⟩) 0 n) 0 [] ∧ Below W.heap.size W w' := by
 obtain ⟨i, hi, hz, hs, hb⟩ := info_parts hdr_info;obtain ⟨w', hr, ho, hg⟩ := run_make_own (P := Tryz.prog) (w := W) W.heap.size 149 22 i _ 1 Tryz.underlying149 hi hz hs .i64 .i64 n (by rw [hb]; omega) (by unfold maxLen; omega) (Nat.le_refl _);exact ⟨w', hr, ho, (Below.refl _ _).grown hg (Nat.le_refl _) (fun k hk => by cases hk)⟩
theorem StRows.take {α : Type} {P : Value → α → World → Prop} {C : Fr} {ad : Option Addr} {L : List α} {cap : Nat} {w : World} (h : StRows P C (.slice ad L.length cap) L w) {k : Nat} (hk : k ≤ L.length) (hc : cap ≤ maxLen) : StRows P C (.slice ad k cap) (L.take k) w := by
 obtain ⟨Vs, h1, h2, h3⟩ := h;refine ⟨Vs.take k, by rw [List.length_take, List.length_take]; omega, fun w' g => ?_, fun j a b => ?_⟩
 ·obtain ⟨k0, ad', cap', e, k1, k2, k3, k4⟩ := h2 w' g
  cases e
  refine ⟨by rw [List.length_take, List.length_take]; omega, ad, cap, by rw [List.length_take, Nat.min_eq_left hk], by rw [List.length_take]; omega, k2, fun hp => ?_, k4⟩;rw [List.length_take] at hp;obtain ⟨g', o', e, hg, hcx⟩ := k3 (by omega);refine ⟨g', o', e, hg, fun j u hj => ?_⟩;have hj2 := (List.getElem?_eq_some_iff.1 hj).1;rw [List.length_take] at hj2;rw [List.getElem?_take_of_lt (by omega)] at hj;exact hcx j u hj
 ·rw [List.getElem_take, List.getElem_take]
  exact h3 j (by rw [List.length_take] at a; omega) (by rw [List.length_take] at b; omega)
theorem StRows.drop {α : Type} {P : Value → α → World → Prop} {C : Fr} {g o : Nat} {L : List α} {cap : Nat} {w : World} (h : StRows P C (.slice (some ⟨g, o, none⟩) L.length cap) L w) {k : Nat} (hk : k ≤ L.length) (hc : cap ≤ maxLen) (hkc : k ≤ cap) : StRows P C (.slice (some ⟨g, o + k, none⟩) (L.length - k) (cap - k)) (L.drop k) w := by
 obtain ⟨Vs, h1, h2, h3⟩ := h;refine ⟨Vs.drop k, by rw [List.length_drop, List.length_drop]; omega, fun w' gg => ?_, fun j a b => ?_⟩
 ·obtain ⟨k0, ad', cap', e, k1, k2, k3, k4⟩ := h2 w' gg
  cases e
  refine ⟨by rw [List.length_drop, List.length_drop]; omega, _, cap - k, by rw [List.length_drop], by rw [List.length_drop]; omega, by unfold maxLen at *; omega, fun hp => ?_, fun e => by cases e⟩;rw [List.length_drop] at hp;obtain ⟨g', o', e, hg, hcx⟩ := k3 (by omega)
  cases e
  refine ⟨g, o + k, rfl, hg, fun j u hj => ?_⟩;rw [List.getElem?_drop] at hj;rw [Nat.add_assoc]; exact hcx _ u hj
 ·rw [List.getElem_drop, List.getElem_drop]
  exact h3 (k + j) (by rw [List.length_drop] at a; omega) (by rw [List.length_drop] at b; omega)
theorem EntsT.take {C : Fr} {ad : Option Addr} {L : List Ent} {n cap : Nat} {w : World} (hn : n = L.length) (h : EntsT C (.slice ad n cap) L w) {k : Nat} (hk : k ≤ L.length) : EntsT C (.slice ad k cap) (L.take k) w := fun w' g => by
 subst hn;obtain ⟨k0, ad', cap', e, k1, k2, k3, k4⟩ := h w' g
 cases e
 refine ⟨cellsE_length _, ad, cap, by rw [List.length_take, Nat.min_eq_left hk], by rw [List.length_take]; omega, k2, fun hp => ?_, k4⟩;rw [cellsE_length, List.length_take] at hp;obtain ⟨g', o', e, hg, hcx⟩ := k3 (by rw [cellsE_length]; omega);refine ⟨g', o', e, hg, fun j u hj => hcx j u ?_⟩
 have h1 : cellsE L = cellsE (L.take k) ++ cellsE (L.drop k) := by rw [← cellsE_append, List.take_append_drop]
 rw [h1, List.getElem?_append_left (List.getElem?_eq_some_iff.1 hj).1]; exact hj
theorem EntsT.drop {C : Fr} {g o : Nat} {L : List Ent} {n cap : Nat} {w : World} (hn : n = L.length) (h : EntsT C (.slice (some ⟨g, o, none⟩) n cap) L w) {k c : Nat} (hk : k ≤ L.length) (hc : L.length - k ≤ c) (hcc : c ≤ maxLen) : EntsT C (.slice (some ⟨g, o + k * 3, none⟩) (L.length - k) c) (L.drop k) w := fun w' gg => by
 subst hn;obtain ⟨k0, ad', cap', e, k1, k2, k3, k4⟩ := h w' gg
 cases e
 refine ⟨cellsE_length _, _, c, by rw [List.length_drop], by rw [List.length_drop]; omega, hcc, fun hp => ?_, fun e => by cases e⟩;rw [cellsE_length, List.length_drop] at hp;obtain ⟨g', o', e, hg, hcx⟩ := k3 (by rw [cellsE_length]; omega)
 cases e
 refine ⟨g, o + k * 3, rfl, hg, fun j u hj => ?_⟩;rw [Nat.add_assoc];refine hcx _ u ?_
 have h1 : cellsE L = cellsE (L.take k) ++ cellsE (L.drop k) := by rw [← cellsE_append, List.take_append_drop]
 rw [h1, List.getElem?_append_right (by rw [cellsE_length, List.length_take, Nat.min_eq_left hk]; omega), cellsE_length, List.length_take, Nat.min_eq_left hk, Nat.add_sub_cancel_left];exact hj
open Go.RowKit
def HdrIn (v : Value) (L : List Value) (w : World) : Prop := RowIn 1 v L.length L w
theorem hdr_kept {v : Value} {L : List Value} {w w' : World} (h : HdrIn v L w) (b : Below w.heap.size w w') : HdrIn v L w' := RowIn.kept h b
theorem hdr_shape {v : Value} {L : List Value} {w : World} (h : HdrIn v L w) : ∃ ad cap, v = .slice ad L.length cap ∧ L.length ≤ cap ∧ cap ≤ 9223372036854775807 ∧ (0 < L.length → ∃ g o, ad = some ⟨g, o, none⟩ ∧ g < w.heap.size ∧ ∀ (k : Nat) (u : Value), L[k]? = some u → w.cell? ⟨g, o + k, none⟩ = some u) := by
 obtain ⟨ad, cap, rfl, h1, h2, h3, -⟩ := RowIn.shape h
 exact ⟨ad, cap, rfl, h1, h2, fun hp => by
  obtain ⟨g, o, e, hg, hc⟩ := h3 (by omega)
  exact ⟨g, o, e, hg, hc⟩⟩
theorem append_none_own {w : World} {base : Nat} {v : Value} {L : List Value} {e : TypeId} (h : w.ownsRow base e 1 v L.length L) : w.ownsRow base e 1 v (L.length + 0) (L ++ []) := by simpa using h
theorem wpList_hdrs {ops : Array Oper} {rest : List Oper} {o : Oper} {a : Act} {Q : Exit → Act → World → Prop} {w : World} (hgd : o.guard = none) (s x : Operand)
 (ho : o.op = .call { callee := .builtin .append, args := #[s, x], argTypes := #[149, 149] })
 (base : Nat) (v : Value) (L : List Value) (hs : a.eval s = v) (hown : w.ownsRow base 22 1 v L.length L) (u : Value) (N : List Value) (hx : a.eval x = u) (hu : HdrIn u N w) (h1 : ∀ y ∈ N, y.oneCell' = true) (hlen : L.length + N.length ≤ 4000000) (hbase : base ≤ w.heap.size)
 (h : ∀ v' w', w'.ownsRow base 22 1 v' (L.length + N.length) (L ++ N) → w.grownBy w' v.ownBlock → wpList Tryz.prog ops Q rest (a.put o.dst v') w') : wpList Tryz.prog ops Q (o :: rest) a w := by
 obtain ⟨ad, cap, rfl, a1, a2, a3, a4⟩ := RowIn.shape hu
 cases ad with
 | none =>
   have hc := a4 rfl;subst hc;have hm : N = [] := List.eq_nil_of_length_eq_zero (by omega);subst hm;obtain ⟨i0, hi, hz0, hz1, hz2⟩ := info_parts hdr_info;refine wpList_append_own_none hgd s x _ ho base _ i0 1 Tryz.underlying149 hi v _ _ hs hown hx (h v w ?_ ⟨rfl, rfl, rfl, Nat.le_refl _, fun _ _ _ => rfl⟩);exact append_none_own hown
 | some ad =>
   refine wpList_one hgd s x _ _ ho Tryz.underlying149 hdr_info base v L.length L hs hown ad N.length cap N hx rfl (fun j y hj => ?_) h1 hlen hbase h;have hlt := (List.getElem?_eq_some_iff.1 hj).1;obtain ⟨g, o2, e, _, hcx⟩ := a3 (by omega)
   cases e
   rw [add_at]; exact hcx j y hj
def flatV (S : List (List Value)) (k : Nat) : List Value := (S.take k).flatten
theorem flatV_succ {S : List (List Value)} {k : Nat} (h : k < S.length) : flatV S (k + 1) = flatV S k ++ S[k] := by
 unfold flatV;rw [← List.take_append_getElem h, List.flatten_append]
 simp
theorem flatV_all (S : List (List Value)) : flatV S S.length = S.flatten := by unfold flatV; rw [List.take_length]
theorem flatV_le (S : List (List Value)) (k : Nat) : (flatV S k).length ≤ S.flatten.length := by
 have h : S.flatten = flatV S k ++ (S.drop k).flatten := by unfold flatV; rw [← List.flatten_append, List.take_append_drop]
 rw [h, List.length_append]; omega
theorem hgrow_any (n : Nat) (hn : n ≤ 4000000) (w : World) :
 Calls Tryz.prog 184 #[.slice none 0 0, .int .i64 n] w fun e w' => ∃ v, e = .returned v ∧ w'.ownsRow w.heap.size 22 1 v 0 [] ∧ Below w.heap.size w w' := by
 obtain ⟨i0, hi, hz0, hz1, hz2⟩ := info_parts hdr_info;by_cases h0 : n = 0
 ·subst h0
  go_enter Tryz.func184, Tryz.ntmps184
  go_wp2;go_ret;exact ⟨_, rfl, World.ownsRow_nil _ _ _ _, Below.refl _ _⟩
 ·have h1 : (0 : Int) < (n : Int) := by omega
  have hr := Lib.run_append_nil_zeros (P := Tryz.prog) w 149 3 149 22 i0 (.slice none 0 0) .i64 .i64 Tryz.underlying149 Tryz.underlying3 hi hz0 n (by omega) (by rw [hz1]; decide) (by omega) (by rw [hz2]; omega);have hge := grownCap_ge w n 0 22;have hle := grownCap_le_maxLen w n 0 22 (by unfold maxLen; omega)
  have hown : World.ownsRow (w.drew.alloc (.cells (Builtin.zeroCells (Value.slice none 0 0).cells n ++ Builtin.zeroCells (Value.slice none 0 0).cells (grownCap w n 0 22 - n)) 22)) w.heap.size 22 1 (.slice (some ⟨w.heap.size, 0, none⟩) 0 (grownCap w n 0 22)) 0 [] :=
   ⟨rfl, .inr ⟨w.heap.size, _, _, rfl, Nat.le_refl _, heap_alloc_new w.drew _, Nat.zero_le _, hle, by
    rw [Array.size_append, size_zeroCells, size_zeroCells]
    show n * 1 + (_ - n) * 1 = _ * 1
    omega, rfl⟩⟩
  have hb : Below w.heap.size w (w.drew.alloc (.cells (Builtin.zeroCells (Value.slice none 0 0).cells n ++ Builtin.zeroCells (Value.slice none 0 0).cells (grownCap w n 0 22 - n)) 22)) := (Below.refl _ w).drew.alloc (Nat.le_refl _) _;have hle : grownCap w n 0 22 ≤ 9223372036854775807 := hle;generalize hw1 : w.drew.alloc (.cells (Builtin.zeroCells (Value.slice none 0 0).cells n ++ Builtin.zeroCells (Value.slice none 0 0).cells (grownCap w n 0 22 - n)) 22) = w1 at *;generalize grownCap w n 0 22 = c at *;have HR := Lib.hid hr;clear hr hi hz0 hz1 hz2
  go_enter Tryz.func184, Tryz.ntmps184
  go_wp2_with (at_builtin; refine Lib.wpList_append_run _ rfl _ _ _ _ rfl _ _ rfl rfl _ _ HR.out ?_)
  go_wp2;go_ret;exact ⟨_, rfl, hown, hb⟩
theorem hconcat_any (S : List (List Value)) (h1c : ∀ l ∈ S, ∀ x ∈ l, x.oneCell' = true) (hm : S.length ≤ 1000000) (hl : S.flatten.length ≤ 1000000) (v0 : Value) (w : World) (hv : RowsIn HdrIn v0 S w) :
 Calls Tryz.prog 156 #[v0] w fun e w' => ∃ v, e = .returned v ∧ w'.ownsRow w.heap.size 22 1 v S.flatten.length S.flatten ∧ Below w.heap.size w w' := by
 have G := Lib.hid fun (n : Nat) (h : n ≤ 1000000) => hgrow_any n (by omega) w;obtain ⟨ad, cap0, rfl, k1, k2, hc, k4⟩ := hv.cells
 have HC : Hid (∀ j (hj : j < S.length), ∃ g o a cp, ad = some ⟨g, o, none⟩ ∧ g < w.heap.size ∧ w.cell? ⟨g, o + j, none⟩ = some (.slice a S[j].length cp) ∧ HdrIn (.slice a S[j].length cp) S[j] w) := Lib.hid fun j hj => by
  obtain ⟨g, o, e, hg, h⟩ := hc (by omega);obtain ⟨u, hu, hx⟩ := h j hj;obtain ⟨a, cp, rfl, -⟩ := hdr_shape hx;exact ⟨g, o, a, cp, e, hg, hu, hx⟩
 have HL : Hid (∀ k, (flatV S k).length ≤ 1000000) := Lib.hid fun k => Nat.le_trans (flatV_le S k) hl;have HS : Hid (∀ k (h : k < S.length), flatV S (k + 1) = flatV S k ++ S[k]) := Lib.hid fun k h => flatV_succ h;have H0 : Hid (flatV S 0 = []) := Lib.hid rfl;have GS : Hid (∀ j (h : j < S.length), ∃ N : List Value, (∀ x ∈ N, x.oneCell' = true) ∧ flatV S (j + 1) = flatV S j ++ N ∧ ∃ g o a cp, ad = some ⟨g, o, none⟩ ∧ g < w.heap.size ∧ w.cell? ⟨g, o + j, none⟩ = some (.slice a N.length cp) ∧ HdrIn (.slice a N.length cp) N w) := Lib.hid fun j h => ⟨S[j], fun x hx => h1c _ (List.getElem_mem h) x hx, HS.out j h, HC.out j h⟩;rw [← flatV_all];clear hc hv hl HS HC h1c;generalize S.length = m at *;generalize flatV S = D at *
 go_enter Tryz.func156, Tryz.ntmps156
 go_wp2
 go_loopw [3, 5, 11] (fun sz s5 p wr => wr = w ∧ ∃ k : Nat, p = .int .i64 k ∧ k ≤ m ∧ sz = .int .i64 ((D k).length : Nat)) (fun _ _ p _ => m - (intOf p).toNat)
 case atStart => exact ⟨rfl, 0, rfl, Nat.zero_le _, by rw [H0.out]; rfl⟩
 case round =>
  obtain ⟨hw, k, rfl, hk, rfl⟩ := hrel;have hw := hw.symm;subst hw;by_cases hlt : k < m
  ·obtain ⟨N, hN1, hN, g, o, a0, cp0, rfl, hg, c0, hx⟩ := GS.out k hlt
   obtain ⟨ad1, cap1, e, i1, i2, -⟩ := hdr_shape hx
   injection e with e1 e2 e3
   subst e1 e3;have hs := HL.out k;have hs2 := HL.out (k + 1);have HE : Hid ((D (k + 1)).length = (D k).length + N.length) := Lib.hid (by rw [hN, List.length_append])
   have hs3 : (D k).length + N.length ≤ 1000000 := by have := HE.out; omega
   clear hN hx e2;generalize (D k).length = a at *;generalize N.length = b at *;go_wp2;exact ⟨⟨trivial, k + 1, by go_num, by omega, by rw [HE.out]; congr 1⟩, by simp [intOf]; omega⟩
  ·obtain rfl : k = m := by omega
   have hs := HL.out k;have G := Lib.hid (G.out _ hs);generalize hn : (D k).length = n at *;have HN := Lib.hid hn;clear hn;go_wp2_with fail
   refine G.out.mono ?_; rintro e w1 ⟨v, rfl, hown, hb1⟩;have HR1 := Lib.hid hown;have HB1 := Lib.hid hb1;clear G hown hb1;go_wp2
   go_loopw [6, 8, 27] (fun vn v8 p wr => ∃ j : Nat, p = .int .i64 j ∧ j ≤ k ∧ wr.ownsRow w.heap.size 22 1 vn (D j).length (D j) ∧ Below w.heap.size w wr) (fun _ _ p _ => k - (intOf p).toNat)
   case atStart => exact ⟨0, rfl, Nat.zero_le _, by rw [H0.out]; exact HR1.out, HB1.out⟩
   case round =>
    obtain ⟨j, rfl, hj, ho, hbq⟩ := hrel;by_cases hlt2 : j < k
    ·obtain ⟨N, hN1, hN, g, o, a0, cp0, rfl, hg, c00, hx⟩ := GS.out j hlt2
     have c0 := (hbq.cell (p := ⟨g, o + j, none⟩) hg).trans c00;have hA := hdr_kept hx hbq;have HE : Hid (D (j + 1) = D j ++ N) := Lib.hid hN;have hs2 := HL.out (j + 1)
     have hs3 : (D j).length + N.length ≤ 1000000 := by rw [hN, List.length_append] at hs2; exact hs2
     obtain ⟨ad1, cap1, e, i1, i2, -⟩ := hdr_shape hA
     injection e with e1 e2 e3
     subst e1 e3;have hsq := hbq.size;have HA := Lib.hid hA;clear hA hs2 hN hx c00 e2
     go_wp2_with (at_builtin; refine wpList_hdrs rfl _ _ rfl w.heap.size _ (D j) rfl ho _ N rfl HA.out hN1 (by omega) hsq ?_)
     intro v' w3 h3 g3;have h5 := hbq.trans (below_of_row ho g3 hsq);have h3 := Lib.hid h3;clear ho HA g3 hbq;go_wp2;exact ⟨⟨j + 1, by go_num, by omega, by rw [HE.out]; exact by rw [List.length_append]; exact h3.out, h5⟩, by simp [intOf]; omega⟩
    ·obtain rfl : j = k := by omega
     go_wp2;go_ret;exact ⟨_, rfl, ho, hbq⟩
open Go.RowKit
abbrev PartsAt (C : Fr) (B : Nat) (v : Value) (L : List (List Ent)) (w : World) : Prop := RowsAt (EntsT C) 22 B v L w
theorem entsT_kept {C : Fr} {v : Value} {x : List Ent} {w w' : World} (h : EntsT C v x w) (b : Below w.heap.size w w') : EntsT C v x w' := h.kept (C.below b)
theorem partsAt_kept {C : Fr} {B : Nat} {v : Value} {L : List (List Ent)} {w w' : World} (h : PartsAt C B v L w) (b : Below w.heap.size w w') : PartsAt C B v L w' := RowsAt.kept entsT_kept h b
def fpartA (l : List Ent) (n i : Nat) : List Ent := (l.drop (i * l.length / n)).take ((i + 1) * l.length / n - i * l.length / n)
theorem splitA_eq (l : List Ent) : splitA l = (List.range (splitN l.length)).map (fpartA l (splitN l.length)) := rfl
theorem fpart_bounds {m n i : Nat} (hn : 0 < n) (hi : i < n) : i * m / n ≤ (i + 1) * m / n ∧ (i + 1) * m / n ≤ m := by
 refine ⟨Nat.div_le_div_right (Nat.mul_le_mul_right m (by omega)), ?_⟩;have h1 : (i + 1) * m ≤ n * m := Nat.mul_le_mul_right m (by omega)
 calc (i + 1) * m / n ≤ n * m / n := Nat.div_le_div_right h1
  _ = m := Nat.mul_div_cancel_left m hn
theorem fpart_lt {m n i : Nat} (hn : 0 < n) (hm : n ≤ m) : i * m / n < (i + 1) * m / n := by
 have h1 : i * m + n ≤ (i + 1) * m := by rw [Nat.add_mul]; omega
 have h2 : (i * m + n) / n ≤ (i + 1) * m / n := Nat.div_le_div_right h1;rw [Nat.add_div_right _ hn] at h2;exact h2
theorem entsIn_recap {a : Addr} {n c c' : Nat} {L : List Ent} {w : World} (h : EntsIn (.slice (some a) n c) L w) (hn : L.length ≤ c') (hc : c' ≤ maxLen) : EntsIn (.slice (some a) n c') L w := by
 obtain ⟨k0, ad', cap', e, k1, k2, k3, k4⟩ := h
 injection e with e1 e2 e3
 subst e1 e2;exact ⟨k0, _, c', rfl, hn, hc, k3, fun e => by cases e⟩
theorem fpartA_len {l : List Ent} {n i : Nat} (hn : 0 < n) (hi : i < n) : (fpartA l n i).length = (i + 1) * l.length / n - i * l.length / n := by
 obtain ⟨h1, h2⟩ := fpart_bounds (m := l.length) hn hi;unfold fpartA; rw [List.length_take, List.length_drop]; omega
def hdrP (ad : Option Addr) (m n i : Nat) : Value := match ad with
 | some a => .slice (some ⟨a.block, a.off + (i * m / n) * 3, none⟩) ((i + 1) * m / n - i * m / n) ((i + 1) * m / n - i * m / n)
 | none => .slice none 0 0
theorem hdrP_ents {C : Fr} {ad : Option Addr} {m cap : Nat} {l : List Ent} {w : World} (hm : l.length = m) (h : EntsT C (.slice ad m cap) l w) {n i : Nat} (hn : 0 < n) (hi : i < n) (hnm : n ≤ m) (hmx : m ≤ 100000) : EntsT C (hdrP ad m n i) (fpartA l n i) w := by
 obtain ⟨ad2, cp2, e2, -, -, h3, -⟩ := entsIn_cells (show EntsIn (.slice ad m cap) l w from h.now)
 injection e2 with e3 e4 e5
 subst e3;obtain ⟨g, o, rfl, -, -⟩ := h3 (by omega);obtain ⟨b1, b2⟩ := fpart_bounds (m := m) hn hi;have hpl := fpartA_len (l := l) hn hi;rw [hm] at hpl
 have HPA : fpartA l n i = (l.drop (i * m / n)).take ((i + 1) * m / n - i * m / n) := by unfold fpartA; rw [hm]
 show EntsT C (.slice (some ⟨g, o + (i * m / n) * 3, none⟩) ((i + 1) * m / n - i * m / n) ((i + 1) * m / n - i * m / n)) _ w
 generalize i * m / n = F at *;generalize (i + 1) * m / n = T at *;rw [HPA] at hpl ⊢;have h9 := EntsT.drop (k := F) (c := m - F) hm.symm h (by omega) (by omega) (by unfold maxLen; omega);rw [hm] at h9;have h10 := EntsT.take (k := T - F) (by rw [List.length_drop, hm]) h9 (by rw [List.length_drop, hm]; omega);intro w' ht;exact entsIn_recap (h10 w' ht) (by rw [hpl]; exact Nat.le_refl _) (by unfold maxLen; omega)
theorem fksplit_any (C : Fr) (l : List Ent) (hl : l.length ≤ 100000) (v : Value) (w : World) (hv : EntsT C v l w) :
 Calls Tryz.prog 155 #[v, .int .i64 10] w fun e w' => ∃ u, e = .returned u ∧ PartsAt C w.heap.size u (splitA l) w' ∧ Below w.heap.size w w' := by
 have mixed : Tryz.prog.follows .mixedOrders = true := by kernel_rfl
 obtain ⟨ad, cap, rfl, c1, c2, c3, -⟩ := entsIn_cells hv.now;obtain ⟨n, hn⟩ : ∃ n, splitN l.length = n := ⟨_, rfl⟩;have hn2 : (l.length + 9) / 10 = n := hn;obtain ⟨w2, hmk, hown, b2⟩ := room_rows n (by omega) w;rw [splitA_eq, hn];have HV := Lib.hid hv;obtain ⟨m, hm⟩ : ∃ m, l.length = m := ⟨_, rfl⟩;have HML := Lib.hid hm;rw [hm] at hn2 hl c1 c3 ⊢
 have HAD : Hid (0 < m → ∃ g o, ad = some ⟨g, o, none⟩) := Lib.hid fun h => by obtain ⟨g, o, e, -⟩ := c3 h; exact ⟨g, o, e⟩
 have HVM : Hid (EntsT C (.slice ad m cap) l w) := Lib.hid (by have := HV.out; rw [HML.out] at this; exact this)
 have hq2 : ((m : Int) + 10 - 1).tdiv 10 = (n : Int) := by rw [Int.tdiv_eq_ediv_of_nonneg (by omega)]; omega
 have hq : ((m : Int) + 10 - 1) / 10 = (n : Int) := by omega
 have HPS := Lib.hid fun i (h : i < n) => fpart_lt (m := m) (n := n) (i := i) (by omega) (by omega);have HPB := Lib.hid fun i (h : i < n) => fpart_bounds (m := m) (n := n) (i := i) (by omega) h;have HO := Lib.hid hown;have HB2 := Lib.hid b2;clear hv hn hown b2 hm HV c3
 go_enter Tryz.func155, Tryz.ntmps155
 go_wp2
 go_loopw [6, 7, 8, 9, 20] (fun pv q7 q8 q9 p wr => ∃ i : Nat, p = .int .i64 (i : Int) ∧ i ≤ n ∧ Hid (wr.ownsRow w.heap.size 22 1 pv i ((List.range i).map (hdrP ad m n))) ∧ Hid (Below w.heap.size w wr)) (fun _ _ _ _ p _ => n - (intOf p).toNat)
 case atStart => exact ⟨0, rfl, Nat.zero_le _, HO, HB2⟩
 case round =>
  obtain ⟨i, rfl, hi, HP, HB⟩ := hrel;clear HO HB2 hmk;by_cases hlt : i < n
  ·obtain ⟨hb1, hb2⟩ := HPB.out i hlt
   have hps := HPS.out i hlt;obtain ⟨P, hP⟩ : ∃ P, i * m = P := ⟨_, rfl⟩;obtain ⟨P2, hP2⟩ : ∃ P2, (i + 1) * m = P2 := ⟨_, rfl⟩
   have hp1 : (i : Int) * (m : Int) = (P : Int) := by rw [← hP]; exact (Int.natCast_mul i m).symm
   have hp2 : ((i : Int) + 1) * (m : Int) = (P2 : Int) := by rw [← hP2]; push_cast; rfl
   have hpb : P ≤ 10000000000 := by rw [← hP]; exact Nat.le_trans (Nat.mul_le_mul (show i ≤ 100000 by omega) hl) (by omega)
   have hpb2 : P2 ≤ 10000200000 := by rw [← hP2]; exact Nat.le_trans (Nat.mul_le_mul (show i + 1 ≤ 100001 by omega) hl) (by omega)
   obtain ⟨F, hF⟩ : ∃ F, P / n = F := ⟨_, rfl⟩;obtain ⟨T, hT⟩ : ∃ T, P2 / n = T := ⟨_, rfl⟩
   have hf1 : (P : Int) / (n : Int) = (F : Int) := by rw [← hF]; exact (Int.natCast_ediv P n).symm
   have ht1 : (P2 : Int) / (n : Int) = (T : Int) := by rw [← hT]; exact (Int.natCast_ediv P2 n).symm
   have hf2 : (P : Int).tdiv (n : Int) = (F : Int) := by rw [Int.tdiv_eq_ediv_of_nonneg (by omega)]; exact hf1
   have ht2 : (P2 : Int).tdiv (n : Int) = (T : Int) := by rw [Int.tdiv_eq_ediv_of_nonneg (by omega)]; exact ht1
   rw [hP2, hT] at hb2;rw [hP, hP2, hF, hT] at hps;obtain ⟨g, o, rfl⟩ := HAD.out (by omega);have HHD : Hid (hdrP (some ⟨g, o, none⟩) m n i = .slice (some ⟨g, o + F * 3, none⟩) (T - F) (T - F)) := Lib.hid (by unfold hdrP; dsimp only; rw [hP, hP2, hF, hT]);clear hP hP2 hF hT HPB HPS hb1
   go_upto_region 6 with fail
   refine wp_region_quiet_below mixed (by kernel_rfl) ?_
   repeat (go_big_quiet_step (fail))
   refine wpQuiet_nil ?_;intro w0q hw';obtain ⟨⟨wq, bq⟩, hw''⟩ := hw';have hw2 : wq = w0q := hw''.symm;clear hw'';subst hw2;have HQ := Lib.hid (bnext HB.out bq);have hq1 := HQ.out.size;have HVR := Lib.hid (row_kept HP.out bq);obtain ⟨pa, pc, rfl, -, pc2, -⟩ := shape_of HP.out;have pc2 : pc ≤ 9223372036854775807 := pc2
   have hTF : T ≤ cap := by omega
   clear HP bq
   go_wp2_with (at_builtin; refine wpList_one rfl _ _ 149 22 rfl Tryz.underlying149 hdr_info w.heap.size _ i ((List.range i).map (hdrP (some ⟨g, o, none⟩) m n)) rfl (HVR.out.alloc _) ⟨wq.heap.size, 0, none⟩ 1 1 [.slice (some ⟨g, o + F * 3, none⟩) (T - F) (T - F)] rfl rfl (one_cell _ _ _) (fun u hu => by rw [List.mem_singleton] at hu; subst hu; rfl) (by omega) (by rw [size_alloc]; omega) ?_)
   intro v' w9 h9 g9;have HB9 : Hid (Below w.heap.size w w9) := Lib.hid ((balloc HQ.out _).trans (below_of_row (HVR.out.alloc _) g9 (by rw [size_alloc]; omega)))
   have HN9 : Hid (w9.ownsRow w.heap.size 22 1 v' (i + 1) ((List.range (i + 1)).map (hdrP (some ⟨g, o, none⟩) m n))) := Lib.hid (by
    rw [List.range_succ, List.map_append, List.map_singleton, HHD.out]; exact h9)
   obtain ⟨va9, vc9, rfl, -⟩ := shape_of h9;clear h9 g9 HVR HQ;go_wp2;exact ⟨⟨i + 1, by go_num, by omega, HN9, HB9⟩, by simp [intOf]; omega⟩
  ·obtain rfl : i = n := by omega
   have HEND : Hid (PartsAt C w.heap.size _ ((List.range i).map (fpartA l i)) wr) := Lib.hid ⟨(List.range i).map (hdrP ad m i), by simp, by rw [List.length_map, List.length_range]; exact HP.out, fun k a b => by
    rw [List.length_map, List.length_range] at a;rw [List.getElem_map, List.getElem_range, List.getElem_map, List.getElem_range]
    exact hdrP_ents HML.out (EntsT.kept HVM.out (C.below HB.out)) (by omega) a (by omega) hl⟩
   obtain ⟨va9, vc9, rfl, -⟩ := shape_of HP.out;clear HP;go_wp2;go_ret;exact ⟨_, rfl, HEND.out, HB.out⟩
open Go.RowKit
def fromA (ad : Option Addr) (a z cap : Nat) : Option Addr := if cap = a then ad else ad.map (·.add (a * z))
theorem cutE_run (ad : Option Addr) (m cap a b : Nat) (hab : a ≤ b) (hb : b ≤ cap) (w : World) : (Instr.slice 22 (.slice ad m cap) (some (.int .i64 (a : Int))) (some (.int .i64 (b : Int))) none).run Tryz.prog w = .ok (.slice (fromA ad a 3 cap) (b - a) (cap - a)) w := by
 unfold fromA;by_cases h : cap = a
 ·rw [if_pos h]
  subst h
  obtain rfl : b = cap := by omega
  go_simp
 ·rw [if_neg h]
  go_simp
theorem fromE_run (ad : Option Addr) (m cap a : Nat) (hb : a ≤ m) (hm : m ≤ cap) (w : World) : (Instr.slice 22 (.slice ad m cap) (some (.int .i64 (a : Int))) none none).run Tryz.prog w = .ok (.slice (fromA ad a 3 cap) (m - a) (cap - a)) w := by
 unfold fromA;by_cases h : cap = a
 ·rw [if_pos h]
  go_simp
 ·rw [if_neg h]
  go_simp
theorem fromN_run (ad : Option Addr) (m cap a : Nat) (hb : a ≤ m) (hm : m ≤ cap) (w : World) : (Instr.slice 149 (.slice ad m cap) (some (.int .i64 (a : Int))) none none).run Tryz.prog w = .ok (.slice (fromA ad a 1 cap) (m - a) (cap - a)) w := by
 unfold fromA;by_cases h : cap = a
 ·rw [if_pos h]
  go_simp
 ·rw [if_neg h]
  go_simp
theorem toE_run (ad : Option Addr) (m cap b : Nat) (hb : b ≤ cap) (had : ad = none → cap = 0) (w : World) : (Instr.slice 22 (.slice ad m cap) none (some (.int .i64 (b : Int))) none).run Tryz.prog w = .ok (.slice ad b cap) w := by
 cases ad with
 | none =>
   have := had rfl;subst this
   obtain rfl : b = 0 := by omega
   go_simp
 | some a =>
   go_simp
theorem toN_run (ad : Option Addr) (m cap b : Nat) (hb : b ≤ cap) (w : World) : (Instr.slice 149 (.slice ad m cap) none (some (.int .i64 (b : Int))) none).run Tryz.prog w = .ok (.slice ad b cap) w := by
 cases ad with
 | none =>
   go_simp
 | some a =>
   go_simp
theorem fromE_ents {C : Fr} {ad : Option Addr} {L : List Ent} {n cap : Nat} {w : World} (hn : n = L.length) (h : EntsT C (.slice ad n cap) L w) {k : Nat} (hk : k ≤ n) : EntsT C (.slice (fromA ad k 3 cap) (n - k) (cap - k)) (L.drop k) w := by
 obtain ⟨ad2, cp2, e2, c1, c2, h3, h4⟩ := entsIn_cells (show EntsIn (.slice ad n cap) L w from h.now)
 injection e2 with e3 e4 e5
 subst e3 e5;unfold fromA;by_cases hc : cap = k
 ·rw [if_pos hc]
  have h0 : L.drop k = [] := List.drop_eq_nil_iff.2 (by omega);rw [h0, hc, Nat.sub_self, show n - k = 0 by omega];intro w' g;have := h w' g;obtain ⟨k0, ad', cap', e, k1, k2, k3, k4⟩ := this
  injection e with e1 e2 e3
  subst e1;refine ⟨rfl, ad, 0, rfl, Nat.le_refl _, by unfold maxLen; omega, fun hp => by simp [cellsE] at hp, fun e => rfl⟩
 ·rw [if_neg hc]
  cases ad with
  | none => have := h4 rfl; omega
  | some a =>
    by_cases hL : 0 < L.length
    ·obtain ⟨g, o, e, -⟩ := h3 hL
     cases e
     show EntsT C (.slice (some ((⟨g, o, none⟩ : Addr).add (k * 3))) _ _) _ w
     rw [add_at];have := EntsT.drop (k := k) (c := cap - k) hn h (by omega) (by omega) (by unfold maxLen; omega);rw [← hn] at this;exact this
    ·have h0 : L.drop k = [] := List.drop_eq_nil_iff.2 (by omega)
     rw [h0, show n - k = 0 by omega];intro w' g;exact ⟨rfl, _, cap - k, rfl, Nat.zero_le _, by unfold maxLen; omega, fun hp => by simp [cellsE] at hp, fun e => by cases e⟩
open Go.RowKit
theorem three_rows {α : Type} {P : Value → α → World → Prop} {g : Nat} {v1 v2 v3 : Value} {x1 x2 x3 : α} {t : TypeId} {w : World} (h : Blk g #[v1, v2, v3] t w) (p1 : P v1 x1 w) (p2 : P v2 x2 w) (p3 : P v3 x3 w) : RowsIn P (.slice (some ⟨g, 0, none⟩) 3 3) [x1, x2, x3] w := by
 refine ⟨[v1, v2, v3], rfl, ⟨rfl, _, _, rfl, Nat.le_refl _, by unfold maxLen; omega, fun _ => ⟨g, 0, rfl, h.lt, fun k u hk => ?_⟩, fun e => by cases e⟩, fun k a b => ?_⟩
 ·rw [Nat.zero_add, h.cell k]
  simpa using hk
 ·match k, a with
  | 0, _ => exact p1
  | 1, _ => exact p2
  | 2, _ => exact p3
theorem StRows.from {α : Type} {P : Value → α → World → Prop} {C : Fr} {ad : Option Addr} {L : List α} {n cap : Nat} {w : World} (hn : n = L.length) (h : StRows P C (.slice ad n cap) L w) {k : Nat} (hk : k ≤ n) : StRows P C (.slice (fromA ad k 1 cap) (n - k) (cap - k)) (L.drop k) w := by
 subst hn;obtain ⟨ad2, cp2, e2, c1, c2, -⟩ := StRows.cells h
 injection e2 with e3 e4 e5
 subst e3 e5
 have hnone : ad = none → cap = 0 := by
  obtain ⟨Vs, -, h2, -⟩ := h;obtain ⟨-, ad', cap', e, -, -, -, k4⟩ := h2 w (C.refl _)
  injection e with e1 e2 e3
  subst e1 e3;exact k4
 unfold fromA;by_cases hc : cap = k
 ·rw [if_pos hc]
  have h0 : L.drop k = [] := List.drop_eq_nil_iff.2 (by omega);rw [h0, hc, Nat.sub_self, show L.length - k = 0 by omega];exact ⟨[], rfl, fun w' g => ⟨rfl, ad, 0, rfl, Nat.le_refl _, by unfold maxLen; omega, fun hp => by simp at hp, fun e => rfl⟩, fun k a => by simp at a⟩
 ·rw [if_neg hc]
  cases ad with
  | none => have := hnone rfl; omega
  | some a =>
    by_cases hL : 0 < L.length
    ·obtain ⟨ad3, cp3, e3, -, -, h5⟩ := StRows.cells h
     injection e3 with e6 e7 e8
     subst e8;obtain ⟨g, o, u, e9, -, -⟩ := h5 0 hL;rw [← e6] at e9
     injection e9 with e9
     subst e9
     show StRows P C (.slice (some ((⟨g, o, none⟩ : Addr).add (k * 1))) _ _) _ w
     rw [add_at, Nat.mul_one];exact StRows.drop h hk c2 (by omega)
    ·have h0 : L.drop k = [] := List.drop_eq_nil_iff.2 (by omega)
     rw [h0, show L.length - k = 0 by omega];exact ⟨[], rfl, fun w' g => ⟨rfl, _, cap - k, rfl, Nat.zero_le _, by unfold maxLen; omega, fun hp => by simp at hp, fun e => by cases e⟩, fun k a => by simp at a⟩
abbrev spanV (s : Span) : Value := .agg #[.int .i64 (s.first : Int), .int .i64 (s.last : Int), .int .i64 (s.start : Int), .int .i64 (s.stop : Int)]
theorem splitA_some {l : List Ent} {k : Nat} (h : k < (splitA l).length) : 0 < (splitA l)[k].length ∧ (splitA l).length ≤ l.length := by
 have hn := splitA_len l;have hl := splitN_le l.length;rw [hn] at h;refine ⟨?_, by omega⟩
 have e : (splitA l)[k] = fpartA l (splitN l.length) k := by simp only [splitA_eq, List.getElem_map, List.getElem_range]
 rw [e, fpartA_len (by omega) h];have := fpart_lt (m := l.length) (n := splitN l.length) (i := k) (by omega) hl;omega
theorem madeA_succ (hs : List Ent) (s : Span) (parts : List (List Ent)) (k : Nat) : (List.range (k + 1)).map (fun k => (⟨(eat (nodeAt parts k) 0).log, if s.first + k < s.last then (eat hs (s.first + k)).phys else 0, 0⟩ : Ent)) = (List.range k).map (fun k => (⟨(eat (nodeAt parts k) 0).log, if s.first + k < s.last then (eat hs (s.first + k)).phys else 0, 0⟩ : Ent)) ++ [⟨(eat (nodeAt parts k) 0).log, if s.first + k < s.last then (eat hs (s.first + k)).phys else 0, 0⟩] := by
 rw [List.range_succ, List.map_append, List.map_singleton]
theorem RowsAt.keptP {C : Fr} {B : Nat} {v : Value} {L : List (List Ent)} {w w' : World} (h : RowsAt (EntsT C) 22 B v L w) (b : Below w.heap.size w w') : RowsAt (EntsT C) 22 B v L w' := partsAt_kept h b
theorem parts_shape {C : Fr} {B : Nat} {v : Value} {L : List (List Ent)} {w : World} (h : PartsAt C B v L w) : ∃ ad n cap, v = .slice ad n cap := by
 obtain ⟨Vs, h1, h2, h3⟩ := h;obtain ⟨ad, cap, e, -⟩ := shape_of h2;exact ⟨ad, _, cap, e⟩
theorem own_slice {B z n : Nat} {e : TypeId} {v : Value} {xs : List Value} {w : World} (h : w.ownsRow B e z v n xs) : ∃ ad m cap, v = .slice ad m cap := by
 obtain ⟨ad, cap, e, -⟩ := shape_of h;exact ⟨ad, _, cap, e⟩
theorem entsT_one {C : Fr} {v : Value} {x : List Ent} {w : World} (h : EntsT C v x w) : v.oneCell' = true := by
 obtain ⟨ad, cap, rfl, -⟩ := entsIn_cells h.now;rfl
theorem cat3_any (C : Fr) (A B D : List (List Ent)) (hA : A.length ≤ 60000) (hB : B.length ≤ 60000) (hD : D.length ≤ 60000) (va vb vd : Value) (g : Nat) (T : TypeId) (W : World) (hg : Blk g #[va, vb, vd] T W) (ka : NodesT C va A W) (kb : NodesT C vb B W) (kd : NodesT C vd D W) :
 Calls Tryz.prog 156 #[.slice (some ⟨g, 0, none⟩) 3 3] W fun e W' => ∃ u, e = .returned u ∧ PartsAt C W.heap.size u (A ++ (B ++ D)) W' ∧ Below W.heap.size W W' := by
 obtain ⟨U1, a1, a2, a3⟩ := ka;obtain ⟨U2, b1, b2, b3⟩ := kb;obtain ⟨U3, d1, d2, d3⟩ := kd
 have q1 : HdrIn va U1 W := by have := a2 W (C.refl _); rw [← a1] at this; exact this
 have q2 : HdrIn vb U2 W := by have := b2 W (C.refl _); rw [← b1] at this; exact this
 have q3 : HdrIn vd U3 W := by have := d2 W (C.refl _); rw [← d1] at this; exact this
 have hone : ∀ l ∈ [U1, U2, U3], ∀ x ∈ l, x.oneCell' = true := fun l hl x hx => by
  obtain ⟨j, hj, rfl⟩ := List.mem_iff_getElem.1 hx;simp only [List.mem_cons, List.not_mem_nil, or_false] at hl;rcases hl with rfl | rfl | rfl
  ·exact entsT_one (a3 j hj (by omega))
  ·exact entsT_one (b3 j hj (by omega))
  ·exact entsT_one (d3 j hj (by omega))
 have hfl : [U1, U2, U3].flatten = U1 ++ (U2 ++ U3) := by simp
 have hc := hconcat_any [U1, U2, U3] hone (by simp) (by rw [hfl]; simp only [List.length_append]; omega) _ W (three_rows hg q1 q2 q3);rw [hfl] at hc;refine hc.mono ?_; rintro e W' ⟨u, rfl, hu, hb⟩;refine ⟨u, rfl, ⟨U1 ++ (U2 ++ U3), by simp only [List.length_append]; omega, ?_, fun k x y => ?_⟩, hb⟩
 ·rw [show (A ++ (B ++ D)).length = (U1 ++ (U2 ++ U3)).length by simp only [List.length_append]; omega]; exact hu
 ·simp only [List.length_append] at x y
  by_cases c1 : k < U1.length
  ·rw [List.getElem_append_left c1, List.getElem_append_left (by omega)]
   exact entsT_kept (a3 k c1 (by omega)) hb
  ·rw [List.getElem_append_right («as» := U1) (by omega), List.getElem_append_right («as» := A) (by omega)]
   by_cases c2 : k - U1.length < U2.length
   ·rw [List.getElem_append_left («as» := U2) c2, List.getElem_append_left («as» := B) (by omega)]
    simp only [a1];exact entsT_kept (b3 (k - A.length) (by omega) (by omega)) hb
   ·rw [List.getElem_append_right («as» := U2) (by omega), List.getElem_append_right («as» := B) (by omega)]
    simp only [a1, b1];exact entsT_kept (d3 (k - A.length - B.length) (by omega) (by omega)) hb
open Go.RowKit
theorem fkpack_any (C : Fr) (ns : List (List Ent)) (hs l : List Ent) (s : Span) (hso : SpanOk ns l s) (hhs : hs.length = ns.length) (hln : ns.length ≤ 50000) (hll : l.length ≤ 50000) (nv hv lv : Value) (w : World) (hn : NodesT C nv ns w) (hh : EntsIn hv hs w) (hl : EntsT C lv l w) :
 Calls Tryz.prog 131 #[nv, hv, lv, spanV s] w fun e w' => ∃ un uh, e = .returned (.tuple #[un, uh]) ∧ PartsAt C w.heap.size un (packN ns l s) w' ∧ EntsAt w.heap.size uh (packH hs l s) w' ∧ Below w.heap.size w w' := by
 have mixed : Tryz.prog.follows .mixedOrders = true := by kernel_rfl
 obtain ⟨na, nc, rfl, n1, n2, -⟩ := StRows.cells hn;obtain ⟨ha, hc, rfl, h1, h2, h3, h4⟩ := entsIn_cells hh;obtain ⟨la, lc, rfl, l1, l2, l3, l4⟩ := entsIn_cells hl.now;have s1 := hso.a;have s2 := hso.b;have s3 := hso.c;have s4 := hso.d;obtain ⟨F, T, A, Z⟩ := s;dsimp only at s1 s2 s3 s4
 have hTh : T ≤ hs.length := by omega
 have hsn : hs.length ≤ 50000 := by omega
 clear hhs;have hb0 : Below w.heap.size w (w.alloc (.cells #[.int .i64 (F : Int), .int .i64 (T : Int), .int .i64 (A : Int), .int .i64 (Z : Int)] 200)) := balloc1 _ _;have hX : Blk w.heap.size #[.int .i64 (F : Int), .int .i64 (T : Int), .int .i64 (A : Int), .int .i64 (Z : Int)] 200 (w.alloc (.cells #[.int .i64 (F : Int), .int .i64 (T : Int), .int .i64 (A : Int), .int .i64 (Z : Int)] 200)) := Blk.new _ _ _
 have hcut : EntsT C (.slice (fromA la A 3 lc) (Z - A) (lc - A)) (cutL l ⟨F, T, A, Z⟩) w := by
  have k1 := fromE_ents rfl hl (k := A) (by omega);exact EntsT.take (by rw [List.length_drop]) k1 (by rw [List.length_drop]; omega)
 have hcl : (cutL l ⟨F, T, A, Z⟩).length ≤ 50000 := by rw [cutL_len hso]; dsimp only; omega
 have HSP := Lib.hid (fksplit_any C (cutL l ⟨F, T, A, Z⟩) (by omega) _ _ (entsT_kept hcut hb0));have hcr := cutE_run la l.length lc A Z s3 (by omega);have HB0 := Lib.hid hb0;have HNO := Lib.hid h4;have HN := Lib.hid hn;have HH := Lib.hid hh;have HX := Lib.hid hX;unfold packN packH;obtain ⟨parts, hparts⟩ : ∃ p, splitA (cutL l ⟨F, T, A, Z⟩) = p := ⟨_, rfl⟩;have HPS : Hid (∀ k (h : k < parts.length), 0 < parts[k].length) := Lib.hid (by subst hparts; exact fun k h => (splitA_some h).1)
 have hpn : parts.length ≤ 50000 := by rw [← hparts, splitA_len]; have := splitN_le (cutL l ⟨F, T, A, Z⟩).length; omega
 rw [hparts] at HSP ⊢;dsimp only;have c2 := hX.cell 2;have c3 := hX.cell 3;simp only [List.getElem?_toArray, List.getElem?_cons_zero, List.getElem?_cons_succ] at c2 c3;clear hn hh hl hb0 hX hcut hparts l3 l4 hcl
 go_enter Tryz.func131, Tryz.ntmps131
 go_wp2_with fail
 refine HSP.out.mono ?_; rintro e w2 ⟨pv, rfl, hp, b2⟩;have HP2 := Lib.hid hp;have HB2 := Lib.hid (bnext HB0.out b2);have HX2 := Lib.hid (HX.out.kept1 b2);obtain ⟨Vs, v1, v2, v3⟩ := id hp;obtain ⟨pa, pc, rfl, p1, p2, p3⟩ := shape_of v2
 have HPC : Hid (∀ wr, Below w2.heap.size w2 wr → ∀ k (h : k < parts.length), ∃ g c ga oa, pa = some ⟨g, 0, none⟩ ∧ wr.cell? ⟨g, k, none⟩ = some (.slice (some ⟨ga, oa, none⟩) parts[k].length c) ∧ wr.cell? ⟨ga, oa, none⟩ = some (.int .i64 (eat (nodeAt parts k) 0).log)) := Lib.hid fun wr hb k h => by
  obtain ⟨g, rfl, g1, g2⟩ := p3 (by omega);have hc := v2.cellAt k (by omega);rw [List.getElem?_eq_getElem (by omega)] at hc;have he := v3 k (by omega) h;obtain ⟨a9, c9, e9, -, -, h9, -⟩ := entsIn_cells he.now;obtain ⟨ga, oa, rfl, hga, h8⟩ := h9 (HPS.out k h);rw [e9] at hc;refine ⟨g, c9, ga, oa, rfl, (hb.cell (p := ⟨g, k, none⟩) g2).trans hc, ?_⟩;have := (h8 wr hb 0 (HPS.out k h)).1;rw [Nat.zero_mul, Nat.add_zero] at this;unfold nodeAt;rw [List.getElem?_eq_getElem h];exact this
 obtain ⟨MD, hMD⟩ : ∃ MD : Nat → List Ent, MD = fun k => (List.range k).map (fun k => (⟨(eat (nodeAt parts k) 0).log, if F + k < T then (eat hs (F + k)).phys else 0, 0⟩ : Ent)) := ⟨_, rfl⟩;have HM0 : Hid (MD 0 = []) := Lib.hid (by rw [hMD]; rfl)
 have HML : Hid (∀ k, (MD k).length = k) := Lib.hid fun k => by rw [hMD]; simp
 have HMS : Hid (∀ k, MD (k + 1) = MD k ++ [⟨(eat (nodeAt parts k) 0).log, if F + k < T then (eat hs (F + k)).phys else 0, 0⟩]) := Lib.hid fun k => by rw [hMD]; exact madeA_succ hs ⟨F, T, A, Z⟩ parts k
 have HME : Hid (madeA hs ⟨F, T, A, Z⟩ parts = MD parts.length) := Lib.hid (by rw [hMD]; rfl)
 have HHC : Hid (∀ wr, Below w2.heap.size w2 wr → ∀ k, k < hs.length → ∃ g o, ha = some ⟨g, o, none⟩ ∧ wr.cell? ⟨g, o + k * 3 + 1, none⟩ = some (.int .i64 (eat hs k).phys)) := Lib.hid fun wr hb k hk => by
  obtain ⟨g, o, e, -, h9⟩ := h3 (by omega);exact ⟨g, o, e, (h9 wr (bnext HB2.out hb) k hk).2.1⟩
 have p2 : pc ≤ 9223372036854775807 := p2;have hX2s := HB2.out.size;clear hMD hp v1 v2 v3 p3 h3 h4 HSP HX b2 c2 c3;go_wp2
 go_loopw [11, 12, 13, 14, 24] (fun mv q12 q13 q14 p wr => ∃ k : Nat, p = .int .i64 (k : Int) ∧ k ≤ parts.length ∧ Hid (EntsAt w2.heap.size mv (MD k) wr) ∧ Hid (Below w2.heap.size w2 wr)) (fun _ _ _ _ p _ => parts.length - (intOf p).toNat)
 case atStart => exact ⟨0, rfl, Nat.zero_le _, Lib.hid (by rw [HM0.out]; exact World.ownsRow_nil _ _ _ _), Lib.hid (Below.refl _ _)⟩
 case round =>
  obtain ⟨k, rfl, hk, HM, HB⟩ := hrel;by_cases hlt : k < parts.length
  ·obtain ⟨g, c, ga, oa, rfl, k1, k2⟩ := HPC.out wr HB.out k hlt
   have HMK := Lib.hid (HMS.out k);have hml := HML.out k;have hwr := HB.out.size;have hpp := HPS.out k hlt;generalize parts[k].length = plen at *;have hX6 := (HX2.out.kept1 HB.out);have b6 : Below wr.heap.size wr (wr.alloc (.cells #[.int .i64 (eat (nodeAt parts k) 0).log, .int .i64 0, .int .i64 0] 31)) := balloc1 _ _;have HX6 := Lib.hid (hX6.kept1 b6);have HB6 := Lib.hid (bnext HB.out b6);have HBW := Lib.hid b6;have HMW := HM;have HBR := HB;have HY6 : Hid (Blk wr.heap.size #[.int .i64 (eat (nodeAt parts k) 0).log, .int .i64 0, .int .i64 0] 31 (wr.alloc (.cells #[.int .i64 (eat (nodeAt parts k) 0).log, .int .i64 0, .int .i64 0] 31))) := Lib.hid (Blk.new _ _ _);generalize (eat (nodeAt parts k) 0).log = lg at *;clear HM HB hX6 b6
   go_upto_region 7 with fail
   generalize wr.alloc (.cells #[.int .i64 lg, .int .i64 0, .int .i64 0] 31) = w6 at *;generalize hxb : wr.heap.size = xb at *;have HXB := Lib.hid hxb;clear k1 k2 hxb;have x0 := HX6.out.cell 0;have x1 := HX6.out.cell 1;simp only [List.getElem?_toArray, List.getElem?_cons_zero, List.getElem?_cons_succ] at x0 x1;by_cases hft : F + k < T
   ·have hhk : F + k < hs.length := by omega
    obtain ⟨gh, oh, rfl, e1⟩ := HHC.out w6 HB6.out (F + k) hhk;have d1 : decide ((F : Int) + (k : Int) < (T : Int)) = true := decide_eq_true (by omega);rw [if_pos hft] at HMK;have y0 := HY6.out.cell 0;have y1 := HY6.out.cell 1;have y2 := HY6.out.cell 2;have yf := HY6.out.frozen 1;simp only [List.getElem?_toArray, List.getElem?_cons_zero, List.getElem?_cons_succ] at y0 y1 y2
    have hfk : (F : Int) + (k : Int) = ((F + k : Nat) : Int) := by omega
    obtain ⟨fk, hfk2⟩ : ∃ fk, F + k = fk := ⟨_, rfl⟩;rw [hfk2] at e1 hfk hhk HMK;clear hfk2;generalize (eat hs fk).phys = ph at *
    go_upto_region 9 with fail
    have HB7 : Hid (Below xb wr (w6.setCell ⟨xb, 1, none⟩ (.int .i64 ph))) := Lib.hid (HBW.out.setCell (Nat.le_refl _) _);have HY7 : Hid (Blk xb #[.int .i64 lg, .int .i64 ph, .int .i64 0] 31 (w6.setCell ⟨xb, 1, none⟩ (.int .i64 ph))) := Lib.hid (HY6.out.set 1 (.int .i64 ph));clear x0 x1 y0 y1 y2 yf e1 HX6 HY6;generalize w6.setCell ⟨xb, 1, none⟩ (.int .i64 ph) = w7 at *;have z0 := HY7.out.cell 0;have z1 := HY7.out.cell 1;have z2 := HY7.out.cell 2;simp only [List.getElem?_toArray, List.getElem?_cons_zero, List.getElem?_cons_succ] at z0 z1 z2;have HBX : Hid (Below wr.heap.size wr w7) := Lib.hid (by rw [HXB.out]; exact HB7.out);have HM7 := Lib.hid (row_kept HMW.out HBX.out);have HB8 := Lib.hid (bnext HBR.out HBX.out);have hw7 := HB8.out.size;obtain ⟨va, vc, rfl, -, vc2, -⟩ := shape_of HM7.out;have vc2 : vc ≤ 9223372036854775807 := vc2;rw [hml] at HM7
    go_wp2_with (at_builtin; refine wpList_appE rfl _ _ 22 31 rfl Tryz.underlying22 entry_info w2.heap.size _ (MD k) rfl ?_ _ [⟨lg, ph, 0⟩] rfl (one_in w7 ⟨lg, ph, 0⟩ 31) (by rw [hml]; show _ + 1 ≤ _; omega) (by rw [size_alloc]; omega) ?_)
    ·rw [hml]; exact HM7.out.alloc _
    intro v' w9 h9 g9;have HM9 : Hid (EntsAt w2.heap.size v' (MD (k + 1)) w9) := Lib.hid (by rw [HMK.out]; show World.ownsRow w9 _ _ _ _ (MD k ++ [_]).length _; rw [List.length_append, hml]; exact h9);have HB9 : Hid (Below w2.heap.size w2 w9) := Lib.hid ((balloc HB8.out _).trans (below_of_row (HM7.out.alloc _) g9 (by rw [size_alloc]; omega)));obtain ⟨va9, vc9, rfl, -⟩ := shape_of h9;clear h9 g9 z0 z1 z2 HM7 HB7 HY7;go_wp2;exact ⟨⟨k + 1, by go_num, by omega, HM9, HB9⟩, by simp [intOf]; omega⟩
   ·have d1 : decide ((F : Int) + (k : Int) < (T : Int)) = false := decide_eq_false (by omega)
    rw [if_neg hft] at HMK
    go_upto_region 9 with fail
    have HB7 := HBW;have HY7 := HY6;clear x0 x1 HX6 HY6;obtain ⟨ph, hph⟩ : ∃ ph : Int, (0 : Int) = ph := ⟨_, rfl⟩;have HY7 : Hid (Blk xb #[.int .i64 lg, .int .i64 ph, .int .i64 0] 31 w6) := Lib.hid (by rw [← hph]; exact HY7.out);have HMK : Hid (MD (k + 1) = MD k ++ [⟨lg, ph, 0⟩]) := Lib.hid (by rw [← hph]; exact HMK.out);clear hph;obtain ⟨w7, hw7⟩ : ∃ x, x = w6 := ⟨_, rfl⟩;subst hw7;have z0 := HY7.out.cell 0;have z1 := HY7.out.cell 1;have z2 := HY7.out.cell 2;simp only [List.getElem?_toArray, List.getElem?_cons_zero, List.getElem?_cons_succ] at z0 z1 z2;have HBX : Hid (Below wr.heap.size wr w7) := Lib.hid (by rw [HXB.out]; exact HB7.out);have HM7 := Lib.hid (row_kept HMW.out HBX.out);have HB8 := Lib.hid (bnext HBR.out HBX.out);have hw7 := HB8.out.size;obtain ⟨va, vc, rfl, -, vc2, -⟩ := shape_of HM7.out;have vc2 : vc ≤ 9223372036854775807 := vc2;rw [hml] at HM7
    go_wp2_with (at_builtin; refine wpList_appE rfl _ _ 22 31 rfl Tryz.underlying22 entry_info w2.heap.size _ (MD k) rfl ?_ _ [⟨lg, ph, 0⟩] rfl (one_in w7 ⟨lg, ph, 0⟩ 31) (by rw [hml]; show _ + 1 ≤ _; omega) (by rw [size_alloc]; omega) ?_)
    ·rw [hml]; exact HM7.out.alloc _
    intro v' w9 h9 g9;have HM9 : Hid (EntsAt w2.heap.size v' (MD (k + 1)) w9) := Lib.hid (by rw [HMK.out]; show World.ownsRow w9 _ _ _ _ (MD k ++ [_]).length _; rw [List.length_append, hml]; exact h9);have HB9 : Hid (Below w2.heap.size w2 w9) := Lib.hid ((balloc HB8.out _).trans (below_of_row (HM7.out.alloc _) g9 (by rw [size_alloc]; omega)));obtain ⟨va9, vc9, rfl, -⟩ := shape_of h9;clear h9 g9 z0 z1 z2 HM7 HB7 HY7;go_wp2;exact ⟨⟨k + 1, by go_num, by omega, HM9, HB9⟩, by simp [intOf]; omega⟩
  ·obtain rfl : k = parts.length := by omega
   have HBF := HB;have HXq := Lib.hid (HX2.out.kept1 HB.out);have HMF := HM;obtain ⟨ma, mc, rfl, -, mc2, -⟩ := shape_of HM.out;obtain ⟨wq, hren⟩ : ∃ x, x = wr := ⟨_, rfl⟩;subst hren
   have hwqs : w.heap.size ≤ wq.heap.size := by have := HB.out.size; omega
   have hBA := bnext HB2.out HB.out;have hsn1 := toN_run na ns.length nc F (by omega);have hsn2 := fromN_run na ns.length nc T (by omega) (by omega);have hse1 := toE_run ha hs.length hc F (by omega) HNO.out;have hse2 := fromE_run ha hs.length hc T (by omega) (by omega)
   have HC3 : Hid (∀ g W, Below wq.heap.size wq W → Blk g #[.slice na F nc, .slice pa parts.length pc, .slice (fromA na T 1 nc) (ns.length - T) (nc - T)] 149 W → Calls Tryz.prog 156 #[.slice (some ⟨g, 0, none⟩) 3 3] W fun e W' => ∃ u, e = .returned u ∧ PartsAt C W.heap.size u (ns.take F ++ (parts ++ ns.drop T)) W' ∧ Below W.heap.size W W') := Lib.hid fun g W hb hg => by
    have hnw := NodesT.keep HN.out (C.below (bnext hBA hb));exact cat3_any C (ns.take F) parts (ns.drop T) (by rw [List.length_take]; omega) (by omega) (by rw [List.length_drop]; omega) _ _ _ g _ W hg (StRows.take hnw (by omega) n2) (StRows.own (fr_n C) (partsAt_kept HP2.out (bnext HB.out hb))) (StRows.from rfl hnw (by omega))
   have HH3 : Hid (∀ g W, Below wq.heap.size wq W → Blk g #[.slice ha F hc, .slice ma (MD parts.length).length mc, .slice (fromA ha T 3 hc) (hs.length - T) (hc - T)] 22 W → Calls Tryz.prog 84 #[.slice (some ⟨g, 0, none⟩) 3 3] W fun e W' => ∃ u, e = .returned u ∧ EntsAt W.heap.size u (hs.take F ++ (MD parts.length ++ hs.drop T)) W' ∧ Below W.heap.size W W') := Lib.hid fun g W hb hg => by
    have hhw : EntsT (frC W.heap.size) (.slice ha hs.length hc) hs W := EntsT.old (HH.out.kept (bnext hBA hb)) (Nat.le_refl _) (Nat.le_refl _) (Below.refl _ _);have hml := HML.out parts.length;have hx := econcat_any [hs.take F, MD parts.length, hs.drop T] (by simp) (by simp only [List.flatten_cons, List.flatten_nil, List.append_nil, List.length_append, List.length_take, List.length_drop]; omega) _ W (three_rows hg (EntsT.take rfl hhw (by omega)).now (entsAt_in (row_kept HMF.out hb)) (fromE_ents rfl hhw (by omega)).now);simp only [List.flatten_cons, List.flatten_nil, List.append_nil] at hx;exact hx
   have HK : Hid (∀ w9, Below wq.heap.size wq w9 → w9.cell? ⟨w.heap.size, 0, none⟩ = some (.int .i64 (F : Int)) ∧ w9.cell? ⟨w.heap.size, 1, none⟩ = some (.int .i64 (T : Int))) := Lib.hid fun w9 h => ⟨(HXq.out.kept1 h).cell 0, (HXq.out.kept1 h).cell 1⟩;rw [HML.out] at HH3
   have i1 : F ≤ nc := by omega
   have i2 : F ≤ hc := by omega
   have i3 : T ≤ hs.length := by omega
   have i4 : F ≤ hs.length := by omega
   have i5 : F ≤ ns.length := by omega
   have hq : Below wq.heap.size wq wq.drew := (Below.refl _ _).drew;have hml := HML.out parts.length;rw [hml]
   go_upto_region 11 with fail
   refine wp_region_held_drew (S := fun w9 => w9.cell? ⟨w.heap.size, 0, none⟩ = some (.int .i64 (F : Int)) ∧ w9.cell? ⟨w.heap.size, 1, none⟩ = some (.int .i64 (T : Int))) mixed (HK.out _ hq) (fun hHeld => ?_);generalize wq.drew = wd at *;refine tk 0 _ rfl (by intro w9 hSw; clear hSw; go_simp; try with_reducible rfl) hHeld ?_
   try simp only [Act.put, za, zb, zc, zd, ze, zf]
   refine tk 1 _ rfl (by intro w9 hSw; clear hSw; go_simp; try with_reducible rfl) hHeld ?_
   try simp only [Act.put, za, zb, zc, zd, ze, zf]
   refine tk 2 _ rfl (by intro w9 hSw; obtain ⟨e9, f9⟩ := hSw; go_simp; try with_reducible rfl) hHeld ?_
   try simp only [Act.put, za, zb, zc, zd, ze, zf]
   refine tk 3 _ rfl (by intro w9 hSw; clear hSw; go_simp; try with_reducible rfl) hHeld ?_
   try simp only [Act.put, za, zb, zc, zd, ze, zf]
   refine tk 4 _ rfl (by intro w9 hSw; clear hSw; go_simp; try with_reducible rfl) hHeld ?_
   try simp only [Act.put, za, zb, zc, zd, ze, zf]
   refine tk 5 _ rfl (by intro w9 hSw; clear hSw; go_simp; try with_reducible rfl) hHeld ?_
   try simp only [Act.put, za, zb, zc, zd, ze, zf]
   refine tk 6 _ rfl (by intro w9 hSw; clear hSw; go_simp; try with_reducible rfl) hHeld ?_
   try simp only [Act.put, za, zb, zc, zd, ze, zf]
   refine tk 7 _ rfl (by intro w9 hSw; obtain ⟨e9, f9⟩ := hSw; go_simp; try with_reducible rfl) hHeld ?_
   try simp only [Act.put, za, zb, zc, zd, ze, zf]
   refine tk 8 _ rfl (by intro w9 hSw; clear hSw; go_simp; try with_reducible rfl) hHeld ?_
   try simp only [Act.put, za, zb, zc, zd, ze, zf]
   refine tk 11 _ rfl (by intro w9 hSw; clear hSw; go_simp; try with_reducible rfl) hHeld ?_
   try simp only [Act.put, za, zb, zc, zd, ze, zf]
   refine tk 12 _ rfl (by intro w9 hSw; clear hSw; go_simp; try with_reducible rfl) hHeld ?_
   try simp only [Act.put, za, zb, zc, zd, ze, zf]
   refine tk 13 _ rfl (by intro w9 hSw; obtain ⟨e9, f9⟩ := hSw; go_simp; try with_reducible rfl) hHeld ?_
   try simp only [Act.put, za, zb, zc, zd, ze, zf]
   refine tk 14 _ rfl (by intro w9 hSw; clear hSw; go_simp; try with_reducible rfl) hHeld ?_
   try simp only [Act.put, za, zb, zc, zd, ze, zf]
   refine tk 15 _ rfl (by intro w9 hSw; clear hSw; go_simp; try with_reducible rfl) hHeld ?_
   try simp only [Act.put, za, zb, zc, zd, ze, zf]
   refine tk 16 _ rfl (by intro w9 hSw; clear hSw; go_simp; try with_reducible rfl) hHeld ?_
   try simp only [Act.put, za, zb, zc, zd, ze, zf]
   refine tk 17 _ rfl (by intro w9 hSw; clear hSw; go_simp; try with_reducible rfl) hHeld ?_
   try simp only [Act.put, za, zb, zc, zd, ze, zf]
   refine tk 18 _ rfl (by intro w9 hSw; obtain ⟨e9, f9⟩ := hSw; go_simp; try with_reducible rfl) hHeld ?_
   try simp only [Act.put, za, zb, zc, zd, ze, zf]
   refine tk 19 _ rfl (by intro w9 hSw; clear hSw; go_simp; try with_reducible rfl) hHeld ?_
   try simp only [Act.put, za, zb, zc, zd, ze, zf]
   refine wpAnyH_ready (rs := [9, 20]) (by kernel_rfl) (by simp) ?_;refine AllReadyH.cons (o := _) rfl (fun K hK => ?_) ?_
   ·obtain ⟨w19, hw19⟩ : ∃ w9, wd.alloc (.cells #[.slice na F nc, .slice pa parts.length pc, .slice (fromA na T 1 nc) (ns.length - T) (nc - T)] 149) = w9 := ⟨_, rfl⟩
    have b19 : Below wd.heap.size wd w19 := by rw [← hw19]; exact balloc1 _ _
    have q19 := bnext hq b19
    have hz19 : w19.heap.size = wd.heap.size + 1 := by rw [← hw19]; exact size_alloc _ _
    have hB19 : Blk wd.heap.size #[.slice na F nc, .slice pa parts.length pc, .slice (fromA na T 1 nc) (ns.length - T) (nc - T)] 149 w19 := by rw [← hw19]; exact Blk.new _ _ _
    have HA := Lib.hid hB19;have HZ19 := Lib.hid hz19;have HW19 := Lib.hid hw19;clear hB19 hz19 hw19;go_simp
    try rw [HW19.out]
    clear hHeld;refine hK.out _ _ (HK.out _ (q19)) (fun hHeld => ?_);clear hK K
    try simp only [Act.put, za, zb, zc, zd, ze, zf]
    refine wpAnyH_ready (rs := [10, 20]) (by kernel_rfl) (by simp) ?_;refine AllReadyH.cons (o := _) rfl (fun K hK => ?_) ?_
    ·go_simp
     refine (HC3.out _ w19 (q19) HA.out).mono ?_; rintro e w20 ⟨u20, rfl, hu20, b20⟩;dsimp only;have q20 := bnext q19 b20;have HA := Lib.hid (HA.out.kept1 b20);obtain ⟨ua20, un20, uc20, rfl⟩ := parts_shape hu20;have HNR := Lib.hid (RowsAt.down (B' := w.heap.size) (Nat.le_trans hwqs (q19).size) hu20);clear hu20;clear hHeld;refine hK.out _ _ (HK.out _ (q20)) (fun hHeld => ?_);clear hK K
     try simp only [Act.put, za, zb, zc, zd, ze, zf]
     refine wpAnyH_ready (rs := [20]) (by kernel_rfl) (by simp) ?_;refine AllReadyH.cons (o := _) rfl (fun K hK => ?_) ?_
     ·obtain ⟨w21, hw21⟩ : ∃ w9, w20.alloc (.cells #[.slice ha F hc, .slice ma parts.length mc, .slice (fromA ha T 3 hc) (hs.length - T) (hc - T)] 22) = w9 := ⟨_, rfl⟩
      have b21 : Below w20.heap.size w20 w21 := by rw [← hw21]; exact balloc1 _ _
      have q21 := bnext q20 b21
      have hz21 : w21.heap.size = w20.heap.size + 1 := by rw [← hw21]; exact size_alloc _ _
      have hB21 : Blk w20.heap.size #[.slice ha F hc, .slice ma parts.length mc, .slice (fromA ha T 3 hc) (hs.length - T) (hc - T)] 22 w21 := by rw [← hw21]; exact Blk.new _ _ _
      have HA := Lib.hid (HA.out.kept1 b21);have HNR := Lib.hid (HNR.out.keptP b21);have HBk := Lib.hid hB21;have HZ21 := Lib.hid hz21;have HW21 := Lib.hid hw21;clear hB21 hz21 hw21;go_simp
      try rw [HW21.out]
      clear hHeld;refine hK.out _ _ (HK.out _ (q21)) (fun hHeld => ?_);clear hK K
      try simp only [Act.put, za, zb, zc, zd, ze, zf]
      refine wpAnyH_ready (rs := [21]) (by kernel_rfl) (by simp) ?_;refine AllReadyH.cons (o := _) rfl (fun K hK => ?_) ?_
      ·go_simp
       refine (HH3.out _ w21 (q21) HBk.out).mono ?_; rintro e w22 ⟨u22, rfl, hu22, b22⟩;dsimp only;have q22 := bnext q21 b22;have HA := Lib.hid (HA.out.kept1 b22);have HNR := Lib.hid (HNR.out.keptP b22);have HBk := Lib.hid (HBk.out.kept1 b22);obtain ⟨ua22, un22, uc22, rfl⟩ := own_slice hu22;have HER := Lib.hid (row_down (B' := w.heap.size) (Nat.le_trans hwqs (q21).size) hu22);clear hu22;clear hHeld;refine hK.out _ _ (HK.out _ (q22)) (fun hHeld => ?_);clear hK K
       try simp only [Act.put, za, zb, zc, zd, ze, zf]
       refine tk 22 _ rfl (by intro w9 hSw; clear hSw; go_simp; try with_reducible rfl) hHeld ?_
       try simp only [Act.put, za, zb, zc, zd, ze, zf]
       refine tk 23 _ rfl (by intro w9 hSw; clear hSw; go_simp; try with_reducible rfl) hHeld ?_
       try simp only [Act.put, za, zb, zc, zd, ze, zf]
       refine ⟨by kernel_rfl, ?_⟩;clear hHeld;obtain ⟨w11, hw11⟩ : ∃ x, x = w22 := ⟨_, rfl⟩;subst hw11;have HQ := Lib.hid (q22);clear HC3 HH3 HK hq;go_wp2
       go_ret2
       refine ⟨_, _, rfl, HNR.out, ?_, HB2.out.trans ((bnext HBF.out HQ.out).mono hX2s)⟩;rw [HME.out];exact HER.out
      exact AllReadyH.nil
     exact AllReadyH.nil
    refine AllReadyH.cons (o := _) rfl (fun K hK => ?_) ?_
    ·obtain ⟨w25, hw25⟩ : ∃ w9, w19.alloc (.cells #[.slice ha F hc, .slice ma parts.length mc, .slice (fromA ha T 3 hc) (hs.length - T) (hc - T)] 22) = w9 := ⟨_, rfl⟩
     have b25 : Below w19.heap.size w19 w25 := by rw [← hw25]; exact balloc1 _ _
     have q25 := bnext q19 b25
     have hz25 : w25.heap.size = w19.heap.size + 1 := by rw [← hw25]; exact size_alloc _ _
     have hB25 : Blk w19.heap.size #[.slice ha F hc, .slice ma parts.length mc, .slice (fromA ha T 3 hc) (hs.length - T) (hc - T)] 22 w25 := by rw [← hw25]; exact Blk.new _ _ _
     have HA := Lib.hid (HA.out.kept1 b25);have HBk := Lib.hid hB25;have HZ25 := Lib.hid hz25;have HW25 := Lib.hid hw25;clear hB25 hz25 hw25;go_simp
     try rw [HW25.out]
     clear hHeld;refine hK.out _ _ (HK.out _ (q25)) (fun hHeld => ?_);clear hK K
     try simp only [Act.put, za, zb, zc, zd, ze, zf]
     refine wpAnyH_ready (rs := [10]) (by kernel_rfl) (by simp) ?_;refine AllReadyH.cons (o := _) rfl (fun K hK => ?_) ?_
     ·go_simp
      refine (HC3.out _ w25 (q25) HA.out).mono ?_; rintro e w26 ⟨u26, rfl, hu26, b26⟩;dsimp only;have q26 := bnext q25 b26;have HA := Lib.hid (HA.out.kept1 b26);have HBk := Lib.hid (HBk.out.kept1 b26);obtain ⟨ua26, un26, uc26, rfl⟩ := parts_shape hu26;have HNR := Lib.hid (RowsAt.down (B' := w.heap.size) (Nat.le_trans hwqs (q25).size) hu26);clear hu26;clear hHeld;refine hK.out _ _ (HK.out _ (q26)) (fun hHeld => ?_);clear hK K
      try simp only [Act.put, za, zb, zc, zd, ze, zf]
      refine wpAnyH_ready (rs := [21]) (by kernel_rfl) (by simp) ?_;refine AllReadyH.cons (o := _) rfl (fun K hK => ?_) ?_
      ·go_simp
       refine (HH3.out _ w26 (q26) HBk.out).mono ?_; rintro e w27 ⟨u27, rfl, hu27, b27⟩;dsimp only;have q27 := bnext q26 b27;have HA := Lib.hid (HA.out.kept1 b27);have HBk := Lib.hid (HBk.out.kept1 b27);have HNR := Lib.hid (HNR.out.keptP b27);obtain ⟨ua27, un27, uc27, rfl⟩ := own_slice hu27;have HER := Lib.hid (row_down (B' := w.heap.size) (Nat.le_trans hwqs (q26).size) hu27);clear hu27;clear hHeld;refine hK.out _ _ (HK.out _ (q27)) (fun hHeld => ?_);clear hK K
       try simp only [Act.put, za, zb, zc, zd, ze, zf]
       refine tk 22 _ rfl (by intro w9 hSw; clear hSw; go_simp; try with_reducible rfl) hHeld ?_
       try simp only [Act.put, za, zb, zc, zd, ze, zf]
       refine tk 23 _ rfl (by intro w9 hSw; clear hSw; go_simp; try with_reducible rfl) hHeld ?_
       try simp only [Act.put, za, zb, zc, zd, ze, zf]
       refine ⟨by kernel_rfl, ?_⟩;clear hHeld;obtain ⟨w11, hw11⟩ : ∃ x, x = w27 := ⟨_, rfl⟩;subst hw11;have HQ := Lib.hid (q27);clear HC3 HH3 HK hq;go_wp2
       go_ret2
       refine ⟨_, _, rfl, HNR.out, ?_, HB2.out.trans ((bnext HBF.out HQ.out).mono hX2s)⟩;rw [HME.out];exact HER.out
      exact AllReadyH.nil
     exact AllReadyH.nil
    exact AllReadyH.nil
   refine AllReadyH.cons (o := _) rfl (fun K hK => ?_) ?_
   ·obtain ⟨w30, hw30⟩ : ∃ w9, wd.alloc (.cells #[.slice ha F hc, .slice ma parts.length mc, .slice (fromA ha T 3 hc) (hs.length - T) (hc - T)] 22) = w9 := ⟨_, rfl⟩
    have b30 : Below wd.heap.size wd w30 := by rw [← hw30]; exact balloc1 _ _
    have q30 := bnext hq b30
    have hz30 : w30.heap.size = wd.heap.size + 1 := by rw [← hw30]; exact size_alloc _ _
    have hB30 : Blk wd.heap.size #[.slice ha F hc, .slice ma parts.length mc, .slice (fromA ha T 3 hc) (hs.length - T) (hc - T)] 22 w30 := by rw [← hw30]; exact Blk.new _ _ _
    have HBk := Lib.hid hB30;have HZ30 := Lib.hid hz30;have HW30 := Lib.hid hw30;clear hB30 hz30 hw30;go_simp
    try rw [HW30.out]
    clear hHeld;refine hK.out _ _ (HK.out _ (q30)) (fun hHeld => ?_);clear hK K
    try simp only [Act.put, za, zb, zc, zd, ze, zf]
    refine wpAnyH_ready (rs := [9]) (by kernel_rfl) (by simp) ?_;refine AllReadyH.cons (o := _) rfl (fun K hK => ?_) ?_
    ·obtain ⟨w31, hw31⟩ : ∃ w9, w30.alloc (.cells #[.slice na F nc, .slice pa parts.length pc, .slice (fromA na T 1 nc) (ns.length - T) (nc - T)] 149) = w9 := ⟨_, rfl⟩
     have b31 : Below w30.heap.size w30 w31 := by rw [← hw31]; exact balloc1 _ _
     have q31 := bnext q30 b31
     have hz31 : w31.heap.size = w30.heap.size + 1 := by rw [← hw31]; exact size_alloc _ _
     have hB31 : Blk w30.heap.size #[.slice na F nc, .slice pa parts.length pc, .slice (fromA na T 1 nc) (ns.length - T) (nc - T)] 149 w31 := by rw [← hw31]; exact Blk.new _ _ _
     have HBk := Lib.hid (HBk.out.kept1 b31);have HA := Lib.hid hB31;have HZ31 := Lib.hid hz31;have HW31 := Lib.hid hw31;clear hB31 hz31 hw31;go_simp
     try rw [HW31.out]
     clear hHeld;refine hK.out _ _ (HK.out _ (q31)) (fun hHeld => ?_);clear hK K
     try simp only [Act.put, za, zb, zc, zd, ze, zf]
     refine wpAnyH_ready (rs := [10]) (by kernel_rfl) (by simp) ?_;refine AllReadyH.cons (o := _) rfl (fun K hK => ?_) ?_
     ·go_simp
      refine (HC3.out _ w31 (q31) HA.out).mono ?_; rintro e w32 ⟨u32, rfl, hu32, b32⟩;dsimp only;have q32 := bnext q31 b32;have HBk := Lib.hid (HBk.out.kept1 b32);have HA := Lib.hid (HA.out.kept1 b32);obtain ⟨ua32, un32, uc32, rfl⟩ := parts_shape hu32;have HNR := Lib.hid (RowsAt.down (B' := w.heap.size) (Nat.le_trans hwqs (q31).size) hu32);clear hu32;clear hHeld;refine hK.out _ _ (HK.out _ (q32)) (fun hHeld => ?_);clear hK K
      try simp only [Act.put, za, zb, zc, zd, ze, zf]
      refine wpAnyH_ready (rs := [21]) (by kernel_rfl) (by simp) ?_;refine AllReadyH.cons (o := _) rfl (fun K hK => ?_) ?_
      ·go_simp
       refine (HH3.out _ w32 (q32) HBk.out).mono ?_; rintro e w33 ⟨u33, rfl, hu33, b33⟩;dsimp only;have q33 := bnext q32 b33;have HBk := Lib.hid (HBk.out.kept1 b33);have HA := Lib.hid (HA.out.kept1 b33);have HNR := Lib.hid (HNR.out.keptP b33);obtain ⟨ua33, un33, uc33, rfl⟩ := own_slice hu33;have HER := Lib.hid (row_down (B' := w.heap.size) (Nat.le_trans hwqs (q32).size) hu33);clear hu33;clear hHeld;refine hK.out _ _ (HK.out _ (q33)) (fun hHeld => ?_);clear hK K
       try simp only [Act.put, za, zb, zc, zd, ze, zf]
       refine tk 22 _ rfl (by intro w9 hSw; clear hSw; go_simp; try with_reducible rfl) hHeld ?_
       try simp only [Act.put, za, zb, zc, zd, ze, zf]
       refine tk 23 _ rfl (by intro w9 hSw; clear hSw; go_simp; try with_reducible rfl) hHeld ?_
       try simp only [Act.put, za, zb, zc, zd, ze, zf]
       refine ⟨by kernel_rfl, ?_⟩;clear hHeld;obtain ⟨w11, hw11⟩ : ∃ x, x = w33 := ⟨_, rfl⟩;subst hw11;have HQ := Lib.hid (q33);clear HC3 HH3 HK hq;go_wp2
       go_ret2
       refine ⟨_, _, rfl, HNR.out, ?_, HB2.out.trans ((bnext HBF.out HQ.out).mono hX2s)⟩;rw [HME.out];exact HER.out
      exact AllReadyH.nil
     exact AllReadyH.nil
    exact AllReadyH.nil
   exact AllReadyH.nil
open Go.RowKit
theorem ents_gen {C B : Nat} {v : Value} {x : List Ent} {w0 w : World} (h : EntsT (frC C) v x w0) (hB : w0.heap.size ≤ B) (hb : Below w0.heap.size w0 w) : EntsT (frG C B) v x w := fun a g => h a (Gens.turns (Turns.of_below hb) g hB)
theorem nodes_gen {C B : Nat} {v : Value} {L : List (List Ent)} {w0 w : World} (h : NodesT (frC C) v L w0) (hB : w0.heap.size ≤ B) (hb : Below w0.heap.size w0 w) : NodesT (frG C B) v L w := by
 obtain ⟨Vs, h1, h2, h3⟩ := h;exact ⟨Vs, h1, fun a g => h2 a (Gens.turns (Turns.of_below hb) g hB), fun k a b => ents_gen (h3 k a b) hB hb⟩
theorem ents_back {C B : Nat} {v : Value} {x : List Ent} {w : World} (h : EntsT (frG C B) v x w) : EntsT (frC C) v x w := fun a g => h a (Turns.gens g)
theorem nodes_back {C B : Nat} {v : Value} {L : List (List Ent)} {w : World} (h : NodesT (frG C B) v L w) : NodesT (frC C) v L w := by
 obtain ⟨Vs, h1, h2, h3⟩ := h;exact ⟨Vs, h1, fun a g => h2 a (Turns.gens g), fun k a b => ents_back (h3 k a b)⟩
theorem nodes_nil (C : Fr) (w : World) : NodesT C (.slice none 0 0) [] w := ⟨[], rfl, fun a g => RowIn.nil 1 a, fun k h => by simp at h⟩
theorem Gens.row {C B B' n m : Nat} {v v' : Value} {xs ys : List Value} {w w' : World} (h : w.ownsRow B' 149 1 v n xs) (hB : B ≤ B') (g : w.grownBy w' v.ownBlock) (h' : w'.ownsRow B' 149 1 v' m ys) (hv : StaysG v v' w w') : Gens C B w w' := by
 refine ⟨g.os, g.tape, g.output, g.size, fun k hk => ?_⟩;by_cases hq : some k = v.ownBlock
 ·rcases hv with hv | hv
  ·obtain ⟨t1, t2, t3⟩ := own_ty h hq.symm
   obtain ⟨u1, u2, u3⟩ := own_ty h' (hv.trans hq.symm);obtain ⟨c, q, e⟩ := t1;obtain ⟨c', q', e'⟩ := u1;exact .inr ⟨c, c', _, q, q', .inr ⟨by omega, by decide, by decide⟩, e, e'⟩
  ·exact .inl (hv.2 k hq.symm)
 ·exact .inl (g.block k hk hq)
structure Stk (C B : Nat) (nv : Value) (acc : Shp) (w : World) : Prop where
 ex : ∃ Vs : List Value, Vs.length = acc.length ∧ w.ownsRow B 149 1 nv acc.length Vs ∧ ∀ k (h1 : k < Vs.length) (h2 : k < acc.length), NodesT (frG C B) Vs[k] acc[k] w
theorem Stk.kept {C B : Nat} {nv : Value} {acc : Shp} {w w' : World} (h : Stk C B nv acc w) (b : Below w.heap.size w w') : Stk C B nv acc w' := by
 obtain ⟨Vs, h1, h2, h3⟩ := h.ex;exact ⟨Vs, h1, row_kept h2 b, fun k a c => NodesT.keep (h3 k a c) (Gens.of_below b)⟩
theorem Stk.shape {C B : Nat} {nv : Value} {acc : Shp} {w : World} (h : Stk C B nv acc w) : ∃ ad cap, nv = .slice ad acc.length cap ∧ cap ≤ 9223372036854775807 := by
 obtain ⟨Vs, h1, h2, h3⟩ := h.ex;obtain ⟨ad, cap, e, -, h5, -⟩ := shape_of h2;exact ⟨ad, cap, e, h5⟩
theorem Stk.st {C B : Nat} {nv : Value} {acc : Shp} {w : World} (h : Stk C B nv acc w) : ShapeT (frC C) nv acc w := by
 obtain ⟨Vs, h1, h2, h3⟩ := h.ex;exact StRows.own (frC_s C) ⟨Vs, h1, h2, fun k a b => nodes_back (h3 k a b)⟩
theorem Stk.push {C B : Nat} {nv : Value} {acc : Shp} {w : World} (h : Stk C B nv acc w) (hB : B ≤ w.heap.size) (hn : acc.length ≤ 1000000) {x : List (List Ent)} {xv : Value} (hx : NodesT (frG C B) xv x w) (h1 : xv.oneCell' = true) :
 ∃ v' w', (∃ ad n cap, v' = .slice ad n cap) ∧ (Builtin.append_ #[104, 104] 104 #[nv, .slice (some ⟨w.heap.size, 0, none⟩) 1 1]).run Tryz.prog (w.alloc (.cells #[xv] 149)) = .ok v' w' ∧ Stk C B v' (acc ++ [x]) w' ∧ Below B w w' ∧ Gens C B w w' := by
 have hb := balloc1 w (.cells #[xv] 149);obtain ⟨Vs, k1, k2, k3⟩ := (h.kept hb).ex;have hx' := NodesT.keep hx (Gens.of_below (C := C) (B := B) hb);have hsz := hb.size;obtain ⟨v', w', hr, j1, j2, j3⟩ := pushS_run (w.alloc (.cells #[xv] 149)) B 104 149 104 (.slice none 0 0) 24 Tryz.underlying104 row_info (by rfl) (by decide) nv acc.length Vs hn k2 w xv rfl h1 (by omega);have hg : Gens C B (w.alloc (.cells #[xv] 149)) w' := Gens.row k2 (Nat.le_refl _) j2 j1 j3;refine ⟨v', w', own_slice j1, hr, ⟨Vs ++ [xv], by simp [k1], by rw [List.length_append]; exact j1, fun k a b => ?_⟩, (hb.mono hB).trans (below_of_row k2 j2 (by omega)), (Gens.of_below hb).trans hg⟩;rw [List.length_append, List.length_singleton] at a;by_cases hk : k < Vs.length
 ·rw [List.getElem_append_left hk, List.getElem_append_left (by omega)]
  exact NodesT.keep (k3 k hk (by omega)) hg
 ·obtain rfl : k = Vs.length := by omega
  rw [List.getElem_append_right (Nat.le_refl _), List.getElem_append_right (by omega)];simp only [List.getElem_singleton];exact NodesT.keep hx' hg
open Go.RowKit
theorem row_grown {B n z : Nat} {e : TypeId} {v : Value} {xs : List Value} {w w' : World} {row : Option Nat} (h : w.ownsRow B e z v n xs) (g : w.grownBy w' row) (hne : ∀ q, v.ownBlock = some q → some q ≠ row) : w'.ownsRow B e z v n xs :=
 own_eq h fun q hq => g.block q (own_ty h hq).2.1 (hne q hq)
end Go.Proofs.YtknefoemgifbfaaGreat
