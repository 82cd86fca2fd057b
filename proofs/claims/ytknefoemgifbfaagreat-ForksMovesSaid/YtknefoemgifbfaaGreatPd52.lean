import Derived.Test.YtknefoemgifbfaaGreatPd50
import Derived.Test.YtknefoemgifbfaaGreatPd01
import Derived.Test.YtknefoemgifbfaaGreatPd24
set_option linter.unusedVariables false
set_option linter.unusedSimpArgs false
set_option linter.constructorNameAsVariable false
set_option maxRecDepth 100000
set_option maxHeartbeats 16000000
namespace Go.Proofs.YtknefoemgifbfaaGreat
open Go.RowKit
abbrev RpR : Type := Except Int (Shp × Shp)
def dpR : RpR → Int | .ok x => ((x.2.length - 1 : Nat) : Int) | .error _ => 0
def rtR : RpR → List Ent | .ok x => rootA x.2 | .error _ => []
def chR : RpR → List Ch | .ok x => chgA (blocksA x.1) (blocksA x.2) | .error _ => []
def frR : RpR → List Int | .ok x => freeA (blocksA x.1) (blocksA x.2) | .error _ => []
def ecR : RpR → Int | .ok _ => 0 | .error c => c
def lenR (a : RpR) : Prop := (rtR a).length ≤ 1000000 ∧ (chR a).length ≤ 1000000 ∧ (frR a).length ≤ 1000000
theorem Freshes.all {σ : Type} {nx : Nx σ} {fv : Value} {go : σ → Prop} {I : σ → World → Prop} {C B : Nat} (h : Freshes nx fv go I C B) (w0 : World) (hB : B ≤ w0.heap.size) :
 Freshes nx fv go (fun s W => I s W ∧ ∀ k, B ≤ k → k < w0.heap.size → W.heap[k]? = w0.heap[k]?) C w0.heap.size := by
 refine ⟨h.val, fun T hT s v w hgo hB2 hI hv => ?_, fun s W W' hB2 hI hb => ⟨h.keep s W W' (by omega) hI.1 (hb.mono hB), fun k h1 h2 => (hb.block k h2).trans (hI.2 k h1 h2)⟩, h.next⟩;refine (h.ask T hT s v w hgo (by omega) hI.1 (row_down hB hv)).mono ?_;rintro e w' ⟨rfl, k1, k2, k3⟩;exact ⟨rfl, ⟨k1, fun k j1 j2 => (k3 k j1 (by omega)).trans (hI.2 k j1 j2)⟩, k2, fun k j1 j2 => k3 k (by omega) j2⟩
def greatB (d : List Ch) (r : List Ent) : Bool := decide (300 < d.length) || decide (100 < r.length) || d.any fun c => decide (1000 < c.2.size)
theorem great_no {d : List Ch} {r : List Ent} (h : greatB d r = false) : d.length ≤ 300 ∧ r.length ≤ 100 ∧ ∀ c ∈ d, c.2.size ≤ 1000 := by
 unfold greatB at h;simp only [Bool.or_eq_false_iff, decide_eq_false_iff_not, List.any_eq_false, decide_eq_true_eq] at h;exact ⟨by omega, by omega, fun c hc => by have := h.2 c hc; omega⟩
theorem lgreat_any (d : List Ch) (hd : ∀ c ∈ d, c.2.size ≤ maxLen) (bad : Int) (r : List Ent) (v u : Value) (w : World) (hv : ChgsIn v d w) (hu : EntsIn u r w) :
 Calls Tryz.prog 17 #[.agg #[v, .int .i64 bad], u] w fun e w' => e = .returned (.bool (greatB d r)) ∧ Below w.heap.size w w' := by
 have hms : maxLen = 9223372036854775807 := rfl;obtain ⟨ad, cap, rfl, hcap1, hcap2, hcell⟩ := hv.open;obtain ⟨ar, cr, rfl, -⟩ := entsIn_cells hu;have hb0 := balloc1 w (.cells #[.slice ad d.length cap, .int .i64 bad] 38);have hk0 := Blk.new #[.slice ad d.length cap, .int .i64 bad] 38 w;have HC := Lib.hid hcell;have HDZ := Lib.hid hd;obtain ⟨w1, hw1⟩ : ∃ W, w.alloc (.cells #[.slice ad d.length cap, .int .i64 bad] 38) = W := ⟨_, rfl⟩;rw [hw1] at hb0 hk0;have c0 := hk0.cell 0;simp only [List.getElem?_toArray, List.getElem?_cons_zero] at c0;have HB0 := Lib.hid hb0;have HK0 := Lib.hid hk0;have HW1 := Lib.hid hw1;clear hv hu hcell hd hms hb0 hk0 hw1;by_cases h1 : 300 < d.length
 ·have d1 : decide ((300 : Int) < (d.length : Int)) = true := decide_eq_true (by omega)
  have HR : Hid (greatB d r = true) := Lib.hid (by unfold greatB; rw [decide_eq_true h1]; rfl);rw [HR.out];clear h1
  go_enter Tryz.func17, Tryz.ntmps17
  go_upto_region 1 with fail
  rw [HW1.out];go_wp2;go_ret;exact ⟨rfl, HB0.out⟩
 have d1 : decide ((300 : Int) < (d.length : Int)) = false := decide_eq_false (by omega);by_cases h2 : 100 < r.length
 ·have d2 : decide ((100 : Int) < (r.length : Int)) = true := decide_eq_true (by omega)
  have HR : Hid (greatB d r = true) := Lib.hid (by unfold greatB; rw [decide_eq_true h2]; simp);rw [HR.out];clear h1 h2
  go_enter Tryz.func17, Tryz.ntmps17
  go_upto_region 1 with fail
  rw [HW1.out];go_wp2;go_ret;exact ⟨rfl, HB0.out⟩
 have d2 : decide ((100 : Int) < (r.length : Int)) = false := decide_eq_false (by omega)
 have HNO : Hid ((∀ j (hj : j < d.length), ¬ 1000 < (d[j]).2.size) → greatB d r = false) := Lib.hid fun h => by
  unfold greatB;rw [decide_eq_false h1, decide_eq_false h2];simp only [Bool.false_or, List.any_eq_false, decide_eq_true_eq];intro c hc;obtain ⟨j, hj, rfl⟩ := List.mem_iff_getElem.1 hc;exact h j hj
 have HYES : Hid (∀ j (hj : j < d.length), 1000 < (d[j]).2.size → greatB d r = true) := Lib.hid fun j hj h => by
  unfold greatB;have : d.any (fun c => decide (1000 < c.2.size)) = true := List.any_eq_true.2 ⟨d[j], List.getElem_mem hj, decide_eq_true h⟩;rw [this]; simp
 clear h1 h2
 go_enter Tryz.func17, Tryz.ntmps17
 go_upto_region 1 with fail
 rw [HW1.out];clear HW1 c0;have c0 := HK0.out.cell 0;simp only [List.getElem?_toArray, List.getElem?_cons_zero] at c0;go_wp2
 go_loopw [5] (fun q wr => ∃ k : Nat, q = .int .i64 (k : Int) ∧ k ≤ d.length ∧ Hid (∀ j (hj : j < d.length), j < k → ¬ 1000 < (d[j]).2.size) ∧ wr = w1) (fun q _ => d.length - (intOf q).toNat)
 case atStart => exact ⟨0, rfl, Nat.zero_le _, Lib.hid (fun j _ h => by omega), rfl⟩
 case round =>
  obtain ⟨k, rfl, hk, HJ, rfl⟩ := hrel;by_cases hlt : k < d.length
  ·obtain ⟨g, o, rfl, hg, hcc⟩ := HC.out (by omega)
   obtain ⟨-, e2⟩ := hcc k hlt;have e3 := (HB0.out.cell (p := ⟨g, o + k * 2 + 1, none⟩) hg).trans e2;have hz := HDZ.out d[k] (List.getElem_mem hlt);have hms : maxLen = 9223372036854775807 := rfl;have HY := Lib.hid (HYES.out k hlt)
   have HJK : Hid (¬ 1000 < (d[k]).2.size → ∀ j (hj : j < d.length), j < k + 1 → ¬ 1000 < (d[j]).2.size) := Lib.hid fun h j hj hjk => by
    by_cases e : j = k
    ·subst e; exact h
    ·exact HJ.out j hj (by omega)
   generalize d[k].2 = s at *;clear hcc e2;by_cases hs : 1000 < s.size
   ·have d3 : decide ((1000 : Int) < (s.size : Int)) = true := decide_eq_true (by omega)
    have HR := Lib.hid (HY.out hs);clear hs;go_wp2;go_ret;exact ⟨ret_bool HR.out.symm, HB0.out⟩
   ·have d3 : decide ((1000 : Int) < (s.size : Int)) = false := decide_eq_false (by omega)
    have HJ2 := Lib.hid (HJK.out hs);clear hs;go_wp2;exact ⟨⟨k + 1, by go_num, by omega, HJ2, trivial⟩, by simp [intOf]; omega⟩
  ·obtain rfl : k = d.length := by omega
   have HR := Lib.hid (HNO.out fun j hj => HJ.out j hj hj);go_wp2;go_ret;exact ⟨ret_bool HR.out.symm, HB0.out⟩
open Go.RowKit
theorem wpList_appG {ops : Array Oper} {rest : List Oper} {o : Oper} {a : Act} {Q : Exit → Act → World → Prop} {w : World} (hgd : o.guard = none) (s x : Operand) (T e : TypeId)
 (ho : o.op = .call { callee := .builtin .append, args := #[s, x], argTypes := #[T, T] }) (ht : Tryz.prog.underlying T = some (.slice e)) (z : Value) (sz bytes : Nat) (hinf : (Tryz.prog.info? e).map (fun i => (i.zero, i.size, i.bytes)) = some (some z, sz, bytes)) (hzs : z.cells.size = sz) (hsz : 0 < sz) (hby : bytes ≤ 64)
 (base : Nat) (v : Value) (n : Nat) (xs : List Value) (hs : a.eval s = v) (hown : w.ownsRow base e sz v n xs) (u : Value) (m : Nat) (cs : List Value) (hx : a.eval x = u) (hu : RowIn sz u m cs w) (h1 : ∀ y ∈ cs, y.oneCell' = true)
 (hlen : n + m ≤ 4000000) (hbase : base ≤ w.heap.size)
 (h : ∀ v' w', w'.ownsRow base e sz v' (n + m) (xs ++ cs) → w.grownBy w' v.ownBlock → wpList Tryz.prog ops Q rest (a.put o.dst v') w') : wpList Tryz.prog ops Q (o :: rest) a w := by
 obtain ⟨i0, hi, hz0, hz1, hz2⟩ := info_parts hinf;obtain ⟨h0, ad, cap, rfl, a1, a2, a3, a4⟩ := hu
 have hbyt : (n + m) * bytes ≤ 140737488355328 := by
  have : (n + m) * bytes ≤ 4000000 * 64 := Nat.mul_le_mul hlen hby;omega
 cases ad with
 | none =>
   have hc := a4 rfl;subst hc
   have hm : m = 0 := by omega
   subst hm;have hcs : cs = [] := List.eq_nil_of_length_eq_zero (by rw [h0, Nat.zero_mul]);subst hcs;refine wpList_append_own_none hgd s x T ho base e i0 sz ht hi v _ _ hs hown hx (h v w ?_ ⟨rfl, rfl, rfl, Nat.le_refl _, fun _ _ _ => rfl⟩);rw [List.append_nil]; exact hown
 | some ad =>
   have hnews : ∀ j y, cs[j]? = some y → w.cell? (ad.add j) = some y := by
    intro j y hj;have hlt := (List.getElem?_eq_some_iff.1 hj).1;obtain ⟨g, o, e, _, hc⟩ := a3 (by omega)
    cases e
    rw [add_at]; exact hc j y hj
   exact wpList_append_own w hgd s x T ho base e i0 z sz bytes ht hi hz0 hz1 hz2 hzs hsz v _ _ hs hown ad m cap cs hx h0 hnews h1 (by unfold maxLen; omega) hbyt hbase fun v' w' k1 k2 _ => h v' w' k1 k2
theorem row_of_own {B z n : Nat} {e : TypeId} {v : Value} {xs : List Value} {w : World} (h : w.ownsRow B e z v n xs) : RowIn z v n xs w := by
 obtain ⟨ad, cap, rfl, h1, h2, h3⟩ := shape_of h;rcases h.2 with ⟨e1, e2⟩ | ⟨g, cap', cur, e1, hb, hg, hr⟩
 ·cases e1
  have : xs = [] := List.eq_nil_of_length_eq_zero (by have := h.1; rw [this, e2, Nat.zero_mul]);subst this;exact RowIn.nil z w
 ·cases e1
  refine ⟨h.1, some ⟨g, 0, none⟩, cap, rfl, h1, h2, fun hp => ⟨g, 0, rfl, lt_of_block hg, fun k u hk => ?_⟩, fun e => by cases e⟩;have hl := (List.getElem?_eq_some_iff.1 hk).1;rw [Nat.zero_add, h.cellAt k (by have := h.1; omega)]; exact hk
theorem lit0 (w : World) (e : TypeId) (sz : Nat) : (w.alloc (.cells #[] e)).ownsRow w.heap.size e sz (.slice (some ⟨w.heap.size, 0, none⟩) 0 0) 0 [] :=
 World.ownsRow_lit (e := e) (size := sz) w #[] 0 (Nat.le_refl _) (by unfold maxLen; omega) (by rw [Nat.zero_mul]; rfl)
theorem blk_grown {g : Nat} {cs : Array Value} {T : TypeId} {w w' : World} {row : Option Nat} (h : Blk g cs T w) (hg : w.grownBy w' row) (hne : some g ≠ row) : Blk g cs T w' := (hg.block g h.lt hne).trans h
theorem ty_ne {B z n g : Nat} {e t : TypeId} {v : Value} {xs : List Value} {w : World} (h : w.ownsRow B e z v n xs) (hg : TyAt g t w) (hne : t ≠ e) : some g ≠ v.ownBlock := fun q => hne (ty_one hg (own_ty h q.symm).1)
theorem rows_ne {B B' z z' n n' : Nat} {e e' : TypeId} {v v' : Value} {xs xs' : List Value} {w : World} (h : w.ownsRow B e z v n xs) (h' : w.ownsRow B' e' z' v' n' xs') (hne : e ≠ e') : ∀ q, v.ownBlock = some q → some q ≠ v'.ownBlock := fun q hq k => hne (ty_one (own_ty h hq).1 (own_ty h' k.symm).1)
open Go.RowKit
structure KeepE (B : Nat) (w w' : World) : Prop where
 os : w'.os = w.os
 tape : w'.tape = w.tape
 output : w'.output = w.output
 size : w.heap.size ≤ w'.heap.size
 block : ∀ k, k < w.heap.size → (k < B ∨ TyAt k 31 w) → w'.heap[k]? = w.heap[k]?
theorem KeepE.refl (B : Nat) (w : World) : KeepE B w w := ⟨rfl, rfl, rfl, Nat.le_refl _, fun _ _ _ => rfl⟩
theorem KeepE.of_below {B : Nat} {w w' : World} (h : Below w.heap.size w w') : KeepE B w w' := ⟨h.os, h.tape, h.output, h.size, fun k hk _ => h.block k hk⟩
theorem KeepE.below {B : Nat} {w w' : World} (h : KeepE B w w') (hB : B ≤ w.heap.size) : Below B w w' := ⟨h.os, h.tape, h.output, h.size, fun k hk => h.block k (by omega) (.inl hk)⟩
theorem KeepE.trans {B : Nat} {a b c : World} (h : KeepE B a b) (k : KeepE B b c) : KeepE B a c := by
 refine ⟨k.os.trans h.os, k.tape.trans h.tape, k.output.trans h.output, Nat.le_trans h.size k.size, fun i hi hp => ?_⟩;have e1 := h.block i hi hp;have e2 := k.block i (Nat.lt_of_lt_of_le hi h.size) (hp.imp id fun t => t.eq_block e1);exact e2.trans e1
theorem KeepE.grown {B z n : Nat} {e : TypeId} {v : Value} {xs : List Value} {w w' : World} (h : w.ownsRow B e z v n xs) (he : 31 ≠ e) (g : w.grownBy w' v.ownBlock) : KeepE B w w' :=
 ⟨g.os, g.tape, g.output, g.size, fun k hk hp => g.block k hk fun q => by
  rcases hp with hp | hp
  ·have := (own_ty h q.symm).2.2; omega
  ·exact he (ty_one hp (own_ty h q.symm).1)⟩
theorem KeepE.set {B R : Nat} {cs : Array Value} {T : TypeId} {w : World} (h : Blk R cs T w) (hT : 31 ≠ T) (hB : B ≤ R) (j : Nat) (u : Value) : KeepE B w (w.setCell ⟨R, j, none⟩ u) :=
 ⟨rfl, rfl, rfl, by simp [World.setCell], fun k hk hp => Below.heap_setCell w ⟨R, j, none⟩ u k fun e => by
  have e : k = R := e;rw [e] at hp;rcases hp with hp | hp
  ·omega
  ·exact hT (ty_one hp ⟨_, _, h⟩)⟩
def EntsK (B : Nat) (v : Value) (x : List Ent) (w : World) : Prop := ∀ w', KeepE B w w' → EntsIn v x w'
theorem EntsK.now {B : Nat} {v : Value} {x : List Ent} {w : World} (h : EntsK B v x w) : EntsIn v x w := h w (KeepE.refl _ _)
theorem EntsK.kept {B : Nat} {v : Value} {x : List Ent} {w w' : World} (h : EntsK B v x w) (g : KeepE B w w') : EntsK B v x w' := fun a ha => h a (g.trans ha)
theorem EntsK.old {B : Nat} {v : Value} {x : List Ent} {w0 w : World} (h : EntsIn v x w0) (hB : w0.heap.size ≤ B) (hb : Below w0.heap.size w0 w) (hw : B ≤ w.heap.size) : EntsK B v x w := fun a ha => h.kept (hb.trans ((ha.below hw).mono hB))
theorem EntsK.own {B C : Nat} {v : Value} {x : List Ent} {w : World} (h : EntsAt C v x w) : EntsK B v x w := fun a ha =>
 entsAt_in (B := C) (own_eq h fun g hg => ha.block g (own_ty h hg).2.1 (.inr (own_ty h hg).1))
theorem entsK_cells {B : Nat} {v : Value} {l : List Ent} {w : World} (h : EntsK B v l w) : ∃ ad cap, v = .slice ad l.length cap ∧ l.length ≤ cap ∧ cap ≤ 9223372036854775807 ∧
 (0 < l.length → ∃ g o, ad = some ⟨g, o, none⟩ ∧ ∀ w', KeepE B w w' → ∀ k, k < l.length → w'.cell? ⟨g, o + k * 3, none⟩ = some (.int .i64 (eat l k).log) ∧ w'.cell? ⟨g, o + k * 3 + 1, none⟩ = some (.int .i64 (eat l k).phys) ∧ w'.cell? ⟨g, o + k * 3 + 2, none⟩ = some (.int .i64 (eat l k).len)) := by
 obtain ⟨ad, cap, rfl, c1, c2, c3, -⟩ := entsIn_cells h.now;refine ⟨ad, cap, rfl, c1, c2, fun hp => ?_⟩;obtain ⟨g, o, rfl, -, -⟩ := c3 hp;refine ⟨g, o, rfl, fun w' hk k hlt => ?_⟩;obtain ⟨ad2, cap2, e, -, -, d3, -⟩ := entsIn_cells (h w' hk)
 injection e with e1 e2 e3
 subst e1;obtain ⟨g2, o2, e4, -, d4⟩ := d3 hp
 injection e4 with e4
 injection e4 with e5 e6
 subst e5 e6;exact d4 w' (Below.refl _ _) k hlt
structure WkAt (cb B R g : Nat) (bad : Int) (vn vr : Value) (nodes : List Int) (row : List Ent) (w : World) : Prop where
 blk : Blk R #[.slice (some ⟨g, 0, none⟩) 4096 cb, .int .i64 bad, vn, vr] 111 w
 big : B ≤ R
 n : IntsFk B vn nodes w
 r : ExtsAt B vr row w
theorem WkAt.kept1 {cb B R g : Nat} {bad : Int} {vn vr : Value} {nodes : List Int} {row : List Ent} {w w' : World} (h : WkAt cb B R g bad vn vr nodes row w) (b : Below w.heap.size w w') : WkAt cb B R g bad vn vr nodes row w' := ⟨h.blk.kept1 b, h.big, row_kept h.n b, row_kept h.r b⟩
theorem row_setR {B z n R j : Nat} {e T : TypeId} {v u : Value} {xs : List Value} {cs : Array Value} {w : World} (h : w.ownsRow B e z v n xs) (hb : Blk R cs T w) (hne : T ≠ e) : (w.setCell ⟨R, j, none⟩ u).ownsRow B e z v n xs :=
 own_eq h fun g hg => Below.heap_setCell w ⟨R, j, none⟩ u g fun q => by
  have q : g = R := q;subst q;exact hne (ty_one ⟨_, _, hb⟩ (own_ty h hg).1)
theorem app3L_run {T e ty : TypeId} (ht : Tryz.prog.underlying T = some (.slice e)) (hinf : (Tryz.prog.info? e).map (fun i => (i.zero, i.size, i.bytes)) = some (some (.agg #[.int .i64 0, .int .i64 0, .int .i64 0]), 3, 24))
 (base : Nat) (v : Value) (L : List Ent) (y : Ent) (W : World) (hown : W.ownsRow base e 3 v L.length (cellsE L)) (hlen : L.length ≤ 100000) (hbase : base ≤ W.heap.size) :
 ∃ v' w', (Builtin.append_ #[T, T] ty #[v, .slice (some ⟨W.heap.size, 0, none⟩) 1 1]).run Tryz.prog (W.alloc (.cells (entC y) e)) = .ok v' w' ∧ w'.ownsRow base e 3 v' (L ++ [y]).length (cellsE (L ++ [y])) ∧ (W.alloc (.cells (entC y) e)).grownBy w' v.ownBlock := by
 obtain ⟨i0, hi, hz0, hz1, hz2⟩ := info_parts hinf;obtain ⟨v', w', hr, k1, k2, _⟩ := run_append_own (P := Tryz.prog) (W.alloc (.cells (entC y) e)) base T ty e i0 _ 3 24 ht hi hz0 hz1 hz2 rfl (by decide) v L.length (cellsE L) (hown.alloc _) ⟨W.heap.size, 0, none⟩ 1 1 [.int .i64 y.log, .int .i64 y.phys, .int .i64 y.len] rfl (three_new W y e) (fun u hu => by simp at hu; rcases hu with rfl | rfl | rfl <;> rfl) (by unfold maxLen; omega) (by omega) (by rw [size_alloc]; omega);refine ⟨v', w', hr, ?_, k2⟩;rw [List.length_append, List.length_singleton, cellsE_append];exact k1
theorem int1_run {ty : TypeId} (base : Nat) (v : Value) (L : List Int) (b : Int) (W : World) (hown : IntsFk base v L W) (hlen : L.length ≤ 100000) (hbase : base ≤ W.heap.size) :
 ∃ v' w', (Builtin.append_ #[43, 43] ty #[v, .slice (some ⟨W.heap.size, 0, none⟩) 1 1]).run Tryz.prog (W.alloc (.cells #[.int .i64 b] 3)) = .ok v' w' ∧ IntsFk base v' (L ++ [b]) w' ∧ (W.alloc (.cells #[.int .i64 b] 3)).grownBy w' v.ownBlock := by
 obtain ⟨i0, hi, hz0, hz1, hz2⟩ := info_parts fk_info_int;obtain ⟨v', w', hr, k1, k2, _⟩ := run_append_own (P := Tryz.prog) (W.alloc (.cells #[.int .i64 b] 3)) base 43 ty 3 i0 _ 1 8 Tryz.underlying43 hi hz0 hz1 hz2 rfl (by decide) v L.length _ (hown.alloc _) ⟨W.heap.size, 0, none⟩ 1 1 [.int .i64 b] rfl (fknew_int W b) (fun u hu => by simp at hu; subst hu; rfl) (by unfold maxLen; omega) (by omega) (by rw [size_alloc]; omega);exact ⟨v', w', hr, fkints_snoc rfl k1, k2⟩
theorem add_facts {cb B R g : Nat} {bad : Int} {vn vr : Value} {nodes : List Int} {row : List Ent} {w : World} (hBw : B ≤ w.heap.size) (h : WkAt cb B R g bad vn vr nodes row w) (x : Ent) (hl : row.length ≤ 100000) :
 ∃ v' w2, (Builtin.append_ #[42, 42] 42 #[vr, .slice (some ⟨w.drew.heap.size, 0, none⟩) 1 1]).run Tryz.prog (w.drew.alloc (.cells (entC x) 53)) = .ok v' w2 ∧
  KeepE B w w.drew ∧ KeepE B w (w.drew.alloc (.cells (entC x) 53)) ∧ KeepE B w w2 ∧ KeepE B w (w2.setCell ⟨R, 3, none⟩ v') ∧
  w.drew.cell? ⟨R, 3, none⟩ = some vr ∧ (w.drew.alloc (.cells (entC x) 53)).cell? ⟨R, 3, none⟩ = some vr ∧ w2.cell? ⟨R, 3, none⟩ = some vr ∧ w2.frozen? ⟨R, 3, none⟩ = false ∧
  WkAt cb B R g bad vn v' nodes (row ++ [x]) (w2.setCell ⟨R, 3, none⟩ v') := by
 have bd : Below w.heap.size w w.drew := (Below.refl _ w).drew;have b1 : Below w.drew.heap.size w.drew (w.drew.alloc (.cells (entC x) 53)) := balloc1 _ _;have hd := h.kept1 bd;have ha := hd.kept1 b1;obtain ⟨v', w2, hr, k1, k2⟩ := app3L_run (ty := 42) Tryz.underlying42 ext_info B vr row x w.drew hd.r hl hBw;have K1 : KeepE B w (w.drew.alloc (.cells (entC x) 53)) := KeepE.of_below (bnext bd b1);have K2 := K1.trans (KeepE.grown ha.r (by decide) k2);have B2 := blk_grown ha.blk k2 (ty_ne ha.r ⟨_, _, ha.blk⟩ (by decide));have N2 := row_grown ha.n k2 (rows_ne ha.n ha.r (by decide));have K3 := K2.trans (KeepE.set B2 (by decide) h.big 3 v');refine ⟨v', w2, hr, KeepE.of_below bd, K1, K2, K3, hd.blk.cell 3, ha.blk.cell 3, B2.cell 3, B2.frozen 3, ?_, h.big, row_setR N2 B2 (by decide), row_setR k1 B2 (by decide)⟩;exact B2.set 3 v'
theorem node_facts {cb B R g : Nat} {bad : Int} {vn vr : Value} {nodes : List Int} {row : List Ent} {w : World} (hBw : B ≤ w.heap.size) (h : WkAt cb B R g bad vn vr nodes row w) (b : Int) (hl : nodes.length ≤ 100000) :
 ∃ v' w2, (Builtin.append_ #[43, 43] 43 #[vn, .slice (some ⟨w.drew.heap.size, 0, none⟩) 1 1]).run Tryz.prog (w.drew.alloc (.cells #[.int .i64 b] 3)) = .ok v' w2 ∧
  KeepE B w w.drew ∧ KeepE B w (w.drew.alloc (.cells #[.int .i64 b] 3)) ∧ KeepE B w w2 ∧ KeepE B w (w2.setCell ⟨R, 2, none⟩ v') ∧
  w.drew.cell? ⟨R, 2, none⟩ = some vn ∧ (w.drew.alloc (.cells #[.int .i64 b] 3)).cell? ⟨R, 2, none⟩ = some vn ∧ w2.cell? ⟨R, 2, none⟩ = some vn ∧ w2.frozen? ⟨R, 2, none⟩ = false ∧
  WkAt cb B R g bad v' vr (nodes ++ [b]) row (w2.setCell ⟨R, 2, none⟩ v') := by
 have bd : Below w.heap.size w w.drew := (Below.refl _ w).drew;have b1 : Below w.drew.heap.size w.drew (w.drew.alloc (.cells #[.int .i64 b] 3)) := balloc1 _ _;have hd := h.kept1 bd;have ha := hd.kept1 b1;obtain ⟨v', w2, hr, k1, k2⟩ := int1_run (ty := 43) B vn nodes b w.drew hd.n hl hBw;have K1 : KeepE B w (w.drew.alloc (.cells #[.int .i64 b] 3)) := KeepE.of_below (bnext bd b1);have K2 := K1.trans (KeepE.grown ha.n (by decide) k2);have B2 := blk_grown ha.blk k2 (ty_ne ha.n ⟨_, _, ha.blk⟩ (by decide));have R2 := row_grown ha.r k2 (rows_ne ha.r ha.n (by decide));have K3 := K2.trans (KeepE.set B2 (by decide) h.big 2 v');refine ⟨v', w2, hr, KeepE.of_below bd, K1, K2, K3, hd.blk.cell 2, ha.blk.cell 2, B2.cell 2, B2.frozen 2, ?_, h.big, row_setR k1 B2 (by decide), row_setR R2 B2 (by decide)⟩;exact B2.set 2 v'
open Go.RowKit
theorem rfadd_any {cb B R g : Nat} {bad : Int} {vn vr : Value} {nodes : List Int} {row : List Ent} {w : World} (hBw : B ≤ w.heap.size) (hwk : WkAt cb B R g bad vn vr nodes row w) (l : List Ent) (hlen : row.length + l.length ≤ 100000) (lv : Value) (hl : EntsK B lv l w) :
 Calls Tryz.prog 51 #[.pointer (some ⟨R, 0, none⟩), lv] w fun e w' => e = .returned (.tuple #[]) ∧ (∃ vr', WkAt cb B R g bad vn vr' nodes (row ++ l) w') ∧ KeepE B w w' := by
 have mixed : Tryz.prog.follows .mixedOrders = true := by kernel_rfl
 obtain ⟨ad, cap, rfl, c1, c2, c3⟩ := entsK_cells hl;have H3 := Lib.hid c3;have HWK0 := Lib.hid hwk
 have HTT : Hid (∀ k, k < l.length → row ++ l.take (k + 1) = row ++ l.take k ++ [eat l k]) := Lib.hid fun k hk => by rw [List.take_succ_eq_append_getElem hk, ← eat_eq hk, List.append_assoc]
 have HTE : Hid (row ++ l.take l.length = row ++ l) := Lib.hid (by rw [List.take_length]);have HTZ : Hid (WkAt cb B R g bad vn vr nodes (row ++ l.take 0) w) := Lib.hid (by rw [List.take_zero, List.append_nil]; exact hwk)
 have HTL : Hid (∀ k, k ≤ l.length → (row ++ l.take k).length ≤ 100000) := Lib.hid fun k hk => by rw [List.length_append, List.length_take]; omega
 clear c3 hl hwk
 go_enter Tryz.func51, Tryz.ntmps51
 go_wp2
 go_loopw [4] (fun p wr => ∃ (k : Nat) (v : Value), p = .int .i64 k ∧ k ≤ l.length ∧ Hid (WkAt cb B R g bad vn v nodes (row ++ l.take k) wr) ∧ Hid (KeepE B w wr)) (fun p _ => l.length - (intOf p).toNat)
 case atStart => exact ⟨0, _, rfl, Nat.zero_le _, HTZ, Lib.hid (KeepE.refl _ _)⟩
 case round =>
  obtain ⟨k, v, rfl, hk, HWK, HKE⟩ := hrel;by_cases hlt : k < l.length
  ·obtain ⟨gl, o, rfl, hc⟩ := H3.out (by omega)
   have hcc := fun (w' : World) (h : KeepE B wr w') => hc w' (HKE.out.trans h) k hlt;have HT := Lib.hid (HTT.out k hlt);clear hc;have hql := HTL.out k hk;generalize eat l k = yk at *;generalize row ++ l.take k = Q0 at *;obtain ⟨ea, ep, ez⟩ := yk;dsimp only at hcc;obtain ⟨v', w2, hrun, K0, K1, K2, K3, r0, r1, r2, f2, wk3⟩ := add_facts (Nat.le_trans hBw HKE.out.size) HWK.out ⟨ea, ep, ez⟩ hql;dsimp only [entC] at hrun K1 r1;generalize Q0 ++ [(⟨ea, ep, ez⟩ : Ent)] = Q1 at *;obtain ⟨an, cn, rfl, -⟩ := shape_of wk3.r;have HRUN := Lib.hid hrun;have HS0 := Lib.hid (hcc _ K0);have HS1 := Lib.hid (hcc _ K1);have HS2 := Lib.hid (hcc _ K2);have HS3 := Lib.hid (hcc _ K3);have RD0 := Lib.hid r0;have RD1 := Lib.hid r1;have RD2 := Lib.hid r2;have FR2 := Lib.hid f2;have HKN := Lib.hid (HKE.out.trans K3);have HWN := Lib.hid wk3;obtain ⟨ao, co, rfl, -⟩ := shape_of HWK.out.r;clear hcc K0 K1 K2 K3 r0 r1 r2 f2 wk3 hrun HTT HTL HTZ H3 HWK0 HWK HKE;have HWK := HWN;have HKE := HKN;clear HWN HKN
   go_upto_region 3 with fail
   refine wp_region_held_drew (S := fun w9 => w9.cell? ⟨gl, o + k * 3, none⟩ = some (.int .i64 ea) ∧ w9.cell? ⟨gl, o + k * 3 + 1, none⟩ = some (.int .i64 ep) ∧ w9.cell? ⟨gl, o + k * 3 + 2, none⟩ = some (.int .i64 ez)) mixed HS0.out (fun hHeld => ?_);generalize wr.drew = wd at *;refine tk 0 _ rfl (by intro w9 hSw; clear hSw; go_simp; try with_reducible rfl) hHeld ?_
   try simp only [Act.put, za, zb, zc, zd, ze, zf]
   refine tk 1 _ rfl (by intro w9 hSw; clear hSw; go_simp; try with_reducible rfl) hHeld ?_
   try simp only [Act.put, za, zb, zc, zd, ze, zf]
   refine tk 2 _ rfl (by intro w9 hSw; clear hSw; go_simp; try with_reducible rfl) hHeld ?_
   try simp only [Act.put, za, zb, zc, zd, ze, zf]
   refine tk 3 _ rfl (by intro w9 hSw; clear hSw; go_simp; try with_reducible rfl) hHeld ?_
   try simp only [Act.put, za, zb, zc, zd, ze, zf]
   refine tk 5 _ rfl (by intro w9 hSw; clear hSw; go_simp; try with_reducible rfl) hHeld ?_
   try simp only [Act.put, za, zb, zc, zd, ze, zf]
   refine tk 6 _ rfl (by intro w9 hSw; clear hSw; go_simp; try with_reducible rfl) hHeld ?_
   try simp only [Act.put, za, zb, zc, zd, ze, zf]
   refine tk 7 _ rfl (by intro w9 hSw; clear hSw; go_simp; try with_reducible rfl) hHeld ?_
   try simp only [Act.put, za, zb, zc, zd, ze, zf]
   refine tk 8 _ rfl (by intro w9 hSw; clear hSw; go_simp; try with_reducible rfl) hHeld ?_
   try simp only [Act.put, za, zb, zc, zd, ze, zf]
   refine tk 9 _ rfl (by intro w9 hSw; obtain ⟨e1, e2, e3⟩ := hSw; go_simp; try with_reducible rfl) hHeld ?_
   try simp only [Act.put, za, zb, zc, zd, ze, zf]
   refine tk 10 _ rfl (by intro w9 hSw; clear hSw; go_simp; try with_reducible rfl) hHeld ?_
   try simp only [Act.put, za, zb, zc, zd, ze, zf]
   refine tk 11 _ rfl (by intro w9 hSw; clear hSw; go_simp; try with_reducible rfl) hHeld ?_
   try simp only [Act.put, za, zb, zc, zd, ze, zf]
   refine tk 12 _ rfl (by intro w9 hSw; clear hSw; go_simp; try with_reducible rfl) hHeld ?_
   try simp only [Act.put, za, zb, zc, zd, ze, zf]
   refine tk 13 _ rfl (by intro w9 hSw; clear hSw; go_simp; try with_reducible rfl) hHeld ?_
   try simp only [Act.put, za, zb, zc, zd, ze, zf]
   refine tk 14 _ rfl (by intro w9 hSw; obtain ⟨e1, e2, e3⟩ := hSw; go_simp; try with_reducible rfl) hHeld ?_
   try simp only [Act.put, za, zb, zc, zd, ze, zf]
   refine tk 15 _ rfl (by intro w9 hSw; clear hSw; go_simp; try with_reducible rfl) hHeld ?_
   try simp only [Act.put, za, zb, zc, zd, ze, zf]
   refine tk 16 _ rfl (by intro w9 hSw; clear hSw; go_simp; try with_reducible rfl) hHeld ?_
   try simp only [Act.put, za, zb, zc, zd, ze, zf]
   refine tk 17 _ rfl (by intro w9 hSw; clear hSw; go_simp; try with_reducible rfl) hHeld ?_
   try simp only [Act.put, za, zb, zc, zd, ze, zf]
   refine tk 18 _ rfl (by intro w9 hSw; clear hSw; go_simp; try with_reducible rfl) hHeld ?_
   try simp only [Act.put, za, zb, zc, zd, ze, zf]
   refine tk 19 _ rfl (by intro w9 hSw; obtain ⟨e1, e2, e3⟩ := hSw; go_simp; try with_reducible rfl) hHeld ?_
   try simp only [Act.put, za, zb, zc, zd, ze, zf]
   refine tk 20 _ rfl (by intro w9 hSw; clear hSw; go_simp; try with_reducible rfl) hHeld ?_
   try simp only [Act.put, za, zb, zc, zd, ze, zf]
   refine wpAnyH_ready (rs := [4, 21]) (by kernel_rfl) (by simp) ?_;refine AllReadyH.cons (o := _) rfl (fun K hK => ?_) ?_
   ·have cr := RD0.out
    go_simp;clear cr;clear hHeld;refine hK.out _ _ (HS0.out) (fun hHeld => ?_);clear hK K
    try simp only [Act.put, za, zb, zc, zd, ze, zf]
    refine wpAnyH_ready (rs := [21]) (by kernel_rfl) (by simp) ?_;refine AllReadyH.cons (o := _) rfl (fun K hK => ?_) ?_
    ·go_simp
     clear hHeld;refine hK.out _ _ (HS1.out) (fun hHeld => ?_);clear hK K
     try simp only [Act.put, za, zb, zc, zd, ze, zf]
     refine wpAnyH_ready (rs := [22]) (by kernel_rfl) (by simp) ?_;refine AllReadyH.cons (o := _) rfl (fun K hK => ?_) ?_
     ·refine step_append rfl _ _ _ rfl rfl rfl HRUN.out ?_
      try go_simp
      clear hHeld;refine hK.out _ _ (HS2.out) (fun hHeld => ?_);clear hK K
      try simp only [Act.put, za, zb, zc, zd, ze, zf]
      refine tk 23 _ rfl (by intro w9 hSw; clear hSw; go_simp; try with_reducible rfl) hHeld ?_
      try simp only [Act.put, za, zb, zc, zd, ze, zf]
      refine tk 24 _ rfl (by intro w9 hSw; clear hSw; go_simp; try with_reducible rfl) hHeld ?_
      try simp only [Act.put, za, zb, zc, zd, ze, zf]
      refine wpAnyH_ready (rs := [25]) (by kernel_rfl) (by simp) ?_;refine AllReadyH.cons (o := _) rfl (fun K hK => ?_) ?_
      ·have cr := RD2.out
       have fr := FR2.out;go_simp;clear cr fr;clear hHeld;refine hK.out _ _ (HS3.out) (fun hHeld => ?_);clear hK K
       try simp only [Act.put, za, zb, zc, zd, ze, zf]
       refine ⟨by kernel_rfl, ?_⟩;clear hHeld;clear HS0 HS1 HS2 HS3 RD0 RD1 RD2 FR2 HRUN;go_wp2;exact ⟨⟨k + 1, _, by go_num, by omega, Lib.hid (by rw [HT.out]; exact HWK.out), HKE⟩, by simp [intOf]; omega⟩
      exact AllReadyH.nil
     exact AllReadyH.nil
    exact AllReadyH.nil
   refine AllReadyH.cons (o := _) rfl (fun K hK => ?_) ?_
   ·go_simp
    clear hHeld;refine hK.out _ _ (HS1.out) (fun hHeld => ?_);clear hK K
    try simp only [Act.put, za, zb, zc, zd, ze, zf]
    refine wpAnyH_ready (rs := [4]) (by kernel_rfl) (by simp) ?_;refine AllReadyH.cons (o := _) rfl (fun K hK => ?_) ?_
    ·have cr := RD1.out
     go_simp;clear cr;clear hHeld;refine hK.out _ _ (HS1.out) (fun hHeld => ?_);clear hK K
     try simp only [Act.put, za, zb, zc, zd, ze, zf]
     refine wpAnyH_ready (rs := [22]) (by kernel_rfl) (by simp) ?_;refine AllReadyH.cons (o := _) rfl (fun K hK => ?_) ?_
     ·refine step_append rfl _ _ _ rfl rfl rfl HRUN.out ?_
      try go_simp
      clear hHeld;refine hK.out _ _ (HS2.out) (fun hHeld => ?_);clear hK K
      try simp only [Act.put, za, zb, zc, zd, ze, zf]
      refine tk 23 _ rfl (by intro w9 hSw; clear hSw; go_simp; try with_reducible rfl) hHeld ?_
      try simp only [Act.put, za, zb, zc, zd, ze, zf]
      refine tk 24 _ rfl (by intro w9 hSw; clear hSw; go_simp; try with_reducible rfl) hHeld ?_
      try simp only [Act.put, za, zb, zc, zd, ze, zf]
      refine wpAnyH_ready (rs := [25]) (by kernel_rfl) (by simp) ?_;refine AllReadyH.cons (o := _) rfl (fun K hK => ?_) ?_
      ·have cr := RD2.out
       have fr := FR2.out;go_simp;clear cr fr;clear hHeld;refine hK.out _ _ (HS3.out) (fun hHeld => ?_);clear hK K
       try simp only [Act.put, za, zb, zc, zd, ze, zf]
       refine ⟨by kernel_rfl, ?_⟩;clear hHeld;clear HS0 HS1 HS2 HS3 RD0 RD1 RD2 FR2 HRUN;go_wp2;exact ⟨⟨k + 1, _, by go_num, by omega, Lib.hid (by rw [HT.out]; exact HWK.out), HKE⟩, by simp [intOf]; omega⟩
      exact AllReadyH.nil
     exact AllReadyH.nil
    exact AllReadyH.nil
   exact AllReadyH.nil
  ·obtain rfl : k = l.length := by omega
   rw [HTE.out] at HWK;clear HTT HTL HTZ H3 HWK0;go_wp2
   go_end0
   exact ⟨rfl, ⟨_, HWK.out⟩, HKE.out⟩
end Go.Proofs.YtknefoemgifbfaaGreat
