import Derived.Test.YtknefoemgifbfaaGreatPd22
import Derived.Test.YtknefoemgifbfaaGreatPd28
set_option linter.unusedVariables false
set_option linter.unusedSimpArgs false
set_option linter.constructorNameAsVariable false
set_option maxRecDepth 100000
set_option maxHeartbeats 16000000
namespace Go.Proofs.YtknefoemgifbfaaGreat
open Go.RowKit
theorem appG_run (w : World) (base : Nat) (T e : TypeId) (ty : TypeId) (z : Value) (sz bytes : Nat) (ht : Tryz.prog.underlying T = some (.slice e)) (hi : (Tryz.prog.info? e).map (fun i => (i.zero, i.size, i.bytes)) = some (some z, sz, bytes)) (hzs : z.cells.size = sz) (hsz : 0 < sz) (hby : bytes ≤ 64)
 (v : Value) (n : Nat) (xs : List Value) (hown : w.ownsRow base e sz v n xs) (ad : Addr) (m c : Nat) (news : List Value) (hl : news.length = m * sz) (hnews : ∀ j x, news[j]? = some x → w.cell? (ad.add j) = some x) (h1 : ∀ x ∈ news, x.oneCell' = true) (hm : 0 < m) (hlen : n + m ≤ 4000000) (hbase : base ≤ w.heap.size) :
 ∃ v' w', (Builtin.append_ #[T, T] ty #[v, .slice (some ad) m c]).run Tryz.prog w = .ok v' w' ∧ w'.ownsRow base e sz v' (n + m) (xs ++ news) ∧ w.grownBy w' v.ownBlock ∧ StaysG v v' w w' := by
 obtain ⟨i, hi0, hz0, hs0, hb0⟩ := info_parts hi
 have hbyt : (n + m) * bytes ≤ 140737488355328 := by
  have : (n + m) * bytes ≤ 4000000 * 64 := Nat.mul_le_mul hlen hby;omega
 have R := fun b (hb : b ≤ w.heap.size) (ho : w.ownsRow b e sz v n xs) => run_append_own (P := Tryz.prog) w b T ty e i z sz bytes ht hi0 hz0 hs0 hb0 hzs hsz v n xs ho ad m c news hl hnews h1 (by unfold maxLen; omega) hbyt hb;obtain ⟨v', w', hr, h2, h3, _⟩ := R base hbase hown;refine ⟨v', w', hr, h2, h3, ?_⟩;rcases hown.2 with ⟨rfl, rfl⟩ | ⟨g, cap, cur, rfl, hbg, hg, hnc, hcm, hcs, htake⟩
 ·have hx : xs = [] := List.eq_nil_of_length_eq_zero (by simpa using hown.1)
  subst hx;obtain ⟨v2, w2, hr2, k2, _, _⟩ := R w.heap.size (Nat.le_refl _) (World.ownsRow_nil _ _ _ _);rw [hr] at hr2
  obtain ⟨rfl, rfl⟩ : v' = v2 ∧ w' = w2 := by injection hr2 with a b; exact ⟨a, b⟩
  exact .inr ⟨fun k hk => (k2.lt k hk).1, fun g hg => by cases hg⟩
 ·by_cases hroom : n + m ≤ cap
  ·obtain ⟨w2, hr2, _, _⟩ := run_append_fits (P := Tryz.prog) w base T ty e i sz ht hi0 hs0 g n cap xs hown ad m c news hl hnews h1 hroom
   rw [hr] at hr2
   injection hr2 with a b
   subst a;exact .inl rfl
  ·have hr2 := run_append_grow (P := Tryz.prog) w T ty e i z ht hi0 hz0 ⟨g, 0, none⟩ n cap xs (by rw [hs0]; exact hown.1) (hown.cells (g := g) rfl) ad m c news (by rw [hs0]; exact hl) hnews (by omega) (by omega) (growslice_fits (by omega) (by rw [hb0]; exact hbyt))
   rw [hr] at hr2
   injection hr2 with a b
   subst a
   refine .inr ⟨fun k hk => by
    have : some w.heap.size = some k := hk
    injection this with h; omega, fun q hq => ?_⟩
   obtain rfl : g = q := by simpa [Value.ownBlock] using hq
   exact (congrArg (fun y : World => y.heap[g]?) b).trans (drew_alloc_at w _ g (lt_of_block hg))
theorem Turns.rowG {p : TypeId → Prop} {B B' n m z : Nat} {e : TypeId} (he : p e) {v v' : Value} {xs ys : List Value} {w w' : World} (h : w.ownsRow B' e z v n xs) (hB : B ≤ B') (g : w.grownBy w' v.ownBlock) (h' : w'.ownsRow B' e z v' m ys) (hv : StaysG v v' w w') : Turns p B w w' := by
 refine ⟨g.os, g.tape, g.output, g.size, fun k hk => ?_⟩;by_cases hq : some k = v.ownBlock
 ·rcases hv with hv | hv
  ·obtain ⟨t1, t2, t3⟩ := own_ty h hq.symm
   obtain ⟨u1, u2, u3⟩ := own_ty h' (hv.trans hq.symm);obtain ⟨c, q, e1⟩ := t1;obtain ⟨c', q', e2⟩ := u1;exact .inr ⟨by omega, c, c', _, q, q', he, e1, e2⟩
  ·exact .inl (hv.2 k hq.symm)
 ·exact .inl (g.block k hk hq)
theorem noTree_run : noTree 136 := by unfold noTree; decide
theorem appR_run (w : World) (base B2 : Nat) (v u : Value) (T : List (Int × Int)) (a b : Int) (hv : RunsAt base v T w) (hu : RunsAt B2 u [(a, b)] w) (hlen : T.length ≤ 3000000) (hbase : base ≤ w.heap.size) :
 ∃ v' w', (∃ ad n c, v' = .slice ad n c) ∧ (Builtin.append_ #[126, 126] 126 #[v, u]).run Tryz.prog w = .ok v' w' ∧ RunsAt base v' (T ++ [(a, b)]) w' ∧ Below base w w' ∧ Turns noTree base w w' ∧ ∀ k, k < w.heap.size → some k ≠ v.ownBlock → w'.heap[k]? = w.heap[k]? := by
 have hu0 := hu;obtain ⟨ad, c, rfl, -, -, hg⟩ := shape_of hu;obtain ⟨g, rfl, -, -⟩ := hg (by simp)
 obtain ⟨v', w', hr, h2, h3, h4⟩ := appG_run w base 126 136 126 (.agg #[.int .i64 0, .int .i64 0]) 2 16 Tryz.underlying126 info_run rfl (by decide) (by decide) v T.length (cellsR T) hv ⟨g, 0, none⟩ 1 c (cellsR [(a, b)]) rfl (fun j x hj => by
  rw [add_at, Nat.zero_add];have hlt := (List.getElem?_eq_some_iff.1 hj).1;rw [cellsR_length] at hlt
  exact (hu0.cellAt j (by simpa using hlt)).trans hj) (fun x hx => by
  simp only [cellsR, List.mem_cons, List.not_mem_nil, or_false] at hx
  rcases hx with rfl | rfl <;> rfl) (by decide) (by omega) hbase
 have h5 : RunsAt base v' (T ++ [(a, b)]) w' := runs_snoc rfl h2;obtain ⟨ad, c2, e, -⟩ := shape_of h5;exact ⟨v', w', ⟨ad, _, c2, e⟩, hr, h5, below_of_row hv h3 hbase, Turns.rowG noTree_run hv (Nat.le_refl _) h3 h2 h4, fun k h6 h7 => h3.block k h6 h7⟩
open Go.RowKit
theorem Leaves.blk {p : TypeId → Prop} {B : Nat} {w w' : World} (h : Leaves p B w w') {g : Nat} {cs : Array Value} {t : TypeId} (k : Blk g cs t w) (he : ¬ p t) : Blk g cs t w' := by
 refine Eq.trans ?_ k;rcases h.block g k.lt with e | ⟨_, t', ht, hty⟩
 ·exact e
 ·exact absurd (ty_one hty ⟨_, _, k⟩ ▸ ht) he
def mvP (lg n : Int) (x : Ent) : Bool := decide (x.log = lg) && decide (x.len = n)
def mvF (lg n tt : Int) : Chg Unit := fun _ x => ((), if mvP lg n x then ⟨x.log, tt, x.len⟩ else x)
def ldF (fr tt : Int) : Chg Unit := fun _ x => ((), if x.phys = fr then ⟨x.log, tt, x.len⟩ else x)
theorem move1_any (x : Ent) (lg n : Int) (a b : Nat) (W : World) (ha : Blk a #[.int .i64 lg] 3 W) (hb : Blk b #[.int .i64 n] 3 W) :
 Calls Tryz.prog 56 #[entV x, .pointer (some ⟨a, 0, none⟩), .pointer (some ⟨b, 0, none⟩)] W fun e W' => e = .returned (.bool (mvP lg n x)) ∧ Below W.heap.size W W' := by
 obtain ⟨xa, xp, xz⟩ := x;have hb1 := balloc1 W (.cells (entC ⟨xa, xp, xz⟩) 53);have a0 := (ha.kept1 hb1).cell 0;have b0 := (hb.kept1 hb1).cell 0;simp only [List.getElem?_toArray, List.getElem?_cons_zero, List.getElem?_cons_succ] at a0 b0;have HB := Lib.hid hb1;have la := (ha.kept1 hb1).lt;unfold mvP;dsimp only;clear ha hb hb1;by_cases h1 : xa = lg
 ·subst h1
  have d1 : (xa == xa) = true := by simp
  by_cases h2 : xz = n
  ·subst h2
   have d2 : (xz == xz) = true := by simp
   go_enter Tryz.func56, Tryz.ntmps56
   go_wp2;go_ret;exact ⟨by simp, HB.out⟩
  ·have d2 : (xz == n) = false := by rw [beq_eq_false_iff_ne]; exact h2
   rw [decide_eq_false h2];clear h2
   go_enter Tryz.func56, Tryz.ntmps56
   go_wp2;go_ret;exact ⟨by simp, HB.out⟩
 ·have d1 : (xa == lg) = false := by rw [beq_eq_false_iff_ne]; exact h1
  rw [decide_eq_false h1];clear h1
  go_enter Tryz.func56, Tryz.ntmps56
  go_wp2;go_ret;exact ⟨by simp, HB.out⟩
structure MvMem (lg n tt : Int) (a b m t : Nat) (w : World) : Prop where
 ba : Blk a #[.int .i64 lg] 3 w
 bb : Blk b #[.int .i64 n] 3 w
 bm : Blk m #[.func (.func 56) #[] #[.pointer (some ⟨a, 0, none⟩), .pointer (some ⟨b, 0, none⟩)]] 117 w
 bt : Blk t #[.int .i64 tt] 3 w
theorem MvMem.kept1 {lg n tt : Int} {a b m t : Nat} {w w' : World} (h : MvMem lg n tt a b m t w) (k : Below w.heap.size w w') : MvMem lg n tt a b m t w' := ⟨h.ba.kept1 k, h.bb.kept1 k, h.bm.kept1 k, h.bt.kept1 k⟩
theorem move2_any (x : Ent) (lg n tt : Int) (a b m t : Nat) (W : World) (h : MvMem lg n tt a b m t W) :
 Calls Tryz.prog 61 #[entV x, .pointer (some ⟨m, 0, none⟩), .pointer (some ⟨t, 0, none⟩)] W fun e W' => e = .returned (entV (mvF lg n tt () x).2) ∧ Below W.heap.size W W' := by
 have eg : ∀ args w, (callFunc 56 args).run Tryz.prog w = .ok (.enter 56 args) w := enters_of Tryz.func56 (by kernel_rfl) rfl;obtain ⟨xa, xp, xz⟩ := x;have hb1 := balloc1 W (.cells (#[.int .i64 xa, .int .i64 xp, .int .i64 xz]) 31);have hb2 := bnext hb1 (balloc1 _ (.cells (#[.int .i64 0, .int .i64 0, .int .i64 0]) 31));have hm := (h.kept1 hb2).bm.cell 0;simp only [List.getElem?_toArray, List.getElem?_cons_zero, List.getElem?_cons_succ] at hm;have HX : Hid (Blk W.heap.size (#[.int .i64 xa, .int .i64 xp, .int .i64 xz]) 31 ((W.alloc (.cells (#[.int .i64 xa, .int .i64 xp, .int .i64 xz]) 31)).alloc (.cells (#[.int .i64 0, .int .i64 0, .int .i64 0]) 31))) := Lib.hid ((Blk.new _ _ _).kept1 (balloc1 _ _));have HR : Hid (Blk (W.heap.size + 1) (#[.int .i64 0, .int .i64 0, .int .i64 0]) 31 ((W.alloc (.cells (#[.int .i64 xa, .int .i64 xp, .int .i64 xz]) 31)).alloc (.cells (#[.int .i64 0, .int .i64 0, .int .i64 0]) 31))) := Lib.hid (by have := Blk.new (#[.int .i64 0, .int .i64 0, .int .i64 0]) 31 (W.alloc (.cells (#[.int .i64 xa, .int .i64 xp, .int .i64 xz]) 31)); rwa [size_alloc] at this);have HH := Lib.hid (h.kept1 hb2);have HB2 := Lib.hid hb2;have C := Lib.hid (fun W h1 h2 => move1_any ⟨xa, xp, xz⟩ lg n a b W h1 h2);have hlt := (h.kept1 hb1).bm.lt;clear h hb1 hb2;generalize hw2 : (W.alloc (.cells (#[.int .i64 xa, .int .i64 xp, .int .i64 xz]) 31)).alloc (.cells (#[.int .i64 0, .int .i64 0, .int .i64 0]) 31) = W2 at *;have HW2 := Lib.hid hw2;have HC := Lib.hid (C.out W2 HH.out.ba HH.out.bb);clear C
 go_enter Tryz.func61, Tryz.ntmps61
 go_upto_region 1 with fail
 try rw [HW2.out]
 have x0 := HX.out.cell 0;have x1 := HX.out.cell 1;have x2 := HX.out.cell 2;simp only [List.getElem?_toArray, List.getElem?_cons_zero, List.getElem?_cons_succ] at x0 x1 x2;clear hw2;go_wp2_with fail
 refine HC.out.mono ?_; rintro e w3 ⟨rfl, b3⟩;have HX3 := Lib.hid (HX.out.kept1 b3);have HR3 := Lib.hid (HR.out.kept1 b3);have HH3 := Lib.hid (HH.out.kept1 b3);have HB3 := Lib.hid (bnext HB2.out b3);clear HC HX HR HH HB2 b3 x0 x1 x2 hm;have x0 := HX3.out.cell 0;have x1 := HX3.out.cell 1;have x2 := HX3.out.cell 2;have xf := HX3.out.frozen 1;have r0 := HR3.out.cell 0;have r1 := HR3.out.cell 1;have r2 := HR3.out.cell 2;have rf0 := HR3.out.frozen 0;have rf1 := HR3.out.frozen 1;have rf2 := HR3.out.frozen 2;have t0 := HH3.out.bt.cell 0;simp only [List.getElem?_toArray, List.getElem?_cons_zero, List.getElem?_cons_succ] at x0 x1 x2 r0 r1 r2 t0
 have HZ : Hid (∀ u v p, Below W.heap.size W ((((w3.setCell ⟨W.heap.size, 1, none⟩ p).setCell ⟨W.heap.size + 1, 0, none⟩ u).setCell ⟨W.heap.size + 1, 1, none⟩ p).setCell ⟨W.heap.size + 1, 2, none⟩ v)) := Lib.hid fun u v p =>
  (((HB3.out.setCell (p := ⟨W.heap.size, 1, none⟩) (Nat.le_refl _) _).setCell (p := ⟨W.heap.size + 1, 0, none⟩) (Nat.le_succ _) _).setCell (p := ⟨W.heap.size + 1, 1, none⟩) (Nat.le_succ _) _).setCell (p := ⟨W.heap.size + 1, 2, none⟩) (Nat.le_succ _) _
 have HZ2 : Hid (∀ u v p, Below W.heap.size W (((w3.setCell ⟨W.heap.size + 1, 0, none⟩ u).setCell ⟨W.heap.size + 1, 1, none⟩ p).setCell ⟨W.heap.size + 1, 2, none⟩ v)) := Lib.hid fun u v p =>
  ((HB3.out.setCell (p := ⟨W.heap.size + 1, 0, none⟩) (Nat.le_succ _) _).setCell (p := ⟨W.heap.size + 1, 1, none⟩) (Nat.le_succ _) _).setCell (p := ⟨W.heap.size + 1, 2, none⟩) (Nat.le_succ _) _
 cases hmv : mvP lg n ⟨xa, xp, xz⟩ with
 | true =>
   have HMV : Hid ((mvF lg n tt () ⟨xa, xp, xz⟩).2 = ⟨xa, tt, xz⟩) := Lib.hid (by unfold mvF; rw [hmv]; rfl);clear hmv;go_wp2
   (try simp only [Exit.inBlock, Exit.then])
   refine bodyPost_ret (v := entV ⟨xa, tt, xz⟩) ?_ rfl ⟨by rw [HMV.out], HZ.out _ _ _⟩;rw [results_one_cell rfl];go_simp
 | false =>
   have HMV : Hid ((mvF lg n tt () ⟨xa, xp, xz⟩).2 = ⟨xa, xp, xz⟩) := Lib.hid (by unfold mvF; rw [hmv]; rfl);clear hmv;go_wp2
   (try simp only [Exit.inBlock, Exit.then])
   refine bodyPost_ret (v := entV ⟨xa, xp, xz⟩) ?_ rfl ⟨by rw [HMV.out], HZ2.out _ _ _⟩;rw [results_one_cell rfl];go_simp
structure LdMem (fr tt : Int) (a t : Nat) (w : World) : Prop where
 ba : Blk a #[.int .i64 fr] 3 w
 bt : Blk t #[.int .i64 tt] 3 w
theorem LdMem.kept1 {fr tt : Int} {a t : Nat} {w w' : World} (h : LdMem fr tt a t w) (k : Below w.heap.size w w') : LdMem fr tt a t w' := ⟨h.ba.kept1 k, h.bt.kept1 k⟩
theorem lead1_any (x : Ent) (fr tt : Int) (a t : Nat) (W : World) (h : LdMem fr tt a t W) :
 Calls Tryz.prog 67 #[entV x, .pointer (some ⟨a, 0, none⟩), .pointer (some ⟨t, 0, none⟩)] W fun e W' => e = .returned (entV (ldF fr tt () x).2) ∧ Below W.heap.size W W' := by
 obtain ⟨xa, xp, xz⟩ := x;have hb1 := balloc1 W (.cells #[.int .i64 xa, .int .i64 xp, .int .i64 xz] 31);have hb2 := bnext hb1 (balloc1 _ (.cells #[.int .i64 0, .int .i64 0, .int .i64 0] 31));have hm := (h.kept1 hb2).ba.cell 0;have ht := (h.kept1 hb2).bt.cell 0;simp only [List.getElem?_toArray, List.getElem?_cons_zero, List.getElem?_cons_succ] at hm ht;have HX : Hid (Blk W.heap.size #[.int .i64 xa, .int .i64 xp, .int .i64 xz] 31 ((W.alloc (.cells #[.int .i64 xa, .int .i64 xp, .int .i64 xz] 31)).alloc (.cells #[.int .i64 0, .int .i64 0, .int .i64 0] 31))) := Lib.hid ((Blk.new _ _ _).kept1 (balloc1 _ _));have HR : Hid (Blk (W.heap.size + 1) #[.int .i64 0, .int .i64 0, .int .i64 0] 31 ((W.alloc (.cells #[.int .i64 xa, .int .i64 xp, .int .i64 xz] 31)).alloc (.cells #[.int .i64 0, .int .i64 0, .int .i64 0] 31))) := Lib.hid (by have := Blk.new #[.int .i64 0, .int .i64 0, .int .i64 0] 31 (W.alloc (.cells #[.int .i64 xa, .int .i64 xp, .int .i64 xz] 31)); rwa [size_alloc] at this);have HB2 := Lib.hid hb2;clear h hb1 hb2;generalize hw2 : (W.alloc (.cells #[.int .i64 xa, .int .i64 xp, .int .i64 xz] 31)).alloc (.cells #[.int .i64 0, .int .i64 0, .int .i64 0] 31) = w3 at *
 go_enter Tryz.func67, Tryz.ntmps67
 go_upto_region 1 with fail
 have x0 := HX.out.cell 0;have x1 := HX.out.cell 1;have x2 := HX.out.cell 2;have xf := HX.out.frozen 1;have r0 := HR.out.cell 0;have r1 := HR.out.cell 1;have r2 := HR.out.cell 2;have rf0 := HR.out.frozen 0;have rf1 := HR.out.frozen 1;have rf2 := HR.out.frozen 2;simp only [List.getElem?_toArray, List.getElem?_cons_zero, List.getElem?_cons_succ] at x0 x1 x2 r0 r1 r2
 have HZ : Hid (∀ u v p, Below W.heap.size W ((((w3.setCell ⟨W.heap.size, 1, none⟩ p).setCell ⟨W.heap.size + 1, 0, none⟩ u).setCell ⟨W.heap.size + 1, 1, none⟩ p).setCell ⟨W.heap.size + 1, 2, none⟩ v)) := Lib.hid fun u v p =>
  (((HB2.out.setCell (p := ⟨W.heap.size, 1, none⟩) (Nat.le_refl _) _).setCell (p := ⟨W.heap.size + 1, 0, none⟩) (Nat.le_succ _) _).setCell (p := ⟨W.heap.size + 1, 1, none⟩) (Nat.le_succ _) _).setCell (p := ⟨W.heap.size + 1, 2, none⟩) (Nat.le_succ _) _
 have HZ2 : Hid (∀ u v p, Below W.heap.size W (((w3.setCell ⟨W.heap.size + 1, 0, none⟩ u).setCell ⟨W.heap.size + 1, 1, none⟩ p).setCell ⟨W.heap.size + 1, 2, none⟩ v)) := Lib.hid fun u v p =>
  ((HB2.out.setCell (p := ⟨W.heap.size + 1, 0, none⟩) (Nat.le_succ _) _).setCell (p := ⟨W.heap.size + 1, 1, none⟩) (Nat.le_succ _) _).setCell (p := ⟨W.heap.size + 1, 2, none⟩) (Nat.le_succ _) _
 clear hw2;by_cases hx : xp = fr
 ·have HMV : Hid ((ldF fr tt () ⟨xa, xp, xz⟩).2 = ⟨xa, tt, xz⟩) := Lib.hid (by unfold ldF; rw [if_pos hx])
  have d1 : (xp == fr) = true := by rw [beq_iff_eq]; exact hx
  clear hx;go_wp2
  (try simp only [Exit.inBlock, Exit.then])
  refine bodyPost_ret (v := entV ⟨xa, tt, xz⟩) ?_ rfl ⟨by rw [HMV.out], HZ.out _ _ _⟩;rw [results_one_cell rfl];go_simp
 ·have HMV : Hid ((ldF fr tt () ⟨xa, xp, xz⟩).2 = ⟨xa, xp, xz⟩) := Lib.hid (by unfold ldF; rw [if_neg hx])
  have d1 : (xp == fr) = false := by rw [beq_eq_false_iff_ne]; exact hx
  clear hx;go_wp2
  (try simp only [Exit.inBlock, Exit.then])
  refine bodyPost_ret (v := entV ⟨xa, xp, xz⟩) ?_ rfl ⟨by rw [HMV.out], HZ2.out _ _ _⟩;rw [results_one_cell rfl];go_simp
theorem noTree_int : ¬ isTree 3 := by unfold isTree; decide
theorem noTree_fn : ¬ isTree 117 := by unfold isTree; decide
theorem move_turner (lg n tt : Int) (a b m t C B : Nat) : Turner (mvF lg n tt) 61 #[.pointer (some ⟨m, 0, none⟩), .pointer (some ⟨t, 0, none⟩)] (fun _ W => MvMem lg n tt a b m t W) C B where
 ent := enters_of Tryz.func61 (by kernel_rfl) rfl
 call := fun s x W _ _ h => (move2_any x lg n tt a b m t W h).mono fun e W' ⟨h1, h2⟩ => ⟨h1, h.kept1 h2, Turns.of_below h2⟩
 keep := fun s W W' _ h k => ⟨k.blk h.ba noTree_int, k.blk h.bb noTree_int, k.blk h.bm noTree_fn, k.blk h.bt noTree_int⟩
theorem lead_turner (fr tt : Int) (a t C B : Nat) : Turner (ldF fr tt) 67 #[.pointer (some ⟨a, 0, none⟩), .pointer (some ⟨t, 0, none⟩)] (fun _ W => LdMem fr tt a t W) C B where
 ent := enters_of Tryz.func67 (by kernel_rfl) rfl
 call := fun s x W _ _ h => (lead1_any x fr tt a t W h).mono fun e W' ⟨h1, h2⟩ => ⟨h1, h.kept1 h2, Turns.of_below h2⟩
 keep := fun s W W' _ h k => ⟨k.blk h.ba noTree_int, k.blk h.bt noTree_int⟩
open Go.RowKit
theorem lints_same (va vb : Value) (L : List Int) (w : World) (ha : IntsR va L w) (hb : IntsR vb L w) :
 Calls Tryz.prog 23 #[va, vb] w fun e w' => e = .returned (.bool true) ∧ Below w.heap.size w w' := by
 have mixed : Tryz.prog.follows .mixedOrders = true := by kernel_rfl
 obtain ⟨ada, capa, rfl, a1, a2, hada, -⟩ := ha.shape;obtain ⟨adb, capb, rfl, b1, b2, hadb, -⟩ := hb.shape;have HA := Lib.hid hada;have HB := Lib.hid hadb;clear ha hb hada hadb
 go_enter Tryz.func23, Tryz.ntmps23
 go_wp2
 go_loopw [5] (fun q wr => ∃ i : Nat, q = .int .i64 i ∧ i ≤ L.length ∧ Below w.heap.size w wr) (fun q _ => L.length - (intOf q).toNat)
 case atStart => exact ⟨0, rfl, Nat.zero_le _, Below.refl _ _⟩
 case round =>
  obtain ⟨i, rfl, hi, hbr⟩ := hrel;by_cases hlt : i < L.length
  ·obtain ⟨ga, oa, rfl, hga, hca⟩ := HA.out (by rw [List.length_map]; omega)
   obtain ⟨gb, ob, rfl, hgb, hcb⟩ := HB.out (by rw [List.length_map]; omega);have e1 := hca i (.int .i64 L[i]) (by rw [List.getElem?_map, List.getElem?_eq_getElem hlt]; rfl);have e2 := hcb i (.int .i64 L[i]) (by rw [List.getElem?_map, List.getElem?_eq_getElem hlt]; rfl);have q1 := fun p : BelowP wr => ((hbr.trans (p.h.mono hbr.size)).cell (p := ⟨ga, oa + i, none⟩) hga).trans e1;have q2 := fun p : BelowP wr => ((hbr.trans (p.h.mono hbr.size)).cell (p := ⟨gb, ob + i, none⟩) hgb).trans e2;generalize L[i] = z at *;clear HA HB hca hcb e1 e2;go_wp2;refine wp_region_quiet_below mixed (by kernel_rfl) ?_
   repeat (go_big_quiet_step (fail))
   refine wpQuiet_nil ?_;intro w0q hw';obtain ⟨⟨wq, bq⟩, hw''⟩ := hw';have hw2 : wq = w0q := hw''.symm;clear hw'';subst hw2;have hb2 := bnext hbr bq;clear q1 q2;go_wp2;exact ⟨⟨i + 1, by go_num, by omega, hb2⟩, by simp [intOf]; omega⟩
  ·obtain rfl : i = L.length := by omega
   clear HA HB;go_wp2;go_ret;exact ⟨rfl, hbr⟩
end Go.Proofs.YtknefoemgifbfaaGreat
