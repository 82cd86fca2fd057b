import Derived.Test.YtknefoemgifbfaaGreatPd41
import Derived.Test.YtknefoemgifbfaaGreatPd36
set_option linter.unusedVariables false
set_option linter.unusedSimpArgs false
set_option linter.constructorNameAsVariable false
set_option maxRecDepth 100000
set_option maxHeartbeats 16000000
namespace Go.Proofs.YtknefoemgifbfaaGreat
open Go.RowKit
theorem shpP_in {P : Value → List Ent → World → Prop} {B G : Nat} {S : Shp} {V : Nat → Value} {w : World} (hP : ∀ v x, P v x w → EntsIn v x w) (h : ShpAt P B G S V w) (hD : S.length ≤ 1000) : ShapeIn (.slice (some ⟨G, 0, none⟩) S.length S.length) S w := by
 refine ⟨(List.range S.length).map V, by simp, ⟨by simp, _, _, rfl, Nat.le_refl _, by unfold maxLen; omega, fun _ => ⟨G, 0, rfl, h.cells.1, fun k u hk => ?_⟩, fun e => by cases e⟩, fun k h1 h2 => ?_⟩
 ·rw [Nat.zero_add]
  have hlt := (List.getElem?_eq_some_iff.1 hk).1;rw [List.length_map, List.length_range] at hlt;rw [List.getElem?_map, List.getElem?_range hlt] at hk
  injection hk with hk
  rw [← hk];exact (h.cells.2 k hlt).1
 ·obtain ⟨Vs, v1, v2, v3⟩ := h.rows k h2
  rw [rowA_at h2] at v1 v2 v3;simp only [List.getElem_map, List.getElem_range];exact ⟨Vs, v1, own_in v2, fun j a b => hP _ _ (v3 j a b)⟩
theorem shpAt_in {C B G : Nat} {S : Shp} {V : Nat → Value} {w : World} (h : ShpAt (EntsS C) B G S V w) (hD : S.length ≤ 1000) : ShapeIn (.slice (some ⟨G, 0, none⟩) S.length S.length) S w := shpP_in (fun _ _ k => k.now) h hD
def Read4 (S : Shp) : Prop := S.length ≤ 5 ∧ ∀ k, (rowA S k).length ≤ 4097 ∧ ∀ x ∈ rowA S k, x.length ≤ 10 ∧ fitE x
theorem flat_le : ∀ (L : List (List Ent)), (∀ x ∈ L, x.length ≤ 10) → L.flatten.length ≤ L.length * 10
 | [], _ => by simp
 | x :: L, h => by
   have h1 := flat_le L fun y hy => h y (List.mem_cons_of_mem _ hy);have h2 := h x (List.mem_cons_self ..);rw [List.flatten_cons, List.length_append, List.length_cons];omega
theorem Read4.flat {S : Shp} (h : Read4 S) (k : Nat) : (rowA S k).flatten.length ≤ 40970 := by
 have h1 := flat_le (rowA S k) fun x hx => ((h.2 k).2 x hx).1;have h2 := (h.2 k).1;omega
theorem Read4.small {S : Shp} (h : Read4 S) : SmallS S := ⟨by have := h.1; omega, fun r => ⟨by have := (h.2 r).1; omega, by have := h.flat r; omega⟩⟩
theorem Read4.nums {S : Shp} (h : Read4 S) : (numsA S).length ≤ 900000 := by
 have key : ∀ k, (numsTo S k).length ≤ k * 40970 := fun k => by
  induction k with
  | zero => exact Nat.le_refl _
  | succ k ih =>
    rw [numsTo_succ, List.length_append, List.length_map];have := h.flat (k + 1);unfold headsA;omega
 have := key S.length;rw [numsTo_all] at this;have := h.1;omega
theorem Read4.fit {S : Shp} (h : Read4 S) (k : Nat) : fitE (rowA S k).flatten := fun e he => by
 obtain ⟨x, hx, he⟩ := List.mem_flatten.1 he;exact ((h.2 k).2 x hx).2 e he
theorem Read4.ints {S : Shp} (h : Read4 S) : ∀ b ∈ numsA S, I64 b := fun b hb => by
 unfold numsA at hb;obtain ⟨r, _, hr⟩ := List.mem_flatMap.1 hb;obtain ⟨e, he, rfl⟩ := List.mem_map.1 hr;exact (h.fit (r + 1) e he).2.1
theorem hit_sort (l : List Ent) (bl : List Int) : hitA l (sortI bl) = hitA l bl := by
 unfold hitA sortI;rw [Bool.eq_iff_iff, List.any_eq_true, List.any_eq_true];constructor
 ·rintro ⟨b, hb, h⟩
  exact ⟨b, List.mem_mergeSort.1 hb, h⟩
 ·rintro ⟨b, hb, h⟩
  exact ⟨b, List.mem_mergeSort.2 hb, h⟩
theorem sortI_len (l : List Int) : (sortI l).length = l.length := by unfold sortI; exact List.length_mergeSort _
theorem sortI_mem (l : List Int) (b : Int) : b ∈ sortI l ↔ b ∈ l := by unfold sortI; exact List.mem_mergeSort
theorem numsTo_blk (S : Shp) : ∀ r, r ≤ S.length → (∀ k, k < r → (headsA S k).length ≤ (rowA S k).length) → (blkTo S r).map (·.1) = numsTo S r
 | 0, _, _ => rfl
 | r + 1, hr, h => by
   rw [blkTo_succ, numsTo_succ, List.map_append, numsTo_blk S r (by omega) fun k hk => h k (by omega)];congr 1;unfold blkR;rw [List.map_map];have h1 := h r (Nat.lt_succ_self _)
   apply List.ext_getElem?
   intro i;rw [List.getElem?_map, List.getElem?_map];by_cases hi : i < (headsA S r).length
   ·rw [List.getElem?_eq_getElem (show i < ((headsA S r).zip (rowA S r)).length by rw [List.length_zip]; omega), List.getElem?_eq_getElem hi, List.getElem_zip]; rfl
   ·rw [List.getElem?_eq_none (by rw [List.length_zip]; omega), List.getElem?_eq_none (by omega)]; rfl
theorem nums_blk {S : Shp} (h : ∀ k, k < S.length → (headsA S k).length ≤ (rowA S k).length) : (blkTo S S.length).map (·.1) = numsA S := by
 rw [numsTo_blk S _ (Nat.le_refl _) h, numsTo_all]
theorem well_le {S : Shp} (h : WellS S) : ∀ r, r < S.length → (headsA S r).length ≤ (rowA S r).length := fun r hr => by
 by_cases e : r + 1 < S.length
 ·rw [h.heads r e]; exact Nat.le_refl _
 ·unfold headsA; rw [rowA_none (by omega)]; exact Nat.zero_le _
theorem tell_read {S : Shp} (h : GoodS S) (hr : Read4 S) : TellOk S where
 small := hr.small
 le := well_le h.well
 fit := fun r x hx => ((hr.2 r).2 x hx).2
 len := by
  have := congrArg List.length (nums_blk (well_le h.well));rw [List.length_map] at this;rw [this]; exact hr.nums
 nd := by rw [nums_blk (well_le h.well)]; exact h.nd
 pos := h.well.pos
 root := by rw [h.well.root]; omega
structure SameShp (S T : Shp) : Prop where
 len : T.length = S.length
 row : ∀ r, (rowA T r).map List.length = (rowA S r).map List.length
theorem SameShp.rows {S T : Shp} (h : SameShp S T) (r : Nat) : (rowA T r).length = (rowA S r).length := by
 have := congrArg List.length (h.row r);rwa [List.length_map, List.length_map] at this
theorem SameShp.flat {S T : Shp} (h : SameShp S T) (r : Nat) : (rowA T r).flatten.length = (rowA S r).flatten.length := by
 rw [List.length_flatten, List.length_flatten, h.row]
theorem SameShp.heads {S T : Shp} (h : SameShp S T) (r : Nat) : (headsA T r).length = (headsA S r).length := h.flat (r + 1)
theorem chgN_same {σ : Type} (f : Chg σ) (s : σ) (L : List (List Ent)) : (chgN f s L).2.map List.length = L.map List.length := by
 have key : ∀ (L : List (List Ent)) (s : σ), (accL (accL f) s L).2.map List.length = L.map List.length := fun L => by
  induction L with
  | nil => intro s; rfl
  | cons x L ih => intro s; rw [accL_cons, List.map_cons, List.map_cons, ih, accL_len]
 exact key L s
theorem chgS_same {σ : Type} (f : Chg σ) (s : σ) (S : Shp) : SameShp S (chgS f s S).2 := by
 refine ⟨chgS_len _ _ _, fun r => ?_⟩;by_cases h : r < S.length
 ·rw [(chgS_at f s S h).1, chgN_same]
 ·rw [rowA_none (S := S) (by omega), rowA_none (S := (chgS f s S).2) (by rw [chgS_len]; omega)]
theorem tell_same {S T : Shp} (h : TellOk S) (hs : SameShp S T) (hf : ∀ r, ∀ x ∈ rowA T r, fitE x) (hn : (numsA T).Nodup) : TellOk T := by
 have hle : ∀ r, r < T.length → (headsA T r).length ≤ (rowA T r).length := fun r hr => by rw [hs.heads, hs.rows]; exact h.le r (by rw [← hs.len]; exact hr)
 have hbl : ∀ r, (blkTo T r).length = (blkTo S r).length := fun r => by
  unfold blkTo blkR;rw [List.length_flatMap, List.length_flatMap];congr 1
  apply List.map_congr_left
  intro k _;rw [List.length_map, List.length_map, List.length_zip, List.length_zip, hs.heads, hs.rows]
 exact ⟨⟨by rw [hs.len]; exact h.small.1, fun r => by rw [hs.rows, hs.flat]; exact h.small.2 r⟩, hle, hf, by rw [hs.len, hbl]; exact h.len, by rw [nums_blk hle]; exact hn, by rw [hs.len]; exact h.pos, by rw [hs.len, hs.rows]; exact h.root⟩
theorem accU {α β : Type} (g : α → β) (l : List α) (u : Unit) : accL (fun (_ : Unit) x => ((), g x)) u l = ((), l.map g) := by
 have := accL_map g l;exact Prod.ext rfl this
theorem chgU (g : Ent → Ent) (S : Shp) : (chgS (fun (_ : Unit) x => ((), g x)) () S).2 = S.map fun n => n.map fun l => l.map g := by
 unfold chgS chgN
 have e1 : accL (fun (_ : Unit) (x : Ent) => ((), g x)) = fun (_ : Unit) (l : List Ent) => ((), l.map g) := by
  funext u l; exact accU g l u
 rw [e1]
 have e2 : accL (fun (_ : Unit) (l : List Ent) => ((), l.map g)) = fun (_ : Unit) (n : List (List Ent)) => ((), n.map fun l => l.map g) := by
  funext u n; exact accU _ n u
 rw [e2, accU]
theorem rowU (g : Ent → Ent) (S : Shp) (r : Nat) : rowA (S.map fun n => n.map fun l => l.map g) r = (rowA S r).map fun l => l.map g := by
 unfold rowA;rw [List.getElem?_map]
 cases S[r]? <;> rfl
theorem headsU (g : Ent → Ent) (S : Shp) (r : Nat) : headsA (S.map fun n => n.map fun l => l.map g) r = (headsA S r).map g := by
 unfold headsA;rw [rowU, List.map_flatten]
theorem numsU (g : Ent → Ent) (S : Shp) : numsA (S.map fun n => n.map fun l => l.map g) = (List.range S.length).flatMap fun r => (headsA S r).map fun x => (g x).phys := by
 unfold numsA;rw [List.length_map]
 exact flatMap_congr' fun r _ => by rw [headsU, List.map_map]; rfl
theorem heads_len {S : Shp} (h : GoodS S) (hroot : ∀ x ∈ rowA S (S.length - 1), RowOk (decide (S.length = 1)) x) : ∀ r, ∀ x ∈ headsA S r, EntOk false x := fun r x hx => by
 unfold headsA at hx;obtain ⟨n, hn, hx⟩ := List.mem_flatten.1 hx
 have hlt : r + 1 < S.length := by
  by_cases e : r + 1 < S.length
  ·exact e
  ·rw [rowA_none (by omega)] at hn; cases hn
 obtain ⟨i, hi, rfl⟩ := List.mem_iff_getElem.1 hx
 have key : RowOk false n := by
  by_cases e : r + 1 + 1 < S.length
  ·exact (h.nodes (r + 1) e n hn).2.2
  ·have := hroot n (by rw [show S.length - 1 = r + 1 by omega]; exact hn)
   rwa [decide_eq_false (by omega)] at this
 have := (key i hi).1;rwa [eat_eq hi] at this
theorem loadA_rooted {rd : Rd} {no : Bool} {depth : Int} {root : List Ent} {S : Shp} (h : loadA rd no depth root = .ok S) : RootedA depth root := by
 unfold loadA at h
 split at h
 ·rename_i hk; exact hk.1
 ·cases h
theorem load_heads {rd : Rd} {no : Bool} {depth : Int} {root : List Ent} {S : Shp} (h : loadA rd no depth root = .ok S) : ∀ r, ∀ x ∈ headsA S r, EntOk false x := by
 obtain ⟨g1, g2, g3⟩ := loadA_good h;refine heads_len g1 fun x hx => ?_;rw [g3, List.mem_singleton] at hx;subst hx;have hr := loadA_rooted h;unfold RootedA at hr;rw [ok_kindN (by show (1 : Int) ≠ 0; decide)] at hr;unfold Full at hr;have := hr.2.2.2.2.2.1;rw [show decide (S.length = 1) = decide (depth = 0) from decide_eq_decide.2 ⟨fun e => by omega, fun e => by omega⟩];exact this
theorem fit_map {g : Ent → Ent} {l : List Ent} (h : fitE l) (hg : ∀ x, I64 x.log ∧ I64 x.phys ∧ I64 x.len → I64 (g x).log ∧ I64 (g x).phys ∧ I64 (g x).len) : fitE (l.map g) := fun e he => by
 obtain ⟨x, hx, rfl⟩ := List.mem_map.1 he;exact hg x (h x hx)
theorem tell_map {S : Shp} (h : TellOk S) (g : Ent → Ent) (hg : ∀ x, I64 x.log ∧ I64 x.phys ∧ I64 x.len → I64 (g x).log ∧ I64 (g x).phys ∧ I64 (g x).len) (hn : ((List.range S.length).flatMap fun r => (headsA S r).map fun x => (g x).phys).Nodup) : TellOk (chgS (fun (_ : Unit) x => ((), g x)) () S).2 := by
 refine tell_same h (chgS_same _ _ _) (fun r x hx => ?_) ?_
 ·rw [chgU, rowU] at hx
  obtain ⟨l, hl, rfl⟩ := List.mem_map.1 hx;exact fit_map (h.fit r l hl) hg
 ·rw [chgU, numsU]; exact hn
theorem move_tell {rd : Rd} {no : Bool} {depth : Int} {root : List Ent} {S : Shp} (h : loadA rd no depth root = .ok S) (hr : Read4 S) {lg n tt : Int} (hx : RowOk true [⟨lg, tt, n⟩]) (ht : I64 tt) : TellOk (chgS (mvF lg n tt) () S).2 := by
 have hg := (loadA_good h).1
 have hn : 1 ≤ n := by
  have := ((entT _).1 (hx 0 (by simp)).1).1;exact this
 refine tell_map (tell_read hg hr) (fun x => if mvP lg n x then ⟨x.log, tt, x.len⟩ else x) (fun x k => ?_) ?_
 ·split
  ·exact ⟨k.1, ht, k.2.2⟩
  ·exact k
 ·have e : ((List.range S.length).flatMap fun r => (headsA S r).map fun x => (if mvP lg n x then (⟨x.log, tt, x.len⟩ : Ent) else x).phys) = numsA S := by
   unfold numsA;refine flatMap_congr' fun r _ => List.map_congr_left fun x hx => ?_;have h1 := load_heads h r x hx;unfold EntOk at h1
   simp at h1
   have : mvP lg n x = false := by unfold mvP; rw [decide_eq_false (show ¬ x.len = n by omega), Bool.and_false]
   rw [this]; rfl
  rw [e]; exact hg.nd
theorem nodup_turn {l : List Int} (h : l.Nodup) {fr tt : Int} (ht : tt ∉ l ∨ tt = fr) : (l.map fun p => if p = fr then tt else p).Nodup := by
 rw [List.nodup_iff_pairwise_ne, List.pairwise_map];refine (List.nodup_iff_pairwise_ne.1 h).imp_of_mem fun {a b} ha hb hne => ?_;by_cases h1 : a = fr
 ·rw [if_pos h1, if_neg (by rw [← h1]; exact fun e => hne e.symm)]
  rcases ht with ht | ht
  ·exact fun e => ht (e ▸ hb)
  ·rw [ht, ← h1]; exact hne
 ·rw [if_neg h1]
  by_cases h2 : b = fr
  ·rw [if_pos h2]
   rcases ht with ht | ht
   ·exact fun e => ht (e ▸ ha)
   ·rw [ht]; exact h1
  ·rw [if_neg h2]; exact hne
theorem lead_tell {rd : Rd} {no : Bool} {depth : Int} {root : List Ent} {S : Shp} (h : loadA rd no depth root = .ok S) (hr : Read4 S) {fr tt : Int} (ht : I64 tt) (hf : tt ∉ numsA S ∨ tt = fr) : TellOk (chgS (ldF fr tt) () S).2 := by
 have hg := (loadA_good h).1;refine tell_map (tell_read hg hr) (fun x => if x.phys = fr then ⟨x.log, tt, x.len⟩ else x) (fun x k => ?_) ?_
 ·split
  ·exact ⟨k.1, ht, k.2.2⟩
  ·exact k
 ·have e : ((List.range S.length).flatMap fun r => (headsA S r).map fun x => (if x.phys = fr then (⟨x.log, tt, x.len⟩ : Ent) else x).phys) = (numsA S).map fun p => if p = fr then tt else p := by
   unfold numsA;rw [List.map_flatMap];refine flatMap_congr' fun r _ => ?_;rw [List.map_map];refine List.map_congr_left fun x _ => ?_
   show _ = if x.phys = fr then tt else x.phys
   split <;> rfl
  rw [e]; exact nodup_turn hg.nd hf
open Go.RowKit
def LoadEnd (C : Nat) (a : Except Int Shp) (w : World) (e : Ending) (w' : World) : Prop :=
 Below w.heap.size w w' ∧ match a with
 | .ok S => ∃ G V, e = .returned (.tuple #[.slice (some ⟨G, 0, none⟩) S.length S.length, .int .i64 0]) ∧ ShpAt (EntsS C) w.heap.size G S V w' ∧ Read4 S ∧ 0 < S.length
 | .error c => e = .returned (.tuple #[.slice none 0 0, .int .i64 c]) ∧ c ≠ 0
theorem Blk.eq_of {g : Nat} {cs : Array Value} {t : TypeId} {w w' : World} (h : Blk g cs t w) (e : w'.heap[g]? = w.heap[g]?) : Blk g cs t w' := e.trans h
theorem row_logs {l : List Ent} (h : RowOk true l) : ∀ k, k < l.length → (k : Int) ≤ (eat l k).log := fun k => by
 induction k with
 | zero =>
   intro hk;have := (entOk_leaf _).1 (h 0 hk).1;unfold Lies at this;omega
 | succ k ih =>
   intro hk;have h1 := ih (by omega);have h2 := (entOk_leaf _).1 (h k (by omega)).1;have h3 := (h (k + 1) hk).2 (by omega);rw [Nat.add_sub_cancel] at h3;unfold After at h3;omega
theorem row_len {l : List Ent} (h : RowOk true l) : l.length ≤ 2048 := by
 by_cases e : l.length = 0
 ·omega
 ·have h1 := row_logs h (l.length - 1) (by omega)
  have h2 := (entOk_leaf _).1 (h (l.length - 1) (by omega)).1;unfold Lies at h2;omega
theorem fkload_any (fn : Nat) (caps : Array Value) (rd : Rd) (w : World) (hrd : Reads fn caps rd w.heap.size w) (depth : Int) (hdi : I64 depth) (root : List Ent) (hf : fitE root) (v : Value) (hv : EntsIn v root w) (C : Nat) (hC : C ≤ w.heap.size) (hroot : EntsS C v root w) (hph : depth ≤ 0 ∨ ∀ x ∈ root, 0 ≤ x.phys ∧ x.phys < 4096) (hok : RootedA depth root) :
 Calls Tryz.prog 46 #[.agg #[.int .i64 depth, v], .func (.func fn) #[] caps] w (LoadEnd C (loadA rd false depth root) w) := by
 have mixed : Tryz.prog.follows .mixedOrders = true := by kernel_rfl
 obtain ⟨ad, cap, rfl, -⟩ := entsIn_cells hv;have hb0 := balloc1 w (.cells #[.int .i64 depth, .slice ad root.length cap] 35);have RO := Lib.hid fun W h => fkrooted_any depth root hf (.slice ad root.length cap) W h;rw [decide_eq_true hok] at RO;have HV := Lib.hid hv;have HB0 := Lib.hid hb0;have hT := Blk.new #[.int .i64 depth, .slice ad root.length cap] 35 w;obtain ⟨r1, r2, r3⟩ := rooted_deep hok;obtain ⟨D, rfl⟩ : ∃ D : Nat, depth = (D : Int) := ⟨depth.toNat, by omega⟩;have c0 := hT.cell 0;have c1 := hT.cell 1;simp only [List.getElem?_toArray, List.getElem?_cons_zero, List.getElem?_cons_succ] at c0 c1
 go_enter Tryz.func46, Tryz.ntmps46
 go_wp2_with fail
 refine (RO.out _ (HV.out.kept HB0.out)).mono ?_; rintro e w2 ⟨rfl, b2⟩;have hT2 := hT.kept1 b2;clear hT c0 c1 RO;by_cases hd : 0 < (D : Int)
 ·have d1 : decide (0 < (D : Int)) = true := decide_eq_true hd
  have c0 := hT2.cell 0;have c1 := hT2.cell 1;simp only [List.getElem?_toArray, List.getElem?_cons_zero, List.getElem?_cons_succ] at c0 c1;obtain ⟨w3, w4, w5, h3, h4, h5, e4, hsp, hrd5, b25, hgr⟩ := load_start fn caps D C w w2 hC (bnext HB0.out b2);have hnil := rd_run_nil w2 fn caps;have hmk := shape_made (D + 1) (by omega) w2;rw [show ((D + 1 : Nat) : Int) = (D : Int) + 1 from by omega, h3] at hmk;have hwd : IntKind.i64.wrap ((D : Int) + 1) = (D : Int) + 1 := IntWalk.i64_in _ (by omega);obtain ⟨G, hG⟩ : ∃ G, w2.heap.size = G := ⟨_, rfl⟩;obtain ⟨R, hRR⟩ : ∃ R, w3.heap.size = R := ⟨_, rfl⟩;have hbs2 := (bnext HB0.out b2).size;rw [hG] at hsp hrd5 hgr h5 hmk b25;rw [hRR] at hrd5 h5 e4 hgr
  have hGb : w.heap.size ≤ G := by omega
  have HSP := Lib.hid hsp;have HRD := Lib.hid hrd5;have HB5 := Lib.hid ((bnext HB0.out b2).trans (b25.mono hGb));have hT5 : Blk w.heap.size #[.int .i64 (D : Int), .slice ad root.length cap] 35 w5 := Blk.eq_of hT2 (b25.block _ (by rw [← hG]; exact hT2.lt));have f0 := hT5.cell 0;have f1 := hT5.cell 1;simp only [List.getElem?_toArray, List.getElem?_cons_zero, List.getElem?_cons_succ] at f0 f1;have HT5 := Lib.hid hT5;have HW4 := Lib.hid h4;have HW5 := Lib.hid h5;have HGR := Lib.hid hRR;have HE4 := Lib.hid e4;clear h3 h4 h5 e4 hsp hrd5 b25 hT5 hRR hG b2 hT2
  go_upto_region 4 with (rw [HW4.out, HGR.out]; refine wpList_store_row rfl _ _ _ rfl R _ rfl rfl _ _ HE4.out (by rw [reader_info]; exact (congrArg some (rdC_size fn caps (.slice (some ⟨G, 0, none⟩) (D + 1) (D + 1)))).symm) (reader_size.trans (rdC_size fn caps (.slice (some ⟨G, 0, none⟩) (D + 1) (D + 1))).symm) (rdC_one fn caps (some ⟨G, 0, none⟩) (D + 1) (D + 1)) ?_)
  rw [HW5.out];clear c0 c1 hmk hnil HW4 HW5 HE4;have hln : (List.replicate (D + 1) ([] : List (List Ent))).length = D + 1 := List.length_replicate
  have HTK := Lib.hid (fktake_any fn caps rd C w.heap.size G R w hrd (by omega) hC (D + 1) (by omega) D root (.slice ad root.length cap) _ _ [] w5 hln (by omega) HB5.out HB5.out.size HSP.out HRD.out (hroot.kept (Grows.of_below HB5.out)) ⟨List.nodup_nil, fun b hb => by cases hb⟩ (fun k => by rw [rowA_repl]; exact ⟨Nat.zero_le _, fun x hx => by cases hx⟩) ⟨by omega, hf⟩ (by
   by_cases e : D = 0
   ·exact .inl e
   ·exact .inr (hph.resolve_left (by omega))))
  have HLA : Hid (loadA rd false (D : Int) root = match takeA rd D root (List.replicate (D + 1) [], []) with
   | .error e => .error e
   | .ok (S, _) => if RowOk true (listA S) ∧ hitA (listA S) (numsA S) = false then .ok S else .error 80) := Lib.hid (by
   unfold loadA; rw [if_pos ⟨hok, .inr rfl⟩, Int.toNat_natCast]; cases takeA rd D root (List.replicate (D + 1) [], []) <;> rfl)
  clear HSP HRD hln;go_wp2_with fail
  refine HTK.out.mono ?_; rintro e w6 ⟨g6, h6⟩;clear HTK f0 f1;have HB6 := Lib.hid (HB5.out.trans (g6.below HB5.out.size));clear g6 HB5
  cases hta : takeA rd D root (List.replicate (D + 1) [], []) with
  | error c =>
    rw [hta] at h6 HLA;obtain ⟨rfl, n2⟩ := h6
    have te : (c == 0) = false := by rw [beq_eq_false_iff_ne]; exact n2
    clear hta;go_wp2
    go_ret2
    unfold LoadEnd;rw [HLA.out];exact ⟨HB6.out, rfl, n2⟩
  | ok q =>
    obtain ⟨S, seen⟩ := q;rw [hta] at h6 HLA;dsimp only at HLA;obtain ⟨rfl, hS, ⟨V, hsp⟩, hrd6, hso, hcn⟩ := h6;have hr4 : Read4 S := ⟨by omega, fun k => ⟨by have := (hcn k).1; have := hso.len; omega, (hcn k).2⟩⟩;have hin := shpAt_in hsp (by omega);rw [hS] at hin;have HL := Lib.hid (fklist_any S hr4.small (by omega) _ w6 hin);have HNM := Lib.hid fun W (h : ShapeIn (.slice (some ⟨G, 0, none⟩) (D + 1) (D + 1)) S W) => fknodes_any S hr4.small hr4.nums _ W h;have HIN := Lib.hid hin;have s6 := (hrd6.c.2 4097 (by omega)).1;rw [rdF_shape] at s6;have HRD := Lib.hid hrd6;have HSP := Lib.hid hsp;have HR4 := Lib.hid hr4;clear hta hsp hrd6 hso hcn hr4 hin;go_wp2_with fail
    refine HL.out.mono ?_; rintro e w7 ⟨u, rfl, hu, b7⟩;have HU := Lib.hid (rowE_in hu);have HFL : fitE (listA S) := HR4.out.fit 0;have HCK := Lib.hid (xcheck_any (listA S) HFL _ w7 HU.out);clear HL hu s6;by_cases hro : RowOk true (listA S)
    ·rw [decide_eq_true hro] at HCK
     have hlen := row_len hro;have HIT := Lib.hid fun vb W h1 h2 => fkhit_any (listA S) hro HFL (by omega) (sortI (numsA S)) (by rw [sortI_len]; exact HR4.out.nums) (fun b hb => HR4.out.ints b ((sortI_mem _ _).1 hb)) u vb W h1 h2;rw [hit_sort] at HIT;have HB7 := Lib.hid b7;clear b7;go_wp2_with fail
     refine HCK.out.mono ?_; rintro e w8 ⟨rfl, b8⟩;have b68 := bnext HB7.out b8;have HRD := Lib.hid (HRD.out.kept1 b68);have HSP := Lib.hid (HSP.out.kept b68);have HIN := Lib.hid (shapeIn_kept HIN.out b68);have HB8 := Lib.hid (bnext HB6.out b68);have HU := Lib.hid (HU.out.kept b8);have s8 := (HRD.out.c.2 4097 (by omega)).1;rw [rdF_shape] at s8;clear b8 b68 HCK HB6 HB7;go_wp2_with fail
     refine (HNM.out _ HIN.out).mono ?_; rintro e w9 ⟨nu, rfl, hnu, b9⟩;have HI := Lib.hid (HIT.out _ _ (HU.out.kept b9) (intsFk_in hnu));have HRD := Lib.hid (HRD.out.kept1 b9);have HSP := Lib.hid (HSP.out.kept b9);have HB9 := Lib.hid (bnext HB8.out b9);clear b9 hnu s8 HNM HIN HIT HU HB8
     cases hh : hitA (listA S) (numsA S) with
     | true =>
       rw [hh] at HI;have HE : Hid (loadA rd false (D : Int) root = .error 80) := Lib.hid (by rw [HLA.out, if_neg (fun h => by rw [hh] at h; cases h.2)]);clear HLA;go_wp2_with fail
       refine HI.out.mono ?_; rintro e w10 ⟨rfl, b10⟩;have HB10 := Lib.hid (bnext HB9.out b10);clear b10 HI;go_wp2
       go_ret2
       unfold LoadEnd;rw [HE.out];exact ⟨HB10.out, rfl, by decide⟩
     | false =>
       rw [hh] at HI;have HE : Hid (loadA rd false (D : Int) root = .ok S) := Lib.hid (by rw [HLA.out, if_pos ⟨hro, hh⟩]);clear HLA;go_wp2_with fail
       refine HI.out.mono ?_; rintro e w10 ⟨rfl, b10⟩;have HB10 := Lib.hid (bnext HB9.out b10);have HRD := Lib.hid (HRD.out.kept1 b10);have HSP := Lib.hid (HSP.out.kept b10);have s10 := (HRD.out.c.2 4097 (by omega)).1;rw [rdF_shape] at s10;clear b10 HI;go_wp2
       go_ret2
       unfold LoadEnd;rw [HE.out];exact ⟨HB10.out, G, V, by rw [hS]; rfl, HSP.out, HR4.out, by omega⟩
    ·rw [decide_eq_false hro] at HCK
     have HE : Hid (loadA rd false (D : Int) root = .error 80) := Lib.hid (by rw [HLA.out, if_neg (fun h => hro h.1)]);clear HLA hro;go_wp2_with fail
     refine HCK.out.mono ?_; rintro e w8 ⟨rfl, b8⟩;have HB8 := Lib.hid (bnext (bnext HB6.out b7) b8);clear b7 b8 HCK HU;go_wp2
     go_ret2
     unfold LoadEnd;rw [HE.out];exact ⟨HB8.out, rfl, by decide⟩
 ·have d1 : decide (0 < (D : Int)) = false := decide_eq_false hd
  have c0 := hT2.cell 0;have c1 := hT2.cell 1;simp only [List.getElem?_toArray, List.getElem?_cons_zero, List.getElem?_cons_succ] at c0 c1;obtain ⟨w3, w4, w5, h3, h4, h5, e4, hsp, hrd5, b25, hgr⟩ := load_start fn caps D C w w2 hC (bnext HB0.out b2);have hnil := rd_run_nil w2 fn caps;have hmk := shape_made (D + 1) (by omega) w2;rw [show ((D + 1 : Nat) : Int) = (D : Int) + 1 from by omega, h3] at hmk;have hwd : IntKind.i64.wrap ((D : Int) + 1) = (D : Int) + 1 := IntWalk.i64_in _ (by omega);obtain ⟨G, hG⟩ : ∃ G, w2.heap.size = G := ⟨_, rfl⟩;obtain ⟨R, hRR⟩ : ∃ R, w3.heap.size = R := ⟨_, rfl⟩;have hbs2 := (bnext HB0.out b2).size;rw [hG] at hsp hrd5 hgr h5 hmk b25;rw [hRR] at hrd5 h5 e4 hgr
  have hGb : w.heap.size ≤ G := by omega
  have HSP := Lib.hid hsp;have HRD := Lib.hid hrd5;have HB5 := Lib.hid ((bnext HB0.out b2).trans (b25.mono hGb));have hT5 : Blk w.heap.size #[.int .i64 (D : Int), .slice ad root.length cap] 35 w5 := Blk.eq_of hT2 (b25.block _ (by rw [← hG]; exact hT2.lt));have f0 := hT5.cell 0;have f1 := hT5.cell 1;simp only [List.getElem?_toArray, List.getElem?_cons_zero, List.getElem?_cons_succ] at f0 f1;have HT5 := Lib.hid hT5;have HW4 := Lib.hid h4;have HW5 := Lib.hid h5;have HGR := Lib.hid hRR;have HE4 := Lib.hid e4;clear h3 h4 h5 e4 hsp hrd5 b25 hT5 hRR hG b2 hT2
  go_upto_region 4 with (rw [HW4.out, HGR.out]; refine wpList_store_row rfl _ _ _ rfl R _ rfl rfl _ _ HE4.out (by rw [reader_info]; exact (congrArg some (rdC_size fn caps (.slice (some ⟨G, 0, none⟩) (D + 1) (D + 1)))).symm) (reader_size.trans (rdC_size fn caps (.slice (some ⟨G, 0, none⟩) (D + 1) (D + 1))).symm) (rdC_one fn caps (some ⟨G, 0, none⟩) (D + 1) (D + 1)) ?_)
  rw [HW5.out];clear c0 c1 hmk hnil HW4 HW5 HE4;have hln : (List.replicate (D + 1) ([] : List (List Ent))).length = D + 1 := List.length_replicate
  have HTK := Lib.hid (fktake_any fn caps rd C w.heap.size G R w hrd (by omega) hC (D + 1) (by omega) D root (.slice ad root.length cap) _ _ [] w5 hln (by omega) HB5.out HB5.out.size HSP.out HRD.out (hroot.kept (Grows.of_below HB5.out)) ⟨List.nodup_nil, fun b hb => by cases hb⟩ (fun k => by rw [rowA_repl]; exact ⟨Nat.zero_le _, fun x hx => by cases hx⟩) ⟨by omega, hf⟩ (by
   by_cases e : D = 0
   ·exact .inl e
   ·exact .inr (hph.resolve_left (by omega))))
  have HLA : Hid (loadA rd false (D : Int) root = match takeA rd D root (List.replicate (D + 1) [], []) with
   | .error e => .error e
   | .ok (S, _) => if RowOk true (listA S) ∧ hitA (listA S) (numsA S) = false then .ok S else .error 80) := Lib.hid (by
   unfold loadA; rw [if_pos ⟨hok, .inr rfl⟩, Int.toNat_natCast]; cases takeA rd D root (List.replicate (D + 1) [], []) <;> rfl)
  clear HSP HRD hln;go_wp2_with fail
  refine HTK.out.mono ?_; rintro e w6 ⟨g6, h6⟩;clear HTK f0 f1;have HB6 := Lib.hid (HB5.out.trans (g6.below HB5.out.size));clear g6 HB5
  cases hta : takeA rd D root (List.replicate (D + 1) [], []) with
  | error c =>
    rw [hta] at h6 HLA;obtain ⟨rfl, n2⟩ := h6
    have te : (c == 0) = false := by rw [beq_eq_false_iff_ne]; exact n2
    clear hta;go_wp2
    go_ret2
    unfold LoadEnd;rw [HLA.out];exact ⟨HB6.out, rfl, n2⟩
  | ok q =>
    obtain ⟨S, seen⟩ := q;rw [hta] at h6 HLA;dsimp only at HLA;obtain ⟨rfl, hS, ⟨V, hsp⟩, hrd6, hso, hcn⟩ := h6;have hr4 : Read4 S := ⟨by omega, fun k => ⟨by have := (hcn k).1; have := hso.len; omega, (hcn k).2⟩⟩;have hin := shpAt_in hsp (by omega);rw [hS] at hin;have HL := Lib.hid (fklist_any S hr4.small (by omega) _ w6 hin);have HNM := Lib.hid fun W (h : ShapeIn (.slice (some ⟨G, 0, none⟩) (D + 1) (D + 1)) S W) => fknodes_any S hr4.small hr4.nums _ W h;have HIN := Lib.hid hin;have s6 := (hrd6.c.2 4097 (by omega)).1;rw [rdF_shape] at s6;have HRD := Lib.hid hrd6;have HSP := Lib.hid hsp;have HR4 := Lib.hid hr4;clear hta hsp hrd6 hso hcn hr4 hin;go_wp2_with fail
    refine HL.out.mono ?_; rintro e w7 ⟨u, rfl, hu, b7⟩;have HU := Lib.hid (rowE_in hu);have HFL : fitE (listA S) := HR4.out.fit 0;have HCK := Lib.hid (xcheck_any (listA S) HFL _ w7 HU.out);clear HL hu s6;by_cases hro : RowOk true (listA S)
    ·rw [decide_eq_true hro] at HCK
     have hlen := row_len hro;have HIT := Lib.hid fun vb W h1 h2 => fkhit_any (listA S) hro HFL (by omega) (sortI (numsA S)) (by rw [sortI_len]; exact HR4.out.nums) (fun b hb => HR4.out.ints b ((sortI_mem _ _).1 hb)) u vb W h1 h2;rw [hit_sort] at HIT;have HB7 := Lib.hid b7;clear b7;go_wp2_with fail
     refine HCK.out.mono ?_; rintro e w8 ⟨rfl, b8⟩;have b68 := bnext HB7.out b8;have HRD := Lib.hid (HRD.out.kept1 b68);have HSP := Lib.hid (HSP.out.kept b68);have HIN := Lib.hid (shapeIn_kept HIN.out b68);have HB8 := Lib.hid (bnext HB6.out b68);have HU := Lib.hid (HU.out.kept b8);have s8 := (HRD.out.c.2 4097 (by omega)).1;rw [rdF_shape] at s8;clear b8 b68 HCK HB6 HB7;go_wp2_with fail
     refine (HNM.out _ HIN.out).mono ?_; rintro e w9 ⟨nu, rfl, hnu, b9⟩;have HI := Lib.hid (HIT.out _ _ (HU.out.kept b9) (intsFk_in hnu));have HRD := Lib.hid (HRD.out.kept1 b9);have HSP := Lib.hid (HSP.out.kept b9);have HB9 := Lib.hid (bnext HB8.out b9);clear b9 hnu s8 HNM HIN HIT HU HB8
     cases hh : hitA (listA S) (numsA S) with
     | true =>
       rw [hh] at HI;have HE : Hid (loadA rd false (D : Int) root = .error 80) := Lib.hid (by rw [HLA.out, if_neg (fun h => by rw [hh] at h; cases h.2)]);clear HLA;go_wp2_with fail
       refine HI.out.mono ?_; rintro e w10 ⟨rfl, b10⟩;have HB10 := Lib.hid (bnext HB9.out b10);clear b10 HI;go_wp2
       go_ret2
       unfold LoadEnd;rw [HE.out];exact ⟨HB10.out, rfl, by decide⟩
     | false =>
       rw [hh] at HI;have HE : Hid (loadA rd false (D : Int) root = .ok S) := Lib.hid (by rw [HLA.out, if_pos ⟨hro, hh⟩]);clear HLA;go_wp2_with fail
       refine HI.out.mono ?_; rintro e w10 ⟨rfl, b10⟩;have HB10 := Lib.hid (bnext HB9.out b10);have HRD := Lib.hid (HRD.out.kept1 b10);have HSP := Lib.hid (HSP.out.kept b10);have s10 := (HRD.out.c.2 4097 (by omega)).1;rw [rdF_shape] at s10;clear b10 HI;go_wp2
       go_ret2
       unfold LoadEnd;rw [HE.out];exact ⟨HB10.out, G, V, by rw [hS]; rfl, HSP.out, HR4.out, by omega⟩
    ·rw [decide_eq_false hro] at HCK
     have HE : Hid (loadA rd false (D : Int) root = .error 80) := Lib.hid (by rw [HLA.out, if_neg (fun h => hro h.1)]);clear HLA hro;go_wp2_with fail
     refine HCK.out.mono ?_; rintro e w8 ⟨rfl, b8⟩;have HB8 := Lib.hid (bnext (bnext HB6.out b7) b8);clear b7 b8 HCK HU;go_wp2
     go_ret2
     unfold LoadEnd;rw [HE.out];exact ⟨HB8.out, rfl, by decide⟩
open Go.RowKit
theorem fkload_no (fn : Nat) (caps : Array Value) (rd : Rd) (w : World) (depth : Int) (root : List Ent) (hf : fitE root) (v : Value) (hv : EntsIn v root w) (C : Nat) (hok : ¬ RootedA depth root) :
 Calls Tryz.prog 46 #[.agg #[.int .i64 depth, v], .func (.func fn) #[] caps] w (LoadEnd C (loadA rd false depth root) w) := by
 have mixed : Tryz.prog.follows .mixedOrders = true := by kernel_rfl
 obtain ⟨ad, cap, rfl, -⟩ := entsIn_cells hv;have hb0 := balloc1 w (.cells #[.int .i64 depth, .slice ad root.length cap] 35);have RO := Lib.hid fun W h => fkrooted_any depth root hf (.slice ad root.length cap) W h;rw [decide_eq_false hok] at RO;have HE : Hid (loadA rd false depth root = .error 80) := Lib.hid (by unfold loadA; rw [if_neg (fun h => hok h.1)]);have HV := Lib.hid hv;have HB0 := Lib.hid hb0;have hT := Blk.new #[.int .i64 depth, .slice ad root.length cap] 35 w;have c0 := hT.cell 0;have c1 := hT.cell 1;simp only [List.getElem?_toArray, List.getElem?_cons_zero, List.getElem?_cons_succ] at c0 c1
 go_enter Tryz.func46, Tryz.ntmps46
 go_wp2_with fail
 refine (RO.out _ (HV.out.kept HB0.out)).mono ?_; rintro e w2 ⟨rfl, b2⟩;have HB := Lib.hid (bnext HB0.out b2);clear hT c0 c1 RO b2;go_wp2
 go_ret2
 unfold LoadEnd;rw [HE.out];exact ⟨HB.out, rfl, by decide⟩
theorem rooted_phys {depth : Int} {root : List Ent} (h : RootedA depth root) : depth ≤ 0 ∨ ∀ x ∈ root, 0 ≤ x.phys ∧ x.phys < 4096 := by
 by_cases h0 : depth ≤ 0
 ·exact .inl h0
 ·right
  unfold RootedA at h;rw [ok_kindN (by show (1 : Int) ≠ 0; decide)] at h;unfold Full at h;have hr : RowOk (decide (depth = 0)) root := h.2.2.2.2.2.1;rw [decide_eq_false (by omega)] at hr;intro x hx;obtain ⟨i, hi, e⟩ := List.mem_iff_getElem.1 hx;have := (entOk_node _).1 (hr i hi).1;rw [eat_eq hi, e] at this;obtain ⟨_, _, h2, h3⟩ := this;omega
theorem fkload_all (fn : Nat) (caps : Array Value) (rd : Rd) (w : World) (hrd : Reads fn caps rd w.heap.size w) (depth : Int) (hdi : I64 depth) (root : List Ent) (hf : fitE root) (v : Value) (hv : EntsIn v root w) (C : Nat) (hC : C ≤ w.heap.size) (hroot : EntsS C v root w) :
 Calls Tryz.prog 46 #[.agg #[.int .i64 depth, v], .func (.func fn) #[] caps] w (LoadEnd C (loadA rd false depth root) w) := by
 by_cases hok : RootedA depth root
 ·exact fkload_any fn caps rd w hrd depth hdi root hf v hv C hC hroot (rooted_phys hok) hok
 ·exact fkload_no fn caps rd w depth root hf v hv C hok
theorem Reads.kept {fn : Nat} {caps : Array Value} {rd : Rd} {B : Nat} {w w' : World} (h : Reads fn caps rd B w) (hb : Below B w w') {B' : Nat} (hB : B ≤ B') : Reads fn caps rd B' w' := ⟨h.ent, fun b W h0 h1 k => h.call b W h0 h1 (hb.trans (k.mono hB)), h.size⟩
def WalkEnd (a : Except Int Shp) (w : World) (e : Ending) (w' : World) : Prop :=
 Below w.heap.size w w' ∧ match a with
 | .ok S => ∃ vl vn, e = .returned (.tuple #[vl, vn, .int .i64 0]) ∧ ExtsAt w.heap.size vl (listA S) w' ∧ IntsFk w.heap.size vn (sortI (numsA S)) w'
 | .error c => e = .returned (.tuple #[.slice none 0 0, .slice none 0 0, .int .i64 c]) ∧ c ≠ 0
theorem fkwalk_any (fn : Nat) (caps : Array Value) (rd : Rd) (w : World) (hrd : Reads fn caps rd w.heap.size w) (depth : Int) (hdi : I64 depth) (root : List Ent) (hf : fitE root) (v : Value) (hv : EntsIn v root w) :
 Calls Tryz.prog 19 #[.agg #[.int .i64 depth, v], .func (.func fn) #[] caps] w (WalkEnd (loadA rd false depth root) w) := by
 obtain ⟨ad, cap, rfl, -⟩ := entsIn_cells hv;have hb0 := balloc1 w (.cells #[.int .i64 depth, .slice ad root.length cap] 35);have LD := Lib.hid (fkload_all fn caps rd _ (hrd.kept hb0 hb0.size) depth hdi root hf (.slice ad root.length cap) (hv.kept hb0) _ (Nat.le_refl _) (EntsS.old (hv.kept hb0) (Nat.le_refl _) (Below.refl _ _) (Nat.le_refl _)));have HB0 := Lib.hid hb0;clear hv hrd hb0
 go_enter Tryz.func19, Tryz.ntmps19
 go_wp2_with fail
 refine LD.out.mono ?_; rintro e w2 ⟨b2, h2⟩;have HB2 := Lib.hid (bnext HB0.out b2);clear LD b2
 cases hla : loadA rd false depth root with
 | error c =>
   rw [hla] at h2;obtain ⟨rfl, n2⟩ := h2
   have te : (c == 0) = false := by rw [beq_eq_false_iff_ne]; exact n2
   have HE := Lib.hid hla;clear hla;go_wp2;go_ret3;unfold WalkEnd;rw [HE.out];exact ⟨HB2.out, rfl, n2⟩
 | ok S =>
   rw [hla] at h2;obtain ⟨G, V, rfl, hsp, hr4, hpos⟩ := h2;have HE := Lib.hid hla;have hin := shpAt_in hsp (by have := hr4.1; omega);have HL := Lib.hid (fklist_any S hr4.small hpos _ w2 hin);have HNM := Lib.hid fun W (h : ShapeIn (.slice (some ⟨G, 0, none⟩) S.length S.length) S W) => fknodes_any S hr4.small hr4.nums _ W h;have HIN := Lib.hid hin;clear hla hsp hr4 hin;go_wp2_with fail
   refine HL.out.mono ?_; rintro e w3 ⟨u, rfl, hu, b3⟩;go_wp2_with fail
   refine (HNM.out _ (shapeIn_kept HIN.out b3)).mono ?_; rintro e w4 ⟨nu, rfl, hnu, b4⟩;have HB4 := Lib.hid (bnext (bnext HB2.out b3) b4);have HU := Lib.hid (row_down HB2.out.size (row_kept hu b4));have HN := Lib.hid (row_down (bnext HB2.out b3).size hnu);clear hu hnu b3 b4 HL HNM HIN;go_wp2;go_ret3;unfold WalkEnd;rw [HE.out];exact ⟨HB4.out, _, _, rfl, HU.out, HN.out⟩
end Go.Proofs.YtknefoemgifbfaaGreat
