import Derived.Test.YtknefoemgifbfaaGreatPd54
set_option linter.unusedVariables false
set_option linter.unusedSimpArgs false
set_option linter.constructorNameAsVariable false
set_option maxRecDepth 100000
set_option maxHeartbeats 16000000
namespace Go.Proofs.YtknefoemgifbfaaGreat
open Go.RowKit
theorem sub_len : ∀ (A B : List Int), A.Nodup → (∀ a ∈ A, a ∈ B) → A.length ≤ B.length
 | [], B, _, _ => Nat.zero_le _
 | a :: A, B, hn, h => by
   rw [List.nodup_cons] at hn;have h1 := h a (List.mem_cons_self ..);have h2 := sub_len A (B.erase a) hn.2 fun x hx => (List.mem_erase_of_ne (fun (e : x = a) => hn.1 (e ▸ hx))).2 (h x (List.mem_cons_of_mem _ hx));have h3 := List.length_erase_of_mem h1;have h4 : 0 < B.length := List.length_pos_of_mem h1;rw [List.length_cons];omega
def openW (s : Nat → Bool) : List Int := ((List.range 2048).filter fun j => !s (2048 + j)).map fun j => ((2048 + j : Nat) : Int)
theorem openW_mem (s : Nat → Bool) (b : Int) : b ∈ openW s ↔ 2048 ≤ b ∧ b < 4096 ∧ s b.toNat = false := by
 unfold openW;rw [List.mem_map];constructor
 ·rintro ⟨j, hj, rfl⟩
  rw [List.mem_filter, List.mem_range] at hj;have := hj.2;refine ⟨by omega, by omega, ?_⟩;rw [Int.toNat_natCast]; simpa using hj.2
 ·rintro ⟨h1, h2, h3⟩
  refine ⟨b.toNat - 2048, List.mem_filter.2 ⟨List.mem_range.2 (by omega), ?_⟩, by omega⟩;rw [show 2048 + (b.toNat - 2048) = b.toNat by omega, h3]; rfl
theorem openW_nd (s : Nat → Bool) : (openW s).Nodup := by
 unfold openW;rw [List.nodup_iff_pairwise_ne, List.pairwise_map];exact (List.Pairwise.sublist List.filter_sublist (List.nodup_iff_pairwise_ne.1 List.nodup_range)).imp fun h e => h (by omega)
theorem nxW_open {s : Nat → Bool} (h : 0 < (openW s).length) : ∃ j, j < 2048 ∧ s (2048 + j) = false ∧ nxW s = ((((2048 + j : Nat) : Int), 0), upd s (2048 + j) true) := by
 unfold nxW
 cases hf : (List.range 2048).find? (fun j => !s (2048 + j)) with
 | some j =>
   have h1 := List.find?_some hf;have h2 := List.mem_of_find?_eq_some hf;exact ⟨j, List.mem_range.1 h2, by simpa using h1, rfl⟩
 | none =>
   exfalso;rw [List.find?_eq_none] at hf;obtain ⟨b, hb⟩ := List.exists_mem_of_length_pos h;obtain ⟨h1, h2, h3⟩ := (openW_mem s b).1 hb;have := hf (b.toNat - 2048) (List.mem_range.2 (by omega));rw [show 2048 + (b.toNat - 2048) = b.toNat by omega, h3] at this
   simp at this
def zeros (es : List Ent) : Nat := (es.filter fun e => decide (e.phys = 0)).length
theorem zeros_snoc (es : List Ent) (x : Ent) : zeros (es ++ [x]) = zeros es + if x.phys = 0 then 1 else 0 := by
 unfold zeros;rw [List.filter_append, List.length_append];by_cases h : x.phys = 0
 ·rw [if_pos h]; simp [h]
 ·rw [if_neg h]; simp [h]
theorem sing_elem {bs : List Int} {b : Int} (h : elemR (singR bs) b) : b ∈ bs := ((singR_elem bs b).1 h).1
theorem place_W (T0 : List (Int × Int)) (s0 : Nat → Bool) (hT : ∀ b, 2048 ≤ b → b < 4096 → elemR T0 b → s0 b.toNat = true) (es : List Ent) : zeros es ≤ (openW s0).length →
 (accL (placeF nxW) (s0, 0, T0) es).1.2.1 = 0 ∧ ∃ bs, (accL (placeF nxW) (s0, 0, T0) es).1.2.2 = T0 ++ singR bs ∧ bs.length = zeros es ∧ bs.Nodup ∧ (∀ b ∈ bs, b ∈ openW s0) ∧ ∀ k : Nat, (accL (placeF nxW) (s0, 0, T0) es).1.1 k = (s0 k || decide ((k : Int) ∈ bs)) := by
 induction es using snoc_ind with
 | nil => intro _; exact ⟨rfl, [], by simp [accL_nil, singR], rfl, List.nodup_nil, fun b hb => (List.not_mem_nil hb).elim, fun k => by simp [accL_nil]⟩
 | snoc es x ih =>
   intro hz;rw [zeros_snoc] at hz;obtain ⟨h0, bs, h1, h2, h3, h4, h5⟩ := ih (by split at hz <;> omega);rw [accL_snoc];generalize accL (placeF nxW) (s0, 0, T0) es = R at *;obtain ⟨⟨s, ec, T⟩, out⟩ := R;dsimp only at h0 h1 h5 ⊢;subst h0 h1;unfold placeF;dsimp only;by_cases hc : x.phys = 0
   ·rw [if_pos ⟨rfl, hc⟩]
    dsimp only;rw [if_pos hc] at hz
    have hop : 0 < (openW s).length := by
     apply Classical.byContradiction
     intro hno;have hnil : openW s = [] := List.eq_nil_of_length_eq_zero (by omega)
     have := sub_len (openW s0) bs (openW_nd s0) fun b hb => by
      obtain ⟨q1, q2, q3⟩ := (openW_mem s0 b).1 hb
      apply Classical.byContradiction
      intro hbb
      have : b ∈ openW s := (openW_mem s b).2 ⟨q1, q2, by
       rw [h5, q3, Bool.false_or, decide_eq_false_iff_not, show ((b.toNat : Nat) : Int) = b by omega]; exact hbb⟩
      rw [hnil] at this
      cases this
     omega
    obtain ⟨j, hj, hs, he⟩ := nxW_open hop;have hs2 := hs;rw [h5, Bool.or_eq_false_iff, decide_eq_false_iff_not] at hs2
    have hnt : ¬ elemR (T0 ++ singR bs) (((2048 + j : Nat)) : Int) := fun h => by
     rcases (elemR_append _ _ _).1 h with h | h
     ·have := hT _ (by omega) (by omega) h
      rw [Int.toNat_natCast, hs2.1] at this
      cases this
     ·exact hs2.2 (sing_elem h)
    have hask : askA nxW (T0 ++ singR bs) s = ((((2048 + j : Nat)) : Int), 0) := by
     unfold askA;rw [he];dsimp only;rw [if_pos rfl, if_pos ⟨by unfold usableA; simp; omega, hnt⟩]
    rw [hask, he];refine ⟨rfl, bs ++ [(((2048 + j : Nat)) : Int)], ?_, ?_, ?_, fun b hb => ?_, fun k => ?_⟩
    ·unfold singR; rw [List.map_append, List.append_assoc]; rfl
    ·rw [List.length_append, h2, zeros_snoc, if_pos hc]; rfl
    ·refine List.nodup_append.2 ⟨h3, by simp, fun a ha b hb e => ?_⟩
     rw [List.mem_singleton] at hb;subst hb e;exact hs2.2 ha
    ·rcases List.mem_append.1 hb with hb | hb
     ·exact h4 b hb
     ·rw [List.mem_singleton] at hb
      subst hb;exact (openW_mem s0 _).2 ⟨by omega, by omega, by rw [Int.toNat_natCast]; exact hs2.1⟩
    ·dsimp only
     unfold upd;by_cases e : k = 2048 + j
     ·rw [if_pos e, e, decide_eq_true (List.mem_append_right _ (List.mem_singleton.2 rfl)), Bool.or_true]
     ·rw [if_neg e, h5]
      congr 1;refine decide_eq_decide.2 ?_;rw [List.mem_append, List.mem_singleton];exact ⟨.inl, fun q => q.resolve_right (by omega)⟩
   ·rw [if_neg fun q => hc q.2]
    exact ⟨rfl, bs, rfl, by rw [zeros_snoc, if_neg hc]; exact h2, h3, h4, h5⟩
theorem part_low {x y : Ent} {a b : Int} (h : part x a b = some y) : x.phys ≤ y.phys ∧ y.phys + y.len ≤ x.phys + x.len := by
 unfold part at h
 split at h
 ·injection h with h
  subst h;refine ⟨?_, ?_⟩ <;> dsimp only <;> omega
 ·cases h
theorem keep_low {l : List Ent} {a b c : Int} (h : ∀ e ∈ l, e.phys + e.len ≤ c) : ∀ e ∈ keep l a b, e.phys + e.len ≤ c := fun e he => by
 unfold keep at he;obtain ⟨x, hx, k⟩ := List.mem_filterMap.1 he;have := (part_low k).2;have := h x hx;omega
theorem repl_low {l L : List Ent} {a t c : Int} (hl : RowOk true l) (h : fitB L a t = true) (h1 : ∀ e ∈ l, e.phys + e.len ≤ c) (h2 : ∀ e ∈ L, e.phys + e.len ≤ c) : ∀ e ∈ replA l a t L, e.phys + e.len ≤ c := fun e he => by
 rcases repl_is hl h with ⟨-, e2⟩ | ⟨-, -, e3⟩
 ·rw [e2] at he
  unfold change at he;rcases List.mem_append.1 he with he | he
  ·exact keep_low h1 e he
  ·rcases List.mem_append.1 he with he | he
   ·exact h2 e he
   ·exact keep_low h1 e he
 ·rw [e3] at he; exact h1 e he
structure WStand (F : Nat → ByteArray) (dp : Int) (root : List Ent) (s : Nat → Bool) (S : Shp) : Prop where
 load : loadA (rdOf F (-1)) false dp root = .ok S
 use : ∀ k : Nat, k < 4096 → (s k = true ↔ (k : Int) ∈ numsA S)
 high : ∀ b ∈ numsA S, 2048 ≤ b
 low : ∀ e ∈ listA S, e.phys + e.len ≤ 2048
 size : ∀ k, (F k).size ≤ 1000
theorem WStand.dp {F : Nat → ByteArray} {dp : Int} {root : List Ent} {s : Nat → Bool} {S : Shp} (h : WStand F dp root s S) : dp = ((S.length - 1 : Nat) : Int) ∧ root = rootA S := by
 obtain ⟨-, hS, h1, h2⟩ := load_stands h.load;have := hS.good.well.pos;refine ⟨by omega, ?_⟩;have h3 := root_row hS.good.well;rw [h2] at h3;injection h3
theorem not_hit {l : List Ent} {bl : List Int} (h1 : ∀ e ∈ l, e.phys + e.len ≤ 2048) (h2 : ∀ b ∈ bl, 2048 ≤ b) : hitA l bl = false := hit_iff.2 fun b hb e he k => by
 have := h1 e he;have := h2 b hb;omega
theorem freeU_at : ∀ (L : List Int) (s : Nat → Bool) (k : Nat), (∀ b ∈ L, 0 ≤ b) → freeU s L k = (s k && !decide ((k : Int) ∈ L))
 | [], s, k, _ => by simp [freeU]
 | b :: L, s, k, h => by
   have ih := freeU_at L (upd s b.toNat false) k fun c hc => h c (List.mem_cons_of_mem _ hc);have hb := h b (List.mem_cons_self ..)
   show freeU (upd s b.toNat false) L k = _
   rw [ih];unfold upd;by_cases e : k = b.toNat
   ·rw [if_pos e, decide_eq_true (show (k : Int) ∈ b :: L by rw [show (k : Int) = b by omega]; exact List.mem_cons_self ..)]; simp
   ·rw [if_neg e]
    congr 2;refine decide_eq_decide.2 ?_;rw [List.mem_cons];exact ⟨.inr, fun q => q.resolve_left (by omega)⟩
theorem wrepl {F : Nat → ByteArray} {dp : Int} {root : List Ent} {s : Nat → Bool} {S : Shp} (h : WStand F dp root s S) {a t : Int} {L : List Ent} (hf : fitB L a t = true) (hL : ∀ e ∈ L, e.phys + e.len ≤ 2048)
 (hroom : zeros ((List.range ((growA S (replA (listA S) a t L)).length - 1)).flatMap (headsA (growA S (replA (listA S) a t L)))) ≤ (openW s).length) :
 ∃ T s', replN nxW (rdOf F (-1)) dp root a t L s = (.ok (S, T), s') ∧ TreeOk T ∧ listA T = replA (listA S) a t L ∧
  T.length = (growA S (replA (listA S) a t L)).length ∧ (∀ r, (headsA T r).length = (headsA (growA S (replA (listA S) a t L)) r).length) ∧
  WStand (putB F (chgA (blocksA S) (blocksA T))) ((T.length - 1 : Nat) : Int) (rootA T) (freeU s' (freeA (blocksA S) (blocksA T))) T := by
 obtain ⟨hs, hS, -, -⟩ := load_stands h.load;have hrow := repl_row hS.good.rise hf;have hlow := repl_low (c := 2048) hS.good.rise hf h.low hL;obtain ⟨r1, r2, r3⟩ := repl_ok h.load hf;obtain ⟨L', hL'⟩ : ∃ L', replA (listA S) a t L = L' := ⟨_, rfl⟩
 have hpl : plcA nxW a t L s S = chgS (placeF nxW) (s, 0, blocksV L' ++ singR (sortI (numsA S))) (growA S L') := by unfold plcA; rw [hL']
 rw [hL'] at hrow hlow r1 r2 r3 hroom ⊢;obtain ⟨N, hN⟩ : ∃ N, growA S L' = N := ⟨_, rfl⟩;have hw : WellS N := hN ▸ grow_well hS.good.well L';have hlogs : LogsOk N := hN ▸ grow_logs hS.good.well hS.logsOk L'
 have hz : ∀ q, ∀ e ∈ headsA N q, e.len = 0 := hN ▸ grow_zero hS.good.well (fun r e he => by
  have := load_heads h.load r e he;unfold EntOk at this
  simp at this
  exact this.1) L'
 have hsz : ∀ q, q + 1 < N.length → ∀ x ∈ rowA N q, x.length ≤ 10 := hN ▸ grow_sizes hS.good.well (fun q hq x hx => (hS.good.nodes q hq x hx).2.1) L';have hSroot := hS.root;unfold RootedA at hSroot;rw [ok_kindN (by show (1 : Int) ≠ 0; decide)] at hSroot;unfold Full at hSroot;have h4 : (rootA N).length ≤ 4 := hN ▸ grow_root4 hS.good.well hSroot.2.2.2.2.1 L';have h1 : N.length = 1 ∨ 0 < (rootA N).length := hN ▸ grow_root1 hS.good.well (hSroot.2.2.2.2.2.2.imp (fun k => by have k : ((S.length - 1 : Nat) : Int) = 0 := k; have := hS.good.well.pos; omega) id) L'
 have hlist : listA N = L' := by rw [← hN]; exact grow_list S L'
 have hnums : ((numsA N).filter fun b => decide (b ≠ 0)).Sublist (numsA S) := hN ▸ grow_nums hS.good.well L';rw [hN] at hpl hroom ⊢
 have hd5 : N.length ≤ 5 := by
  rw [← hN];unfold growA;split
  ·exact load_depth h.load
  ·split
   ·have := (stackA_is hS.good.well (ch := spanAll) span_all L').depth hS.good.well 3 (by omega)
    omega
   ·omega
 obtain ⟨n, hn⟩ : ∃ n, N.length = n + 1 := ⟨N.length - 1, by have := hw.pos; omega⟩
 have hphys0 : ∀ e ∈ listA N, e.phys ≠ 0 := fun e he => by rw [hlist] at he; exact (r3 e he).2
 have hT0 : ∀ b, 2048 ≤ b → b < 4096 → elemR (blocksV L' ++ singR (sortI (numsA S))) b → s b.toNat = true := fun b b1 b2 k => by
  rcases (elemR_append _ _ _).1 k with k | k
  ·exfalso
   rw [elem_blocks r1] at k;unfold takenA at k;obtain ⟨e, he, k⟩ := List.any_eq_true.1 k;have k := of_decide_eq_true k;have := hlow e he;omega
  ·have := (sortI_mem _ _).1 (sing_elem k)
   rw [h.use b.toNat (by omega), show ((b.toNat : Nat) : Int) = b by omega];exact this
 have hall := all_ents N n hn
 have hz0 : zeros (listA N) = 0 := by
  unfold zeros;rw [List.length_eq_zero_iff, List.filter_eq_nil_iff];intro e he;rw [decide_eq_true_eq]; exact hphys0 e he
 have hzall : zeros N.flatten.flatten ≤ (openW s).length := by
  rw [hall]
  have : zeros (listA N ++ (List.range n).flatMap (headsA N)) = zeros (listA N) + zeros ((List.range n).flatMap (headsA N)) := by unfold zeros; rw [List.filter_append, List.length_append]
  rw [this, hz0, Nat.zero_add];rwa [hn, Nat.add_sub_cancel] at hroom
 obtain ⟨p1, bs, p2, -, p4, p5, p6⟩ := place_W _ s hT0 N.flatten.flatten hzall;obtain ⟨c1, -⟩ := chgS_flat (placeF nxW) (s, 0, blocksV L' ++ singR (sortI (numsA S))) N;rw [← c1] at p1 p2 p6;obtain ⟨q1, bs', -, -, q2, -, q4⟩ := place_nums nxW _ s N n hn hphys0 p1
 have hbs : bs' = bs := by
  rw [p2] at q2;have := List.append_cancel_left q2;unfold singR at this;have h9 := congrArg (fun l : List (Int × Int) => l.map (·.1)) this;rw [List.map_map, List.map_map] at h9;have h9 : bs.map id = bs'.map id := h9;rw [List.map_id, List.map_id] at h9;exact h9.symm
 subst hbs;obtain ⟨T, hT⟩ : ∃ T, (chgS (placeF nxW) (s, 0, blocksV L' ++ singR (sortI (numsA S))) N).2 = T := ⟨_, rfl⟩;obtain ⟨s', hs'⟩ : ∃ T, (chgS (placeF nxW) (s, 0, blocksV L' ++ singR (sortI (numsA S))) N).1.1 = T := ⟨_, rfl⟩
 have hll : T.map (fun n => n.map fun l => l.map llE) = N.map fun n => n.map fun l => l.map llE := by
  rw [← hT];refine chgS_ll _ (fun s x => ?_) _ _;unfold placeF
  split <;> rfl
 have hTlen : T.length = N.length := by rw [← hT, chgS_len]
 rw [hT] at q1 q4
 have hin : ∀ b, b ∈ numsA T → b ∈ numsA S ∨ b ∈ bs' := fun b hb => by
  rcases List.mem_append.1 (q4.mem_iff.1 hb) with k | k
  ·exact .inl (hnums.subset k)
  ·exact .inr k
 have hbsin : ∀ b ∈ bs', b ∈ numsA T := fun b hb => q4.mem_iff.2 (List.mem_append_right _ hb)
 have hhigh : ∀ b ∈ numsA T, 2048 ≤ b ∧ b < 4096 := fun b hb => by
  rcases hin b hb with k | k
  ·exact ⟨h.high b k, (tree_phys hS b k).2⟩
  ·obtain ⟨k1, k2, -⟩ := (openW_mem s b).1 (p5 b k)
   exact ⟨k1, k2⟩
 have hTlist : listA T = L' := by rw [q1, hlist]
 have hnd : (numsA T).Nodup := by
  rw [q4.nodup_iff, List.nodup_append];refine ⟨hnums.nodup hS.good.nd, p4, fun x hx y hy e => ?_⟩;subst e;obtain ⟨k1, k2, k3⟩ := (openW_mem s x).1 (p5 x hy);have := (h.use x.toNat (by omega)).2 (by rw [show ((x.toNat : Nat) : Int) = x by omega]; exact hnums.subset hx);rw [k3] at this
  cases this
 have hTree : TreeOk T := tree_placed hw hlogs hz hsz h4 h1 hd5 hll (by rw [hTlist]; exact hrow) (not_hit (by rw [hTlist]; exact hlow) fun b hb => (hhigh b hb).1) hnd fun b hb => by have := hhigh b hb; omega
 have hrep : replN nxW (rdOf F (-1)) dp root a t L s = (.ok (S, T), s') := by
  unfold replN;rw [if_neg (by rw [hf]; simp), h.load];dsimp only;rw [hL', not_hit hlow h.high, if_neg (by simp), hpl, if_pos p1, hT, hs']
 have hput : putB F (chgA (blocksA S) (blocksA T)) = layF F (chgA (blocksA S) (blocksA T)) := putB_lay F (chg_nd hTree.good) fun c hc => by have := blk_phys hTree c (chg_mem.1 hc).1; omega
 refine ⟨T, s', hrep, hTree, hTlist, hTlen, fun r => ?_, ?_⟩
 ·have := congrArg List.length (ll_heads hll r)
  simpa using this
 ·have hfr : freeA (blocksA S) (blocksA T) = (sortI (numsA S)).filter fun b => decide (b ∉ sortI (numsA T)) := free_is hS.good.well hTree.good.well
  have hfr0 : ∀ b ∈ freeA (blocksA S) (blocksA T), 0 ≤ b := fun b hb => by
   rw [hfr, List.mem_filter, sortI_mem] at hb;have := tree_phys hS b hb.1;omega
  rw [hput];refine ⟨lay_load hs hTree, fun k hk => ?_, fun b hb => (hhigh b hb).1, by rw [hTlist]; exact hlow, layF_size h.size fun c hc => ?_⟩
  ·have hsk : s' k = (s k || decide ((k : Int) ∈ bs')) := by rw [← hs']; exact p6 k
   rw [freeU_at _ _ _ hfr0, hsk, Bool.and_eq_true, Bool.or_eq_true, Bool.not_eq_true', decide_eq_false_iff_not, decide_eq_true_iff, hfr, List.mem_filter, sortI_mem, decide_eq_true_iff, sortI_mem, h.use k hk];constructor
   ·rintro ⟨k1 | k1, k2⟩
    ·exact Classical.byContradiction fun q => k2 ⟨k1, q⟩
    ·exact hbsin _ k1
   ·intro k1
    exact ⟨hin _ k1, fun q => q.2 k1⟩
  ·obtain ⟨r, hr, p, hp, rfl⟩ := blk_mem (chg_mem.1 hc).1
   exact enc_size _
open Go.RowKit
theorem wfresh_all (p g u : Nat) (F : Nat → ByteArray) (dp : Int) (vt : Value) (w0 : World) (hB : p < w0.heap.size ∧ g < w0.heap.size ∧ u < w0.heap.size) :
 Freshes nxW (.func (.func 35) #[.pointer (some ⟨p, 0, none⟩)] #[]) (fun _ => True) (fun s W => WldAt p g u F dp vt s W ∧ ∀ k, k < w0.heap.size → k ≠ u → W.heap[k]? = w0.heap[k]?) u w0.heap.size :=
 fresh_fn {
  ent := enters_of Tryz.func35 (by kernel_rfl) rfl
  call := fun s W hgo hBW h => by
   refine (wfresh_any p g u F dp vt s W h.1).mono ?_;rintro e W' ⟨h1, h2, h3, h4⟩;exact ⟨h1, ⟨h2, fun k hk hne => (h4 k hne).trans (h.2 k hk hne)⟩, h3, fun k hk _ => h4 k (by omega)⟩
  keep := fun s W W' _ h b => ⟨h.1.kept hB b, fun k hk hne => (b.block k hk).trans (h.2 k hk hne)⟩
  next := fun _ _ _ => trivial }
structure RplEnd (p g u : Nat) (F : Nat → ByteArray) (dp : Int) (vt : Value) (S : Shp) (L' : List Ent) (W : World) (e : Ending) (W' : World) (T : Shp) (s' : Nat → Bool) (vr vc vf : Value) : Prop where
 val : e = .returned (.tuple #[setV ((T.length - 1 : Nat) : Int) vr vc vf, .int .i64 0])
 tree : TreeOk T
 list : listA T = L'
 len : T.length = (growA S L').length
 heads : ∀ r, (headsA T r).length = (headsA (growA S L') r).length
 stand : WStand (putB F (chgA (blocksA S) (blocksA T))) ((T.length - 1 : Nat) : Int) (rootA T) (freeU s' (freeA (blocksA S) (blocksA T))) T
 r : EntsAt W.heap.size vr (rootA T) W'
 c : ChgsOwn W.heap.size vc (chgA (blocksA S) (blocksA T)) W'
 f : IntsFk W.heap.size vf (freeA (blocksA S) (blocksA T)) W'
 wld : WldAt p g u F dp vt s' W'
 stay : Stay p g u W W'
theorem wreplace_any (p g u : Nat) (F : Nat → ByteArray) (dp : Int) (vt : Value) (root : List Ent) (s : Nat → Bool) (S : Shp) (W : World) (h : WldAt p g u F dp vt s W) (hw : WStand F dp root s S) (a0 q0 : Nat) (hrd : RdrAt a0 q0 g F (-1) W) (hvt : EntsIn vt root W) (hroot : EntsS u vt root W)
 (a t : Int) (ha : I64 a) (ht : I64 t) (L : List Ent) (hfL : fitE L) (hL4 : L.length ≤ 4000) (vl : Value) (hvl : EntsIn vl L W) (hf : fitB L a t = true) (hL : ∀ e ∈ L, e.phys + e.len ≤ 2048)
 (hroom : zeros ((List.range ((growA S (replA (listA S) a t L)).length - 1)).flatMap (headsA (growA S (replA (listA S) a t L)))) ≤ (openW s).length) :
 Calls Tryz.prog 28 #[.agg #[.int .i64 dp, vt], .func (.func 49) #[] (rdrC a0 q0), .int .i64 a, .int .i64 t, vl, .func (.func 35) #[.pointer (some ⟨p, 0, none⟩)] #[]] W
  fun e W' => ∃ T s' vr vc vf, RplEnd p g u F dp vt S (replA (listA S) a t L) W e W' T s' vr vc vf := by
 have hlt : p < W.heap.size ∧ g < W.heap.size ∧ u < W.heap.size := ⟨h.b.lt, h.d.c.1, h.u.c.1⟩;have fr := wfresh_all p g u F dp vt W hlt;obtain ⟨T, s', e1, e2, e3, e4, e5, e6⟩ := wrepl hw hf hL hroom;obtain ⟨-, hS, -, -⟩ := load_stands hw.load;obtain ⟨d1, d2⟩ := hw.dp;have := fkreplace_any nxW _ _ _ u W.heap.size fr (by omega) _ (rdrC a0 q0) (rdOf F (-1)) W (Nat.le_refl _) (hrd.reads hw.size) dp (by rw [d1]; exact deep_fit hS) root (by rw [d2]; exact root_fit hS) vt hvt hroot a t ha ht L hfL hL4 vl hvl s trivial ⟨h, fun k _ _ => rfl⟩;rw [e1] at this;refine this.mono ?_;intro e W' he;unfold SetEndN at he;obtain ⟨t1, ⟨t2, t3⟩, -, vr, vc, vf, rfl, k1, k2, k3⟩ := he;exact ⟨T, s', vr, vc, vf, rfl, e2, e3, e4, e5, e6, k1, k2, k3, t2, ⟨t1.os, t1.tape, t1.output, t1.size, fun k hk _ _ hne => t3 k hk hne⟩⟩
open Go.RowKit
theorem Stacked.count {old : Shp} (hw : WellS old) {ch : Choose} (hch : ∀ ns l, SpanFl ns l (ch ns l)) {r : Nat} {l : List Ent} {S : Shp} (h : Stacked old ch r l S) :
 ∀ q, (headsA S q).length ≤ (oldN old (r + q)).length + splitN (if q = 0 then l.length else (headsA S (q - 1)).length) := by
 induction h with
 | top r l h => intro q; unfold headsA rowA; simp
 | row r l S h k ih =>
   intro q;obtain ⟨o1, o2⟩ := hw.old r;have hso := (hch (oldN old r) l).ok
   have e1 : headsA (packN (oldN old r) l (ch (oldN old r) l) :: S) 0 = packH (headsA old r) l (ch (oldN old r) l) := by
    rw [← k.first hch]; unfold headsA rowA; simp
   cases q with
   | zero =>
     rw [e1, packH_len hso o1, if_pos rfl]
     have hm : splitN ((ch (oldN old r) l).stop - (ch (oldN old r) l).start) ≤ splitN l.length := by unfold splitN; have := hso.d; have := hso.c; omega
     have := hso.a; have := hso.b
     show _ ≤ (oldN old r).length + _
     omega
   | succ q =>
     rw [heads_cons, if_neg (by omega), Nat.add_sub_cancel];have := ih q;rw [show r + 1 + q = r + (q + 1) by omega] at this;refine Nat.le_trans this (Nat.add_le_add_left ?_ _)
     cases q with
     | zero => rw [if_pos rfl, e1]; exact Nat.le_refl _
     | succ q => rw [if_neg (by omega), Nat.add_sub_cancel, heads_cons]; exact Nat.le_refl _
theorem grow_count {old : Shp} (hw : WellS old) {L : List Ent} (hne : L ≠ listA old) : ∀ q, (headsA (growA old L) q).length ≤ (oldN old q).length + splitN (if q = 0 then L.length else (headsA (growA old L) (q - 1)).length) := by
 unfold growA;rw [if_neg hne];intro q;split
 ·have := (stackA_is hw (ch := spanAll) span_all L).count hw fl_all q
  rwa [Nat.zero_add] at this
 ·have := (stackA_is hw (ch := unlikeA) span_unlike L).count hw fl_unlike q
  rwa [Nat.zero_add] at this
theorem zeros_le (es : List Ent) : zeros es ≤ es.length := List.length_filter_le _ _
theorem flat_four (f : Nat → List Ent) : ∀ n, n ≤ 4 → ((List.range n).flatMap f).length ≤ (f 0).length + ((f 1).length + ((f 2).length + (f 3).length)) := fun n hn => by
 have h : n = 0 ∨ n = 1 ∨ n = 2 ∨ n = 3 ∨ n = 4 := by omega
 rcases h with rfl | rfl | rfl | rfl | rfl <;> simp [List.range_succ, List.flatMap_append] <;> omega
theorem tree_wide {T : Shp} (h : TreeOk T) : ∀ j, j < T.length → (rowA T (T.length - 1 - j)).flatten.length ≤ 4 * 10 ^ j := fun j => by
 have hw := h.good.well
 induction j with
 | zero =>
   intro _;rw [Nat.sub_zero, root_row hw];have hr := h.root;unfold RootedA at hr;rw [ok_kindN (by show (1 : Int) ≠ 0; decide)] at hr;unfold Full at hr;have : (rootA T).length ≤ 4 := hr.2.2.2.2.1
   simpa using this
 | succ j ih =>
   intro hj;have ih := ih (by omega)
   have hq : T.length - 1 - (j + 1) + 1 = T.length - 1 - j := by omega
   have h1 := hw.heads (T.length - 1 - (j + 1)) (by omega)
   have h2 : (headsA T (T.length - 1 - (j + 1))).length ≤ 4 * 10 ^ j := by unfold headsA; rw [hq]; exact ih
   have h3 : ∀ (L : List (List Ent)), (∀ x ∈ L, x.length ≤ 10) → L.flatten.length ≤ 10 * L.length := fun L => by
    induction L with
    | nil => intro _; simp
    | cons x L ihL =>
      intro hx;have a1 := hx x (List.mem_cons_self ..);have a2 := ihL fun y hy => hx y (List.mem_cons_of_mem _ hy);rw [List.flatten_cons, List.length_append, List.length_cons];omega
   have h4 := h3 (rowA T (T.length - 1 - (j + 1))) fun x hx => (h.good.nodes _ (by omega) x hx).2.1;rw [Nat.pow_succ];omega
theorem tree_deep {T : Shp} (h : TreeOk T) (hl : 400 < (listA T).length) : 4 ≤ T.length ∧ T.length ≤ 5 := by
 have hp := h.good.well.pos;have h1 := tree_wide h (T.length - 1) (by omega);rw [Nat.sub_self] at h1;have h1 : (listA T).length ≤ 4 * 10 ^ (T.length - 1) := h1;have hr := h.root;unfold RootedA at hr;rw [ok_kindN (by show (1 : Int) ≠ 0; decide)] at hr;unfold Full at hr;have h2 : ((T.length - 1 : Nat) : Int) ≤ 4 := hr.2.2.2.1.2;refine ⟨?_, by omega⟩
 apply Classical.byContradiction
 intro hno
 have h3 : T.length - 1 = 0 ∨ T.length - 1 = 1 ∨ T.length - 1 = 2 := by omega
 rcases h3 with h3 | h3 | h3 <;> rw [h3] at h1 <;> omega
theorem open_many {s : Nat → Bool} {l : List Int} (hl : ∀ k : Nat, 2048 ≤ k → k < 4096 → s k = true → (k : Int) ∈ l) : 2048 ≤ (openW s).length + l.length := by
 have h : ((List.range 2048).map fun j => ((2048 + j : Nat) : Int)).length ≤ (openW s ++ l).length := by
  refine sub_len _ _ ?_ fun b hb => ?_
  ·rw [List.nodup_iff_pairwise_ne, List.pairwise_map]
   exact (List.nodup_iff_pairwise_ne.1 List.nodup_range).imp fun h e => h (by omega)
  ·obtain ⟨j, hj, rfl⟩ := List.mem_map.1 hb
   rw [List.mem_range] at hj;rw [List.mem_append, openW_mem]
   cases hs : s (2048 + j) with
   | true => exact .inr (hl _ (by omega) (by omega) hs)
   | false => exact .inl ⟨by omega, by omega, by rw [Int.toNat_natCast]; exact hs⟩
 rw [List.length_map, List.length_range, List.length_append] at h;exact h
def fullE (i : Nat) : Ent := ⟨(i : Int), 1 + ((i * 7 % 2000 : Nat) : Int), 1⟩
def fullL (n : Nat) : List Ent := (List.range n).map fullE
theorem fullL_len (n : Nat) : (fullL n).length = n := by unfold fullL; rw [List.length_map, List.length_range]
theorem fullL_at {n i : Nat} (h : i < n) : eat (fullL n) i = fullE i := by
 unfold eat fullL; rw [List.getElem?_map, List.getElem?_range h]; rfl
theorem fullL_succ (n : Nat) : fullL (n + 1) = fullL n ++ [fullE n] := by unfold fullL; rw [List.range_succ, List.map_append]; rfl
theorem fullL_row {n : Nat} (hn : n ≤ 2048) : RowOk true (fullL n) := by
 intro i hi;rw [fullL_len] at hi;rw [fullL_at hi];refine ⟨(entT _).2 ⟨by show (1 : Int) ≤ 1; omega, by show (0 : Int) ≤ (i : Int); omega, by show (i : Int) + 1 ≤ 2048; omega, by show (1 : Int) ≤ 1 + ((i * 7 % 2000 : Nat) : Int); omega, by show 1 + ((i * 7 % 2000 : Nat) : Int) + 1 ≤ 4096; omega⟩, fun h0 => ?_⟩;rw [fullL_at (by omega)];exact ⟨by show ((i - 1 : Nat) : Int) < (i : Int); omega, by show ((i - 1 : Nat) : Int) + 1 ≤ (i : Int); omega⟩
theorem fullL_mem {n : Nat} {e : Ent} (h : e ∈ fullL n) : ∃ i, i < n ∧ e = fullE i := by
 unfold fullL at h;obtain ⟨i, hi, rfl⟩ := List.mem_map.1 h;exact ⟨i, List.mem_range.1 hi, rfl⟩
theorem fullL_low {n : Nat} {e : Ent} (h : e ∈ fullL n) : e.phys + e.len ≤ 2048 := by
 obtain ⟨i, -, rfl⟩ := fullL_mem h
 show 1 + ((i * 7 % 2000 : Nat) : Int) + 1 ≤ 2048
 omega
theorem fullL_fit {n : Nat} (hn : n ≤ 2048) : fitE (fullL n) := fun e h => by
 obtain ⟨i, hi, rfl⟩ := fullL_mem h;exact ⟨⟨by show (-9223372036854775808 : Int) ≤ (i : Int); omega, by show (i : Int) ≤ 9223372036854775807; omega⟩, ⟨by show (-9223372036854775808 : Int) ≤ 1 + ((i * 7 % 2000 : Nat) : Int); omega, by show 1 + ((i * 7 % 2000 : Nat) : Int) ≤ 9223372036854775807; omega⟩, ⟨by show (-9223372036854775808 : Int) ≤ 1; omega, by show (1 : Int) ≤ 9223372036854775807; omega⟩⟩
theorem full_drop {n k : Nat} {e : Ent} (h : e ∈ (fullL n).drop k) : ∃ i, k ≤ i ∧ i < n ∧ e = fullE i := by
 obtain ⟨j, hj, rfl⟩ := List.mem_iff_getElem.1 h;rw [List.length_drop, fullL_len] at hj;refine ⟨k + j, by omega, by omega, ?_⟩;rw [List.getElem_drop];unfold fullL;rw [List.getElem_map, List.getElem_range]
theorem full_take {n k : Nat} {e : Ent} (h : e ∈ (fullL n).take k) : ∃ i, i < k ∧ i < n ∧ e = fullE i := by
 obtain ⟨j, hj, rfl⟩ := List.mem_iff_getElem.1 h;rw [List.length_take, fullL_len] at hj;refine ⟨j, by omega, by omega, ?_⟩;rw [List.getElem_take];unfold fullL;rw [List.getElem_map, List.getElem_range]
open Go.RowKit
theorem fit_is {L : List Ent} {a t : Int} (h0 : 0 ≤ a) (h1 : a ≤ t) (h2 : t ≤ 2048) (hr : RowOk true L) (ha : ∀ e ∈ L, a ≤ e.log) (ht : ∀ e ∈ L, e.log + e.len ≤ t) : fitB L a t = true := by
 unfold fitB endV;rw [decide_eq_false (show ¬ a < 0 by omega), decide_eq_false (show ¬ t < a by omega), decide_eq_false (show ¬ t > 2048 by omega), decide_eq_true hr, if_pos hr]
 cases L with
 | nil => rfl
 | cons x L =>
   rw [decide_eq_true (show a ≤ (eat (x :: L) 0).log from ha x (List.mem_cons_self ..)), decide_eq_true (endX_le ht (by omega))]
   simp
theorem rise_of {L : List Ent} (h : RowOk true L) {b : Int} (hb : ∀ e ∈ L, b ≤ e.log) : Rise b L :=
 row_rise_from L b h fun h0 => by rw [eat_eq h0]; exact hb _ (List.getElem_mem h0)
theorem sub_rows {n k : Nat} (hn : n ≤ 2048) : RowOk true ((fullL n).take k) ∧ RowOk true ((fullL n).drop k) := by
 have h := fullL_row hn;constructor
 ·exact part_row (a := []) (c := (fullL n).drop k) (by rw [List.nil_append, List.take_append_drop]; exact h)
 ·exact part_row (a := (fullL n).take k) (c := []) (by rw [List.append_nil, List.take_append_drop]; exact h)
theorem repl_none {L : List Ent} {a t : Int} (hf : fitB L a t = true) : replA [] a t L = L := by
 rcases repl_is (l := []) (by intro i hi; cases hi) hf with ⟨-, e⟩ | ⟨-, e1, e2⟩
 ·rw [e]; unfold change; rw [keep_nil, keep_nil, List.nil_append, List.append_nil]
 ·rw [e2, e1]
theorem repl_half {n : Nat} (hn : n ≤ 2048) (h0 : 1000 ≤ n) : replA ((fullL n).drop 1000) 0 1000 ((fullL n).take 1000) = fullL n := by
 obtain ⟨r1, r2⟩ := sub_rows (k := 1000) hn
 have hf : fitB ((fullL n).take 1000) 0 1000 = true := fit_is (by omega) (by omega) (by omega) r1 (fun e he => by
  obtain ⟨i, -, -, rfl⟩ := full_take he; show (0 : Int) ≤ (i : Int); omega) fun e he => by
  obtain ⟨i, h1, -, rfl⟩ := full_take he; show (i : Int) + 1 ≤ 1000; omega
 rcases repl_is r2 hf with ⟨-, e⟩ | ⟨e1, -, -⟩
 ·rw [e]
  unfold change
  rw [keep_empty _ (Int.le_refl _), List.nil_append, keep_all (b := 1000) (rise_of r2 fun e he => by
   obtain ⟨i, h1, -, rfl⟩ := full_drop he; show (1000 : Int) ≤ (i : Int); omega) (Int.le_refl _) fun e he => by
   obtain ⟨i, -, h2, rfl⟩ := full_drop he; show (i : Int) + 1 ≤ 2048; omega, List.take_append_drop]
 ·omega
theorem grow_five {S : Shp} (hw : WellS S) (h5 : S.length ≤ 5) {L : List Ent} (hL : L.length ≤ 2048) : (growA S L).length ≤ 5 := by
 unfold growA;split
 ·exact h5
 ·split
  ·have := (stackA_is hw (ch := spanAll) span_all L).depth hw 3 (by omega)
   omega
  ·omega
theorem S0_well : WellS S0 := ⟨by decide, fun r hr => by simp [S0] at hr, fun r hr => by simp [S0] at hr, rfl⟩
theorem S0_old (q : Nat) : oldN S0 q = [] := by unfold oldN; rw [if_neg (by simp [S0])]
theorem heads_new {L : List Ent} {m : Nat} (h0 : 0 < L.length) (hm : L.length ≤ m) : (headsA (growA S0 L) 0).length ≤ splitN m ∧ (headsA (growA S0 L) 1).length ≤ splitN (splitN m) ∧ (headsA (growA S0 L) 2).length ≤ splitN (splitN (splitN m)) ∧ (headsA (growA S0 L) 3).length ≤ splitN (splitN (splitN (splitN m))) := by
 have hne : L ≠ listA S0 := fun e => by rw [e] at h0; exact absurd h0 (by decide)
 have hmono : ∀ a b, a ≤ b → splitN a ≤ splitN b := fun a b h => by unfold splitN; omega
 have c := grow_count S0_well hne;have c0 := c 0;have c1 := c 1;have c2 := c 2;have c3 := c 3;rw [S0_old, if_pos rfl] at c0;rw [S0_old, if_neg (by omega)] at c1 c2 c3;rw [List.length_nil, Nat.zero_add] at c0 c1 c2 c3;have d0 := Nat.le_trans c0 (hmono _ _ hm);have d1 := Nat.le_trans c1 (hmono _ _ d0);have d2 := Nat.le_trans c2 (hmono _ _ d1);exact ⟨d0, d1, d2, Nat.le_trans c3 (hmono _ _ d2)⟩
theorem w_empty {F : Nat → ByteArray} (hF : ∀ k, (F k).size ≤ 1000) : WStand F 0 [] (fun _ => false) S0 where
 load := load0 _
 use := fun k _ => by rw [nums0]; simp
 high := fun b hb => by rw [nums0] at hb; cases hb
 low := fun e he => by rw [list0] at he; cases he
 size := hF
theorem room_new {L : List Ent} (h0 : 0 < L.length) (hm : L.length ≤ 2048) : zeros ((List.range ((growA S0 L).length - 1)).flatMap (headsA (growA S0 L))) ≤ (openW fun _ => false).length := by
 obtain ⟨h1, h2, h3, h4⟩ := heads_new h0 hm;have h5 := grow_five S0_well (by decide) hm;have h6 := flat_four (headsA (growA S0 L)) ((growA S0 L).length - 1) (by omega)
 have h7 := open_many (s := fun _ => false) (l := []) fun k _ _ h => by cases h
 have h8 := zeros_le ((List.range ((growA S0 L).length - 1)).flatMap (headsA (growA S0 L)));have e1 : splitN 2048 = 205 := rfl;have e2 : splitN 205 = 21 := rfl;have e3 : splitN 21 = 3 := rfl;have e4 : splitN 3 = 1 := rfl;rw [e1] at h1 h2 h3 h4;rw [e2] at h2 h3 h4;rw [e3] at h3 h4;rw [e4] at h4;rw [List.length_nil] at h7;omega
theorem room_half {F : Nat → ByteArray} {dp : Int} {root : List Ent} {s : Nat → Bool} {T : Shp} (h : WStand F dp root s T) {L1 L : List Ent} (h0 : 0 < L1.length) (h1 : L1.length ≤ 1048) (hT : ∀ r, (headsA T r).length = (headsA (growA S0 L1) r).length) (hl : listA T = L1) (hL : L.length ≤ 2048) (hne : L ≠ L1) :
 zeros ((List.range ((growA T L).length - 1)).flatMap (headsA (growA T L))) ≤ (openW s).length := by
 obtain ⟨-, hTO, -, -⟩ := load_stands h.load;have hw := hTO.good.well;obtain ⟨a0, a1, a2, a3⟩ := heads_new h0 h1;have e1 : splitN 1048 = 105 := rfl;have e2 : splitN 105 = 11 := rfl;have e3 : splitN 11 = 2 := rfl;have e4 : splitN 2 = 1 := rfl;rw [e1] at a0 a1 a2 a3;rw [e2] at a1 a2 a3;rw [e3] at a2 a3;rw [e4] at a3;rw [← hT] at a0 a1 a2 a3
 have hold : ∀ q, (oldN T q).length ≤ (headsA T q).length := fun q => by rw [(hw.old q).1]; exact Nat.le_refl _
 have c := grow_count hw (old := T) (L := L) (by rw [hl]; exact hne);have c0 := c 0;have c1 := c 1;have c2 := c 2;have c3 := c 3;rw [if_pos rfl] at c0;rw [if_neg (by omega)] at c1 c2 c3;have o0 := hold 0;have o1 := hold 1;have o2 := hold 2;have o3 := hold 3;have h5 := grow_five hw (load_depth h.load) hL;have h6 := flat_four (headsA (growA T L)) ((growA T L).length - 1) (by omega);have h7 := open_many (s := s) (l := numsA T) fun k _ h2 h3 => (h.use k h2).1 h3;have h8 := zeros_le ((List.range ((growA T L).length - 1)).flatMap (headsA (growA T L)))
 have hn : (numsA T).length ≤ 119 := by
  have hp := hw.pos;rw [← heads_nums T (T.length - 1) (by omega), List.length_map];have := flat_four (headsA T) (T.length - 1) (by have := load_depth h.load; omega);omega
 unfold splitN at c0 c1 c2 c3
 show _ ≤ _
 have b1 : (headsA (growA T L) (1 - 1)).length = (headsA (growA T L) 0).length := rfl;have b2 : (headsA (growA T L) (2 - 1)).length = (headsA (growA T L) 1).length := rfl;have b3 : (headsA (growA T L) (3 - 1)).length = (headsA (growA T L) 2).length := rfl;rw [b1] at c1;rw [b2] at c2;rw [b3] at c3;omega
theorem tree_empty {S : Shp} (h : TreeOk S) (hl : listA S = []) : S = S0 := by
 have hw := h.good.well;have hp := hw.pos
 have hnone : ∀ r, r + 1 < S.length → (rowA S r).flatten = [] → headsA S r = [] := fun r hr e => by
  have h1 : rowA S r = [] := by
   match hq : rowA S r with
   | [] => rfl
   | x :: y =>
     exfalso;rw [hq] at e;have := hw.some r hr x (by rw [hq]; simp);rw [List.flatten_cons, List.append_eq_nil_iff] at e;rw [e.1] at this
     simp at this
  have h2 := hw.heads r hr;rw [h1] at h2;exact List.eq_nil_of_length_eq_zero h2
 have hall : ∀ r, r + 1 < S.length → headsA S r = [] := fun r => by
  induction r with
  | zero => intro hr; exact hnone 0 hr hl
  | succ r ih =>
    intro hr;exact hnone (r + 1) hr (ih (by omega))
 have hr := h.root;unfold RootedA at hr;rw [ok_kindN (by show (1 : Int) ≠ 0; decide)] at hr;unfold Full at hr;by_cases e : S.length = 1
 ·have h1 := root_row hw
  rw [e] at h1;have h1 : rowA S 0 = [rootA S] := h1
  have h2 : rootA S = [] := by
   unfold listA at hl;rw [h1] at hl
   simpa using hl
  rw [h2] at h1
  match S, e with
  | [x], _ =>
    have h1 : x = [[]] := h1;rw [h1]
 ·exfalso
  have h1 := hall (S.length - 2) (by omega);unfold headsA at h1;rw [show S.length - 2 + 1 = S.length - 1 by omega, root_row hw] at h1
  have h2 : rootA S = [] := by simpa using h1
  rcases hr.2.2.2.2.2.2 with k | k
  ·have k : ((S.length - 1 : Nat) : Int) = 0 := k
   omega
  ·have k : 0 < (rootA S).length := k
   rw [h2] at k
   simp at k
theorem repl_gone {rd : Rd} {dp : Int} {root : List Ent} {S : Shp} (h : loadA rd false dp root = .ok S) : replN nxNil rd dp root 0 2048 [] () = (.ok (S, S0), ()) := by
 obtain ⟨-, hS, -, -⟩ := load_stands h
 have hf : fitB [] 0 2048 = true := by decide
 have hr : replA (listA S) 0 2048 [] = [] := by
  rcases repl_is hS.good.rise hf with ⟨-, e⟩ | ⟨e, -, -⟩
  ·rw [e]
   unfold change;rw [keep_empty _ (Int.le_refl _), keep_empty _ (Int.le_refl _)]; rfl
  ·omega
 have hpl : plcA nxNil 0 2048 [] () S = (((), 0, blocksV [] ++ singR (sortI (numsA S))), S0) := by
  unfold plcA;rw [hr]
  have hg : growA S [] = S0 := by
   unfold growA;split
   ·rename_i e
    have hd := tree_empty hS e.symm;exact hd
   ·have hs : ∀ ch, stackA S [] ch = S0 := fun ch => by
     unfold stackA;have : ∃ k, S.length + ([] : List Ent).length = k + 1 := ⟨S.length - 1, by have := hS.good.well.pos; simp; omega⟩;obtain ⟨k, hk⟩ := this;rw [hk];rfl
    rw [hs, hs];exact if_neg (by decide)
  rw [hg];rfl
 unfold replN;rw [hf, if_neg (by simp), h];dsimp only;rw [hr, if_neg (by rw [show hitA [] (numsA S) = false from hit_iff.2 fun b _ e he => by cases he]; simp), hpl];rfl
open Go.RowKit
theorem ents_from {g cap n k : Nat} {l : List Ent} {w : World} (hn : n = l.length) (hk : k ≤ n) (h : EntsIn (.slice (some ⟨g, 0, none⟩) n cap) l w) : EntsIn (.slice (some ⟨g, k * 3, none⟩) (n - k) (cap - k)) (l.drop k) w := by
 subst hn;obtain ⟨k0, ad', cap', e, k1, k2, k3, k4⟩ := h
 cases e
 refine ⟨cellsE_length _, _, cap - k, by rw [List.length_drop], by rw [List.length_drop]; omega, by unfold maxLen at *; omega, fun hp => ?_, fun e => by cases e⟩;rw [cellsE_length, List.length_drop] at hp;obtain ⟨g', o', e, hg, hcx⟩ := k3 (by rw [cellsE_length]; omega)
 cases e
 refine ⟨g, k * 3, rfl, hg, fun j u hj => ?_⟩
 have h2 := hcx (k * 3 + j) u (by
  have h1 : cellsE l = cellsE (l.take k) ++ cellsE (l.drop k) := by rw [← cellsE_append, List.take_append_drop]
  rw [h1, List.getElem?_append_right (by rw [cellsE_length, List.length_take, Nat.min_eq_left hk]; omega), cellsE_length, List.length_take, Nat.min_eq_left hk, show k * 3 + j - k * 3 = j by omega]
  exact hj)
 rwa [Nat.zero_add] at h2
theorem ents_to {g cap n k : Nat} {l : List Ent} {w : World} (hn : n = l.length) (hk : k ≤ n) (h : EntsIn (.slice (some ⟨g, 0, none⟩) n cap) l w) : EntsIn (.slice (some ⟨g, 0, none⟩) k cap) (l.take k) w := by
 subst hn;obtain ⟨k0, ad', cap', e, k1, k2, k3, k4⟩ := h
 cases e
 refine ⟨cellsE_length _, _, cap, by rw [List.length_take, Nat.min_eq_left hk], by rw [List.length_take]; omega, k2, fun hp => ?_, fun e => by cases e⟩;rw [cellsE_length, List.length_take] at hp;obtain ⟨g', o', e, hg, hcx⟩ := k3 (by rw [cellsE_length]; omega)
 cases e
 refine ⟨g, 0, rfl, hg, fun j u hj => hcx j u ?_⟩
 have h1 : cellsE l = cellsE (l.take k) ++ cellsE (l.drop k) := by rw [← cellsE_append, List.take_append_drop]
 rw [h1, List.getElem?_append_left (List.getElem?_eq_some_iff.1 hj).1]; exact hj
theorem from_run {g n cap : Nat} (h1 : 2040 ≤ n) (h2 : n ≤ cap) (h3 : cap ≤ 9223372036854775807) (w : World) : (Instr.slice 42 (.slice (some ⟨g, 0, none⟩) n cap) (some (.int .i64 1000)) none none).run Tryz.prog w = .ok (.slice (some ⟨g, 3000, none⟩) (n - 1000) (cap - 1000)) w := by
 have h4 : cap ≠ 1000 := by omega
 have h5 : ¬ (n : Int) < 1000 := by omega
 go_simp
theorem to_run {g n cap : Nat} (h1 : 2040 ≤ n) (h2 : n ≤ cap) (h3 : cap ≤ 9223372036854775807) (w : World) : (Instr.slice 42 (.slice (some ⟨g, 0, none⟩) n cap) none (some (.int .i64 1000)) none).run Tryz.prog w = .ok (.slice (some ⟨g, 0, none⟩) 1000 cap) w := by
 have h5 : ¬ (cap : Int) < 1000 := by omega
 go_simp
theorem Stay.blk {p g u X : Nat} {cs : Array Value} {t : TypeId} {w w' : World} (h : Stay p g u w w') (b : Blk X cs t w) (h1 : X ≠ p) (h2 : X ≠ g) (h3 : X ≠ u) : Blk X cs t w' := (h.block X b.lt h1 h2 h3).trans b
theorem Stay.trans {p g u : Nat} {a b c : World} (h : Stay p g u a b) (k : Stay p g u b c) : Stay p g u a c :=
 ⟨k.os.trans h.os, k.tape.trans h.tape, k.output.trans h.output, Nat.le_trans h.size k.size, fun q hq h1 h2 h3 => (k.block q (Nat.lt_of_lt_of_le hq h.size) h1 h2 h3).trans (h.block q hq h1 h2 h3)⟩
theorem Stay.out {p g u B : Nat} {a b : World} (h : Stay p g u a b) (hp : B ≤ p) (hg : B ≤ g) (hu : B ≤ u) (hB : B ≤ a.heap.size) : Below B a b :=
 ⟨h.os, h.tape, h.output, h.size, fun q hq => h.block q (by omega) (by omega) (by omega) (by omega)⟩
theorem chg_rng {S T : Shp} (hT : TreeOk T) : ∀ c ∈ chgA (blocksA S) (blocksA T), 0 ≤ c.1 ∧ c.1 < 4096 := fun c hc => by
 have := blk_phys hT c (chg_mem.1 hc).1;omega
theorem free_rng {S T : Shp} (hS : TreeOk S) : ∀ b ∈ freeA (blocksA S) (blocksA T), 0 ≤ b ∧ b < 4096 := fun b hb => by
 unfold freeA at hb;obtain ⟨c, hc, rfl⟩ := List.mem_map.1 hb;have := blk_phys hS c (List.mem_filter.1 hc).1;omega
structure MidOk (n : Nat) (T : Shp) (s : Nat → Bool) (TT : Int) (LN : Nat) (LL : List Ent) : Prop where
 tt : 0 ≤ TT ∧ TT ≤ 2048
 len : LL.length = LN
 le : LN ≤ n
 take : LL = (fullL n).take LN
 fit : fitB LL 0 TT = true
 repl : replA (listA T) 0 TT LL = fullL n
 room : zeros ((List.range ((growA T (fullL n)).length - 1)).flatMap (headsA (growA T (fullL n)))) ≤ (openW s).length
theorem mid_half {F : Nat → ByteArray} {dp : Int} {s : Nat → Bool} {T : Shp} {n : Nat} (h1 : 2040 ≤ n) (h2 : n ≤ 2048) (h : WStand F dp (rootA T) s T) (hl : listA T = (fullL n).drop 1000) (hT : ∀ r, (headsA T r).length = (headsA (growA S0 ((fullL n).drop 1000)) r).length) : MidOk n T s 1000 1000 ((fullL n).take 1000) where
 tt := by omega
 len := by rw [List.length_take, fullL_len]; omega
 le := by omega
 take := rfl
 fit := fit_is (by decide) (by decide) (by decide) (sub_rows (k := 1000) h2).1 (fun e he => by obtain ⟨j, k1, k2, rfl⟩ := full_take he; show (0 : Int) ≤ (j : Int); omega) (fun e he => by obtain ⟨j, k1, k2, rfl⟩ := full_take he; show (j : Int) + 1 ≤ 1000; omega)
 repl := by rw [hl]; exact repl_half h2 (by omega)
 room := room_half h (L1 := (fullL n).drop 1000) (by rw [List.length_drop, fullL_len]; omega) (by rw [List.length_drop, fullL_len]; omega) hT hl (by rw [fullL_len]; omega) (fun e => by have := congrArg List.length e; rw [List.length_drop, fullL_len] at this; omega)
theorem mid_new {n : Nat} (h1 : 2040 ≤ n) (h2 : n ≤ 2048) : MidOk n S0 (fun _ => false) 2048 n (fullL n) := by
 have hfit : fitB (fullL n) 0 2048 = true := fit_is (by decide) (by decide) (by decide) (fullL_row h2) (fun e he => by obtain ⟨j, k1, rfl⟩ := fullL_mem he; show (0 : Int) ≤ (j : Int); omega) (fun e he => by obtain ⟨j, k1, rfl⟩ := fullL_mem he; show (j : Int) + 1 ≤ 2048; omega);exact ⟨by omega, fullL_len n, Nat.le_refl _, by rw [List.take_of_length_le (by rw [fullL_len]; exact Nat.le_refl _)], hfit, by rw [list0]; exact repl_none hfit, room_new (by rw [fullL_len]; omega) (by rw [fullL_len]; omega)⟩
theorem wld_cells {p g u : Nat} {F : Nat → ByteArray} {dp : Int} {vt : Value} {s : Nat → Bool} {w : World} (h : WldAt p g u F dp vt s w) {P : Prop} (_ : P) :
 w.cell? ⟨p, 0, none⟩ = some (.slice (some ⟨g, 0, none⟩) 4096 4096) ∧ w.cell? ⟨p, 1, none⟩ = some (.int .i64 dp) ∧ w.cell? ⟨p, 2, none⟩ = some vt := ⟨h.b.cell 0, h.b.cell 1, h.b.cell 2⟩
structure RplAt (w0 : World) (p g u : Nat) (F : Nat → ByteArray) (dp : Int) (vt : Value) (S : Shp) (L' : List Ent) (X : Nat) (T : Shp) (s' : Nat → Bool) (ra : Option Addr) (rc : Nat) (vc vf : Value) (W : World) : Prop where
 blk : Blk X #[.int .i64 ((T.length - 1 : Nat) : Int), .slice ra (rootA T).length rc, vc, vf] 58 W
 tree : TreeOk T
 list : listA T = L'
 heads : ∀ r, (headsA T r).length = (headsA (growA S L') r).length
 stand : WStand (putB F (chgA (blocksA S) (blocksA T))) ((T.length - 1 : Nat) : Int) (rootA T) (freeU s' (freeA (blocksA S) (blocksA T))) T
 r : EntsAt w0.heap.size (.slice ra (rootA T).length rc) (rootA T) W
 c : ChgsOwn w0.heap.size vc (chgA (blocksA S) (blocksA T)) W
 f : IntsFk w0.heap.size vf (freeA (blocksA S) (blocksA T)) W
 wld : WldAt p g u F dp vt s' W
 below : Below w0.heap.size w0 W
open Go.RowKit
open Go.RowKit
theorem set_sz : (Tryz.prog.info? 58).map (·.size) = some 4 := by kernel_rfl
def SetSay (R : RpR) (w : World) (e : Ending) (w' : World) : Prop :=
 ∃ vr vc vf, e = .returned (.tuple #[setV (dpR R) vr vc vf, .int .i64 (ecR R)]) ∧ EntsAt w.heap.size vr (rtR R) w' ∧ ChgsOwn w.heap.size vc (chR R) w' ∧ IntsFk w.heap.size vf (frR R) w' ∧ Below w.heap.size w w'
theorem SetEnd.say {R : RpR} {w : World} {e : Ending} {w' : World} (h : SetEnd R w e w') : SetSay R w e w' := by
 unfold SetEnd at h;obtain ⟨b, h⟩ := h
 cases R with
 | ok q => obtain ⟨S, T⟩ := q; obtain ⟨vr, vc, vf, h1, h2, h3, h4⟩ := h; exact ⟨vr, vc, vf, h1, h2, h3, h4, b⟩
 | error c => exact ⟨_, _, _, h.1, World.ownsRow_nil _ _ _ _, World.ownsRow_nil _ _ _ _, World.ownsRow_nil _ _ _ _, b⟩
open Go.RowKit
theorem ffull_walk (x : Nat) (hx : x < 256) (turned : Bool) (w : World) :
 Calls Tryz.prog 8 #[.int .u8 (x : Int), .bool turned] w fun e w' => e = .returned (.bool true) ∧ Below w.heap.size w w' := by
 have mixed : Tryz.prog.follows .mixedOrders = true := by kernel_rfl
 go_enter Tryz.func8, Tryz.ntmps8
 go_upto_region 2 with fail
 obtain ⟨n, hn, hn1, hn2⟩ : ∃ n : Nat, 2040 + (x : Int) % 9 = (n : Int) ∧ 2040 ≤ n ∧ n ≤ 2048 := ⟨2040 + x % 9, by omega, by omega, by omega⟩;rw [hn];clear hn hx;go_wp2
 go_loopw [6, 7] (fun lv p wr => ∃ i : Nat, p = .int .i64 i ∧ i ≤ n ∧ ExtsAt w.heap.size lv (fullL i) wr ∧ Below w.heap.size w wr) (fun _ p _ => n - (intOf p).toNat)
 case atStart => exact ⟨0, rfl, Nat.zero_le _, ⟨rfl, .inl ⟨rfl, rfl⟩⟩, Below.refl _ _⟩
 case round =>
  obtain ⟨i, rfl, hi, hr, hb⟩ := hrel;have hs := hb.size;by_cases hlt : i < n
  ·have HR := Lib.hid hr
   have HB := Lib.hid hb;have hfl := fullL_len i;obtain ⟨ad, cap, rfl, -, hcap, -⟩ := shape_of hr;have hcap : cap ≤ 9223372036854775807 := hcap;clear hr hb;have hq : Hid ((i : Int) * 7 < 20000 ∧ 0 ≤ (i : Int) * 7 % 2000 ∧ (i : Int) * 7 % 2000 < 2000) := Lib.hid (by omega)
   go_wp2_with (at_builtin; refine wpList_app3 rfl _ _ 42 53 rfl Tryz.underlying42 ext_info w.heap.size _ (fullL i) (fullE i) rfl (HR.out.alloc _) wr rfl wr.heap.size rfl rfl (by omega) (by rw [size_alloc]; omega) ?_)
   intro v' w' h1 h2;have hb' := (balloc HB.out (.cells (entC (fullE i)) 53)).trans (below_of_row (HR.out.alloc _) (by rw [hfl]; exact h2) (by rw [size_alloc]; omega));rw [← fullL_succ] at h1;have H1 := Lib.hid h1;obtain ⟨ad', cap', rfl, -⟩ := shape_of h1;clear h1 h2 HR;go_wp2;exact ⟨⟨i + 1, by go_num, by omega, (show w'.ownsRow _ _ _ _ (fullL (i + 1)).length _ by rw [fullL_len]; exact H1.out), hb'⟩, by simp [intOf]; omega⟩
  ·obtain rfl : i = n := by omega
   have HR := Lib.hid hr;obtain ⟨ad, cap, rfl, -⟩ := shape_of hr;have HB := Lib.hid hb;have HN := Lib.hid (fullL_len i);clear hr hb;obtain ⟨w0, hw0⟩ : ∃ x, x = wr := ⟨_, rfl⟩;subst hw0
   have hpos : 0 < i := by omega
   obtain ⟨ad2, cap2, e2, hcap1, hcap2, k4⟩ := shape_of HR.out
   cases e2
   obtain ⟨gl, rfl, hgl⟩ := k4 (by have := HN.out; omega);have HFE := Lib.hid (rowE_in HR.out);have HCP : Hid ((fullL i).length ≤ cap ∧ cap ≤ 9223372036854775807) := Lib.hid ⟨hcap1, hcap2⟩;clear hcap1 hcap2 k4 hgl;have HVL : Hid (∀ W, Below w0.heap.size w0 W → EntsIn (.slice (some ⟨gl, 0, none⟩) (fullL i).length cap) (fullL i) W) := Lib.hid fun W b => HFE.out.kept b;rw [HN.out] at HVL HCP ⊢;have HBG := Lib.hid fun W => begun_any W
   go_upto_region 7 with fail
   go_wp2_with fail
   refine (HBG.out w0).mono ?_; rintro e w1 ⟨p, g, u, rfl, hpgu, hd, bd⟩;have HP := Lib.hid hpgu;have HWL := Lib.hid hd;have HB1 := Lib.hid bd;clear hd bd hpgu HBG;have HZ0 := Lib.hid (dskF_size (d := []) (by simp));have HLT := Lib.hid (And.intro HWL.out.b.lt (And.intro HWL.out.d.c.1 HWL.out.u.c.1));obtain ⟨dp, hdp⟩ : ∃ z : Int, z = 0 := ⟨_, rfl⟩;obtain ⟨vt, hvt⟩ : ∃ z : Value, z = .slice none 0 0 := ⟨_, rfl⟩;rw [← hdp, ← hvt] at HWL;have HDV := Lib.hid (And.intro hdp hvt);clear hdp hvt;have HSO := Lib.hid (w_empty HZ0.out)
   go_upto_if 40 with fail
   go_cut [10] (fun u1 wx => ∃ (F : Nat → ByteArray) (D : Int) (V : Value) (s : Nat → Bool) (T : Shp), Hid (WldAt p g u F D V s wx ∧ WStand F D (rootA T) s T ∧ EntsAt w0.heap.size V (rootA T) wx ∧ Below w0.heap.size w0 wx) ∧
    Hid (if turned = true then listA T = (fullL i).drop 1000 ∧ (∀ r, (headsA T r).length = (headsA (growA S0 ((fullL i).drop 1000)) r).length) else T = S0 ∧ s = fun _ => false))
   case first =>
    cases turned with
    | true =>
      have HFR := fun W => from_run (g := gl) hn1 HCP.out.1 HCP.out.2 W;have RDG := Lib.hid fun W (h : WldAt p g u (dskF []) dp vt (fun _ => false) W) => lreading_any (dskF []) (-1) g W h.d
      have RPL : Hid (∀ W a0 q0, Below w0.heap.size w0 W → WldAt p g u (dskF []) dp vt (fun _ => false) W → RdrAt a0 q0 g (dskF []) (-1) W → EntsAt w0.heap.size vt [] W →
       Calls Tryz.prog 28 #[.agg #[.int .i64 dp, vt], .func (.func 49) #[] (rdrC a0 q0), .int .i64 1000, .int .i64 2048, .slice (some ⟨gl, 3000, none⟩) (i - 1000) (cap - 1000), .func (.func 35) #[.pointer (some ⟨p, 0, none⟩)] #[]] W
        fun e W' => ∃ T s' vr vc vf, RplEnd p g u (dskF []) dp vt S0 ((fullL i).drop 1000) W e W' T s' vr vc vf) := Lib.hid fun W a0 q0 b h hr hv => by
       have hstd : WStand (dskF []) dp [] (fun _ => false) S0 := by rw [HDV.out.1]; exact HSO.out
       have hfit : fitB ((fullL i).drop 1000) 1000 2048 = true := fit_is (by decide) (by decide) (by decide) (sub_rows (k := 1000) hn2).2 (fun e he => by obtain ⟨j, h1, h2, rfl⟩ := full_drop he; show (1000 : Int) ≤ (j : Int); omega) (fun e he => by obtain ⟨j, h1, h2, rfl⟩ := full_drop he; show (j : Int) + 1 ≤ 2048; omega)
       have hre : replA (listA S0) 1000 2048 ((fullL i).drop 1000) = (fullL i).drop 1000 := by rw [list0]; exact repl_none hfit
       have hlen : ((fullL i).drop 1000).length = i - 1000 := by rw [List.length_drop, fullL_len]
       have := wreplace_any p g u (dskF []) dp vt [] (fun _ => false) S0 W h hstd a0 q0 hr (rowE_in hv) (EntsS.own hv) 1000 2048 ⟨by omega, by omega⟩ ⟨by omega, by omega⟩ ((fullL i).drop 1000) (fun e he => fullL_fit hn2 e (List.mem_of_mem_drop he)) (by omega) _ (ents_from (k := 1000) (fullL_len i).symm (by omega) (HVL.out W b)) hfit (fun e he => fullL_low (List.mem_of_mem_drop he)) (by rw [hre]; exact room_new (by omega) (by omega));rw [hre] at this;exact this
      have HVT : Hid (EntsAt w0.heap.size vt [] w1) := Lib.hid (by rw [HDV.out.2]; exact ⟨rfl, .inl ⟨rfl, rfl⟩⟩)
      go_upto_region 9 with fail
      go_cut [9, 10] (fun u1 u2 wx => ∃ (X : Nat) (T : Shp) (s' : Nat → Bool) (ra : Option Addr) (rc : Nat) (vc vf : Value), u1 = .pointer (some ⟨X, 0, none⟩) ∧ u2 = .int .i64 0 ∧ Hid (RplAt w0 p g u (dskF []) dp vt S0 ((fullL i).drop 1000) X T s' ra rc vc vf wx))
      case first =>
       obtain ⟨wq, hwq⟩ : ∃ x, x = w1 := ⟨_, rfl⟩;subst hwq;have hdr : Below wq.heap.size wq wq.drew := (Below.refl _ _).drew;have hq : Below w0.heap.size w0 wq.drew := bnext HB1.out hdr;have HWL := Lib.hid (HWL.out.kept1 hdr);have HVT := Lib.hid (row_kept HVT.out hdr);have HLT := Lib.hid (And.intro HWL.out.b.lt (And.intro HWL.out.d.c.1 HWL.out.u.c.1));have HWD := Lib.hid (Nat.le_refl wq.drew.heap.size);have HWQ := Lib.hid hq.size;clear hdr
       as_aux_lemma =>
        refine wp_region_held_drew (S := fun w9 => w9.cell? ⟨p, 0, none⟩ = some (.slice (some ⟨g, 0, none⟩) 4096 4096) ∧ w9.cell? ⟨p, 1, none⟩ = some (.int .i64 dp) ∧ w9.cell? ⟨p, 2, none⟩ = some vt) mixed (wld_cells HWL.out trivial) (fun hHeld => ?_);generalize wq.drew = wd at *;refine tk 0 _ rfl (by intro w9 hSw; clear hSw; go_simp; try with_reducible rfl) hHeld ?_
        try simp only [Act.put, za, zb, zc, zd, ze, zf]
        refine tk 1 _ rfl (by intro w9 hSw; clear hSw; go_simp; try with_reducible rfl) hHeld ?_
        try simp only [Act.put, za, zb, zc, zd, ze, zf]
        refine tk 2 _ rfl (by intro w9 hSw; clear hSw; go_simp; try with_reducible rfl) hHeld ?_
        try simp only [Act.put, za, zb, zc, zd, ze, zf]
        refine tk 3 _ rfl (by intro w9 hSw; obtain ⟨e1, e2, e3⟩ := hSw; go_simp; try with_reducible rfl) hHeld ?_
        try simp only [Act.put, za, zb, zc, zd, ze, zf]
        refine tk 4 _ rfl (by intro w9 hSw; clear hSw; go_simp; try with_reducible rfl) hHeld ?_
        try simp only [Act.put, za, zb, zc, zd, ze, zf]
        refine tk 5 _ rfl (by intro w9 hSw; clear hSw; go_simp; try with_reducible rfl) hHeld ?_
        try simp only [Act.put, za, zb, zc, zd, ze, zf]
        refine tk 6 _ rfl (by intro w9 hSw; clear hSw; go_simp; try with_reducible rfl) hHeld ?_
        try simp only [Act.put, za, zb, zc, zd, ze, zf]
        refine tk 7 _ rfl (by intro w9 hSw; obtain ⟨e1, e2, e3⟩ := hSw; go_simp; try with_reducible rfl) hHeld ?_
        try simp only [Act.put, za, zb, zc, zd, ze, zf]
        refine tk 9 _ rfl (by intro w9 hSw; clear hSw; go_simp; try with_reducible rfl) hHeld ?_
        try simp only [Act.put, za, zb, zc, zd, ze, zf]
        refine tk 10 _ rfl (by intro w9 hSw; clear hSw; go_simp; try with_reducible rfl) hHeld ?_
        try simp only [Act.put, za, zb, zc, zd, ze, zf]
        refine tk 11 _ rfl (by intro w9 hSw; clear hSw; go_simp; try with_reducible rfl) hHeld ?_
        try simp only [Act.put, za, zb, zc, zd, ze, zf]
        refine tk 12 _ rfl (by intro w9 hSw; clear hSw; go_simp; try with_reducible rfl) hHeld ?_
        try simp only [Act.put, za, zb, zc, zd, ze, zf]
        refine wpAnyH_ready (rs := [8, 17]) (by kernel_rfl) (by simp) ?_;refine AllReadyH.cons (o := _) rfl (fun K hK => ?_) ?_
        ·go_simp
         refine (RDG.out wd HWL.out).mono ?_; rintro e w13 ⟨rfl, hr13, b13⟩;dsimp only;have q13 := bnext hq b13;have HWL := Lib.hid (HWL.out.kept1 b13);have HVT := Lib.hid (row_kept HVT.out b13);have HRR := Lib.hid hr13;clear hr13;have HWD := Lib.hid (Nat.le_trans HWD.out b13.size);clear hHeld;refine hK.out _ _ (wld_cells HWL.out (q13)) (fun hHeld => ?_);clear hK K
         try simp only [Act.put, za, zb, zc, zd, ze, zf]
         refine wpAnyH_ready (rs := [13, 17]) (by kernel_rfl) (by simp) ?_;refine AllReadyH.cons (o := _) rfl (fun K hK => ?_) ?_
         ·go_simp
          refine (RPL.out w13 _ _ q13 HWL.out HRR.out HVT.out).mono ?_; rintro e w14 ⟨T9, s9, vr9, vc9, vf9, HE14⟩;obtain ⟨rfl, e214, e314, e414, e514, e614, k114, k214, k314, k414, k514⟩ := HE14;dsimp only;have b14 : Below w0.heap.size w13 w14 := k514.out HP.out.1 HP.out.2.1 HP.out.2.2 q13.size;have q14 := q13.trans b14;have HWD := Lib.hid (Nat.le_trans HWD.out k514.size);have HWL := Lib.hid k414;have HVR := Lib.hid (row_down q13.size k114);have HVC := Lib.hid (row_down q13.size k214);have HVF := Lib.hid (row_down q13.size k314);obtain ⟨ra9, rc9, rfl, -⟩ := shape_of k114;obtain ⟨ca9, cc9, rfl, -⟩ := shape_of k214;obtain ⟨fa9, fc9, rfl, -⟩ := shape_of k314;have HST := Lib.hid (And.intro e214 (And.intro e314 (And.intro e514 e614)));clear e214 e314 e414 e514 e614 k114 k214 k314 k414 k514 b14;clear hHeld;refine hK.out _ _ (wld_cells HWL.out (q14)) (fun hHeld => ?_);clear hK K
          try simp only [Act.put, za, zb, zc, zd, ze, zf]
          refine tk 14 _ rfl (by intro w9 hSw; clear hSw; go_simp; try with_reducible rfl) hHeld ?_
          try simp only [Act.put, za, zb, zc, zd, ze, zf]
          refine tk 15 _ rfl (by intro w9 hSw; clear hSw; go_simp; try with_reducible rfl) hHeld ?_
          try simp only [Act.put, za, zb, zc, zd, ze, zf]
          refine tk 16 _ rfl (by intro w9 hSw; clear hSw; go_simp; try with_reducible rfl) hHeld ?_
          try simp only [Act.put, za, zb, zc, zd, ze, zf]
          refine wpAnyH_ready (rs := [17]) (by kernel_rfl) (by simp) ?_;refine AllReadyH.cons (o := _) rfl (fun K hK => ?_) ?_
          ·obtain ⟨w18, hw18⟩ : ∃ w9, w14.alloc (.cells setC 58) = w9 := ⟨_, rfl⟩
           have b18 : Below w14.heap.size w14 w18 := by rw [← hw18]; exact balloc1 _ _
           have q18 := bnext q14 b18
           have hz18 : w18.heap.size = w14.heap.size + 1 := by rw [← hw18]; exact size_alloc _ _
           have hB18 : Blk w14.heap.size setC 58 w18 := by rw [← hw18]; exact Blk.new _ _ _
           have HWL := Lib.hid (HWL.out.kept1 b18);have HVR := Lib.hid (row_kept HVR.out b18);have HVC := Lib.hid (row_kept HVC.out b18);have HVF := Lib.hid (row_kept HVF.out b18);have HX := Lib.hid hB18;have HZ18 := Lib.hid hz18;have HW18 := Lib.hid hw18;clear hB18 hz18 hw18;go_simp
           try rw [HW18.out]
           have HXL := Lib.hid HWD.out;have HWD := Lib.hid (Nat.le_trans HWD.out b18.size);clear hHeld;refine hK.out _ _ (wld_cells HWL.out (q18)) (fun hHeld => ?_);clear hK K
           try simp only [Act.put, za, zb, zc, zd, ze, zf]
           refine wpAnyH_ready (rs := [18]) (by kernel_rfl) (by simp) ?_;refine AllReadyH.cons (o := _) rfl (fun K hK => ?_) ?_
           ·obtain ⟨w19, hw19⟩ : ∃ w9, w18.setRow w14.heap.size #[.int .i64 ((T9.length - 1 : Nat) : Int), .slice ra9 (rootA T9).length rc9, .slice ca9 (chgA (blocksA S0) (blocksA T9)).length cc9, .slice fa9 (freeA (blocksA S0) (blocksA T9)).length fc9] = w9 := ⟨_, rfl⟩
            have hB19 : Blk w14.heap.size #[.int .i64 ((T9.length - 1 : Nat) : Int), .slice ra9 (rootA T9).length rc9, .slice ca9 (chgA (blocksA S0) (blocksA T9)).length cc9, .slice fa9 (freeA (blocksA S0) (blocksA T9)).length fc9] 58 w19 := by rw [← hw19]; exact setRow_blk HX.out _
            have g19 : World.grownBy w18 w19 (some w14.heap.size) := by rw [← hw19]; exact ⟨rfl, rfl, rfl, by simp, fun k hk hne => setRow_other _ _ k _ (fun e => hne (by rw [e]))⟩
            have b19 : Below wd.heap.size w18 w19 := by rw [← hw19]; exact setRow_below HXL.out _
            have q19 := (q18).trans (b19.mono HWQ.out);have HVR := Lib.hid (row_grown HVR.out g19 fun q hq e => by cases e; exact absurd (ty_one (own_ty HVR.out hq).1 ⟨_, _, HX.out⟩) (by decide));have HVC := Lib.hid (row_grown HVC.out g19 fun q hq e => by cases e; exact absurd (ty_one (own_ty HVC.out hq).1 ⟨_, _, HX.out⟩) (by decide));have HVF := Lib.hid (row_grown HVF.out g19 fun q hq e => by cases e; exact absurd (ty_one (own_ty HVF.out hq).1 ⟨_, _, HX.out⟩) (by decide));have HWL := Lib.hid (HWL.out.kept HLT.out b19);have HW19 := Lib.hid hw19;clear hw19 g19 b19;rw [if_pos (by kernel_rfl)];refine wp_store_row 58 _ _ rfl w14.heap.size #[.int .i64 ((T9.length - 1 : Nat) : Int), .slice ra9 (rootA T9).length rc9, .slice ca9 (chgA (blocksA S0) (blocksA T9)).length cc9, .slice fa9 (freeA (blocksA S0) (blocksA T9)).length fc9] rfl rfl _ _ HX.out set_sz rfl (by simp [Value.oneCell']) ?_;rw [HW19.out];have HX := Lib.hid hB19;clear hB19;clear hHeld;refine hK.out _ _ (wld_cells HWL.out (q19)) (fun hHeld => ?_);clear hK K
            try simp only [Act.put, za, zb, zc, zd, ze, zf]
            refine tk 19 _ rfl (by intro w9 hSw; clear hSw; go_simp; try with_reducible rfl) hHeld ?_
            try simp only [Act.put, za, zb, zc, zd, ze, zf]
            refine ⟨by kernel_rfl, ?_⟩;clear hHeld;have HQ := Lib.hid (q19);go_wp2;go_meet
            case rel => exact ⟨w14.heap.size, T9, s9, _, _, _, _, rfl, rfl, Lib.hid ⟨HX.out, HST.out.1, HST.out.2.1, HST.out.2.2.1, HST.out.2.2.2, HVR.out, HVC.out, HVF.out, HWL.out, HQ.out⟩⟩
           exact AllReadyH.nil
          exact AllReadyH.nil
         refine AllReadyH.cons (o := _) rfl (fun K hK => ?_) ?_
         ·obtain ⟨w21, hw21⟩ : ∃ w9, w13.alloc (.cells setC 58) = w9 := ⟨_, rfl⟩
          have b21 : Below w13.heap.size w13 w21 := by rw [← hw21]; exact balloc1 _ _
          have q21 := bnext q13 b21
          have hz21 : w21.heap.size = w13.heap.size + 1 := by rw [← hw21]; exact size_alloc _ _
          have hB21 : Blk w13.heap.size setC 58 w21 := by rw [← hw21]; exact Blk.new _ _ _
          have HWL := Lib.hid (HWL.out.kept1 b21);have HVT := Lib.hid (row_kept HVT.out b21);have HRR := Lib.hid (HRR.out.kept1 b21);have HX := Lib.hid hB21;have HZ21 := Lib.hid hz21;have HW21 := Lib.hid hw21;clear hB21 hz21 hw21;go_simp
          try rw [HW21.out]
          have HXL := Lib.hid HWD.out;have HWD := Lib.hid (Nat.le_trans HWD.out b21.size);clear hHeld;refine hK.out _ _ (wld_cells HWL.out (q21)) (fun hHeld => ?_);clear hK K
          try simp only [Act.put, za, zb, zc, zd, ze, zf]
          refine wpAnyH_ready (rs := [13]) (by kernel_rfl) (by simp) ?_;refine AllReadyH.cons (o := _) rfl (fun K hK => ?_) ?_
          ·go_simp
           refine (RPL.out w21 _ _ q21 HWL.out HRR.out HVT.out).mono ?_; rintro e w22 ⟨T9, s9, vr9, vc9, vf9, HE22⟩;obtain ⟨rfl, e222, e322, e422, e522, e622, k122, k222, k322, k422, k522⟩ := HE22;dsimp only;have b22 : Below w0.heap.size w21 w22 := k522.out HP.out.1 HP.out.2.1 HP.out.2.2 q21.size;have q22 := q21.trans b22;have HX := Lib.hid (k522.blk HX.out (Nat.ne_of_gt (Nat.lt_of_lt_of_le HLT.out.1 HXL.out)) (Nat.ne_of_gt (Nat.lt_of_lt_of_le HLT.out.2.1 HXL.out)) (Nat.ne_of_gt (Nat.lt_of_lt_of_le HLT.out.2.2 HXL.out)));have HWD := Lib.hid (Nat.le_trans HWD.out k522.size);have HWL := Lib.hid k422;have HVR := Lib.hid (row_down q21.size k122);have HVC := Lib.hid (row_down q21.size k222);have HVF := Lib.hid (row_down q21.size k322);obtain ⟨ra9, rc9, rfl, -⟩ := shape_of k122;obtain ⟨ca9, cc9, rfl, -⟩ := shape_of k222;obtain ⟨fa9, fc9, rfl, -⟩ := shape_of k322;have HST := Lib.hid (And.intro e222 (And.intro e322 (And.intro e522 e622)));clear e222 e322 e422 e522 e622 k122 k222 k322 k422 k522 b22;clear hHeld;refine hK.out _ _ (wld_cells HWL.out (q22)) (fun hHeld => ?_);clear hK K
           try simp only [Act.put, za, zb, zc, zd, ze, zf]
           refine tk 14 _ rfl (by intro w9 hSw; clear hSw; go_simp; try with_reducible rfl) hHeld ?_
           try simp only [Act.put, za, zb, zc, zd, ze, zf]
           refine tk 15 _ rfl (by intro w9 hSw; clear hSw; go_simp; try with_reducible rfl) hHeld ?_
           try simp only [Act.put, za, zb, zc, zd, ze, zf]
           refine tk 16 _ rfl (by intro w9 hSw; clear hSw; go_simp; try with_reducible rfl) hHeld ?_
           try simp only [Act.put, za, zb, zc, zd, ze, zf]
           refine wpAnyH_ready (rs := [18]) (by kernel_rfl) (by simp) ?_;refine AllReadyH.cons (o := _) rfl (fun K hK => ?_) ?_
           ·obtain ⟨w26, hw26⟩ : ∃ w9, w22.setRow w13.heap.size #[.int .i64 ((T9.length - 1 : Nat) : Int), .slice ra9 (rootA T9).length rc9, .slice ca9 (chgA (blocksA S0) (blocksA T9)).length cc9, .slice fa9 (freeA (blocksA S0) (blocksA T9)).length fc9] = w9 := ⟨_, rfl⟩
            have hB26 : Blk w13.heap.size #[.int .i64 ((T9.length - 1 : Nat) : Int), .slice ra9 (rootA T9).length rc9, .slice ca9 (chgA (blocksA S0) (blocksA T9)).length cc9, .slice fa9 (freeA (blocksA S0) (blocksA T9)).length fc9] 58 w26 := by rw [← hw26]; exact setRow_blk HX.out _
            have g26 : World.grownBy w22 w26 (some w13.heap.size) := by rw [← hw26]; exact ⟨rfl, rfl, rfl, by simp, fun k hk hne => setRow_other _ _ k _ (fun e => hne (by rw [e]))⟩
            have b26 : Below wd.heap.size w22 w26 := by rw [← hw26]; exact setRow_below HXL.out _
            have q26 := (q22).trans (b26.mono HWQ.out);have HVR := Lib.hid (row_grown HVR.out g26 fun q hq e => by cases e; exact absurd (ty_one (own_ty HVR.out hq).1 ⟨_, _, HX.out⟩) (by decide));have HVC := Lib.hid (row_grown HVC.out g26 fun q hq e => by cases e; exact absurd (ty_one (own_ty HVC.out hq).1 ⟨_, _, HX.out⟩) (by decide));have HVF := Lib.hid (row_grown HVF.out g26 fun q hq e => by cases e; exact absurd (ty_one (own_ty HVF.out hq).1 ⟨_, _, HX.out⟩) (by decide));have HWL := Lib.hid (HWL.out.kept HLT.out b26);have HW26 := Lib.hid hw26;clear hw26 g26 b26;rw [if_pos (by kernel_rfl)];refine wp_store_row 58 _ _ rfl w13.heap.size #[.int .i64 ((T9.length - 1 : Nat) : Int), .slice ra9 (rootA T9).length rc9, .slice ca9 (chgA (blocksA S0) (blocksA T9)).length cc9, .slice fa9 (freeA (blocksA S0) (blocksA T9)).length fc9] rfl rfl _ _ HX.out set_sz rfl (by simp [Value.oneCell']) ?_;rw [HW26.out];have HX := Lib.hid hB26;clear hB26;clear hHeld;refine hK.out _ _ (wld_cells HWL.out (q26)) (fun hHeld => ?_);clear hK K
            try simp only [Act.put, za, zb, zc, zd, ze, zf]
            refine tk 19 _ rfl (by intro w9 hSw; clear hSw; go_simp; try with_reducible rfl) hHeld ?_
            try simp only [Act.put, za, zb, zc, zd, ze, zf]
            refine ⟨by kernel_rfl, ?_⟩;clear hHeld;have HQ := Lib.hid (q26);go_wp2;go_meet
            case rel => exact ⟨w13.heap.size, T9, s9, _, _, _, _, rfl, rfl, Lib.hid ⟨HX.out, HST.out.1, HST.out.2.1, HST.out.2.2.1, HST.out.2.2.2, HVR.out, HVC.out, HVF.out, HWL.out, HQ.out⟩⟩
           exact AllReadyH.nil
          exact AllReadyH.nil
         exact AllReadyH.nil
        refine AllReadyH.cons (o := _) rfl (fun K hK => ?_) ?_
        ·obtain ⟨w28, hw28⟩ : ∃ w9, wd.alloc (.cells setC 58) = w9 := ⟨_, rfl⟩
         have b28 : Below wd.heap.size wd w28 := by rw [← hw28]; exact balloc1 _ _
         have q28 := bnext hq b28
         have hz28 : w28.heap.size = wd.heap.size + 1 := by rw [← hw28]; exact size_alloc _ _
         have hB28 : Blk wd.heap.size setC 58 w28 := by rw [← hw28]; exact Blk.new _ _ _
         have HWL := Lib.hid (HWL.out.kept1 b28);have HVT := Lib.hid (row_kept HVT.out b28);have HX := Lib.hid hB28;have HZ28 := Lib.hid hz28;have HW28 := Lib.hid hw28;clear hB28 hz28 hw28;go_simp
         try rw [HW28.out]
         have HXL := Lib.hid HWD.out;have HWD := Lib.hid (Nat.le_trans HWD.out b28.size);clear hHeld;refine hK.out _ _ (wld_cells HWL.out (q28)) (fun hHeld => ?_);clear hK K
         try simp only [Act.put, za, zb, zc, zd, ze, zf]
         refine wpAnyH_ready (rs := [8]) (by kernel_rfl) (by simp) ?_;refine AllReadyH.cons (o := _) rfl (fun K hK => ?_) ?_
         ·go_simp
          refine (RDG.out w28 HWL.out).mono ?_; rintro e w29 ⟨rfl, hr29, b29⟩;dsimp only;have q29 := bnext q28 b29;have HWL := Lib.hid (HWL.out.kept1 b29);have HVT := Lib.hid (row_kept HVT.out b29);have HX := Lib.hid (HX.out.kept1 b29);have HRR := Lib.hid hr29;clear hr29;have HWD := Lib.hid (Nat.le_trans HWD.out b29.size);clear hHeld;refine hK.out _ _ (wld_cells HWL.out (q29)) (fun hHeld => ?_);clear hK K
          try simp only [Act.put, za, zb, zc, zd, ze, zf]
          refine wpAnyH_ready (rs := [13]) (by kernel_rfl) (by simp) ?_;refine AllReadyH.cons (o := _) rfl (fun K hK => ?_) ?_
          ·go_simp
           refine (RPL.out w29 _ _ q29 HWL.out HRR.out HVT.out).mono ?_; rintro e w30 ⟨T9, s9, vr9, vc9, vf9, HE30⟩;obtain ⟨rfl, e230, e330, e430, e530, e630, k130, k230, k330, k430, k530⟩ := HE30;dsimp only;have b30 : Below w0.heap.size w29 w30 := k530.out HP.out.1 HP.out.2.1 HP.out.2.2 q29.size;have q30 := q29.trans b30;have HX := Lib.hid (k530.blk HX.out (Nat.ne_of_gt (Nat.lt_of_lt_of_le HLT.out.1 HXL.out)) (Nat.ne_of_gt (Nat.lt_of_lt_of_le HLT.out.2.1 HXL.out)) (Nat.ne_of_gt (Nat.lt_of_lt_of_le HLT.out.2.2 HXL.out)));have HWD := Lib.hid (Nat.le_trans HWD.out k530.size);have HWL := Lib.hid k430;have HVR := Lib.hid (row_down q29.size k130);have HVC := Lib.hid (row_down q29.size k230);have HVF := Lib.hid (row_down q29.size k330);obtain ⟨ra9, rc9, rfl, -⟩ := shape_of k130;obtain ⟨ca9, cc9, rfl, -⟩ := shape_of k230;obtain ⟨fa9, fc9, rfl, -⟩ := shape_of k330;have HST := Lib.hid (And.intro e230 (And.intro e330 (And.intro e530 e630)));clear e230 e330 e430 e530 e630 k130 k230 k330 k430 k530 b30;clear hHeld;refine hK.out _ _ (wld_cells HWL.out (q30)) (fun hHeld => ?_);clear hK K
           try simp only [Act.put, za, zb, zc, zd, ze, zf]
           refine tk 14 _ rfl (by intro w9 hSw; clear hSw; go_simp; try with_reducible rfl) hHeld ?_
           try simp only [Act.put, za, zb, zc, zd, ze, zf]
           refine tk 15 _ rfl (by intro w9 hSw; clear hSw; go_simp; try with_reducible rfl) hHeld ?_
           try simp only [Act.put, za, zb, zc, zd, ze, zf]
           refine tk 16 _ rfl (by intro w9 hSw; clear hSw; go_simp; try with_reducible rfl) hHeld ?_
           try simp only [Act.put, za, zb, zc, zd, ze, zf]
           refine wpAnyH_ready (rs := [18]) (by kernel_rfl) (by simp) ?_;refine AllReadyH.cons (o := _) rfl (fun K hK => ?_) ?_
           ·obtain ⟨w34, hw34⟩ : ∃ w9, w30.setRow wd.heap.size #[.int .i64 ((T9.length - 1 : Nat) : Int), .slice ra9 (rootA T9).length rc9, .slice ca9 (chgA (blocksA S0) (blocksA T9)).length cc9, .slice fa9 (freeA (blocksA S0) (blocksA T9)).length fc9] = w9 := ⟨_, rfl⟩
            have hB34 : Blk wd.heap.size #[.int .i64 ((T9.length - 1 : Nat) : Int), .slice ra9 (rootA T9).length rc9, .slice ca9 (chgA (blocksA S0) (blocksA T9)).length cc9, .slice fa9 (freeA (blocksA S0) (blocksA T9)).length fc9] 58 w34 := by rw [← hw34]; exact setRow_blk HX.out _
            have g34 : World.grownBy w30 w34 (some wd.heap.size) := by rw [← hw34]; exact ⟨rfl, rfl, rfl, by simp, fun k hk hne => setRow_other _ _ k _ (fun e => hne (by rw [e]))⟩
            have b34 : Below wd.heap.size w30 w34 := by rw [← hw34]; exact setRow_below HXL.out _
            have q34 := (q30).trans (b34.mono HWQ.out);have HVR := Lib.hid (row_grown HVR.out g34 fun q hq e => by cases e; exact absurd (ty_one (own_ty HVR.out hq).1 ⟨_, _, HX.out⟩) (by decide));have HVC := Lib.hid (row_grown HVC.out g34 fun q hq e => by cases e; exact absurd (ty_one (own_ty HVC.out hq).1 ⟨_, _, HX.out⟩) (by decide));have HVF := Lib.hid (row_grown HVF.out g34 fun q hq e => by cases e; exact absurd (ty_one (own_ty HVF.out hq).1 ⟨_, _, HX.out⟩) (by decide));have HWL := Lib.hid (HWL.out.kept HLT.out b34);have HW34 := Lib.hid hw34;clear hw34 g34 b34;rw [if_pos (by kernel_rfl)];refine wp_store_row 58 _ _ rfl wd.heap.size #[.int .i64 ((T9.length - 1 : Nat) : Int), .slice ra9 (rootA T9).length rc9, .slice ca9 (chgA (blocksA S0) (blocksA T9)).length cc9, .slice fa9 (freeA (blocksA S0) (blocksA T9)).length fc9] rfl rfl _ _ HX.out set_sz rfl (by simp [Value.oneCell']) ?_;rw [HW34.out];have HX := Lib.hid hB34;clear hB34;clear hHeld;refine hK.out _ _ (wld_cells HWL.out (q34)) (fun hHeld => ?_);clear hK K
            try simp only [Act.put, za, zb, zc, zd, ze, zf]
            refine tk 19 _ rfl (by intro w9 hSw; clear hSw; go_simp; try with_reducible rfl) hHeld ?_
            try simp only [Act.put, za, zb, zc, zd, ze, zf]
            refine ⟨by kernel_rfl, ?_⟩;clear hHeld;have HQ := Lib.hid (q34);go_wp2;go_meet
            case rel => exact ⟨wd.heap.size, T9, s9, _, _, _, _, rfl, rfl, Lib.hid ⟨HX.out, HST.out.1, HST.out.2.1, HST.out.2.2.1, HST.out.2.2.2, HVR.out, HVC.out, HVF.out, HWL.out, HQ.out⟩⟩
           exact AllReadyH.nil
          exact AllReadyH.nil
         exact AllReadyH.nil
        exact AllReadyH.nil
      case rest =>
       obtain ⟨X, T, s', ra, rc, vc, vf, rfl, rfl, HRA⟩ := hcut;obtain ⟨w2, hw2⟩ : ∃ x, x = wc := ⟨_, rfl⟩;subst hw2;obtain ⟨ca, cc, rfl, -⟩ := shape_of HRA.out.c;obtain ⟨fa, fc, rfl, -⟩ := shape_of HRA.out.f;have x0 := HRA.out.blk.cell 0;have x1 := HRA.out.blk.cell 1;have x2 := HRA.out.blk.cell 2;have x3 := HRA.out.blk.cell 3;simp only [List.getElem?_toArray, List.getElem?_cons_zero, List.getElem?_cons_succ] at x0 x1 x2 x3;have PUT := Lib.hid (wput_any p g u (dskF []) dp vt s' ((T.length - 1 : Nat) : Int) (rootA T) (chgA (blocksA S0) (blocksA T)) (freeA (blocksA S0) (blocksA T)) (chg_rng HRA.out.tree) (free_rng (load_stands HSO.out.load).2.1) _ ra rc _ _ w2 HRA.out.wld HRA.out.c HRA.out.f);clear HFR RDG RPL HVT
       go_upto_region 12 with fail
       go_wp2_with fail
       refine PUT.out.mono ?_; rintro e w3 ⟨rfl, hd3, st3⟩;dsimp only;have HB3 := Lib.hid (HRA.out.below.trans (st3.out HP.out.1 HP.out.2.1 HP.out.2.2 HRA.out.below.size));have HR3 := Lib.hid (own_stay HRA.out.r st3 ⟨_, _, HRA.out.wld.b⟩ HRA.out.wld.d.t HRA.out.wld.u.t (by decide) (by decide) (by decide));have HD3 := Lib.hid hd3;clear hd3 st3 PUT x0 x1 x2 x3;go_wp2;go_meet
       case rel => exact ⟨_, _, _, _, T, Lib.hid ⟨HD3.out, HRA.out.stand, HR3.out, HB3.out⟩, Lib.hid (by rw [if_pos trivial]; exact ⟨HRA.out.list, HRA.out.heads⟩)⟩
    | false =>
      go_wp2;go_meet
      case rel =>
       obtain ⟨hdp, hvt⟩ := HDV.out;subst hdp hvt;exact ⟨_, _, _, _, S0, Lib.hid ⟨HWL.out, HSO.out, ⟨rfl, .inl ⟨rfl, rfl⟩⟩, HB1.out⟩, Lib.hid (by rw [if_neg (by decide)]; exact ⟨rfl, rfl⟩)⟩
   case rest =>
    obtain ⟨F, D, V, s, T, HA, HTN⟩ := hcut;obtain ⟨w4, hw4⟩ : ∃ x, x = wc := ⟨_, rfl⟩;subst hw4
    have HM : Hid (∃ (TT : Int) (LN : Nat) (LL : List Ent), (turned = true → TT = 1000 ∧ LN = 1000) ∧ (turned = false → TT = 2048 ∧ LN = i) ∧ MidOk i T s TT LN LL) := Lib.hid (by
     have h := HTN.out
     cases turned with
     | true => rw [if_pos rfl] at h; exact ⟨_, _, _, fun _ => ⟨rfl, rfl⟩, (fun e => by cases e), mid_half hn1 hn2 HA.out.2.1 h.1 h.2⟩
     | false => rw [if_neg (by decide)] at h; obtain ⟨rfl, rfl⟩ := h; exact ⟨_, _, _, (fun e => by cases e), fun _ => ⟨rfl, rfl⟩, mid_new hn1 hn2⟩)
    obtain ⟨TT, LN, LL, ht1, ht2, hmid⟩ := HM.out;have HT1 := Lib.hid ht1;have HT2 := Lib.hid ht2;have HMD := Lib.hid hmid;have HTR := fun W => to_run (g := gl) hn1 HCP.out.1 HCP.out.2 W;clear ht1 ht2 hmid HM HTN HWL HB1 HLT HSO HDV dp vt HZ0
    go_upto_if 64 with fail
    go_cut [12, 13] (fun u1 u2 wx => u1 = .int .i64 TT ∧ u2 = .slice (some ⟨gl, 0, none⟩) LN cap ∧ Hid (Below w4.heap.size w4 wx))
    case first =>
     cases turned with
     | true =>
       obtain ⟨rfl, rfl⟩ := HT1.out rfl
       go_upto_region 16 with fail
       obtain ⟨wq, hwq⟩ : ∃ x, x = w4 := ⟨_, rfl⟩;subst hwq;have hq : Below wq.heap.size wq wq.drew := (Below.refl _ _).drew;refine wp_region_held_drew (S := fun _ => True) mixed trivial (fun hHeld => ?_);generalize wq.drew = wd at *;refine tk 0 _ rfl (by intro w9 hSw; clear hSw; go_simp; try with_reducible rfl) hHeld ?_
       try simp only [Act.put, za, zb, zc, zd, ze, zf]
       refine tk 1 _ rfl (by intro w9 hSw; clear hSw; go_simp; try with_reducible rfl) hHeld ?_
       try simp only [Act.put, za, zb, zc, zd, ze, zf]
       refine tk 2 _ rfl (by intro w9 hSw; clear hSw; go_simp; try with_reducible rfl) hHeld ?_
       try simp only [Act.put, za, zb, zc, zd, ze, zf]
       refine tk 3 _ rfl (by intro w9 hSw; clear hSw; go_simp; try with_reducible rfl) hHeld ?_
       try simp only [Act.put, za, zb, zc, zd, ze, zf]
       refine ⟨by kernel_rfl, ?_⟩;clear hHeld;go_wp2;go_meet
       case rel => exact ⟨rfl, rfl, Lib.hid hq⟩
     | false =>
       obtain ⟨rfl, rfl⟩ := HT2.out rfl;go_wp2;go_meet
       case rel => exact ⟨rfl, rfl, Lib.hid (Below.refl _ _)⟩
    case rest =>
     obtain ⟨rfl, rfl, HB45⟩ := hcut;obtain ⟨w5, hw5⟩ : ∃ x, x = wc := ⟨_, rfl⟩;subst hw5;have HWL := Lib.hid (HA.out.1.kept1 HB45.out);have HSO := Lib.hid HA.out.2.1;have HVT := Lib.hid (row_kept HA.out.2.2.1 HB45.out);have HB5 := Lib.hid (bnext HA.out.2.2.2 HB45.out);clear HA HB45 HTR;have RDG := Lib.hid fun W (h : WldAt p g u F D V s W) => lreading_any F (-1) g W h.d
     have RPL : Hid (∀ W a0 q0, Below w0.heap.size w0 W → WldAt p g u F D V s W → RdrAt a0 q0 g F (-1) W → EntsAt w0.heap.size V (rootA T) W →
      Calls Tryz.prog 28 #[.agg #[.int .i64 D, V], .func (.func 49) #[] (rdrC a0 q0), .int .i64 0, .int .i64 TT, .slice (some ⟨gl, 0, none⟩) LN cap, .func (.func 35) #[.pointer (some ⟨p, 0, none⟩)] #[]] W
       fun e W' => ∃ T' s' vr vc vf, RplEnd p g u F D V T (fullL i) W e W' T' s' vr vc vf) := Lib.hid fun W a0 q0 b h hr hv => by
      have hm := HMD.out
      have htk : EntsIn (.slice (some ⟨gl, 0, none⟩) LN cap) LL W := by
       rw [hm.take];exact ents_to (fullL_len i).symm hm.le (HVL.out W b)
      have hmem : ∀ e ∈ LL, e ∈ fullL i := fun e he => by rw [hm.take] at he; exact List.mem_of_mem_take he
      have := wreplace_any p g u F D V (rootA T) s T W h HSO.out a0 q0 hr (rowE_in hv) (EntsS.own hv) 0 TT ⟨by omega, by omega⟩ ⟨by have := hm.tt; omega, by have := hm.tt; omega⟩ LL (fun e he => fullL_fit hn2 e (hmem e he)) (by have := hm.len; have := hm.le; omega) _ htk hm.fit (fun e he => fullL_low (hmem e he)) (by rw [hm.repl]; exact hm.room);rw [hm.repl] at this;exact this
     go_upto_region 17 with fail
     go_cut [14, 15] (fun u1 u2 wx => ∃ (X : Nat) (T' : Shp) (s' : Nat → Bool) (ra : Option Addr) (rc : Nat) (vc vf : Value), u1 = .pointer (some ⟨X, 0, none⟩) ∧ u2 = .int .i64 0 ∧ Hid (RplAt w0 p g u F D V T (fullL i) X T' s' ra rc vc vf wx))
     case first =>
      obtain ⟨wq, hwq⟩ : ∃ x, x = w5 := ⟨_, rfl⟩;subst hwq;have hdr : Below wq.heap.size wq wq.drew := (Below.refl _ _).drew;have hq : Below w0.heap.size w0 wq.drew := bnext HB5.out hdr;have HWL := Lib.hid (HWL.out.kept1 hdr);have HVT := Lib.hid (row_kept HVT.out hdr);have HLT := Lib.hid (And.intro HWL.out.b.lt (And.intro HWL.out.d.c.1 HWL.out.u.c.1));have HWD := Lib.hid (Nat.le_refl wq.drew.heap.size);have HWQ := Lib.hid hq.size;clear hdr
      as_aux_lemma =>
       refine wp_region_held_drew (S := fun w9 => w9.cell? ⟨p, 0, none⟩ = some (.slice (some ⟨g, 0, none⟩) 4096 4096) ∧ w9.cell? ⟨p, 1, none⟩ = some (.int .i64 D) ∧ w9.cell? ⟨p, 2, none⟩ = some V) mixed (wld_cells HWL.out trivial) (fun hHeld => ?_);generalize wq.drew = wd at *;refine tk 0 _ rfl (by intro w9 hSw; clear hSw; go_simp; try with_reducible rfl) hHeld ?_
       try simp only [Act.put, za, zb, zc, zd, ze, zf]
       refine tk 1 _ rfl (by intro w9 hSw; clear hSw; go_simp; try with_reducible rfl) hHeld ?_
       try simp only [Act.put, za, zb, zc, zd, ze, zf]
       refine tk 2 _ rfl (by intro w9 hSw; clear hSw; go_simp; try with_reducible rfl) hHeld ?_
       try simp only [Act.put, za, zb, zc, zd, ze, zf]
       refine tk 3 _ rfl (by intro w9 hSw; obtain ⟨e1, e2, e3⟩ := hSw; go_simp; try with_reducible rfl) hHeld ?_
       try simp only [Act.put, za, zb, zc, zd, ze, zf]
       refine tk 4 _ rfl (by intro w9 hSw; clear hSw; go_simp; try with_reducible rfl) hHeld ?_
       try simp only [Act.put, za, zb, zc, zd, ze, zf]
       refine tk 5 _ rfl (by intro w9 hSw; clear hSw; go_simp; try with_reducible rfl) hHeld ?_
       try simp only [Act.put, za, zb, zc, zd, ze, zf]
       refine tk 6 _ rfl (by intro w9 hSw; clear hSw; go_simp; try with_reducible rfl) hHeld ?_
       try simp only [Act.put, za, zb, zc, zd, ze, zf]
       refine tk 7 _ rfl (by intro w9 hSw; obtain ⟨e1, e2, e3⟩ := hSw; go_simp; try with_reducible rfl) hHeld ?_
       try simp only [Act.put, za, zb, zc, zd, ze, zf]
       refine tk 9 _ rfl (by intro w9 hSw; clear hSw; go_simp; try with_reducible rfl) hHeld ?_
       try simp only [Act.put, za, zb, zc, zd, ze, zf]
       refine tk 10 _ rfl (by intro w9 hSw; clear hSw; go_simp; try with_reducible rfl) hHeld ?_
       try simp only [Act.put, za, zb, zc, zd, ze, zf]
       refine tk 11 _ rfl (by intro w9 hSw; clear hSw; go_simp; try with_reducible rfl) hHeld ?_
       try simp only [Act.put, za, zb, zc, zd, ze, zf]
       refine tk 12 _ rfl (by intro w9 hSw; clear hSw; go_simp; try with_reducible rfl) hHeld ?_
       try simp only [Act.put, za, zb, zc, zd, ze, zf]
       refine tk 13 _ rfl (by intro w9 hSw; clear hSw; go_simp; try with_reducible rfl) hHeld ?_
       try simp only [Act.put, za, zb, zc, zd, ze, zf]
       refine wpAnyH_ready (rs := [8, 18]) (by kernel_rfl) (by simp) ?_;refine AllReadyH.cons (o := _) rfl (fun K hK => ?_) ?_
       ·go_simp
        refine (RDG.out wd HWL.out).mono ?_; rintro e w49 ⟨rfl, hr49, b49⟩;dsimp only;have q49 := bnext hq b49;have HWL := Lib.hid (HWL.out.kept1 b49);have HVT := Lib.hid (row_kept HVT.out b49);have HRR := Lib.hid hr49;clear hr49;have HWD := Lib.hid (Nat.le_trans HWD.out b49.size);clear hHeld;refine hK.out _ _ (wld_cells HWL.out (q49)) (fun hHeld => ?_);clear hK K
        try simp only [Act.put, za, zb, zc, zd, ze, zf]
        refine wpAnyH_ready (rs := [14, 18]) (by kernel_rfl) (by simp) ?_;refine AllReadyH.cons (o := _) rfl (fun K hK => ?_) ?_
        ·go_simp
         refine (RPL.out w49 _ _ q49 HWL.out HRR.out HVT.out).mono ?_; rintro e w50 ⟨T9, s9, vr9, vc9, vf9, HE50⟩;obtain ⟨rfl, e250, e350, e450, e550, e650, k150, k250, k350, k450, k550⟩ := HE50;dsimp only;have b50 : Below w0.heap.size w49 w50 := k550.out HP.out.1 HP.out.2.1 HP.out.2.2 q49.size;have q50 := q49.trans b50;have HWD := Lib.hid (Nat.le_trans HWD.out k550.size);have HWL := Lib.hid k450;have HVR := Lib.hid (row_down q49.size k150);have HVC := Lib.hid (row_down q49.size k250);have HVF := Lib.hid (row_down q49.size k350);obtain ⟨ra9, rc9, rfl, -⟩ := shape_of k150;obtain ⟨ca9, cc9, rfl, -⟩ := shape_of k250;obtain ⟨fa9, fc9, rfl, -⟩ := shape_of k350;have HST := Lib.hid (And.intro e250 (And.intro e350 (And.intro e550 e650)));clear e250 e350 e450 e550 e650 k150 k250 k350 k450 k550 b50;clear hHeld;refine hK.out _ _ (wld_cells HWL.out (q50)) (fun hHeld => ?_);clear hK K
         try simp only [Act.put, za, zb, zc, zd, ze, zf]
         refine tk 15 _ rfl (by intro w9 hSw; clear hSw; go_simp; try with_reducible rfl) hHeld ?_
         try simp only [Act.put, za, zb, zc, zd, ze, zf]
         refine tk 16 _ rfl (by intro w9 hSw; clear hSw; go_simp; try with_reducible rfl) hHeld ?_
         try simp only [Act.put, za, zb, zc, zd, ze, zf]
         refine tk 17 _ rfl (by intro w9 hSw; clear hSw; go_simp; try with_reducible rfl) hHeld ?_
         try simp only [Act.put, za, zb, zc, zd, ze, zf]
         refine wpAnyH_ready (rs := [18]) (by kernel_rfl) (by simp) ?_;refine AllReadyH.cons (o := _) rfl (fun K hK => ?_) ?_
         ·obtain ⟨w54, hw54⟩ : ∃ w9, w50.alloc (.cells setC 58) = w9 := ⟨_, rfl⟩
          have b54 : Below w50.heap.size w50 w54 := by rw [← hw54]; exact balloc1 _ _
          have q54 := bnext q50 b54
          have hz54 : w54.heap.size = w50.heap.size + 1 := by rw [← hw54]; exact size_alloc _ _
          have hB54 : Blk w50.heap.size setC 58 w54 := by rw [← hw54]; exact Blk.new _ _ _
          have HWL := Lib.hid (HWL.out.kept1 b54);have HVR := Lib.hid (row_kept HVR.out b54);have HVC := Lib.hid (row_kept HVC.out b54);have HVF := Lib.hid (row_kept HVF.out b54);have HX := Lib.hid hB54;have HZ54 := Lib.hid hz54;have HW54 := Lib.hid hw54;clear hB54 hz54 hw54;go_simp
          try rw [HW54.out]
          have HXL := Lib.hid HWD.out;have HWD := Lib.hid (Nat.le_trans HWD.out b54.size);clear hHeld;refine hK.out _ _ (wld_cells HWL.out (q54)) (fun hHeld => ?_);clear hK K
          try simp only [Act.put, za, zb, zc, zd, ze, zf]
          refine wpAnyH_ready (rs := [19]) (by kernel_rfl) (by simp) ?_;refine AllReadyH.cons (o := _) rfl (fun K hK => ?_) ?_
          ·obtain ⟨w55, hw55⟩ : ∃ w9, w54.setRow w50.heap.size #[.int .i64 ((T9.length - 1 : Nat) : Int), .slice ra9 (rootA T9).length rc9, .slice ca9 (chgA (blocksA T) (blocksA T9)).length cc9, .slice fa9 (freeA (blocksA T) (blocksA T9)).length fc9] = w9 := ⟨_, rfl⟩
           have hB55 : Blk w50.heap.size #[.int .i64 ((T9.length - 1 : Nat) : Int), .slice ra9 (rootA T9).length rc9, .slice ca9 (chgA (blocksA T) (blocksA T9)).length cc9, .slice fa9 (freeA (blocksA T) (blocksA T9)).length fc9] 58 w55 := by rw [← hw55]; exact setRow_blk HX.out _
           have g55 : World.grownBy w54 w55 (some w50.heap.size) := by rw [← hw55]; exact ⟨rfl, rfl, rfl, by simp, fun k hk hne => setRow_other _ _ k _ (fun e => hne (by rw [e]))⟩
           have b55 : Below wd.heap.size w54 w55 := by rw [← hw55]; exact setRow_below HXL.out _
           have q55 := (q54).trans (b55.mono HWQ.out);have HVR := Lib.hid (row_grown HVR.out g55 fun q hq e => by cases e; exact absurd (ty_one (own_ty HVR.out hq).1 ⟨_, _, HX.out⟩) (by decide));have HVC := Lib.hid (row_grown HVC.out g55 fun q hq e => by cases e; exact absurd (ty_one (own_ty HVC.out hq).1 ⟨_, _, HX.out⟩) (by decide));have HVF := Lib.hid (row_grown HVF.out g55 fun q hq e => by cases e; exact absurd (ty_one (own_ty HVF.out hq).1 ⟨_, _, HX.out⟩) (by decide));have HWL := Lib.hid (HWL.out.kept HLT.out b55);have HW55 := Lib.hid hw55;clear hw55 g55 b55;rw [if_pos (by kernel_rfl)];refine wp_store_row 58 _ _ rfl w50.heap.size #[.int .i64 ((T9.length - 1 : Nat) : Int), .slice ra9 (rootA T9).length rc9, .slice ca9 (chgA (blocksA T) (blocksA T9)).length cc9, .slice fa9 (freeA (blocksA T) (blocksA T9)).length fc9] rfl rfl _ _ HX.out set_sz rfl (by simp [Value.oneCell']) ?_;rw [HW55.out];have HX := Lib.hid hB55;clear hB55;clear hHeld;refine hK.out _ _ (wld_cells HWL.out (q55)) (fun hHeld => ?_);clear hK K
           try simp only [Act.put, za, zb, zc, zd, ze, zf]
           refine tk 20 _ rfl (by intro w9 hSw; clear hSw; go_simp; try with_reducible rfl) hHeld ?_
           try simp only [Act.put, za, zb, zc, zd, ze, zf]
           refine ⟨by kernel_rfl, ?_⟩;clear hHeld;have HQ := Lib.hid (q55);go_wp2;go_meet
           case rel => exact ⟨w50.heap.size, T9, s9, _, _, _, _, rfl, rfl, Lib.hid ⟨HX.out, HST.out.1, HST.out.2.1, HST.out.2.2.1, HST.out.2.2.2, HVR.out, HVC.out, HVF.out, HWL.out, HQ.out⟩⟩
          exact AllReadyH.nil
         exact AllReadyH.nil
        refine AllReadyH.cons (o := _) rfl (fun K hK => ?_) ?_
        ·obtain ⟨w57, hw57⟩ : ∃ w9, w49.alloc (.cells setC 58) = w9 := ⟨_, rfl⟩
         have b57 : Below w49.heap.size w49 w57 := by rw [← hw57]; exact balloc1 _ _
         have q57 := bnext q49 b57
         have hz57 : w57.heap.size = w49.heap.size + 1 := by rw [← hw57]; exact size_alloc _ _
         have hB57 : Blk w49.heap.size setC 58 w57 := by rw [← hw57]; exact Blk.new _ _ _
         have HWL := Lib.hid (HWL.out.kept1 b57);have HVT := Lib.hid (row_kept HVT.out b57);have HRR := Lib.hid (HRR.out.kept1 b57);have HX := Lib.hid hB57;have HZ57 := Lib.hid hz57;have HW57 := Lib.hid hw57;clear hB57 hz57 hw57;go_simp
         try rw [HW57.out]
         have HXL := Lib.hid HWD.out;have HWD := Lib.hid (Nat.le_trans HWD.out b57.size);clear hHeld;refine hK.out _ _ (wld_cells HWL.out (q57)) (fun hHeld => ?_);clear hK K
         try simp only [Act.put, za, zb, zc, zd, ze, zf]
         refine wpAnyH_ready (rs := [14]) (by kernel_rfl) (by simp) ?_;refine AllReadyH.cons (o := _) rfl (fun K hK => ?_) ?_
         ·go_simp
          refine (RPL.out w57 _ _ q57 HWL.out HRR.out HVT.out).mono ?_; rintro e w58 ⟨T9, s9, vr9, vc9, vf9, HE58⟩;obtain ⟨rfl, e258, e358, e458, e558, e658, k158, k258, k358, k458, k558⟩ := HE58;dsimp only;have b58 : Below w0.heap.size w57 w58 := k558.out HP.out.1 HP.out.2.1 HP.out.2.2 q57.size;have q58 := q57.trans b58;have HX := Lib.hid (k558.blk HX.out (Nat.ne_of_gt (Nat.lt_of_lt_of_le HLT.out.1 HXL.out)) (Nat.ne_of_gt (Nat.lt_of_lt_of_le HLT.out.2.1 HXL.out)) (Nat.ne_of_gt (Nat.lt_of_lt_of_le HLT.out.2.2 HXL.out)));have HWD := Lib.hid (Nat.le_trans HWD.out k558.size);have HWL := Lib.hid k458;have HVR := Lib.hid (row_down q57.size k158);have HVC := Lib.hid (row_down q57.size k258);have HVF := Lib.hid (row_down q57.size k358);obtain ⟨ra9, rc9, rfl, -⟩ := shape_of k158;obtain ⟨ca9, cc9, rfl, -⟩ := shape_of k258;obtain ⟨fa9, fc9, rfl, -⟩ := shape_of k358;have HST := Lib.hid (And.intro e258 (And.intro e358 (And.intro e558 e658)));clear e258 e358 e458 e558 e658 k158 k258 k358 k458 k558 b58;clear hHeld;refine hK.out _ _ (wld_cells HWL.out (q58)) (fun hHeld => ?_);clear hK K
          try simp only [Act.put, za, zb, zc, zd, ze, zf]
          refine tk 15 _ rfl (by intro w9 hSw; clear hSw; go_simp; try with_reducible rfl) hHeld ?_
          try simp only [Act.put, za, zb, zc, zd, ze, zf]
          refine tk 16 _ rfl (by intro w9 hSw; clear hSw; go_simp; try with_reducible rfl) hHeld ?_
          try simp only [Act.put, za, zb, zc, zd, ze, zf]
          refine tk 17 _ rfl (by intro w9 hSw; clear hSw; go_simp; try with_reducible rfl) hHeld ?_
          try simp only [Act.put, za, zb, zc, zd, ze, zf]
          refine wpAnyH_ready (rs := [19]) (by kernel_rfl) (by simp) ?_;refine AllReadyH.cons (o := _) rfl (fun K hK => ?_) ?_
          ·obtain ⟨w62, hw62⟩ : ∃ w9, w58.setRow w49.heap.size #[.int .i64 ((T9.length - 1 : Nat) : Int), .slice ra9 (rootA T9).length rc9, .slice ca9 (chgA (blocksA T) (blocksA T9)).length cc9, .slice fa9 (freeA (blocksA T) (blocksA T9)).length fc9] = w9 := ⟨_, rfl⟩
           have hB62 : Blk w49.heap.size #[.int .i64 ((T9.length - 1 : Nat) : Int), .slice ra9 (rootA T9).length rc9, .slice ca9 (chgA (blocksA T) (blocksA T9)).length cc9, .slice fa9 (freeA (blocksA T) (blocksA T9)).length fc9] 58 w62 := by rw [← hw62]; exact setRow_blk HX.out _
           have g62 : World.grownBy w58 w62 (some w49.heap.size) := by rw [← hw62]; exact ⟨rfl, rfl, rfl, by simp, fun k hk hne => setRow_other _ _ k _ (fun e => hne (by rw [e]))⟩
           have b62 : Below wd.heap.size w58 w62 := by rw [← hw62]; exact setRow_below HXL.out _
           have q62 := (q58).trans (b62.mono HWQ.out);have HVR := Lib.hid (row_grown HVR.out g62 fun q hq e => by cases e; exact absurd (ty_one (own_ty HVR.out hq).1 ⟨_, _, HX.out⟩) (by decide));have HVC := Lib.hid (row_grown HVC.out g62 fun q hq e => by cases e; exact absurd (ty_one (own_ty HVC.out hq).1 ⟨_, _, HX.out⟩) (by decide));have HVF := Lib.hid (row_grown HVF.out g62 fun q hq e => by cases e; exact absurd (ty_one (own_ty HVF.out hq).1 ⟨_, _, HX.out⟩) (by decide));have HWL := Lib.hid (HWL.out.kept HLT.out b62);have HW62 := Lib.hid hw62;clear hw62 g62 b62;rw [if_pos (by kernel_rfl)];refine wp_store_row 58 _ _ rfl w49.heap.size #[.int .i64 ((T9.length - 1 : Nat) : Int), .slice ra9 (rootA T9).length rc9, .slice ca9 (chgA (blocksA T) (blocksA T9)).length cc9, .slice fa9 (freeA (blocksA T) (blocksA T9)).length fc9] rfl rfl _ _ HX.out set_sz rfl (by simp [Value.oneCell']) ?_;rw [HW62.out];have HX := Lib.hid hB62;clear hB62;clear hHeld;refine hK.out _ _ (wld_cells HWL.out (q62)) (fun hHeld => ?_);clear hK K
           try simp only [Act.put, za, zb, zc, zd, ze, zf]
           refine tk 20 _ rfl (by intro w9 hSw; clear hSw; go_simp; try with_reducible rfl) hHeld ?_
           try simp only [Act.put, za, zb, zc, zd, ze, zf]
           refine ⟨by kernel_rfl, ?_⟩;clear hHeld;have HQ := Lib.hid (q62);go_wp2;go_meet
           case rel => exact ⟨w49.heap.size, T9, s9, _, _, _, _, rfl, rfl, Lib.hid ⟨HX.out, HST.out.1, HST.out.2.1, HST.out.2.2.1, HST.out.2.2.2, HVR.out, HVC.out, HVF.out, HWL.out, HQ.out⟩⟩
          exact AllReadyH.nil
         exact AllReadyH.nil
        exact AllReadyH.nil
       refine AllReadyH.cons (o := _) rfl (fun K hK => ?_) ?_
       ·obtain ⟨w64, hw64⟩ : ∃ w9, wd.alloc (.cells setC 58) = w9 := ⟨_, rfl⟩
        have b64 : Below wd.heap.size wd w64 := by rw [← hw64]; exact balloc1 _ _
        have q64 := bnext hq b64
        have hz64 : w64.heap.size = wd.heap.size + 1 := by rw [← hw64]; exact size_alloc _ _
        have hB64 : Blk wd.heap.size setC 58 w64 := by rw [← hw64]; exact Blk.new _ _ _
        have HWL := Lib.hid (HWL.out.kept1 b64);have HVT := Lib.hid (row_kept HVT.out b64);have HX := Lib.hid hB64;have HZ64 := Lib.hid hz64;have HW64 := Lib.hid hw64;clear hB64 hz64 hw64;go_simp
        try rw [HW64.out]
        have HXL := Lib.hid HWD.out;have HWD := Lib.hid (Nat.le_trans HWD.out b64.size);clear hHeld;refine hK.out _ _ (wld_cells HWL.out (q64)) (fun hHeld => ?_);clear hK K
        try simp only [Act.put, za, zb, zc, zd, ze, zf]
        refine wpAnyH_ready (rs := [8]) (by kernel_rfl) (by simp) ?_;refine AllReadyH.cons (o := _) rfl (fun K hK => ?_) ?_
        ·go_simp
         refine (RDG.out w64 HWL.out).mono ?_; rintro e w65 ⟨rfl, hr65, b65⟩;dsimp only;have q65 := bnext q64 b65;have HWL := Lib.hid (HWL.out.kept1 b65);have HVT := Lib.hid (row_kept HVT.out b65);have HX := Lib.hid (HX.out.kept1 b65);have HRR := Lib.hid hr65;clear hr65;have HWD := Lib.hid (Nat.le_trans HWD.out b65.size);clear hHeld;refine hK.out _ _ (wld_cells HWL.out (q65)) (fun hHeld => ?_);clear hK K
         try simp only [Act.put, za, zb, zc, zd, ze, zf]
         refine wpAnyH_ready (rs := [14]) (by kernel_rfl) (by simp) ?_;refine AllReadyH.cons (o := _) rfl (fun K hK => ?_) ?_
         ·go_simp
          refine (RPL.out w65 _ _ q65 HWL.out HRR.out HVT.out).mono ?_; rintro e w66 ⟨T9, s9, vr9, vc9, vf9, HE66⟩;obtain ⟨rfl, e266, e366, e466, e566, e666, k166, k266, k366, k466, k566⟩ := HE66;dsimp only;have b66 : Below w0.heap.size w65 w66 := k566.out HP.out.1 HP.out.2.1 HP.out.2.2 q65.size;have q66 := q65.trans b66;have HX := Lib.hid (k566.blk HX.out (Nat.ne_of_gt (Nat.lt_of_lt_of_le HLT.out.1 HXL.out)) (Nat.ne_of_gt (Nat.lt_of_lt_of_le HLT.out.2.1 HXL.out)) (Nat.ne_of_gt (Nat.lt_of_lt_of_le HLT.out.2.2 HXL.out)));have HWD := Lib.hid (Nat.le_trans HWD.out k566.size);have HWL := Lib.hid k466;have HVR := Lib.hid (row_down q65.size k166);have HVC := Lib.hid (row_down q65.size k266);have HVF := Lib.hid (row_down q65.size k366);obtain ⟨ra9, rc9, rfl, -⟩ := shape_of k166;obtain ⟨ca9, cc9, rfl, -⟩ := shape_of k266;obtain ⟨fa9, fc9, rfl, -⟩ := shape_of k366;have HST := Lib.hid (And.intro e266 (And.intro e366 (And.intro e566 e666)));clear e266 e366 e466 e566 e666 k166 k266 k366 k466 k566 b66;clear hHeld;refine hK.out _ _ (wld_cells HWL.out (q66)) (fun hHeld => ?_);clear hK K
          try simp only [Act.put, za, zb, zc, zd, ze, zf]
          refine tk 15 _ rfl (by intro w9 hSw; clear hSw; go_simp; try with_reducible rfl) hHeld ?_
          try simp only [Act.put, za, zb, zc, zd, ze, zf]
          refine tk 16 _ rfl (by intro w9 hSw; clear hSw; go_simp; try with_reducible rfl) hHeld ?_
          try simp only [Act.put, za, zb, zc, zd, ze, zf]
          refine tk 17 _ rfl (by intro w9 hSw; clear hSw; go_simp; try with_reducible rfl) hHeld ?_
          try simp only [Act.put, za, zb, zc, zd, ze, zf]
          refine wpAnyH_ready (rs := [19]) (by kernel_rfl) (by simp) ?_;refine AllReadyH.cons (o := _) rfl (fun K hK => ?_) ?_
          ·obtain ⟨w70, hw70⟩ : ∃ w9, w66.setRow wd.heap.size #[.int .i64 ((T9.length - 1 : Nat) : Int), .slice ra9 (rootA T9).length rc9, .slice ca9 (chgA (blocksA T) (blocksA T9)).length cc9, .slice fa9 (freeA (blocksA T) (blocksA T9)).length fc9] = w9 := ⟨_, rfl⟩
           have hB70 : Blk wd.heap.size #[.int .i64 ((T9.length - 1 : Nat) : Int), .slice ra9 (rootA T9).length rc9, .slice ca9 (chgA (blocksA T) (blocksA T9)).length cc9, .slice fa9 (freeA (blocksA T) (blocksA T9)).length fc9] 58 w70 := by rw [← hw70]; exact setRow_blk HX.out _
           have g70 : World.grownBy w66 w70 (some wd.heap.size) := by rw [← hw70]; exact ⟨rfl, rfl, rfl, by simp, fun k hk hne => setRow_other _ _ k _ (fun e => hne (by rw [e]))⟩
           have b70 : Below wd.heap.size w66 w70 := by rw [← hw70]; exact setRow_below HXL.out _
           have q70 := (q66).trans (b70.mono HWQ.out);have HVR := Lib.hid (row_grown HVR.out g70 fun q hq e => by cases e; exact absurd (ty_one (own_ty HVR.out hq).1 ⟨_, _, HX.out⟩) (by decide));have HVC := Lib.hid (row_grown HVC.out g70 fun q hq e => by cases e; exact absurd (ty_one (own_ty HVC.out hq).1 ⟨_, _, HX.out⟩) (by decide));have HVF := Lib.hid (row_grown HVF.out g70 fun q hq e => by cases e; exact absurd (ty_one (own_ty HVF.out hq).1 ⟨_, _, HX.out⟩) (by decide));have HWL := Lib.hid (HWL.out.kept HLT.out b70);have HW70 := Lib.hid hw70;clear hw70 g70 b70;rw [if_pos (by kernel_rfl)];refine wp_store_row 58 _ _ rfl wd.heap.size #[.int .i64 ((T9.length - 1 : Nat) : Int), .slice ra9 (rootA T9).length rc9, .slice ca9 (chgA (blocksA T) (blocksA T9)).length cc9, .slice fa9 (freeA (blocksA T) (blocksA T9)).length fc9] rfl rfl _ _ HX.out set_sz rfl (by simp [Value.oneCell']) ?_;rw [HW70.out];have HX := Lib.hid hB70;clear hB70;clear hHeld;refine hK.out _ _ (wld_cells HWL.out (q70)) (fun hHeld => ?_);clear hK K
           try simp only [Act.put, za, zb, zc, zd, ze, zf]
           refine tk 20 _ rfl (by intro w9 hSw; clear hSw; go_simp; try with_reducible rfl) hHeld ?_
           try simp only [Act.put, za, zb, zc, zd, ze, zf]
           refine ⟨by kernel_rfl, ?_⟩;clear hHeld;have HQ := Lib.hid (q70);go_wp2;go_meet
           case rel => exact ⟨wd.heap.size, T9, s9, _, _, _, _, rfl, rfl, Lib.hid ⟨HX.out, HST.out.1, HST.out.2.1, HST.out.2.2.1, HST.out.2.2.2, HVR.out, HVC.out, HVF.out, HWL.out, HQ.out⟩⟩
          exact AllReadyH.nil
         exact AllReadyH.nil
        exact AllReadyH.nil
       exact AllReadyH.nil
     case rest =>
      obtain ⟨X, T', s', ra, rc, vc, vf, rfl, rfl, HRA⟩ := hcut;obtain ⟨w6, hw6⟩ : ∃ x, x = wc := ⟨_, rfl⟩;subst hw6;have HDP := Lib.hid (tree_deep HRA.out.tree (by rw [HRA.out.list, fullL_len]; omega));obtain ⟨ca, cc, rfl, -⟩ := shape_of HRA.out.c;obtain ⟨fa, fc, rfl, -⟩ := shape_of HRA.out.f;have x0 := HRA.out.blk.cell 0;have x1 := HRA.out.blk.cell 1;have x2 := HRA.out.blk.cell 2;have x3 := HRA.out.blk.cell 3;simp only [List.getElem?_toArray, List.getElem?_cons_zero, List.getElem?_cons_succ] at x0 x1 x2 x3;have PUT := Lib.hid (wput_any p g u F D V s' ((T'.length - 1 : Nat) : Int) (rootA T') (chgA (blocksA T) (blocksA T')) (freeA (blocksA T) (blocksA T')) (chg_rng HRA.out.tree) (free_rng (load_stands HSO.out.load).2.1) _ ra rc _ _ w6 HRA.out.wld HRA.out.c HRA.out.f)
      have hd3 : ¬ ((T'.length - 1 : Nat) : Int) < 3 := by have := HDP.out; omega
      have hd4 : ¬ (4 : Int) < ((T'.length - 1 : Nat) : Int) := by have := HDP.out; omega
      clear RDG RPL HVT
      go_upto_region 20 with fail
      go_wp2_with fail
      refine PUT.out.mono ?_; rintro e w7 ⟨rfl, hd7, st7⟩;dsimp only;have HB7 := Lib.hid (HRA.out.below.trans (st7.out HP.out.1 HP.out.2.1 HP.out.2.2 HRA.out.below.size));have HVT := Lib.hid (own_stay HRA.out.r st7 ⟨_, _, HRA.out.wld.b⟩ HRA.out.wld.d.t HRA.out.wld.u.t (by decide) (by decide) (by decide));have HWL7 := Lib.hid hd7;clear hd7 st7 PUT x0 x1 x2 x3 hd3 hd4;have HST := Lib.hid HRA.out.stand;have HLI := Lib.hid HRA.out.list;have HTO := Lib.hid HRA.out.tree;obtain ⟨F1, hF1⟩ : ∃ z, putB F (chgA (blocksA T) (blocksA T')) = z := ⟨_, rfl⟩;obtain ⟨s1, hs1⟩ : ∃ z, freeU s' (freeA (blocksA T) (blocksA T')) = z := ⟨_, rfl⟩;obtain ⟨D1, hD1⟩ : ∃ z : Int, ((T'.length - 1 : Nat) : Int) = z := ⟨_, rfl⟩;obtain ⟨V1, hV1⟩ : ∃ z, Value.slice ra (rootA T').length rc = z := ⟨_, rfl⟩;rw [hF1, hs1, hD1] at HST;rw [hF1, hs1, hD1, hV1] at HWL7;rw [hV1] at HVT;clear hF1 hs1 hD1 hV1 HRA HWL HSO HB5 HMD HT1 HT2 HDP;obtain ⟨NS, hNS⟩ : ∃ z, sortI (numsA T') = z := ⟨_, rfl⟩;obtain ⟨RT, hRT⟩ : ∃ z : List Ent, [] = z := ⟨_, rfl⟩;obtain ⟨CT, hCT⟩ : ∃ z : List Ch, [] = z := ⟨_, rfl⟩;have HNS := Lib.hid hNS;have HRT := Lib.hid hRT;have HCT := Lib.hid hCT;clear hNS hRT hCT
      have HDD : Hid (I64 D1 ∧ fitE (rootA T')) := Lib.hid (by
       obtain ⟨d1, d2⟩ := HST.out.dp;obtain ⟨-, hS, -, -⟩ := load_stands HST.out.load
       exact ⟨by rw [d1]; exact deep_fit hS, root_fit hS⟩)
      have HK7 : Hid (∀ w9, Below w7.heap.size w7 w9 → w9.cell? ⟨p, 0, none⟩ = some (.slice (some ⟨g, 0, none⟩) 4096 4096) ∧ w9.cell? ⟨p, 1, none⟩ = some (.int .i64 D1) ∧ w9.cell? ⟨p, 2, none⟩ = some V1) := Lib.hid fun w9 b => wld_cells (HWL7.out.kept1 b) trivial;have RD7 := Lib.hid fun W (b : Below w7.heap.size w7 W) => lreading_any F1 (-1) g W (HWL7.out.kept1 b).d
      have WLK : Hid (∀ p' q' W, Below w7.heap.size w7 W → RdrAt p' q' g F1 (-1) W → Calls Tryz.prog 19 #[.agg #[.int .i64 D1, V1], .func (.func 49) #[] (rdrC p' q')] W
       fun e W' => ∃ vl vn, e = .returned (.tuple #[vl, vn, .int .i64 0]) ∧ ExtsAt W.heap.size vl (fullL i) W' ∧ IntsFk W.heap.size vn NS W' ∧ Below W.heap.size W W') := Lib.hid fun p' q' W b hr => by
       have := fkwalk_any _ _ _ W (hr.reads HST.out.size) D1 HDD.out.1 (rootA T') HDD.out.2 V1 (rowE_in (row_kept HVT.out b));rw [HST.out.load] at this;refine this.mono fun e w' h => ?_;obtain ⟨vl, vn, h1, h2, h3, h4⟩ := h.say;exact ⟨vl, vn, h1, by rw [← HLI.out]; exact h2, by rw [← HNS.out]; exact h3, h4⟩
      have RPN7 : Hid (∀ p' q' W, Below w7.heap.size w7 W → RdrAt p' q' g F1 (-1) W → Calls Tryz.prog 28 #[.agg #[.int .i64 D1, V1], .func (.func 49) #[] (rdrC p' q'), .int .i64 0, .int .i64 2048, .slice none 0 0, .nilFunc] W
       fun e W' => ∃ vr vc vf, e = .returned (.tuple #[setV 0 vr vc vf, .int .i64 0]) ∧ EntsAt W.heap.size vr RT W' ∧ ChgsOwn W.heap.size vc CT W' ∧ IntsFk W.heap.size vf NS W' ∧ Below W.heap.size W W') := Lib.hid fun p' q' W b hr => by
       have := fkreplace_any nxNil _ (fun _ => True) (fun _ _ => True) W.heap.size W.heap.size (fresh_nil _ _) (Nat.le_refl _) _ _ _ W (Nat.le_refl _) (hr.reads HST.out.size) D1 HDD.out.1 (rootA T') HDD.out.2 V1 (rowE_in (row_kept HVT.out b)) (EntsS.own (row_kept HVT.out b)) 0 2048 ⟨by omega, by omega⟩ ⟨by omega, by omega⟩ [] (by intro e h; cases h) (by decide) _ (nil_ents W) () trivial trivial;rw [repl_gone HST.out.load] at this;refine this.mono fun e w' h => ?_;unfold SetEndN at h;obtain ⟨t1, -, -, vr, vc, vf, he, k1, k2, k3⟩ := h;rw [blk0, chg_out] at k2
       have hfr : freeA (blocksA T') (blocksA S0) = NS := by
        rw [free_is HTO.out.good.well S0_well, nums0, ← HNS.out, List.filter_eq_self];intro a _
        simp [sortI]
       rw [hfr] at k3;rw [← HRT.out, ← HCT.out];exact ⟨vr, vc, vf, he, k1, k2, k3, t1.below (Nat.le_refl _)⟩
      have AL := Lib.hid fun W => lalive_any W
      go_upto_region 21 with fail
      go_cut [16, 17, 18] (fun u1 u2 u3 wx => ∃ (vl vn : Value), u1 = vl ∧ u2 = vn ∧ u3 = .int .i64 0 ∧ Hid (ExtsAt w7.heap.size vl (fullL i) wx ∧ IntsFk w7.heap.size vn NS wx ∧ Below w7.heap.size w7 wx))
      case first =>
       obtain ⟨wq, hwq⟩ : ∃ x, x = w7 := ⟨_, rfl⟩;subst hwq;have hq : Below wq.heap.size wq wq.drew := (Below.refl _ _).drew;have HWD : Hid (wq.heap.size ≤ wq.drew.heap.size) := Lib.hid (Nat.le_refl _);have HK := HK7;have RDG := RD7
       as_aux_lemma =>
        refine wp_region_held_drew (S := fun w9 => w9.cell? ⟨p, 0, none⟩ = some (.slice (some ⟨g, 0, none⟩) 4096 4096) ∧ w9.cell? ⟨p, 1, none⟩ = some (.int .i64 D1) ∧ w9.cell? ⟨p, 2, none⟩ = some V1) mixed (HK.out _ hq) (fun hHeld => ?_);generalize wq.drew = wd at *;refine tk 0 _ rfl (by intro w9 hSw; clear hSw; go_simp; try with_reducible rfl) hHeld ?_
        try simp only [Act.put, za, zb, zc, zd, ze, zf]
        refine tk 1 _ rfl (by intro w9 hSw; clear hSw; go_simp; try with_reducible rfl) hHeld ?_
        try simp only [Act.put, za, zb, zc, zd, ze, zf]
        refine tk 2 _ rfl (by intro w9 hSw; clear hSw; go_simp; try with_reducible rfl) hHeld ?_
        try simp only [Act.put, za, zb, zc, zd, ze, zf]
        refine tk 3 _ rfl (by intro w9 hSw; obtain ⟨e1, e2, e3⟩ := hSw; go_simp; try with_reducible rfl) hHeld ?_
        try simp only [Act.put, za, zb, zc, zd, ze, zf]
        refine tk 4 _ rfl (by intro w9 hSw; clear hSw; go_simp; try with_reducible rfl) hHeld ?_
        try simp only [Act.put, za, zb, zc, zd, ze, zf]
        refine tk 5 _ rfl (by intro w9 hSw; clear hSw; go_simp; try with_reducible rfl) hHeld ?_
        try simp only [Act.put, za, zb, zc, zd, ze, zf]
        refine tk 6 _ rfl (by intro w9 hSw; clear hSw; go_simp; try with_reducible rfl) hHeld ?_
        try simp only [Act.put, za, zb, zc, zd, ze, zf]
        refine tk 7 _ rfl (by intro w9 hSw; obtain ⟨e1, e2, e3⟩ := hSw; go_simp; try with_reducible rfl) hHeld ?_
        try simp only [Act.put, za, zb, zc, zd, ze, zf]
        refine wpAnyH_ready (rs := [8]) (by kernel_rfl) (by simp) ?_;refine AllReadyH.cons (o := _) rfl (fun K hK => ?_) ?_
        ·go_simp
         refine (RDG.out wd (hq)).mono ?_; rintro e w84 ⟨rfl, hr84, b84⟩;dsimp only;have q84 := bnext hq b84;have HRR := Lib.hid hr84;clear hr84;have HWD := Lib.hid (Nat.le_trans HWD.out b84.size);clear hHeld;refine hK.out _ _ (HK.out _ (q84)) (fun hHeld => ?_);clear hK K
         try simp only [Act.put, za, zb, zc, zd, ze, zf]
         refine wpAnyH_ready (rs := [9]) (by kernel_rfl) (by simp) ?_;refine AllReadyH.cons (o := _) rfl (fun K hK => ?_) ?_
         ·go_simp
          refine (WLK.out _ _ w84 (q84) HRR.out).mono ?_; rintro e w85 ⟨vl, vn, rfl, hl85, hn85, b85⟩;dsimp only;have q85 := bnext q84 b85;have HRR := Lib.hid (HRR.out.kept1 b85);obtain ⟨la9, lc9, rfl, -⟩ := shape_of hl85;obtain ⟨na9, nc9, rfl, -⟩ := shape_of hn85;have HL := Lib.hid (row_down HWD.out hl85);have HNN := Lib.hid (row_down HWD.out hn85);clear hl85 hn85;clear hHeld;refine hK.out _ _ (HK.out _ (q85)) (fun hHeld => ?_);clear hK K
          try simp only [Act.put, za, zb, zc, zd, ze, zf]
          refine tk 10 _ rfl (by intro w9 hSw; clear hSw; go_simp; try with_reducible rfl) hHeld ?_
          try simp only [Act.put, za, zb, zc, zd, ze, zf]
          refine tk 11 _ rfl (by intro w9 hSw; clear hSw; go_simp; try with_reducible rfl) hHeld ?_
          try simp only [Act.put, za, zb, zc, zd, ze, zf]
          refine tk 12 _ rfl (by intro w9 hSw; clear hSw; go_simp; try with_reducible rfl) hHeld ?_
          try simp only [Act.put, za, zb, zc, zd, ze, zf]
          refine tk 13 _ rfl (by intro w9 hSw; clear hSw; go_simp; try with_reducible rfl) hHeld ?_
          try simp only [Act.put, za, zb, zc, zd, ze, zf]
          refine tk 14 _ rfl (by intro w9 hSw; clear hSw; go_simp; try with_reducible rfl) hHeld ?_
          try simp only [Act.put, za, zb, zc, zd, ze, zf]
          refine tk 15 _ rfl (by intro w9 hSw; clear hSw; go_simp; try with_reducible rfl) hHeld ?_
          try simp only [Act.put, za, zb, zc, zd, ze, zf]
          refine tk 16 _ rfl (by intro w9 hSw; clear hSw; go_simp; try with_reducible rfl) hHeld ?_
          try simp only [Act.put, za, zb, zc, zd, ze, zf]
          refine ⟨by kernel_rfl, ?_⟩;clear hHeld;have HQ := Lib.hid (q85);go_wp2;go_meet
          case rel => exact ⟨_, _, rfl, rfl, rfl, Lib.hid ⟨HL.out, HNN.out, HQ.out⟩⟩
         exact AllReadyH.nil
        exact AllReadyH.nil
      case rest =>
       obtain ⟨vl, vn, rfl, rfl, rfl, HX8⟩ := hcut;obtain ⟨w8, hw8⟩ : ∃ x, x = wc := ⟨_, rfl⟩;subst hw8;have HK : Hid (∀ w9, Below w8.heap.size w8 w9 → w9.cell? ⟨p, 0, none⟩ = some (.slice (some ⟨g, 0, none⟩) 4096 4096) ∧ w9.cell? ⟨p, 1, none⟩ = some (.int .i64 D1) ∧ w9.cell? ⟨p, 2, none⟩ = some V1) := Lib.hid fun w9 b => HK7.out w9 (bnext HX8.out.2.2 b);have RDG := Lib.hid fun W (b : Below w8.heap.size w8 W) => RD7.out W (bnext HX8.out.2.2 b);have RPN := Lib.hid fun p' q' W (b : Below w8.heap.size w8 W) h => RPN7.out p' q' W (bnext HX8.out.2.2 b) h;obtain ⟨la, lc, rfl, -⟩ := shape_of HX8.out.1;obtain ⟨na, nc, rfl, -⟩ := shape_of HX8.out.2.1;clear HK7 RD7 RPN7 WLK
       go_upto_region 22 with fail
       go_cut [19, 20] (fun u1 u2 wx => ∃ (X : Nat) (ra : Option Addr) (rc : Nat) (ca : Option Addr) (cc : Nat) (fa : Option Addr) (fc : Nat), u1 = .pointer (some ⟨X, 0, none⟩) ∧ u2 = .int .i64 0 ∧ Hid (Blk X #[.int .i64 0, .slice ra RT.length rc, .slice ca CT.length cc, .slice fa NS.length fc] 58 wx ∧ IntsFk w8.heap.size (.slice fa NS.length fc) NS wx ∧ Below w8.heap.size w8 wx))
       case first =>
        obtain ⟨wq, hwq⟩ : ∃ x, x = w8 := ⟨_, rfl⟩;subst hwq;have hq : Below wq.heap.size wq wq.drew := (Below.refl _ _).drew;have HWD : Hid (wq.heap.size ≤ wq.drew.heap.size) := Lib.hid (Nat.le_refl _)
        as_aux_lemma =>
         refine wp_region_held_drew (S := fun w9 => w9.cell? ⟨p, 0, none⟩ = some (.slice (some ⟨g, 0, none⟩) 4096 4096) ∧ w9.cell? ⟨p, 1, none⟩ = some (.int .i64 D1) ∧ w9.cell? ⟨p, 2, none⟩ = some V1) mixed (HK.out _ hq) (fun hHeld => ?_);generalize wq.drew = wd at *;refine tk 0 _ rfl (by intro w9 hSw; clear hSw; go_simp; try with_reducible rfl) hHeld ?_
         try simp only [Act.put, za, zb, zc, zd, ze, zf]
         refine tk 1 _ rfl (by intro w9 hSw; clear hSw; go_simp; try with_reducible rfl) hHeld ?_
         try simp only [Act.put, za, zb, zc, zd, ze, zf]
         refine tk 2 _ rfl (by intro w9 hSw; clear hSw; go_simp; try with_reducible rfl) hHeld ?_
         try simp only [Act.put, za, zb, zc, zd, ze, zf]
         refine tk 3 _ rfl (by intro w9 hSw; obtain ⟨e1, e2, e3⟩ := hSw; go_simp; try with_reducible rfl) hHeld ?_
         try simp only [Act.put, za, zb, zc, zd, ze, zf]
         refine tk 4 _ rfl (by intro w9 hSw; clear hSw; go_simp; try with_reducible rfl) hHeld ?_
         try simp only [Act.put, za, zb, zc, zd, ze, zf]
         refine tk 5 _ rfl (by intro w9 hSw; clear hSw; go_simp; try with_reducible rfl) hHeld ?_
         try simp only [Act.put, za, zb, zc, zd, ze, zf]
         refine tk 6 _ rfl (by intro w9 hSw; clear hSw; go_simp; try with_reducible rfl) hHeld ?_
         try simp only [Act.put, za, zb, zc, zd, ze, zf]
         refine tk 7 _ rfl (by intro w9 hSw; obtain ⟨e1, e2, e3⟩ := hSw; go_simp; try with_reducible rfl) hHeld ?_
         try simp only [Act.put, za, zb, zc, zd, ze, zf]
         refine wpAnyH_ready (rs := [8, 13]) (by kernel_rfl) (by simp) ?_;refine AllReadyH.cons (o := _) rfl (fun K hK => ?_) ?_
         ·go_simp
          refine (RDG.out wd (hq)).mono ?_; rintro e w101 ⟨rfl, hr101, b101⟩;dsimp only;have q101 := bnext hq b101;have HRR := Lib.hid hr101;clear hr101;have HWD := Lib.hid (Nat.le_trans HWD.out b101.size);clear hHeld;refine hK.out _ _ (HK.out _ (q101)) (fun hHeld => ?_);clear hK K
          try simp only [Act.put, za, zb, zc, zd, ze, zf]
          refine wpAnyH_ready (rs := [9, 13]) (by kernel_rfl) (by simp) ?_;refine AllReadyH.cons (o := _) rfl (fun K hK => ?_) ?_
          ·go_simp
           refine (RPN.out _ _ w101 (q101) HRR.out).mono ?_; rintro e w102 ⟨vr9, vc9, vf9, rfl, hvr102, hvc102, hvf102, b102⟩;dsimp only;have q102 := bnext q101 b102;have HRR := Lib.hid (HRR.out.kept1 b102);have HVF := Lib.hid (row_down HWD.out hvf102);obtain ⟨ra9, rc9, rfl, -⟩ := shape_of hvr102;obtain ⟨ca9, cc9, rfl, -⟩ := shape_of hvc102;obtain ⟨fa9, fc9, rfl, -⟩ := shape_of hvf102;clear hvr102 hvc102 hvf102;have HWD := Lib.hid (Nat.le_trans HWD.out b102.size);clear hHeld;refine hK.out _ _ (HK.out _ (q102)) (fun hHeld => ?_);clear hK K
           try simp only [Act.put, za, zb, zc, zd, ze, zf]
           refine tk 10 _ rfl (by intro w9 hSw; clear hSw; go_simp; try with_reducible rfl) hHeld ?_
           try simp only [Act.put, za, zb, zc, zd, ze, zf]
           refine tk 11 _ rfl (by intro w9 hSw; clear hSw; go_simp; try with_reducible rfl) hHeld ?_
           try simp only [Act.put, za, zb, zc, zd, ze, zf]
           refine tk 12 _ rfl (by intro w9 hSw; clear hSw; go_simp; try with_reducible rfl) hHeld ?_
           try simp only [Act.put, za, zb, zc, zd, ze, zf]
           refine wpAnyH_ready (rs := [13]) (by kernel_rfl) (by simp) ?_;refine AllReadyH.cons (o := _) rfl (fun K hK => ?_) ?_
           ·obtain ⟨w106, hw106⟩ : ∃ w9, w102.alloc (.cells setC 58) = w9 := ⟨_, rfl⟩
            have b106 : Below w102.heap.size w102 w106 := by rw [← hw106]; exact balloc1 _ _
            have q106 := bnext q102 b106
            have hz106 : w106.heap.size = w102.heap.size + 1 := by rw [← hw106]; exact size_alloc _ _
            have hB106 : Blk w102.heap.size setC 58 w106 := by rw [← hw106]; exact Blk.new _ _ _
            have HRR := Lib.hid (HRR.out.kept1 b106);have HVF := Lib.hid (row_kept HVF.out b106);have HX := Lib.hid hB106;have HZ106 := Lib.hid hz106;have HW106 := Lib.hid hw106;clear hB106 hz106 hw106;go_simp
            try rw [HW106.out]
            have HWD := Lib.hid (Nat.le_trans HWD.out b106.size);clear hHeld;refine hK.out _ _ (HK.out _ (q106)) (fun hHeld => ?_);clear hK K
            try simp only [Act.put, za, zb, zc, zd, ze, zf]
            refine wpAnyH_ready (rs := [14]) (by kernel_rfl) (by simp) ?_;refine AllReadyH.cons (o := _) rfl (fun K hK => ?_) ?_
            ·obtain ⟨w107, hw107⟩ : ∃ w9, w106.setRow w102.heap.size #[.int .i64 0, .slice ra9 RT.length rc9, .slice ca9 CT.length cc9, .slice fa9 NS.length fc9] = w9 := ⟨_, rfl⟩
             have hB107 : Blk w102.heap.size #[.int .i64 0, .slice ra9 RT.length rc9, .slice ca9 CT.length cc9, .slice fa9 NS.length fc9] 58 w107 := by rw [← hw107]; exact setRow_blk HX.out _
             have g107 : World.grownBy w106 w107 (some w102.heap.size) := by rw [← hw107]; exact ⟨rfl, rfl, rfl, by simp, fun k hk hne => setRow_other _ _ k _ (fun e => hne (by rw [e]))⟩
             have b107 : Below wq.heap.size w106 w107 := by rw [← hw107]; exact setRow_below q102.size _
             have q107 := (q106).trans b107;have HVF := Lib.hid (row_grown HVF.out g107 fun q hq e => by cases e; exact absurd (ty_one (own_ty HVF.out hq).1 ⟨_, _, HX.out⟩) (by decide));have HW107 := Lib.hid hw107;clear hw107 g107 b107;rw [if_pos (by kernel_rfl)];refine wp_store_row 58 _ _ rfl w102.heap.size #[.int .i64 0, .slice ra9 RT.length rc9, .slice ca9 CT.length cc9, .slice fa9 NS.length fc9] rfl rfl _ _ HX.out set_sz rfl (by simp [Value.oneCell']) ?_;rw [HW107.out];have HX := Lib.hid hB107;clear hB107;clear hHeld;refine hK.out _ _ (HK.out _ (q107)) (fun hHeld => ?_);clear hK K
             try simp only [Act.put, za, zb, zc, zd, ze, zf]
             refine tk 15 _ rfl (by intro w9 hSw; clear hSw; go_simp; try with_reducible rfl) hHeld ?_
             try simp only [Act.put, za, zb, zc, zd, ze, zf]
             refine ⟨by kernel_rfl, ?_⟩;clear hHeld;have HQ := Lib.hid (q107);go_wp2;go_meet
             case rel => exact ⟨w102.heap.size, _, _, _, _, _, _, rfl, rfl, Lib.hid ⟨HX.out, HVF.out, HQ.out⟩⟩
            exact AllReadyH.nil
           exact AllReadyH.nil
          refine AllReadyH.cons (o := _) rfl (fun K hK => ?_) ?_
          ·obtain ⟨w109, hw109⟩ : ∃ w9, w101.alloc (.cells setC 58) = w9 := ⟨_, rfl⟩
           have b109 : Below w101.heap.size w101 w109 := by rw [← hw109]; exact balloc1 _ _
           have q109 := bnext q101 b109
           have hz109 : w109.heap.size = w101.heap.size + 1 := by rw [← hw109]; exact size_alloc _ _
           have hB109 : Blk w101.heap.size setC 58 w109 := by rw [← hw109]; exact Blk.new _ _ _
           have HRR := Lib.hid (HRR.out.kept1 b109);have HX := Lib.hid hB109;have HZ109 := Lib.hid hz109;have HW109 := Lib.hid hw109;clear hB109 hz109 hw109;go_simp
           try rw [HW109.out]
           have HWD := Lib.hid (Nat.le_trans HWD.out b109.size);clear hHeld;refine hK.out _ _ (HK.out _ (q109)) (fun hHeld => ?_);clear hK K
           try simp only [Act.put, za, zb, zc, zd, ze, zf]
           refine wpAnyH_ready (rs := [9]) (by kernel_rfl) (by simp) ?_;refine AllReadyH.cons (o := _) rfl (fun K hK => ?_) ?_
           ·go_simp
            refine (RPN.out _ _ w109 (q109) HRR.out).mono ?_; rintro e w110 ⟨vr9, vc9, vf9, rfl, hvr110, hvc110, hvf110, b110⟩;dsimp only;have q110 := bnext q109 b110;have HRR := Lib.hid (HRR.out.kept1 b110);have HX := Lib.hid (HX.out.kept1 b110);have HVF := Lib.hid (row_down HWD.out hvf110);obtain ⟨ra9, rc9, rfl, -⟩ := shape_of hvr110;obtain ⟨ca9, cc9, rfl, -⟩ := shape_of hvc110;obtain ⟨fa9, fc9, rfl, -⟩ := shape_of hvf110;clear hvr110 hvc110 hvf110;have HWD := Lib.hid (Nat.le_trans HWD.out b110.size);clear hHeld;refine hK.out _ _ (HK.out _ (q110)) (fun hHeld => ?_);clear hK K
            try simp only [Act.put, za, zb, zc, zd, ze, zf]
            refine tk 10 _ rfl (by intro w9 hSw; clear hSw; go_simp; try with_reducible rfl) hHeld ?_
            try simp only [Act.put, za, zb, zc, zd, ze, zf]
            refine tk 11 _ rfl (by intro w9 hSw; clear hSw; go_simp; try with_reducible rfl) hHeld ?_
            try simp only [Act.put, za, zb, zc, zd, ze, zf]
            refine tk 12 _ rfl (by intro w9 hSw; clear hSw; go_simp; try with_reducible rfl) hHeld ?_
            try simp only [Act.put, za, zb, zc, zd, ze, zf]
            refine wpAnyH_ready (rs := [14]) (by kernel_rfl) (by simp) ?_;refine AllReadyH.cons (o := _) rfl (fun K hK => ?_) ?_
            ·obtain ⟨w114, hw114⟩ : ∃ w9, w110.setRow w101.heap.size #[.int .i64 0, .slice ra9 RT.length rc9, .slice ca9 CT.length cc9, .slice fa9 NS.length fc9] = w9 := ⟨_, rfl⟩
             have hB114 : Blk w101.heap.size #[.int .i64 0, .slice ra9 RT.length rc9, .slice ca9 CT.length cc9, .slice fa9 NS.length fc9] 58 w114 := by rw [← hw114]; exact setRow_blk HX.out _
             have g114 : World.grownBy w110 w114 (some w101.heap.size) := by rw [← hw114]; exact ⟨rfl, rfl, rfl, by simp, fun k hk hne => setRow_other _ _ k _ (fun e => hne (by rw [e]))⟩
             have b114 : Below wq.heap.size w110 w114 := by rw [← hw114]; exact setRow_below q101.size _
             have q114 := (q110).trans b114;have HVF := Lib.hid (row_grown HVF.out g114 fun q hq e => by cases e; exact absurd (ty_one (own_ty HVF.out hq).1 ⟨_, _, HX.out⟩) (by decide));have HW114 := Lib.hid hw114;clear hw114 g114 b114;rw [if_pos (by kernel_rfl)];refine wp_store_row 58 _ _ rfl w101.heap.size #[.int .i64 0, .slice ra9 RT.length rc9, .slice ca9 CT.length cc9, .slice fa9 NS.length fc9] rfl rfl _ _ HX.out set_sz rfl (by simp [Value.oneCell']) ?_;rw [HW114.out];have HX := Lib.hid hB114;clear hB114;clear hHeld;refine hK.out _ _ (HK.out _ (q114)) (fun hHeld => ?_);clear hK K
             try simp only [Act.put, za, zb, zc, zd, ze, zf]
             refine tk 15 _ rfl (by intro w9 hSw; clear hSw; go_simp; try with_reducible rfl) hHeld ?_
             try simp only [Act.put, za, zb, zc, zd, ze, zf]
             refine ⟨by kernel_rfl, ?_⟩;clear hHeld;have HQ := Lib.hid (q114);go_wp2;go_meet
             case rel => exact ⟨w101.heap.size, _, _, _, _, _, _, rfl, rfl, Lib.hid ⟨HX.out, HVF.out, HQ.out⟩⟩
            exact AllReadyH.nil
           exact AllReadyH.nil
          exact AllReadyH.nil
         refine AllReadyH.cons (o := _) rfl (fun K hK => ?_) ?_
         ·obtain ⟨w116, hw116⟩ : ∃ w9, wd.alloc (.cells setC 58) = w9 := ⟨_, rfl⟩
          have b116 : Below wd.heap.size wd w116 := by rw [← hw116]; exact balloc1 _ _
          have q116 := bnext hq b116
          have hz116 : w116.heap.size = wd.heap.size + 1 := by rw [← hw116]; exact size_alloc _ _
          have hB116 : Blk wd.heap.size setC 58 w116 := by rw [← hw116]; exact Blk.new _ _ _
          have HX := Lib.hid hB116;have HZ116 := Lib.hid hz116;have HW116 := Lib.hid hw116;clear hB116 hz116 hw116;go_simp
          try rw [HW116.out]
          have HWD := Lib.hid (Nat.le_trans HWD.out b116.size);clear hHeld;refine hK.out _ _ (HK.out _ (q116)) (fun hHeld => ?_);clear hK K
          try simp only [Act.put, za, zb, zc, zd, ze, zf]
          refine wpAnyH_ready (rs := [8]) (by kernel_rfl) (by simp) ?_;refine AllReadyH.cons (o := _) rfl (fun K hK => ?_) ?_
          ·go_simp
           refine (RDG.out w116 (q116)).mono ?_; rintro e w117 ⟨rfl, hr117, b117⟩;dsimp only;have q117 := bnext q116 b117;have HX := Lib.hid (HX.out.kept1 b117);have HRR := Lib.hid hr117;clear hr117;have HWD := Lib.hid (Nat.le_trans HWD.out b117.size);clear hHeld;refine hK.out _ _ (HK.out _ (q117)) (fun hHeld => ?_);clear hK K
           try simp only [Act.put, za, zb, zc, zd, ze, zf]
           refine wpAnyH_ready (rs := [9]) (by kernel_rfl) (by simp) ?_;refine AllReadyH.cons (o := _) rfl (fun K hK => ?_) ?_
           ·go_simp
            refine (RPN.out _ _ w117 (q117) HRR.out).mono ?_; rintro e w118 ⟨vr9, vc9, vf9, rfl, hvr118, hvc118, hvf118, b118⟩;dsimp only;have q118 := bnext q117 b118;have HX := Lib.hid (HX.out.kept1 b118);have HRR := Lib.hid (HRR.out.kept1 b118);have HVF := Lib.hid (row_down HWD.out hvf118);obtain ⟨ra9, rc9, rfl, -⟩ := shape_of hvr118;obtain ⟨ca9, cc9, rfl, -⟩ := shape_of hvc118;obtain ⟨fa9, fc9, rfl, -⟩ := shape_of hvf118;clear hvr118 hvc118 hvf118;have HWD := Lib.hid (Nat.le_trans HWD.out b118.size);clear hHeld;refine hK.out _ _ (HK.out _ (q118)) (fun hHeld => ?_);clear hK K
            try simp only [Act.put, za, zb, zc, zd, ze, zf]
            refine tk 10 _ rfl (by intro w9 hSw; clear hSw; go_simp; try with_reducible rfl) hHeld ?_
            try simp only [Act.put, za, zb, zc, zd, ze, zf]
            refine tk 11 _ rfl (by intro w9 hSw; clear hSw; go_simp; try with_reducible rfl) hHeld ?_
            try simp only [Act.put, za, zb, zc, zd, ze, zf]
            refine tk 12 _ rfl (by intro w9 hSw; clear hSw; go_simp; try with_reducible rfl) hHeld ?_
            try simp only [Act.put, za, zb, zc, zd, ze, zf]
            refine wpAnyH_ready (rs := [14]) (by kernel_rfl) (by simp) ?_;refine AllReadyH.cons (o := _) rfl (fun K hK => ?_) ?_
            ·obtain ⟨w122, hw122⟩ : ∃ w9, w118.setRow wd.heap.size #[.int .i64 0, .slice ra9 RT.length rc9, .slice ca9 CT.length cc9, .slice fa9 NS.length fc9] = w9 := ⟨_, rfl⟩
             have hB122 : Blk wd.heap.size #[.int .i64 0, .slice ra9 RT.length rc9, .slice ca9 CT.length cc9, .slice fa9 NS.length fc9] 58 w122 := by rw [← hw122]; exact setRow_blk HX.out _
             have g122 : World.grownBy w118 w122 (some wd.heap.size) := by rw [← hw122]; exact ⟨rfl, rfl, rfl, by simp, fun k hk hne => setRow_other _ _ k _ (fun e => hne (by rw [e]))⟩
             have b122 : Below wq.heap.size w118 w122 := by rw [← hw122]; exact setRow_below hq.size _
             have q122 := (q118).trans b122;have HVF := Lib.hid (row_grown HVF.out g122 fun q hq e => by cases e; exact absurd (ty_one (own_ty HVF.out hq).1 ⟨_, _, HX.out⟩) (by decide));have HW122 := Lib.hid hw122;clear hw122 g122 b122;rw [if_pos (by kernel_rfl)];refine wp_store_row 58 _ _ rfl wd.heap.size #[.int .i64 0, .slice ra9 RT.length rc9, .slice ca9 CT.length cc9, .slice fa9 NS.length fc9] rfl rfl _ _ HX.out set_sz rfl (by simp [Value.oneCell']) ?_;rw [HW122.out];have HX := Lib.hid hB122;clear hB122;clear hHeld;refine hK.out _ _ (HK.out _ (q122)) (fun hHeld => ?_);clear hK K
             try simp only [Act.put, za, zb, zc, zd, ze, zf]
             refine tk 15 _ rfl (by intro w9 hSw; clear hSw; go_simp; try with_reducible rfl) hHeld ?_
             try simp only [Act.put, za, zb, zc, zd, ze, zf]
             refine ⟨by kernel_rfl, ?_⟩;clear hHeld;have HQ := Lib.hid (q122);go_wp2;go_meet
             case rel => exact ⟨wd.heap.size, _, _, _, _, _, _, rfl, rfl, Lib.hid ⟨HX.out, HVF.out, HQ.out⟩⟩
            exact AllReadyH.nil
           exact AllReadyH.nil
          exact AllReadyH.nil
         exact AllReadyH.nil
       case rest =>
        obtain ⟨Y, ra9, rc9, ca9, cc9, fa9, fc9, rfl, rfl, HY⟩ := hcut;obtain ⟨w9, hw9⟩ : ∃ x, x = wc := ⟨_, rfl⟩;subst hw9
        have hr0 : RT.length = 0 := by rw [← HRT.out]; rfl
        have hc0 : CT.length = 0 := by rw [← HCT.out]; rfl
        rw [hr0, hc0] at HY;clear hr0 hc0 HRT HCT RPN RDG HK;obtain ⟨hy1, hy2, hy3⟩ := HY.out;have HY1 := Lib.hid hy1;have HY2 := Lib.hid hy2;have HL9 := Lib.hid (row_kept HX8.out.1 hy3);have HN9 := Lib.hid (row_kept HX8.out.2.1 hy3);have HB9 := Lib.hid (bnext (bnext HB7.out HX8.out.2.2) hy3);have SX := Lib.hid (samex_yes (fullL i) _ _ w9 (row_of_own HL9.out) (HVL.out w9 HB9.out));clear hy1 hy2 hy3 HX8 HY
        go_upto_region 23 with fail
        go_wp2_with fail
        refine SX.out.mono ?_; rintro e wa ⟨rfl, ba⟩;have HYa := Lib.hid (HY1.out.kept1 ba);have HFa := Lib.hid (row_kept HY2.out ba);have HNa := Lib.hid (row_kept HN9.out ba);have HBa := Lib.hid (bnext HB9.out ba);have x0 := HYa.out.cell 0;have x1 := HYa.out.cell 1;have x2 := HYa.out.cell 2;have x3 := HYa.out.cell 3;simp only [List.getElem?_toArray, List.getElem?_cons_zero, List.getElem?_cons_succ] at x0 x1 x2 x3;have SI := Lib.hid (lints_same _ _ NS wa (row_of_own HFa.out) (row_of_own HNa.out));clear SX ba HY1 HY2 HL9 HN9;go_wp2_with fail
        refine SI.out.mono ?_; rintro e wb ⟨rfl, bb⟩;have HBb := Lib.hid (bnext HBa.out bb);clear SI bb x0 x1 x2 x3;go_wp2_with fail
        refine (AL.out wb).mono ?_; rintro e wf ⟨rfl, bf⟩;have HBf := Lib.hid (bnext HBb.out bf);clear bf;go_wp2;go_ret;exact ⟨rfl, bnext HB.out HBf.out⟩
end Go.Proofs.YtknefoemgifbfaaGreat
