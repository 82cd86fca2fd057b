import Derived.Test.YtknefoemgifbfaaGreatPd30
import Derived.Test.YtknefoemgifbfaaGreatPd31
set_option linter.unusedVariables false
set_option linter.unusedSimpArgs false
set_option linter.constructorNameAsVariable false
set_option maxRecDepth 100000
set_option maxHeartbeats 16000000
namespace Go.Proofs.YtknefoemgifbfaaGreat
open Go.RowKit
abbrev PlS (σ : Type) : Type := σ × Int × List (Int × Int)
def placeF {σ : Type} (nx : Nx σ) : Chg (PlS σ) := fun t x => if t.2.1 = 0 ∧ x.phys = 0 then (((nx t.1).2, (askA nx t.2.2 t.1).2, t.2.2 ++ [((askA nx t.2.2 t.1).1, 1)]), ⟨x.log, (askA nx t.2.2 t.1).1, x.len⟩) else (t, x)
def PlG (T0 : List (Int × Int)) (ec : Int) (T : List (Int × Int)) : Prop := ec = 0 → ∃ bs, SeenOk bs ∧ T = T0 ++ singR bs
theorem elem_sing {bs : List Int} (h : ∀ b ∈ bs, 0 ≤ b ∧ b < 4096) {b : Int} (hb : b ∈ bs) : elemR (singR bs) b := by
 have := h b hb;exact ⟨(b, 1), List.mem_map.2 ⟨b, hb, rfl⟩, ⟨by show 0 ≤ b; omega, by show (1 : Int) ≤ 1; omega, by show b + 1 ≤ _; omega⟩, by show b ≤ b; omega, by show b < b + 1; omega⟩
theorem ask_ok {σ : Type} {nx : Nx σ} {T : List (Int × Int)} {s : σ} (h : (askA nx T s).2 = 0) : usableA (askA nx T s).1 = true ∧ ¬ elemR T (askA nx T s).1 ∧ (nx s).1 = ((askA nx T s).1, 0) := by
 unfold askA at h ⊢
 split at h
 ·rename_i h0
  rw [if_pos h0]
  split at h
  ·rename_i h1
   rw [if_pos h1];exact ⟨h1.1, h1.2, Prod.ext rfl h0⟩
  ·cases h
 ·rename_i h0
  exact absurd h h0
theorem plg_next {σ : Type} {nx : Nx σ} {T0 T : List (Int × Int)} {s : σ} (h : PlG T0 0 T) : PlG T0 (askA nx T s).2 (T ++ [((askA nx T s).1, 1)]) := by
 intro h0;obtain ⟨bs, h1, rfl⟩ := h rfl;obtain ⟨k1, k2, -⟩ := ask_ok h0;generalize (askA nx (T0 ++ singR bs) s).1 = b at *;unfold usableA at k1;simp only [Bool.and_eq_true, decide_eq_true_eq] at k1;have hb : b ∉ bs := fun hb => k2 ((elemR_append _ _ _).2 (.inr (elem_sing h1.2 hb)));refine ⟨bs ++ [b], ⟨?_, fun c hc => ?_⟩, ?_⟩
 ·refine List.nodup_append.2 ⟨h1.1, by simp, fun x hx y hy e => ?_⟩
  rw [List.mem_singleton] at hy;subst hy e;exact hb hx
 ·rcases List.mem_append.1 hc with hc | hc
  ·exact h1.2 c hc
  ·rw [List.mem_singleton] at hc; subst hc; omega
 ·unfold singR; rw [List.map_append, List.append_assoc]; rfl
theorem plg_fit {T0 T : List (Int × Int)} (h : PlG T0 0 T) (hf : fitR T0) (hl : T0.length ≤ 1000000) : fitR T ∧ T.length ≤ 2000000 := by
 obtain ⟨bs, h1, rfl⟩ := h rfl;refine ⟨fun r hr => ?_, ?_⟩
 ·rcases List.mem_append.1 hr with hr | hr
  ·exact hf r hr
  ·obtain ⟨b, hb, rfl⟩ := List.mem_map.1 hr
   have := h1.2 b hb;exact ⟨⟨by show _ ≤ b; omega, by show b ≤ _; omega⟩, ⟨by show _ ≤ (1 : Int); omega, by show (1 : Int) ≤ _; omega⟩⟩
 ·rw [List.length_append, singR_len]
  have := h1.len;omega
structure PlI {σ : Type} (go : σ → Prop) (I : σ → World → Prop) (T0 : List (Int × Int)) (fv : Value) (B X : Nat) (t : PlS σ) (W : World) : Prop where
 inv : I t.1 W
 fr : Blk X #[fv] 129 W
 tk : ∃ v, Blk (X + 1) #[v] 126 W ∧ RunsAt B v t.2.2 W
 er : Blk (X + 2) #[.int .i64 t.2.1] 24 W
 gd : PlG T0 t.2.1 t.2.2
 gs : t.2.1 = 0 → go t.1
theorem PlI.same {σ : Type} {nx : Nx σ} {go : σ → Prop} {I : σ → World → Prop} {T0 : List (Int × Int)} {fv : Value} {C B X : Nat} (hF : Freshes nx fv go I C B) (hX : B ≤ X) {t : PlS σ} {w w' : World} (h : PlI go I T0 fv B X t w) (hw : B ≤ w.heap.size) (hos : Below B w w') (hb : ∀ k, k < X + 3 → w'.heap[k]? = w.heap[k]?) (hr : ∀ k, TyAt k 136 w → w'.heap[k]? = w.heap[k]?) : PlI go I T0 fv B X t w' := by
 obtain ⟨v, h1, h2⟩ := h.tk;exact ⟨hF.keep _ _ _ hw h.inv hos, (hb _ (by omega)).trans h.fr, ⟨v, (hb _ (by omega)).trans h1, own_eq h2 fun q hq => hr q (own_ty h2 hq).1⟩, (hb _ (by omega)).trans h.er, h.gd, h.gs⟩
theorem run_tree : ¬ isTree 136 := by unfold isTree; decide
theorem PlI.leaves {σ : Type} {nx : Nx σ} {go : σ → Prop} {I : σ → World → Prop} {T0 : List (Int × Int)} {fv : Value} {C B X Y : Nat} (hF : Freshes nx fv go I C B) (hX : B ≤ X) (hY : X + 3 ≤ Y) {t : PlS σ} {w w' : World} (h : PlI go I T0 fv B X t w) (hw : Y ≤ w.heap.size) (L : Leaves isTree Y w w') : PlI go I T0 fv B X t w' := by
 have hb : ∀ k, k < Y → w'.heap[k]? = w.heap[k]? := fun k hk => (L.block k (by omega)).elim id fun q => by omega
 refine h.same hF hX (by omega) ⟨L.os, L.tape, L.output, L.size, fun k hk => hb k (by omega)⟩ (fun k hk => hb k (by omega)) fun k hk => ?_;obtain ⟨c, q, e⟩ := id hk;rcases L.block k (lt_of_block e) with h1 | ⟨_, t1, h1, h2⟩
 ·exact h1
 ·exact absurd ((ty_one hk h2) ▸ h1) run_tree
theorem PlI.kept1 {σ : Type} {nx : Nx σ} {go : σ → Prop} {I : σ → World → Prop} {T0 : List (Int × Int)} {fv : Value} {C B X : Nat} (hF : Freshes nx fv go I C B) (hX : B ≤ X) {t : PlS σ} {w w' : World} (h : PlI go I T0 fv B X t w) (hw : X + 3 ≤ w.heap.size) (b : Below w.heap.size w w') : PlI go I T0 fv B X t w' :=
 h.leaves hF hX (Nat.le_refl _) hw (Leaves.of_below b)
abbrev isEnt (t : TypeId) : Prop := t = 31
theorem ent_tree : ∀ t, isEnt t → isTree t := fun t h => .inl h
theorem three_set {N lo : Nat} (hl : lo ≤ N) {w : World} (h : TyAt N 31 w) (a b c : Value) : Turns isEnt lo w (((w.setCell ⟨N, 0, none⟩ a).setCell ⟨N, 1, none⟩ b).setCell ⟨N, 2, none⟩ c) :=
 ((Turns.set (p := isEnt) (i := 0) rfl hl h a).trans (Turns.set (p := isEnt) (i := 1) rfl hl (h.set _ _) b)).trans (Turns.set (p := isEnt) (i := 2) rfl hl ((h.set _ _).set _ _) c)
theorem Turns.tree {lo : Nat} {w w' : World} (h : Turns isEnt lo w w') : Leaves isTree lo w w' := (h.mono ent_tree (Nat.le_refl _)).leaves
theorem noTree_runs : noTree 126 := by unfold noTree; decide
theorem noTree_errno : noTree 24 := by unfold noTree; decide
theorem snoc_ind {α : Type} {P : List α → Prop} (nil : P []) (snoc : ∀ l x, P l → P (l ++ [x])) (l : List α) : P l := by
 have h : ∀ m : List α, P m.reverse := fun m => by
  induction m with
  | nil => exact nil
  | cons x m ih => rw [List.reverse_cons]; exact snoc _ x ih
 have := h l.reverse;rwa [List.reverse_reverse] at this
theorem accL_app {σ α β : Type} (f : σ → α → σ × β) (s : σ) (a b : List α) : accL f s (a ++ b) = ((accL f (accL f s a).1 b).1, (accL f s a).2 ++ (accL f (accL f s a).1 b).2) := by
 induction b using snoc_ind with
 | nil => rw [List.append_nil, accL_nil, List.append_nil]
 | snoc b x ih => rw [← List.append_assoc, accL_snoc, ih, accL_snoc]; simp only [List.append_assoc]
theorem accL_flat {σ α β : Type} (f : σ → α → σ × β) (s : σ) (L : List (List α)) : (accL (accL f) s L).1 = (accL f s L.flatten).1 ∧ (accL (accL f) s L).2.flatten = (accL f s L.flatten).2 := by
 induction L using snoc_ind with
 | nil => exact ⟨rfl, rfl⟩
 | snoc L x ih =>
   obtain ⟨h1, h2⟩ := ih;rw [accL_snoc, List.flatten_append, List.flatten_append, h2, h1];simp only [List.flatten_cons, List.flatten_nil, List.append_nil];rw [accL_app];exact ⟨rfl, rfl⟩
theorem chgS_flat {σ : Type} (f : Chg σ) (s : σ) (S : Shp) : (chgS f s S).1 = (accL f s S.flatten.flatten).1 ∧ (chgS f s S).2.flatten.flatten = (accL f s S.flatten.flatten).2 := by
 obtain ⟨h1, h2⟩ := accL_flat (accL f) s S;obtain ⟨k1, k2⟩ := accL_flat f s S.flatten;refine ⟨?_, ?_⟩
 ·show (accL (accL (accL f)) s S).1 = _
  rw [h1, k1]
 ·show (accL (accL (accL f)) s S).2.flatten.flatten = _
  rw [h2, k2]
theorem place_perm {σ : Type} (nx : Nx σ) (T0 : List (Int × Int)) (s0 : σ) (es : List Ent) :
 (accL (placeF nx) (s0, 0, T0) es).1.2.1 = 0 → ∃ bs, SeenOk bs ∧ (∀ b ∈ bs, usableA b = true) ∧ (accL (placeF nx) (s0, 0, T0) es).1.2.2 = T0 ++ singR bs ∧ (∀ b ∈ bs, ¬ elemR T0 b) ∧ ((accL (placeF nx) (s0, 0, T0) es).2.map Ent.phys).Perm (physT es ++ bs) ∧ (accL (placeF nx) (s0, 0, T0) es).2.map (fun e => (e.log, e.len)) = es.map (fun e => (e.log, e.len)) := by
 induction es using snoc_ind with
 | nil => intro _; exact ⟨[], ⟨List.nodup_nil, fun b hb => (List.not_mem_nil hb).elim⟩, fun b hb => (List.not_mem_nil hb).elim, by simp [accL_nil, singR], fun b hb => (List.not_mem_nil hb).elim, by simp [accL_nil, physT], by simp [accL_nil]⟩
 | snoc es x ih =>
   rw [accL_snoc];generalize accL (placeF nx) (s0, 0, T0) es = R at *;obtain ⟨⟨s, ec, T⟩, out⟩ := R;dsimp only at ih ⊢;unfold placeF;dsimp only;by_cases hc : ec = 0 ∧ x.phys = 0
   ·rw [if_pos hc]
    dsimp only;intro h0;obtain ⟨bs, g1, gu, g2, g3, g4, g5⟩ := ih hc.1;subst g2;obtain ⟨k1, k2, -⟩ := ask_ok h0;generalize (askA nx (T0 ++ singR bs) s).1 = b at *;have hu := k1;unfold usableA at k1;simp only [Bool.and_eq_true, decide_eq_true_eq] at k1;have hb : b ∉ bs := fun hb => k2 ((elemR_append _ _ _).2 (.inr (elem_sing g1.2 hb)));refine ⟨bs ++ [b], ⟨?_, fun c hc => ?_⟩, fun c hc => ?_, ?_, fun c hc => ?_, ?_, ?_⟩
    ·refine List.nodup_append.2 ⟨g1.1, by simp, fun x hx y hy e => ?_⟩
     rw [List.mem_singleton] at hy;subst hy e;exact hb hx
    ·rcases List.mem_append.1 hc with hc | hc
     ·exact g1.2 c hc
     ·rw [List.mem_singleton] at hc; subst hc; omega
    ·rcases List.mem_append.1 hc with hc | hc
     ·exact gu c hc
     ·rw [List.mem_singleton] at hc; subst hc; exact hu
    ·unfold singR; rw [List.map_append, List.append_assoc]; rfl
    ·rcases List.mem_append.1 hc with hc | hc
     ·exact g3 c hc
     ·rw [List.mem_singleton] at hc; subst hc; exact fun h => k2 ((elemR_append _ _ _).2 (.inl h))
    ·rw [List.map_append, physT_append]
     have e : physT [x] = [] := by unfold physT; simp [hc.2]
     rw [e, List.append_nil, ← List.append_assoc];exact List.Perm.append g4 (List.Perm.refl _)
    ·rw [List.map_append, List.map_append, g5]; rfl
   ·rw [if_neg hc]
    dsimp only;intro h0;obtain ⟨bs, g1, gu, g2, g3, g4, g5⟩ := ih h0;have hp : x.phys ≠ 0 := fun e => hc ⟨h0, e⟩;refine ⟨bs, g1, gu, g2, g3, ?_, by rw [List.map_append, List.map_append, g5]⟩;rw [List.map_append, physT_append]
    have e : physT [x] = [x.phys] := by unfold physT; simp [hp]
    rw [e];refine (List.Perm.append g4 (List.Perm.refl _)).trans ?_;rw [List.append_assoc, List.append_assoc];exact List.Perm.append (List.Perm.refl _) List.perm_append_comm
theorem chgN_lens {σ : Type} (f : Chg σ) (s : σ) (L : List (List Ent)) : (chgN f s L).2.map List.length = L.map List.length := by
 induction L using snoc_ind with
 | nil => rfl
 | snoc L x ih =>
   show (accL (accL f) s (L ++ [x])).2.map _ = _
   rw [accL_snoc, List.map_append, List.map_append];have : (accL (accL f) s L).2.map List.length = L.map List.length := ih;rw [this]
   simp [accL_len]
theorem chgS_lens {σ : Type} (f : Chg σ) (s : σ) (S : Shp) : (chgS f s S).2.map (fun R => R.map List.length) = S.map (fun R => R.map List.length) := by
 induction S using snoc_ind with
 | nil => rfl
 | snoc S x ih =>
   show (accL (chgN f) s (S ++ [x])).2.map _ = _
   rw [accL_snoc, List.map_append, List.map_append];have : (accL (chgN f) s S).2.map (fun R => R.map List.length) = S.map (fun R => R.map List.length) := ih;rw [this];simp only [List.map_cons, List.map_nil];rw [chgN_lens]
theorem chg_row {σ : Type} (f : Chg σ) (s : σ) (S : Shp) (r : Nat) : (rowA (chgS f s S).2 r).map List.length = (rowA S r).map List.length := by
 have h := congrArg (fun l : List (List Nat) => (l[r]?).getD []) (chgS_lens f s S);simp only [List.getElem?_map] at h;unfold rowA
 cases h1 : (chgS f s S).2[r]? <;> cases h2 : S[r]? <;> simp_all
theorem chg_row_len {σ : Type} (f : Chg σ) (s : σ) (S : Shp) (r : Nat) : (rowA (chgS f s S).2 r).length = (rowA S r).length ∧ (rowA (chgS f s S).2 r).flatten.length = (rowA S r).flatten.length := by
 have h := chg_row f s S r;refine ⟨by have := congrArg List.length h; simpa using this, ?_⟩;rw [List.length_flatten, List.length_flatten, h]
theorem chg_small {σ : Type} (f : Chg σ) (s : σ) {S : Shp} (h : SmallS S) : SmallS (chgS f s S).2 := by
 refine ⟨by rw [chgS_len]; exact h.1, fun r => ?_⟩;obtain ⟨h1, h2⟩ := chg_row_len f s S r;rw [h1, h2]; exact h.2 r
theorem place_full {σ : Type} (nx : Nx σ) (t : PlS σ) (l : List Ent) : (∀ e ∈ l, e.phys ≠ 0) → accL (placeF nx) t l = (t, l) := by
 induction l using snoc_ind with
 | nil => intro _; rfl
 | snoc l x ih =>
   intro h;rw [accL_snoc, ih fun e he => h e (List.mem_append_left _ he)];unfold placeF;dsimp only;rw [if_neg fun hc => h x (List.mem_append_right _ (List.mem_singleton.2 rfl)) hc.2]
theorem place_nums {σ : Type} (nx : Nx σ) (T0 : List (Int × Int)) (s0 : σ) (N : Shp) (n : Nat) (hn : N.length = n + 1) (hl : ∀ e ∈ listA N, e.phys ≠ 0) (h0 : (chgS (placeF nx) (s0, 0, T0) N).1.2.1 = 0) :
 listA (chgS (placeF nx) (s0, 0, T0) N).2 = listA N ∧ ∃ bs, SeenOk bs ∧ (∀ b ∈ bs, usableA b = true) ∧ (chgS (placeF nx) (s0, 0, T0) N).1.2.2 = T0 ++ singR bs ∧ (∀ b ∈ bs, ¬ elemR T0 b) ∧ (numsA (chgS (placeF nx) (s0, 0, T0) N).2).Perm (((numsA N).filter fun b => decide (b ≠ 0)) ++ bs) := by
 obtain ⟨c1, c2⟩ := chgS_flat (placeF nx) (s0, 0, T0) N;have e1 := all_ents N n hn
 have hpl : (chgS (placeF nx) (s0, 0, T0) N).2.length = n + 1 := by rw [chgS_len]; exact hn
 have e2 := all_ents _ n hpl;rw [e1, accL_app, place_full nx _ _ hl] at c1 c2;dsimp only at c1 c2;rw [e2] at c2;have hll : (listA (chgS (placeF nx) (s0, 0, T0) N).2).length = (listA N).length := (chg_row_len (placeF nx) (s0, 0, T0) N 0).2;obtain ⟨d1, d2⟩ := List.append_inj c2 hll;rw [c1] at h0;obtain ⟨bs, g1, gu, g2, g3, g4, g5⟩ := place_perm nx T0 s0 _ h0;refine ⟨d1, bs, g1, gu, by rw [c1]; exact g2, g3, ?_⟩;rw [← heads_nums _ n hpl, d2, ← heads_nums N n hn];exact g4
open Go.RowKit
theorem place1_any {σ : Type} (nx : Nx σ) (fv : Value) (go : σ → Prop) (I : σ → World → Prop) (C B : Nat) (hF : Freshes nx fv go I C B) (hC : C ≤ B) (T0 : List (Int × Int)) (hT0 : fitR T0) (hl0 : T0.length ≤ 1000000) (X : Nat) (hX : B ≤ X) (t : PlS σ) (x : Ent) (W : World) (hW : X + 3 ≤ W.heap.size) (h : PlI go I T0 fv B X t W) :
 Calls Tryz.prog 103 #[entV x, .pointer (some ⟨X + 2, 0, none⟩), .pointer (some ⟨X, 0, none⟩), .pointer (some ⟨X + 1, 0, none⟩)] W fun e W' => e = .returned (entV (placeF nx t x).2) ∧ PlI go I T0 fv B X (placeF nx t x).1 W' ∧ Turns noTree C W W' := by
 have mixed : Tryz.prog.follows .mixedOrders = true := by kernel_rfl
 obtain ⟨xa, xp, xz⟩ := x;obtain ⟨s, ec, T⟩ := t;have hb1 := balloc1 W (.cells #[.int .i64 xa, .int .i64 xp, .int .i64 xz] 31);have hb2 := bnext hb1 (balloc1 _ (.cells #[.int .i64 0, .int .i64 0, .int .i64 0] 31));have HX : Hid (Blk W.heap.size #[.int .i64 xa, .int .i64 xp, .int .i64 xz] 31 ((W.alloc (.cells #[.int .i64 xa, .int .i64 xp, .int .i64 xz] 31)).alloc (.cells #[.int .i64 0, .int .i64 0, .int .i64 0] 31))) := Lib.hid ((Blk.new _ _ _).kept1 (balloc1 _ _));have HR : Hid (Blk (W.heap.size + 1) #[.int .i64 0, .int .i64 0, .int .i64 0] 31 ((W.alloc (.cells #[.int .i64 xa, .int .i64 xp, .int .i64 xz] 31)).alloc (.cells #[.int .i64 0, .int .i64 0, .int .i64 0] 31))) := Lib.hid (by have := Blk.new #[.int .i64 0, .int .i64 0, .int .i64 0] 31 (W.alloc (.cells #[.int .i64 xa, .int .i64 xp, .int .i64 xz] 31)); rw [size_alloc] at this; exact this);have hp3 := h.kept1 hF hX hW hb2;have hs3 := hb2.size
 have HLAST : Hid (∀ (t : PlS σ) (w7 : World) (u1 u2 u3 : Value), PlI go I T0 fv B X t w7 → Blk (W.heap.size + 1) #[.int .i64 0, .int .i64 0, .int .i64 0] 31 w7 → Turns noTree C W w7 → PlI go I T0 fv B X t (((w7.setCell ⟨W.heap.size + 1, 0, none⟩ u1).setCell ⟨W.heap.size + 1, 1, none⟩ u2).setCell ⟨W.heap.size + 1, 2, none⟩ u3) ∧ Turns noTree C W (((w7.setCell ⟨W.heap.size + 1, 0, none⟩ u1).setCell ⟨W.heap.size + 1, 1, none⟩ u2).setCell ⟨W.heap.size + 1, 2, none⟩ u3)) := Lib.hid fun t w7 u1 u2 u3 k1 k2 k3 => by
  have g := three_set (N := W.heap.size + 1) (lo := W.heap.size) (Nat.le_succ _) ⟨_, _, k2⟩ u1 u2 u3;exact ⟨k1.leaves hF hX hW k3.size (Turns.tree g), k3.behind g (Nat.le_refl _)⟩
 have HF := Lib.hid hF;generalize hw2 : (W.alloc (.cells #[.int .i64 xa, .int .i64 xp, .int .i64 xz] 31)).alloc (.cells #[.int .i64 0, .int .i64 0, .int .i64 0] 31) = w3 at *;have HB2 := Lib.hid hb2;have HP3 := Lib.hid hp3;obtain ⟨vt, ht1, ht2⟩ := hp3.tk;have HVT := Lib.hid ht2;have HTB := Lib.hid ht1;have f0 := hp3.fr.cell 0;have t0 := ht1.cell 0;have e0 := hp3.er.cell 0;have HEB := Lib.hid hp3.er;have HFB := Lib.hid hp3.fr;have x0 := HX.out.cell 0;have x1 := HX.out.cell 1;have x2 := HX.out.cell 2;simp only [List.getElem?_toArray, List.getElem?_cons_zero, List.getElem?_cons_succ] at x0 x1 x2 f0 t0 e0;have HGD := Lib.hid h.gd;have h0gs := h.gs;clear hp3 ht1 ht2 hb1 hb2 h;by_cases hc : ec = 0 ∧ xp = 0
 ·obtain ⟨rfl, rfl⟩ := hc
  obtain ⟨hfT, hlT⟩ := plg_fit HGD.out hT0 hl0;have HFX : Hid (placeF nx (s, 0, T) ⟨xa, 0, xz⟩ = (((nx s).2, (askA nx T s).2, T ++ [((askA nx T s).1, 1)]), ⟨xa, (askA nx T s).1, xz⟩)) := Lib.hid (by unfold placeF; rw [if_pos ⟨rfl, rfl⟩]);have HAK := Lib.hid (hF.ask T hfT s vt w3 (h0gs rfl) (by omega) HP3.out.inv HVT.out);have HG2 := Lib.hid (plg_next (nx := nx) (s := s) HGD.out);have hgn : (askA nx T s).2 = 0 → go (nx s).2 := fun h0 => hF.next s (h0gs rfl) (by rw [(ask_ok h0).2.2]);obtain ⟨va, vc, rfl, -, vc2, -⟩ := shape_of HVT.out;have vc2 : vc ≤ 9223372036854775807 := vc2;obtain ⟨b, hb⟩ : ∃ b, (askA nx T s).1 = b := ⟨_, rfl⟩;obtain ⟨ec2, hec⟩ : ∃ c, (askA nx T s).2 = c := ⟨_, rfl⟩;obtain ⟨s2, hs2⟩ : ∃ c, (nx s).2 = c := ⟨_, rfl⟩;rw [hb, hec, hs2] at HFX;rw [hb, hec, hs2] at HAK;rw [hb, hec] at HG2;rw [hec, hs2] at hgn;have HGN := Lib.hid hgn;have HTL := Lib.hid hlT;clear hb hec hs2 hF hT0 hfT hgn h0gs
  go_enter Tryz.func103, Tryz.ntmps103
  go_upto_region 1 with fail
  clear hw2;go_wp2_with fail
  refine HAK.out.mono ?_; rintro e w4 ⟨rfl, hi4, ht4, hf4⟩;have hs4 := ht4.size;have HI4 := Lib.hid hi4;have HT4 := Lib.hid ht4;have hX4 : Blk W.heap.size #[.int .i64 xa, .int .i64 0, .int .i64 xz] 31 w4 := (hf4 _ (by omega) HX.out.lt).trans HX.out;have hR4 : Blk (W.heap.size + 1) #[.int .i64 0, .int .i64 0, .int .i64 0] 31 w4 := (hf4 _ (by omega) HR.out.lt).trans HR.out;have hF4 : Blk X #[fv] 129 w4 := (hf4 _ (by omega) (by omega)).trans HFB.out;have hT4 : Blk (X + 1) #[.slice va T.length vc] 126 w4 := (hf4 _ (by omega) (by omega)).trans HTB.out;have hE4 : Blk (X + 2) #[.int .i64 0] 24 w4 := (hf4 _ (by omega) (by omega)).trans HEB.out;have hV4 : RunsAt B (.slice va T.length vc) T w4 := own_eq HVT.out fun q hq => hf4 q (own_ty HVT.out hq).2.2 (own_ty HVT.out hq).2.1;have xf := hX4.frozen 1;have ef := hE4.frozen 0;have x1 := hX4.cell 1;have e0 := hE4.cell 0;simp only [List.getElem?_toArray, List.getElem?_cons_zero, List.getElem?_cons_succ] at x1 e0;have TE : Turns noTree C W (w4.setCell ⟨W.heap.size, 1, none⟩ (.int .i64 b)) := ((Turns.of_below HB2.out).trans ht4).behind (Turns.set (p := isEnt) (B := W.heap.size) rfl (Nat.le_refl _) ⟨_, _, hX4⟩ (.int .i64 b)) (Nat.le_refl _);have HTT : Hid (Turns noTree C W ((w4.setCell ⟨W.heap.size, 1, none⟩ (.int .i64 b)).setCell ⟨X + 2, 0, none⟩ (.int .i64 ec2))) := Lib.hid (TE.trans (Turns.set noTree_errno (by omega) ⟨_, _, hE4.other (by show W.heap.size ≠ X + 2; omega) _⟩ _))
  have HNS : Hid (I s2 ((w4.setCell ⟨W.heap.size, 1, none⟩ (.int .i64 b)).setCell ⟨X + 2, 0, none⟩ (.int .i64 ec2)) ∧ Blk W.heap.size #[.int .i64 xa, .int .i64 b, .int .i64 xz] 31 ((w4.setCell ⟨W.heap.size, 1, none⟩ (.int .i64 b)).setCell ⟨X + 2, 0, none⟩ (.int .i64 ec2)) ∧ Blk (W.heap.size + 1) #[.int .i64 0, .int .i64 0, .int .i64 0] 31 ((w4.setCell ⟨W.heap.size, 1, none⟩ (.int .i64 b)).setCell ⟨X + 2, 0, none⟩ (.int .i64 ec2)) ∧ Blk X #[fv] 129 ((w4.setCell ⟨W.heap.size, 1, none⟩ (.int .i64 b)).setCell ⟨X + 2, 0, none⟩ (.int .i64 ec2)) ∧ Blk (X + 1) #[.slice va T.length vc] 126 ((w4.setCell ⟨W.heap.size, 1, none⟩ (.int .i64 b)).setCell ⟨X + 2, 0, none⟩ (.int .i64 ec2)) ∧ Blk (X + 2) #[.int .i64 ec2] 24 ((w4.setCell ⟨W.heap.size, 1, none⟩ (.int .i64 b)).setCell ⟨X + 2, 0, none⟩ (.int .i64 ec2)) ∧ RunsAt B (.slice va T.length vc) T ((w4.setCell ⟨W.heap.size, 1, none⟩ (.int .i64 b)).setCell ⟨X + 2, 0, none⟩ (.int .i64 ec2))) := Lib.hid (by
   have tx : Turns isEnt W.heap.size w4 (w4.setCell ⟨W.heap.size, 1, none⟩ (.int .i64 b)) := Turns.set (p := isEnt) (i := 1) rfl (Nat.le_refl _) ⟨_, _, hX4⟩ _;have te : Turns (fun t => t = 24) (X + 2) (w4.setCell ⟨W.heap.size, 1, none⟩ (.int .i64 b)) ((w4.setCell ⟨W.heap.size, 1, none⟩ (.int .i64 b)).setCell ⟨X + 2, 0, none⟩ (.int .i64 ec2)) := Turns.set (p := fun t => t = 24) (i := 0) rfl (Nat.le_refl _) ⟨_, _, hE4.other (p := ⟨W.heap.size, 1, none⟩) (by show W.heap.size ≠ X + 2; omega) (.int .i64 b)⟩ _
   refine ⟨HF.out.keep _ _ _ (by omega) hi4 (((tx.below (by omega)).mono (by omega)).trans ((te.below (by have := tx.size; omega)).mono (by omega))), ((hX4.set 1 (.int .i64 b)).other (by show X + 2 ≠ W.heap.size; omega) _), (hR4.other (by show W.heap.size ≠ W.heap.size + 1; omega) _).other (by show X + 2 ≠ W.heap.size + 1; omega) _, (hF4.other (by show W.heap.size ≠ X; omega) _).other (by show X + 2 ≠ X; omega) _, (hT4.other (by show W.heap.size ≠ X + 1; omega) _).other (by show X + 2 ≠ X + 1; omega) _, (hE4.other (by show W.heap.size ≠ X + 2; omega) _).set 0 (.int .i64 ec2), te.row (tx.row hV4 (by decide)) (by decide)⟩)
  go_upto_region 3 with fail
  clear x0 x1 x2 f0 t0 e0 xf ef hX4 hR4 hF4 hT4 hE4 hV4 TE hi4 ht4 hf4 HAK;generalize ((w4.setCell ⟨W.heap.size, 1, none⟩ (.int .i64 b)).setCell ⟨X + 2, 0, none⟩ (.int .i64 ec2)) = wq at *;have hqs := HTT.out.size
  have HK : Hid (∀ W2, Below wq.heap.size wq W2 → W2.cell? ⟨W.heap.size, 1, none⟩ = some (.int .i64 b)) := Lib.hid fun W2 hb => by have := (HNS.out.2.1.kept1 hb).cell 1; simpa using this
  have HTC : Hid (∀ W2, Below wq.heap.size wq W2 → W2.cell? ⟨X + 1, 0, none⟩ = some (.slice va T.length vc)) := Lib.hid fun W2 hb => by have := (HNS.out.2.2.2.2.1.kept1 hb).cell 0; simpa using this
  have HTR : Hid (RunsAt B (.slice va T.length vc) T wq) := Lib.hid HNS.out.2.2.2.2.2.2
  have HSG : Hid (∀ g W2, Blk g #[.int .i64 b] 3 W2 → Calls Tryz.prog 75 #[.slice (some ⟨g, 0, none⟩) 1 1] W2 fun e w' => ∃ v', e = .returned v' ∧ RunsAt W2.heap.size v' [(b, 1)] w' ∧ Below W2.heap.size W2 w') := Lib.hid fun g W2 hg =>
   singles_any [b] (by simp) _ W2 ⟨rfl, _, _, rfl, Nat.le_refl _, by unfold maxLen; omega, fun _ => ⟨g, 0, rfl, hg.lt, fun k u hk => by rw [Nat.zero_add, hg.cell k]; simpa using hk⟩, fun e => by cases e⟩
  have HPST : Hid (∀ W1 W2, Below wq.heap.size wq W1 → (∀ k, k < W1.heap.size → some k ≠ (Value.slice va T.length vc).ownBlock → W2.heap[k]? = W1.heap[k]?) → Blk W.heap.size #[.int .i64 xa, .int .i64 b, .int .i64 xz] 31 W2 ∧ Blk (W.heap.size + 1) #[.int .i64 0, .int .i64 0, .int .i64 0] 31 W2 ∧ Blk X #[fv] 129 W2 ∧ Blk (X + 1) #[.slice va T.length vc] 126 W2 ∧ Blk (X + 2) #[.int .i64 ec2] 24 W2) := Lib.hid fun W1 W2 hb ho => by
   obtain ⟨n1, n2, n3, n4, n5, n6, n7⟩ := HNS.out
   have go : ∀ {g : Nat} {cs : Array Value} {t : TypeId}, Blk g cs t wq → t ≠ 136 → Blk g cs t W2 := fun {g cs t} k hne => by
    have k1 := k.kept1 hb;refine (ho g k1.lt fun e => hne ?_).trans k1;exact ty_one ⟨_, _, k⟩ (own_ty n7 e.symm).1
   exact ⟨go n2 (by decide), go n3 (by decide), go n4 (by decide), go n5 (by decide), go n6 (by decide)⟩
  have HEND : Hid (∀ W1 w8 v8, Below wq.heap.size wq W1 → RunsAt B v8 (T ++ [(b, 1)]) w8 → Turns noTree B W1 w8 → (Blk W.heap.size #[.int .i64 xa, .int .i64 b, .int .i64 xz] 31 w8 ∧ Blk (W.heap.size + 1) #[.int .i64 0, .int .i64 0, .int .i64 0] 31 w8 ∧ Blk X #[fv] 129 w8 ∧ Blk (X + 1) #[.slice va T.length vc] 126 w8 ∧ Blk (X + 2) #[.int .i64 ec2] 24 w8) → PlI go I T0 fv B X (s2, ec2, T ++ [(b, 1)]) (w8.setCell ⟨X + 1, 0, none⟩ v8) ∧ Blk W.heap.size #[.int .i64 xa, .int .i64 b, .int .i64 xz] 31 (w8.setCell ⟨X + 1, 0, none⟩ v8) ∧ Blk (W.heap.size + 1) #[.int .i64 0, .int .i64 0, .int .i64 0] 31 (w8.setCell ⟨X + 1, 0, none⟩ v8) ∧ Turns noTree C W (w8.setCell ⟨X + 1, 0, none⟩ v8)) := Lib.hid fun W1 w8 v8 hb h8 hn hp => by
   obtain ⟨p1, p2, p3, p4, p5⟩ := hp;have g1 : Turns (fun t => t = 126) (X + 1) w8 (w8.setCell ⟨X + 1, 0, none⟩ v8) := Turns.set (p := fun t => t = 126) (i := 0) rfl (Nat.le_refl _) ⟨_, _, p4⟩ _;have hs1 := hb.size;have hs8 := hn.size
   have hqB : B ≤ wq.heap.size := by omega
   have bB : Below B wq (w8.setCell ⟨X + 1, 0, none⟩ v8) := ((hb.mono hqB).trans (hn.below (by omega))).trans ((g1.below (by omega)).mono (by omega));refine ⟨⟨HF.out.keep _ _ _ hqB HNS.out.1 bB, p3.other (by show X + 1 ≠ X; omega) _, ⟨v8, p4.set 0 v8, g1.row h8 (by decide)⟩, p5.other (by show X + 1 ≠ X + 2; omega) _, HG2.out, HGN.out⟩, p1.other (by show X + 1 ≠ W.heap.size; omega) _, p2.other (by show X + 1 ≠ W.heap.size + 1; omega) _, ?_⟩;exact ((HTT.out.trans (Turns.of_below hb)).trans (hn.mono (fun _ h => h) hC)).trans (g1.mono (fun t h => h ▸ noTree_runs) (by omega))
  have hq : Below wq.heap.size wq wq.drew := (Below.refl _ _).drew;refine wp_region_held_drew (S := fun w9 => w9.cell? ⟨W.heap.size, 1, none⟩ = some (.int .i64 b)) mixed (HK.out _ hq) (fun hHeld => ?_);generalize wq.drew = wd at *;refine tk 1 _ rfl (by intro w9 hSw; clear hSw; go_simp; try with_reducible rfl) hHeld ?_
  try simp only [Act.put, za, zb, zc, zd, ze, zf]
  refine tk 2 _ rfl (by intro w9 hSw; have e9 := hSw; go_simp; try with_reducible rfl) hHeld ?_
  try simp only [Act.put, za, zb, zc, zd, ze, zf]
  refine wpAnyH_ready (rs := [0, 3]) (by kernel_rfl) (by simp) ?_;refine AllReadyH.cons (o := _) rfl (fun K hK => ?_) ?_
  ·have cr := HTC.out _ (hq)
   go_simp;clear cr;clear hHeld;refine hK.out _ _ (HK.out _ (hq)) (fun hHeld => ?_);clear hK K
   try simp only [Act.put, za, zb, zc, zd, ze, zf]
   refine wpAnyH_ready (rs := [3]) (by kernel_rfl) (by simp) ?_;refine AllReadyH.cons (o := _) rfl (fun K hK => ?_) ?_
   ·obtain ⟨w4, hw4⟩ : ∃ w9, wd.alloc (.cells #[.int .i64 b] 3) = w9 := ⟨_, rfl⟩
    have b4 : Below wd.heap.size wd w4 := by rw [← hw4]; exact balloc1 _ _
    have q4 := bnext hq b4
    have hz4 : w4.heap.size = wd.heap.size + 1 := by rw [← hw4]; exact size_alloc _ _
    have hB4 : Blk wd.heap.size #[.int .i64 b] 3 w4 := by rw [← hw4]; exact Blk.new _ _ _
    have HBI := Lib.hid hB4;have HZ4 := Lib.hid hz4;have HW4 := Lib.hid hw4;clear hB4 hz4 hw4;go_simp
    try rw [HW4.out]
    clear hHeld;refine hK.out _ _ (HK.out _ (q4)) (fun hHeld => ?_);clear hK K
    try simp only [Act.put, za, zb, zc, zd, ze, zf]
    refine wpAnyH_ready (rs := [4]) (by kernel_rfl) (by simp) ?_;refine AllReadyH.cons (o := _) rfl (fun K hK => ?_) ?_
    ·go_simp
     refine (HSG.out _ w4 HBI.out).mono ?_; rintro e w5 ⟨u5, rfl, hu5, b5⟩;dsimp only;have q5 := bnext q4 b5;have HBI := Lib.hid (HBI.out.kept1 b5);have HUR := Lib.hid hu5;clear hu5;clear hHeld;refine hK.out _ _ (HK.out _ (q5)) (fun hHeld => ?_);clear hK K
     try simp only [Act.put, za, zb, zc, zd, ze, zf]
     refine wpAnyH_ready (rs := [5]) (by kernel_rfl) (by simp) ?_;refine AllReadyH.cons (o := _) rfl (fun K hK => ?_) ?_
     ·obtain ⟨v8, w8, ⟨va8, vn8, vc8, rfl⟩, hr8, hT8, hB8, hN8, hO8⟩ := appR_run _ B _ _ _ T b 1 (row_kept HTR.out (q5)) HUR.out (by have := HTL.out; omega) (by have := (q5).size; omega)
      have HPP := Lib.hid (HPST.out _ _ (q5) hO8);have HQQ := Lib.hid (q5);have HAPP := Lib.hid hT8;have HNN := Lib.hid hN8;have HBB := Lib.hid hB8;have HRR := Lib.hid hr8;clear hT8 hN8 hB8 hO8 hr8;refine step_append rfl _ _ _ rfl rfl rfl HRR.out ?_
      try go_simp
      clear hHeld;refine hK.out _ _ (by have := HPP.out.1.cell 1; simpa using this) (fun hHeld => ?_);clear hK K
      try simp only [Act.put, za, zb, zc, zd, ze, zf]
      refine wpAnyH_ready (rs := [6]) (by kernel_rfl) (by simp) ?_;refine AllReadyH.cons (o := _) rfl (fun K hK => ?_) ?_
      ·have cr := HPP.out.2.2.2.1.cell 0
       have fr := HPP.out.2.2.2.1.frozen 0;simp only [List.getElem?_toArray, List.getElem?_cons_zero, List.getElem?_cons_succ] at cr;go_simp;clear cr fr;clear hHeld;refine hK.out _ _ (by have := (HPP.out.1.other (p := ⟨X + 1, 0, none⟩) (by show X + 1 ≠ W.heap.size; omega) (.slice va8 vn8 vc8)).cell 1; simpa using this) (fun hHeld => ?_);clear hK K
       try simp only [Act.put, za, zb, zc, zd, ze, zf]
       refine ⟨by kernel_rfl, ?_⟩;clear hHeld;have HP7 := Lib.hid (HEND.out _ _ _ HQQ.out HAPP.out HNN.out HPP.out);clear HEND HPP HQQ HAPP HNN HBB HRR HPST;generalize w8.setCell ⟨X + 1, 0, none⟩ (.slice va8 vn8 vc8) = w7 at *;have x0 := HP7.out.2.1.cell 0;have x1 := HP7.out.2.1.cell 1;have x2 := HP7.out.2.1.cell 2;have r0 := HP7.out.2.2.1.cell 0;have r1 := HP7.out.2.2.1.cell 1;have r2 := HP7.out.2.2.1.cell 2;have rf0 := HP7.out.2.2.1.frozen 0;have rf1 := HP7.out.2.2.1.frozen 1;have rf2 := HP7.out.2.2.1.frozen 2;simp only [List.getElem?_toArray, List.getElem?_cons_zero, List.getElem?_cons_succ] at x0 x1 x2 r0 r1 r2;go_wp2
       (try simp only [Exit.inBlock, Exit.then])
       refine bodyPost_ret (v := entV ⟨xa, b, xz⟩) ?_ rfl ⟨by rw [HFX.out], by rw [HFX.out]; exact HLAST.out _ _ _ _ _ HP7.out.1 HP7.out.2.2.1 HP7.out.2.2.2⟩;rw [results_one_cell rfl];go_simp
      exact AllReadyH.nil
     exact AllReadyH.nil
    exact AllReadyH.nil
   exact AllReadyH.nil
  refine AllReadyH.cons (o := _) rfl (fun K hK => ?_) ?_
  ·obtain ⟨w8, hw8⟩ : ∃ w9, wd.alloc (.cells #[.int .i64 b] 3) = w9 := ⟨_, rfl⟩
   have b8 : Below wd.heap.size wd w8 := by rw [← hw8]; exact balloc1 _ _
   have q8 := bnext hq b8
   have hz8 : w8.heap.size = wd.heap.size + 1 := by rw [← hw8]; exact size_alloc _ _
   have hB8 : Blk wd.heap.size #[.int .i64 b] 3 w8 := by rw [← hw8]; exact Blk.new _ _ _
   have HBI := Lib.hid hB8;have HZ8 := Lib.hid hz8;have HW8 := Lib.hid hw8;clear hB8 hz8 hw8;go_simp
   try rw [HW8.out]
   clear hHeld;refine hK.out _ _ (HK.out _ (q8)) (fun hHeld => ?_);clear hK K
   try simp only [Act.put, za, zb, zc, zd, ze, zf]
   refine wpAnyH_ready (rs := [0, 4]) (by kernel_rfl) (by simp) ?_;refine AllReadyH.cons (o := _) rfl (fun K hK => ?_) ?_
   ·have cr := HTC.out _ (q8)
    go_simp;clear cr;clear hHeld;refine hK.out _ _ (HK.out _ (q8)) (fun hHeld => ?_);clear hK K
    try simp only [Act.put, za, zb, zc, zd, ze, zf]
    refine wpAnyH_ready (rs := [4]) (by kernel_rfl) (by simp) ?_;refine AllReadyH.cons (o := _) rfl (fun K hK => ?_) ?_
    ·go_simp
     refine (HSG.out _ w8 HBI.out).mono ?_; rintro e w10 ⟨u10, rfl, hu10, b10⟩;dsimp only;have q10 := bnext q8 b10;have HBI := Lib.hid (HBI.out.kept1 b10);have HUR := Lib.hid hu10;clear hu10;clear hHeld;refine hK.out _ _ (HK.out _ (q10)) (fun hHeld => ?_);clear hK K
     try simp only [Act.put, za, zb, zc, zd, ze, zf]
     refine wpAnyH_ready (rs := [5]) (by kernel_rfl) (by simp) ?_;refine AllReadyH.cons (o := _) rfl (fun K hK => ?_) ?_
     ·obtain ⟨v8, w8, ⟨va8, vn8, vc8, rfl⟩, hr8, hT8, hB8, hN8, hO8⟩ := appR_run _ B _ _ _ T b 1 (row_kept HTR.out (q10)) HUR.out (by have := HTL.out; omega) (by have := (q10).size; omega)
      have HPP := Lib.hid (HPST.out _ _ (q10) hO8);have HQQ := Lib.hid (q10);have HAPP := Lib.hid hT8;have HNN := Lib.hid hN8;have HBB := Lib.hid hB8;have HRR := Lib.hid hr8;clear hT8 hN8 hB8 hO8 hr8;refine step_append rfl _ _ _ rfl rfl rfl HRR.out ?_
      try go_simp
      clear hHeld;refine hK.out _ _ (by have := HPP.out.1.cell 1; simpa using this) (fun hHeld => ?_);clear hK K
      try simp only [Act.put, za, zb, zc, zd, ze, zf]
      refine wpAnyH_ready (rs := [6]) (by kernel_rfl) (by simp) ?_;refine AllReadyH.cons (o := _) rfl (fun K hK => ?_) ?_
      ·have cr := HPP.out.2.2.2.1.cell 0
       have fr := HPP.out.2.2.2.1.frozen 0;simp only [List.getElem?_toArray, List.getElem?_cons_zero, List.getElem?_cons_succ] at cr;go_simp;clear cr fr;clear hHeld;refine hK.out _ _ (by have := (HPP.out.1.other (p := ⟨X + 1, 0, none⟩) (by show X + 1 ≠ W.heap.size; omega) (.slice va8 vn8 vc8)).cell 1; simpa using this) (fun hHeld => ?_);clear hK K
       try simp only [Act.put, za, zb, zc, zd, ze, zf]
       refine ⟨by kernel_rfl, ?_⟩;clear hHeld;have HP7 := Lib.hid (HEND.out _ _ _ HQQ.out HAPP.out HNN.out HPP.out);clear HEND HPP HQQ HAPP HNN HBB HRR HPST;generalize w8.setCell ⟨X + 1, 0, none⟩ (.slice va8 vn8 vc8) = w7 at *;have x0 := HP7.out.2.1.cell 0;have x1 := HP7.out.2.1.cell 1;have x2 := HP7.out.2.1.cell 2;have r0 := HP7.out.2.2.1.cell 0;have r1 := HP7.out.2.2.1.cell 1;have r2 := HP7.out.2.2.1.cell 2;have rf0 := HP7.out.2.2.1.frozen 0;have rf1 := HP7.out.2.2.1.frozen 1;have rf2 := HP7.out.2.2.1.frozen 2;simp only [List.getElem?_toArray, List.getElem?_cons_zero, List.getElem?_cons_succ] at x0 x1 x2 r0 r1 r2;go_wp2
       (try simp only [Exit.inBlock, Exit.then])
       refine bodyPost_ret (v := entV ⟨xa, b, xz⟩) ?_ rfl ⟨by rw [HFX.out], by rw [HFX.out]; exact HLAST.out _ _ _ _ _ HP7.out.1 HP7.out.2.2.1 HP7.out.2.2.2⟩;rw [results_one_cell rfl];go_simp
      exact AllReadyH.nil
     exact AllReadyH.nil
    exact AllReadyH.nil
   refine AllReadyH.cons (o := _) rfl (fun K hK => ?_) ?_
   ·go_simp
    refine (HSG.out _ w8 HBI.out).mono ?_; rintro e w13 ⟨u13, rfl, hu13, b13⟩;dsimp only;have q13 := bnext q8 b13;have HBI := Lib.hid (HBI.out.kept1 b13);have HUR := Lib.hid hu13;clear hu13;clear hHeld;refine hK.out _ _ (HK.out _ (q13)) (fun hHeld => ?_);clear hK K
    try simp only [Act.put, za, zb, zc, zd, ze, zf]
    refine wpAnyH_ready (rs := [0]) (by kernel_rfl) (by simp) ?_;refine AllReadyH.cons (o := _) rfl (fun K hK => ?_) ?_
    ·have cr := HTC.out _ (q13)
     go_simp;clear cr;clear hHeld;refine hK.out _ _ (HK.out _ (q13)) (fun hHeld => ?_);clear hK K
     try simp only [Act.put, za, zb, zc, zd, ze, zf]
     refine wpAnyH_ready (rs := [5]) (by kernel_rfl) (by simp) ?_;refine AllReadyH.cons (o := _) rfl (fun K hK => ?_) ?_
     ·obtain ⟨v8, w8, ⟨va8, vn8, vc8, rfl⟩, hr8, hT8, hB8, hN8, hO8⟩ := appR_run _ B _ _ _ T b 1 (row_kept HTR.out (q13)) HUR.out (by have := HTL.out; omega) (by have := (q13).size; omega)
      have HPP := Lib.hid (HPST.out _ _ (q13) hO8);have HQQ := Lib.hid (q13);have HAPP := Lib.hid hT8;have HNN := Lib.hid hN8;have HBB := Lib.hid hB8;have HRR := Lib.hid hr8;clear hT8 hN8 hB8 hO8 hr8;refine step_append rfl _ _ _ rfl rfl rfl HRR.out ?_
      try go_simp
      clear hHeld;refine hK.out _ _ (by have := HPP.out.1.cell 1; simpa using this) (fun hHeld => ?_);clear hK K
      try simp only [Act.put, za, zb, zc, zd, ze, zf]
      refine wpAnyH_ready (rs := [6]) (by kernel_rfl) (by simp) ?_;refine AllReadyH.cons (o := _) rfl (fun K hK => ?_) ?_
      ·have cr := HPP.out.2.2.2.1.cell 0
       have fr := HPP.out.2.2.2.1.frozen 0;simp only [List.getElem?_toArray, List.getElem?_cons_zero, List.getElem?_cons_succ] at cr;go_simp;clear cr fr;clear hHeld;refine hK.out _ _ (by have := (HPP.out.1.other (p := ⟨X + 1, 0, none⟩) (by show X + 1 ≠ W.heap.size; omega) (.slice va8 vn8 vc8)).cell 1; simpa using this) (fun hHeld => ?_);clear hK K
       try simp only [Act.put, za, zb, zc, zd, ze, zf]
       refine ⟨by kernel_rfl, ?_⟩;clear hHeld;have HP7 := Lib.hid (HEND.out _ _ _ HQQ.out HAPP.out HNN.out HPP.out);clear HEND HPP HQQ HAPP HNN HBB HRR HPST;generalize w8.setCell ⟨X + 1, 0, none⟩ (.slice va8 vn8 vc8) = w7 at *;have x0 := HP7.out.2.1.cell 0;have x1 := HP7.out.2.1.cell 1;have x2 := HP7.out.2.1.cell 2;have r0 := HP7.out.2.2.1.cell 0;have r1 := HP7.out.2.2.1.cell 1;have r2 := HP7.out.2.2.1.cell 2;have rf0 := HP7.out.2.2.1.frozen 0;have rf1 := HP7.out.2.2.1.frozen 1;have rf2 := HP7.out.2.2.1.frozen 2;simp only [List.getElem?_toArray, List.getElem?_cons_zero, List.getElem?_cons_succ] at x0 x1 x2 r0 r1 r2;go_wp2
       (try simp only [Exit.inBlock, Exit.then])
       refine bodyPost_ret (v := entV ⟨xa, b, xz⟩) ?_ rfl ⟨by rw [HFX.out], by rw [HFX.out]; exact HLAST.out _ _ _ _ _ HP7.out.1 HP7.out.2.2.1 HP7.out.2.2.2⟩;rw [results_one_cell rfl];go_simp
      exact AllReadyH.nil
     exact AllReadyH.nil
    exact AllReadyH.nil
   exact AllReadyH.nil
  exact AllReadyH.nil
 ·have HFX : Hid (placeF nx (s, ec, T) ⟨xa, xp, xz⟩ = ((s, ec, T), ⟨xa, xp, xz⟩)) := Lib.hid (by unfold placeF; rw [if_neg hc])
  have HTT : Hid (Turns noTree C W w3) := Lib.hid (Turns.of_below HB2.out);have r0 := HR.out.cell 0;have r1 := HR.out.cell 1;have r2 := HR.out.cell 2;have rf0 := HR.out.frozen 0;have rf1 := HR.out.frozen 1;have rf2 := HR.out.frozen 2;simp only [List.getElem?_toArray, List.getElem?_cons_zero, List.getElem?_cons_succ] at r0 r1 r2;clear hF hT0 HGD h0gs;by_cases h0 : ec = 0
  ·subst h0
   have hp : xp ≠ 0 := fun e => hc ⟨rfl, e⟩
   have d1 : (xp == 0) = false := by rw [beq_eq_false_iff_ne]; exact hp
   clear hp hc
   go_enter Tryz.func103, Tryz.ntmps103
   go_upto_region 1 with fail
   clear hw2;go_wp2
   (try simp only [Exit.inBlock, Exit.then])
   refine bodyPost_ret (v := entV ⟨xa, xp, xz⟩) ?_ rfl ⟨by rw [HFX.out], by rw [HFX.out]; exact HLAST.out _ _ _ _ _ HP3.out HR.out HTT.out⟩;rw [results_one_cell rfl];go_simp
  ·have d1 : (ec == 0) = false := by rw [beq_eq_false_iff_ne]; exact h0
   clear h0 hc
   go_enter Tryz.func103, Tryz.ntmps103
   go_upto_region 1 with fail
   clear hw2;go_wp2
   (try simp only [Exit.inBlock, Exit.then])
   refine bodyPost_ret (v := entV ⟨xa, xp, xz⟩) ?_ rfl ⟨by rw [HFX.out], by rw [HFX.out]; exact HLAST.out _ _ _ _ _ HP3.out HR.out HTT.out⟩;rw [results_one_cell rfl];go_simp
open Go.RowKit
theorem place_turner {σ : Type} (nx : Nx σ) (fv : Value) (go : σ → Prop) (I : σ → World → Prop) (C B : Nat) (hF : Freshes nx fv go I C B) (hC : C ≤ B) (T0 : List (Int × Int)) (hT0 : fitR T0) (hl0 : T0.length ≤ 1000000) (X Y : Nat) (hX : B ≤ X) (hY : X + 3 ≤ Y) :
 Turner (placeF nx) 103 #[.pointer (some ⟨X + 2, 0, none⟩), .pointer (some ⟨X, 0, none⟩), .pointer (some ⟨X + 1, 0, none⟩)] (PlI go I T0 fv B X) C Y where
 ent := enters_of Tryz.func103 (by kernel_rfl) rfl
 call := fun t x W hW _ h => place1_any nx fv go I C B hF hC T0 hT0 hl0 X hX t x W (by omega) h
 keep := fun t W W' hW h L => h.leaves hF hX hY hW L
theorem fkplace_any {σ : Type} (nx : Nx σ) (fv : Value) (go : σ → Prop) (I : σ → World → Prop) (C B : Nat) (hF : Freshes nx fv go I C B) (hC : C ≤ B) (T0 : List (Int × Int)) (hT0 : fitR T0) (hl0 : T0.length ≤ 1000000) (S : Shp) (hS : SmallS S) (hn : ∀ r, ∀ x ∈ rowA S r, x.length ≤ 1000000 ∧ fitE x) (s0 : σ) (vs vt : Value) (w : World) (hB : B ≤ w.heap.size) (hv : ShapeT (frC C) vs S w) (ht : RunsAt B vt T0 w) (hgo : go s0) (hI : I s0 w) :
 Calls Tryz.prog 72 #[vs, fv, vt] w fun e w' => ∃ G V, e = .returned (.tuple #[.slice (some ⟨G, 0, none⟩) S.length S.length, .int .i64 (chgS (placeF nx) (s0, 0, T0) S).1.2.1]) ∧ ShpAt (EntsAt (w.heap.size + 3)) (w.heap.size + 3) G (chgS (placeF nx) (s0, 0, T0) S).2 V w' ∧ I (chgS (placeF nx) (s0, 0, T0) S).1.1 w' ∧ PlG T0 (chgS (placeF nx) (s0, 0, T0) S).1.2.1 (chgS (placeF nx) (s0, 0, T0) S).1.2.2 ∧ Turns noTree C w w' := by
 have mixed : Tryz.prog.follows .mixedOrders = true := by kernel_rfl
 obtain ⟨ta, tc, rfl, -⟩ := shape_of ht;obtain ⟨tn, htn⟩ : ∃ n, T0.length = n := ⟨_, rfl⟩;rw [htn] at ht ⊢;obtain ⟨X, hX⟩ : ∃ X, w.heap.size = X := ⟨_, rfl⟩;have b1 := balloc1 w (.cells #[fv] 129);have b2 := bnext b1 (balloc1 _ (.cells #[.slice ta tn tc] 126));have b3 := bnext b2 (balloc1 _ (.cells #[.int .i64 0] 24));have F1 := Blk.new #[fv] 129 w;have F2 := Blk.new #[.slice ta tn tc] 126 (w.alloc (.cells #[fv] 129));have F3 := Blk.new #[.int .i64 0] 24 ((w.alloc (.cells #[fv] 129)).alloc (.cells #[.slice ta tn tc] 126))
 have z3 : (((w.alloc (.cells #[fv] 129)).alloc (.cells #[.slice ta tn tc] 126)).alloc (.cells #[.int .i64 0] 24)).heap.size = X + 3 := by simp only [size_alloc]; omega
 simp only [size_alloc] at F2 F3;rw [hX] at F1 F2 F3;have F1 := (F1.kept1 (balloc1 _ (.cells #[.slice ta tn tc] 126))).kept1 (balloc1 _ (.cells #[.int .i64 0] 24));have F2 := F2.kept1 (balloc1 _ (.cells #[.int .i64 0] 24));generalize hw2 : ((w.alloc (.cells #[fv] 129)).alloc (.cells #[.slice ta tn tc] 126)).alloc (.cells #[.int .i64 0] 24) = w3 at *;have hP : PlI go I T0 fv B X (s0, 0, T0) w3 := ⟨hF.keep _ _ _ hB hI (b3.mono hB), F1, ⟨_, F2, row_kept ht b3⟩, F3, fun _ => ⟨[], ⟨List.nodup_nil, fun b hb => by cases hb⟩, by simp [singR]⟩, fun _ => hgo⟩;have HB4 := Lib.hid b3;have HW := fun W (h : w3 = W) => fkwith_any (placeF nx) 103 #[.pointer (some ⟨X + 2, 0, none⟩), .pointer (some ⟨X, 0, none⟩), .pointer (some ⟨X + 1, 0, none⟩)] (PlI go I T0 fv B X) C W (place_turner nx fv go I C B hF hC T0 hT0 hl0 X W.heap.size (by omega) (by rw [← h, z3]; exact Nat.le_refl _)) S hS hn vs (ShapeT.keep hv (Turns.of_below (h ▸ b3))) (s0, 0, T0) (h ▸ hP);have HWC := Lib.hid (HW _ rfl);rw [z3] at HWC;obtain ⟨va, vc, rfl, -⟩ := StRows.cells hv;have HFK := Lib.hid hF;obtain ⟨SL, hSL⟩ : ∃ n, S.length = n := ⟨_, rfl⟩;rw [hSL] at HWC;rw [hX, hSL];have HTN := Lib.hid htn;clear htn;clear HW hP b1 b2 b3 hF hT0 hS hn hv ht hI hSL;have HW2 := Lib.hid hw2
 have hfc : fv.cells = #[fv] := by rcases HFK.out.val with rfl | ⟨fn, first, caps, rfl⟩ <;> rfl
 unfold Value.cells at hfc;have HFC := Lib.hid hfc;clear hfc;clear hw2
 go_enter Tryz.func72, Tryz.ntmps72
 go_upto_region 2 with fail
 try rw [HFC.out]
 rw [HW2.out];go_wp2_with fail
 refine HWC.out.mono ?_; rintro e w5 ⟨G, V, rfl, hs, hp, ht⟩;have HS5 := Lib.hid hs;have HP5 := Lib.hid hp;have HT5 := Lib.hid ((Turns.of_below (p := noTree) (B := C) HB4.out).trans ht);have ce := fun q : BelowP w5 => (hp.er.kept1 q.h).cell 0;simp only [List.getElem?_toArray, List.getElem?_cons_zero, List.getElem?_cons_succ] at ce;clear hs hp ht HWC F3 HB4
 go_upto_region 3 with fail
 refine wp_region_quiet_below mixed (by kernel_rfl) ?_
 repeat (go_big_quiet_step (fail))
 refine wpQuiet_nil ?_;intro w0q hw';obtain ⟨⟨wq, bq⟩, hw''⟩ := hw';have hw2 : wq = w0q := hw''.symm;clear hw'';subst hw2;go_wp2
 go_ret2
 exact ⟨G, V, rfl, HS5.out.kept bq, HFK.out.keep _ _ _ (by have := HT5.out.size; omega) HP5.out.inv (bq.mono (by have := HT5.out.size; omega)), HP5.out.gd, HT5.out.trans (Turns.of_below bq)⟩
end Go.Proofs.YtknefoemgifbfaaGreat
