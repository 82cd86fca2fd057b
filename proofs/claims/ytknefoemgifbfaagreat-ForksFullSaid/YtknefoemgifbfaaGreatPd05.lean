import Derived.Test.YtknefoemgifbfaaGreatPd44
import Derived.Test.YtknefoemgifbfaaGreatPd45
import Derived.Test.YtknefoemgifbfaaGreatPd42
set_option linter.unusedVariables false
set_option linter.unusedSimpArgs false
set_option linter.constructorNameAsVariable false
namespace Go.Proofs.YtknefoemgifbfaaGreat
open Go.RowKit
theorem idx_split {p : Ent → Bool} {X Y : List Ent} (hX : ∀ x ∈ X, p x = false) (hY : ∀ y ∈ Y, p y = true) : (if 0 ≤ idxF p (X ++ Y) then (idxF p (X ++ Y)).toNat else (X ++ Y).length) = X.length := by
 cases Y with
 | nil =>
   rw [List.append_nil, idxF_none hX, if_neg (by decide)]
 | cons y Y =>
   have h := idxF_some (p := p) (l := X ++ y :: Y) (k := X.length) (by simp) (by rw [List.getElem_append_right (Nat.le_refl _)]; simpa using hY y (List.mem_cons_self ..)) (fun x hx => by rw [List.take_left] at hx; exact hX x hx);rw [h, if_pos (by omega)];omega
theorem fit_rise {L : List Ent} {a t : Int} (h : fitB L a t = true) : 0 ≤ a ∧ a ≤ t ∧ t ≤ 2048 ∧ RowOk true L ∧ Rise a L ∧ ∀ e ∈ L, e.log + e.len ≤ t := by
 unfold fitB at h;simp only [Bool.and_eq_true, Bool.or_eq_true, Bool.not_eq_true', decide_eq_true_eq, decide_eq_false_iff_not] at h;obtain ⟨⟨⟨⟨h1, h2⟩, h3⟩, h4⟩, h5⟩ := h;have hr := (row_rise L).1 h4;refine ⟨by omega, by omega, by omega, h4, ?_, ?_⟩
 ·cases L with
  | nil => trivial
  | cons e L =>
    rcases h5 with h5 | ⟨h5, h6⟩
    ·simp at h5
    ·exact ⟨h5, hr.2.1, hr.2.2⟩
 ·intro e he
  rcases h5 with h5 | ⟨h5, h6⟩
  ·rw [List.length_eq_zero_iff.1 h5] at he; cases he
  ·have := rise_end hr e he
   have e2 : endV L = endX L := by unfold endV; rw [if_pos h4]
   omega
theorem repl_is {l L : List Ent} {a t : Int} (hl : RowOk true l) (h : fitB L a t = true) : (a < t ∧ replA l a t L = change l a t L) ∨ (a = t ∧ L = [] ∧ replA l a t L = l) := by
 obtain ⟨h1, h2, h3, h4, h5, h6⟩ := fit_rise h;have hr := (row_rise l).1 hl;have hok : PunOk l a (t - a) := ⟨hl, h1, by omega, by omega, by omega⟩;by_cases e : a = t
 ·right
  have hL : L = [] := by
   cases L with
   | nil => rfl
   | cons x L =>
     have k1 := h6 x (List.mem_cons_self ..);have k2 := h5.1;have k3 := ((entT x).1 h5.2.1).1;omega
  refine ⟨e, hL, ?_⟩;subst hL;unfold replA
  have : punO l a (t - a) = l := by unfold punO punX; rw [if_pos hok, if_pos (by omega)]
  rw [this];unfold insE;rw [List.nil_append, List.take_append_drop]
 ·left
  refine ⟨by omega, ?_⟩
  have hK : punO l a (t - a) = keep l 0 a ++ keep l t 2048 := by
   unfold punO punX change;rw [if_pos hok, if_neg (by omega), show a + (t - a) = t by omega, List.nil_append]
  have k1 := keep_rise hr 0 a;have k2 := keep_rise hr t 2048
  have hp : rpAt (keep l 0 a ++ keep l t 2048) t = (keep l 0 a).length := by
   unfold rpAt;refine idx_split (fun x hx => ?_) (fun y hy => ?_)
   ·have q1 := k1.2 x hx
    have q2 := ((entT x).1 (k1.1.mem x hx).1).1;unfold rpP;exact decide_eq_false (by omega)
   ·have q1 := (k2.1.mem y hy).2
    unfold rpP;exact decide_eq_true (by omega)
  unfold replA change;rw [hK, hp];unfold insE;rw [List.take_left, List.drop_left]
theorem repl_row {l L : List Ent} {a t : Int} (hl : RowOk true l) (h : fitB L a t = true) : RowOk true (replA l a t L) := by
 obtain ⟨h1, h2, h3, h4, h5, h6⟩ := fit_rise h;rcases repl_is hl h with ⟨e1, e2⟩ | ⟨e1, e2, e3⟩
 ·rw [e2]; exact (row_rise _).2 (change_rise ((row_rise l).1 hl) h1 h2 h5 h6)
 ·rw [e3]; exact hl
theorem load_fair {rd : Rd} {no : Bool} {depth : Int} {root : List Ent} {S : Shp} (h : loadA rd no depth root = .ok S) : ∀ r, ∀ e ∈ (rowA S r).flatten, Fair e := by
 intro r e he
 cases r with
 | zero =>
   have hr := (loadA_good h).1.rise;have := (entT e).1 (((row_rise _).1 hr).mem e he).1;unfold Fair;omega
 | succ r =>
   have := load_heads h r e he;unfold EntOk at this
   simp at this
   unfold Fair;omega
theorem load_depth {rd : Rd} {no : Bool} {depth : Int} {root : List Ent} {S : Shp} (h : loadA rd no depth root = .ok S) : S.length ≤ 5 := by
 have h1 := (loadA_good h).2.1;have h2 := rooted_deep (loadA_rooted h);omega
theorem repl_ok {rd : Rd} {no : Bool} {depth : Int} {root : List Ent} {S : Shp} (h : loadA rd no depth root = .ok S) {L : List Ent} {a t : Int} (hf : fitB L a t = true) : RowOk true (replA (listA S) a t L) ∧ (replA (listA S) a t L).length ≤ 2048 ∧ ∀ e ∈ replA (listA S) a t L, Fair e ∧ e.phys ≠ 0 := by
 have hr := repl_row (loadA_good h).1.rise hf;refine ⟨hr, prow_len hr, fun e he => ?_⟩;have := (entT e).1 (((row_rise _).1 hr).mem e he).1;unfold Fair;omega
theorem repl_tell {σ : Type} (nx : Nx σ) (s0 : σ) {rd : Rd} {no : Bool} {depth : Int} {root : List Ent} {S : Shp} (h : loadA rd no depth root = .ok S) (hr4 : Read4 S) {L : List Ent} {a t : Int} (hf : fitB L a t = true) (T0 : List (Int × Int)) (hT : ∀ b ∈ numsA S, elemR T0 b)
 (h0 : (chgS (placeF nx) (s0, 0, T0) (growA S (replA (listA S) a t L))).1.2.1 = 0) : TellOk (chgS (placeF nx) (s0, 0, T0) (growA S (replA (listA S) a t L))).2 := by
 obtain ⟨g, -, -⟩ := loadA_good h;obtain ⟨k1, k2, k3⟩ := repl_ok h hf;refine place_tell nx T0 s0 _ (grow_well g.well _) (grow_small g.well hr4.small (load_depth h) k2).1 (grow_fair g.well (load_fair h) fun e he => (k3 e he).1) (fun e he => ?_) (grow_nodup g _) (fun b hb h1 => ?_) h0
 ·rw [grow_list] at he
  exact (k3 e he).2
 ·exact hT b ((grow_nums g.well _).subset (List.mem_filter.2 ⟨hb, decide_eq_true h1⟩))
theorem taken_all {rd : Rd} {no : Bool} {depth : Int} {root : List Ent} {S : Shp} (h : loadA rd no depth root = .ok S) (R : List (Int × Int)) : ∀ b ∈ numsA S, elemR (R ++ singR (sortI (numsA S))) b := by
 intro b hb
 have hrange : ∀ c ∈ sortI (numsA S), 0 ≤ c ∧ c < 4096 := fun c hc => by
  have hc := (sortI_mem _ _).1 hc;unfold numsA at hc;obtain ⟨r, -, hc⟩ := List.mem_flatMap.1 hc;obtain ⟨e, he, rfl⟩ := List.mem_map.1 hc;exact (load_fair h (r + 1) e he).2.1
 exact (elemR_append _ _ _).2 (.inr (elem_sing hrange ((sortI_mem _ _).2 hb)))
end Go.Proofs.YtknefoemgifbfaaGreat
