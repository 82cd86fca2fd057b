import Derived.Deep.Quiet
import Derived.StillTail
import Derived.Deep.QuietTactic
import Derived.BigQuiet
import Derived.Sort.Grow
import Derived.Shelf.SlSortCmp.QuietGrown
set_option linter.unusedVariables false
set_option linter.unusedSimpArgs false
set_option linter.constructorNameAsVariable false
namespace Go.Proofs.YtknefoemgifbfaaGreat
def calm (o : Oper) : Oper := { o with op := .move (.const undef) }
theorem opsc_at (l : List Oper) (st : Oper) (i : Nat) (hi : i ≠ l.length) : (l ++ [calm st]).toArray[i]? = (l ++ [st]).toArray[i]? := by
 simp only [List.getElem?_toArray];rcases Nat.lt_or_ge i l.length with h | h
 ·rw [List.getElem?_append_left h, List.getElem?_append_left h]
 ·rw [List.getElem?_eq_none (by simp; omega), List.getElem?_eq_none (by simp; omega)]
theorem opsc_last (l : List Oper) (st : Oper) : (l ++ [st]).toArray[l.length]? = some st := by
 simp only [List.getElem?_toArray]; rw [List.getElem?_append_right (Nat.le_refl _)]; simp
theorem yielded_calm (l : List Oper) (st : Oper) (hd : st.dst = none) (tmps : Array Value) : yielded (l ++ [calm st]).toArray tmps = yielded (l ++ [st]).toArray tmps := by
 funext j
 by_cases hj : j = l.length
 ·subst hj
  unfold yielded;rw [opsc_last, opsc_last]
  simp [calm, hd]
 ·unfold yielded; rw [opsc_at l st j hj]
theorem ready_calm {md : Region.Mode} (l : List Oper) (st : Oper) (listed : Array Bool) (j : Nat) : j ∈ Region.ready md (l ++ [calm st]).toArray listed ↔ j ∈ Region.ready md (l ++ [st]).toArray listed := by
 rw [mem_ready, mem_ready];by_cases hj : j = l.length
 ·subst hj
  rw [opsc_last, opsc_last]
  simp [calm]
 ·rw [opsc_at l st j hj]
def aheadB (md : Region.Mode) (ops : List Oper) : Bool := (List.range ops.length).all fun i => ((ops[i]?).map fun o => o.after.all fun e => !Region.binds md e || decide (e.on < i)).getD true
theorem some_ready {md : Region.Mode} {ops : List Oper} (ha : aheadB md ops = true) {listed : Array Bool} (hsz : listed.size = ops.length) :
 ∀ i, i < ops.length → listed.getD i true = false → ∃ j, j ∈ Region.ready md ops.toArray listed := by
 intro i
 induction i using Nat.strongRecOn with
 | _ i ih =>
   intro hi hun;have h1 := List.all_eq_true.1 ha i (List.mem_range.2 hi);rw [List.getElem?_eq_getElem hi] at h1;simp only [Option.map_some, Option.getD_some] at h1;by_cases hall : ∀ e ∈ ops[i].after, Region.binds md e = true → listed.getD e.on false = true
   ·exact ⟨i, mem_ready.2 ⟨hun, ops[i], by simp [hi], hall⟩⟩
   ·have hall : ∃ e, e ∈ ops[i].after ∧ Region.binds md e = true ∧ listed.getD e.on false ≠ true := by
     apply Classical.byContradiction
     intro hn;exact hall fun e he hb => Classical.byContradiction fun hc => hn ⟨e, he, hb, hc⟩
    obtain ⟨e, he, hb, hne⟩ := hall;have h2 := (Array.all_eq_true_iff_forall_mem.1 h1) e he;simp only [hb, Bool.not_true, Bool.false_or, decide_eq_true_eq] at h2;exact ih e.on h2 (by omega) (getD_in (by omega) (by simpa using hne))
section
variable {P : Program} {C : World → Prop} {md : Region.Mode} {Q : Exit → Act → World → Prop}
theorem all_done {l : List Oper} {st : Oper} {listed : Array Bool} (h : ∀ i, i < l.length → listed.getD i true = true) (hl : listed.size = (l ++ [st]).toArray.size) :
 Region.ready md (l ++ [st]).toArray (listed.setIfInBounds l.length true) = [] := by
 rw [List.eq_nil_iff_forall_not_mem];intro j hj;obtain ⟨h1, o, ho, _⟩ := mem_ready.1 hj
 have hj : j < (l ++ [st]).length := by simpa using (Array.getElem?_eq_some_iff.1 ho).1
 rw [List.length_append, List.length_singleton] at hj;by_cases e : j = l.length
 ·subst e
  have hb : l.length < listed.size := by rw [hl]; simp
  simp [hb] at h1
 ·rw [getD_set_ne true (Ne.symm e), h j (by omega)] at h1; cases h1
theorem any_of_quiet_tail (l : List Oper) (st : Oper) (hd : st.dst = none) (hg : st.guard = none) (ha : aheadB md (l ++ [st]) = true) (hs : Region.sinkB md (l ++ [st]).toArray l.length = true)
 (hc : Region.chainB md (l ++ [st]).toArray l.length = true) :
 ∀ (fuel : Nat) (listed : Array Bool) (a : Act) (w : World), C w → HeadInv md (l ++ [st]).toArray l.length listed →
  wpAnyQ P md (l ++ [calm st]).toArray C (fun a' => ∀ w', C w' → wpList P (l ++ [st]).toArray Q [st] a' w') fuel listed a → wpAny P md (l ++ [st]).toArray Q fuel listed a w
 | fuel, listed, a, w, hw, inv, h => by
   have hn : l.length < (l ++ [st]).toArray.size := by simp
   have hlast := inv.tail l.length (Nat.le_refl _) hn
   have hne : Region.ready md (l ++ [st]).toArray listed ≠ [] := fun h0 => by
    obtain ⟨j, hj⟩ := some_ready ha (by simpa using inv.size) l.length (by simp) hlast;rw [h0] at hj; cases hj
   have hnc : Region.ready md (l ++ [calm st]).toArray listed ≠ [] := fun h0 => by
    obtain ⟨j, hj⟩ := List.exists_mem_of_ne_nil _ hne;have := (ready_calm l st listed j).2 hj;rw [h0] at this; cases this
   cases fuel with
   | zero => exact absurd h.1 hnc
   | succ fuel =>
     refine ⟨fun h0 => absurd h0 hne, fun i hi => ?_⟩;have hq := h.2 i ((ready_calm l st listed i).2 hi);by_cases e : i = l.length
     ·subst e
      have hall : ∀ i, i < l.length → listed.getD i true = true := fun i hlt => by
       cases hu : listed.getD i true with
       | true => rfl
       | false => exact absurd hi (tail_waits hs hc hn inv _ i rfl hlt hu _ (Nat.le_refl _))
      have hdone := all_done (md := md) (st := st) hall inv.size
      have hdone' : Region.ready md (l ++ [calm st]).toArray (listed.setIfInBounds l.length true) = [] := by
       rw [List.eq_nil_iff_forall_not_mem]; intro j hj;have := (ready_calm l st _ j).1 hj;rw [hdone] at this; cases this
      have hT : ∀ w', C w' → wpList P (l ++ [st]).toArray Q [st] a w' := by
       obtain ⟨v, _, hk⟩ := yieldsIn_of_qOp (opsc_last l (calm st)) hq;have hdc : (calm st).dst = none := hd;rw [hdc] at hk
       cases fuel with
       | zero => exact hk.2
       | succ f => exact hk.1 hdone'
      have hT := hT w hw;unfold wpList at hT;unfold wpOp;rw [opsc_last]
      have hwant : Region.wanted st (yielded (l ++ [st]).toArray a.tmps) = true := by unfold Region.wanted; rw [hg]
      simp only [hwant, if_true] at hT ⊢;refine hT.imp (Oper.wp_mono fun a' w' h' => ?_) id;have h' : Q .normal a' w' := h'
      cases fuel with
      | zero => exact ⟨hdone, h'⟩
      | succ f => exact ⟨fun _ => h', fun j hj => by rw [hdone] at hj; cases hj⟩
     ·have hlt : i < l.length := by
       obtain ⟨_, o, ho, _⟩ := mem_ready.1 hi;have := (Array.getElem?_eq_some_iff.1 ho).1
       simp at this; omega
      have h2 := wpOp_of_qOp (Q' := Q) (K' := wpAny P md (l ++ [st]).toArray Q fuel (listed.setIfInBounds i true)) hw (fun a' w' hw' h' => any_of_quiet_tail l st hd hg ha hs hc fuel _ a' w' hw' (inv.set hi hlt) h') hq;unfold wpOp at h2 ⊢;rw [opsc_at l st i e, yielded_calm l st hd] at h2;exact h2
theorem quiet_snoc (l : List Oper) (st : Oper) (hd : st.dst = none) (hg : st.guard = none) {ops : Array Oper} {R : Act → Prop} : ∀ (k : List Oper) (a : Act), wpQuiet P ops C R k a → wpQuiet P ops C R (k ++ [calm st]) a
 | [], a, h => by
   show wpQuiet P ops C R [calm st] a
   unfold wpQuiet
   have hwant : Region.wanted (calm st) (yielded ops a.tmps) = true := by unfold Region.wanted calm; rw [hg]
   rw [if_pos hwant];refine BigFrame.quiet_move (.const undef) rfl ?_;have : (calm st).dst = none := hd;rw [this]; exact h
 | o :: k, a, h => by
   unfold wpQuiet at h
   show wpQuiet P ops C R (o :: (k ++ [calm st])) a
   unfold wpQuiet;split
   ·rename_i hw
    rw [if_pos hw] at h;exact Oper.quiet_mono (fun a' h' => quiet_snoc l st hd hg k a' h') h
   ·rename_i hw
    rw [if_neg hw] at h;exact quiet_snoc l st hd hg k _ h
theorem wp_region_quiet_tail {id : Nat} {a : Act} {w : World} (l : List Oper) (st : Oper) (hm : P.follows .mixedOrders = true) (hd : st.dst = none) (hg : st.guard = none)
 (hB : (Region.lexB .any (l ++ [calm st]).toArray && aheadB .any (l ++ [st]) && Region.sinkB .any (l ++ [st]).toArray l.length && Region.chainB .any (l ++ [st]).toArray l.length) = true) (hC : C { w with drawn := w.drawn + 1 })
 (h : wpQuiet P (l ++ [calm st]).toArray C (fun a' => ∀ w', C w' → wpList P (l ++ [st]).toArray Q [st] a' w') l a) : (Code.region id (l ++ [st]).toArray true).wp P Q a w := by
 simp only [Bool.and_eq_true] at hB;obtain ⟨⟨⟨h1, h2⟩, h3⟩, h4⟩ := hB;simp only [Region.lexB, Bool.and_eq_true] at h1
 have inv0 : HeadInv .any (l ++ [st]).toArray l.length (Array.replicate (l ++ [st]).toArray.size false) :=
  ⟨by simp, fun j oj _ hl => (by rw [getD_replicate_false] at hl; cases hl), fun t _ ht => getD_in (by simpa using ht) (getD_replicate_false _ _)⟩
 refine wp_region_any hm (any_of_quiet_tail (C := C) l st hd hg h2 h3 h4 _ _ a _ hC inv0 ?_);have hq := quiet_snoc l st hd hg l a h;have := wpAnyQ_lex (C := C) (md := .any) h1.1 (l ++ [calm st]) 0 (Array.replicate (l ++ [calm st]).toArray.size false) a (by simp) (by simpa using h1.2) hq
 simpa using this
theorem wp_region_tail {id : Nat} {a : Act} {w : World} {L : List Oper} (n : Nat) (st : Oper) (hst : L.drop n = [st]) (hm : P.follows .mixedOrders = true) (hd : st.dst = none) (hg : st.guard = none)
 (hB : (Region.lexB .any (L.take n ++ [calm st]).toArray && aheadB .any L && Region.sinkB .any L.toArray n && Region.chainB .any L.toArray n && decide (n < L.length)) = true)
 (h : wpQuiet P (L.take n ++ [calm st]).toArray (fun w' => ∃ p : GrownBy, w' = Sort.grow (w.drewN p.n) p.os) (fun a' => ∀ w', (∃ p : GrownBy, w' = Sort.grow (w.drewN p.n) p.os) → wpList P L.toArray Q [st] a' w') (L.take n) a) : (Code.region id L.toArray true).wp P Q a w := by
 have e : L = L.take n ++ [st] := by rw [← hst, List.take_append_drop]
 simp only [Bool.and_eq_true, decide_eq_true_eq] at hB;obtain ⟨⟨⟨⟨h1, h2⟩, h3⟩, h4⟩, h5⟩ := hB
 have hl : (L.take n).length = n := by rw [List.length_take]; omega
 generalize L.take n = l at *;subst e;refine wp_region_quiet_tail (C := fun w' => ∃ p : GrownBy, w' = Sort.grow (w.drewN p.n) p.os) l st hm hd hg ?_ ⟨⟨1, #[]⟩, by rw [Sort.grow_empty]; rfl⟩ h;rw [hl];simp only [Bool.and_eq_true];exact ⟨⟨⟨h1, h2⟩, h3⟩, h4⟩
end
end Go.Proofs.YtknefoemgifbfaaGreat
