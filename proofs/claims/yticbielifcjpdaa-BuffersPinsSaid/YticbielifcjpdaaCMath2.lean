/- Lists of what is dirty and what is pinned, behind a Sync, a Get and a Forget. Without the program. -/
import Derived.Test.YticbielifcjpdaaCMath
import Derived.Test.YticbielifcjpdaaCRows
namespace Go.Proofs.Yticbielifcjpdaa
set_option linter.unusedVariables false
open Go.RowKit

theorem pendL_filter (p q : Nat → Bool) : ∀ n, (pendL p n).filter q = pendL (fun b => p b && q b) n
  | 0 => rfl
  | n + 1 => by
    cases hp : p n with
    | true =>
      rw [pendL_yes hp, List.filter_append, pendL_filter p q n]
      cases hq : q n with
      | true => rw [pendL_yes (by rw [hp, hq]; rfl), List.filter_cons, hq]; rfl
      | false => rw [pendL_no (by rw [hp, hq]; rfl), List.filter_cons, hq]; simp
    | false => rw [pendL_no hp, pendL_filter p q n, pendL_no (by rw [hp]; rfl)]
theorem list_any (C : CS) (d p : Bool) (b : Nat) (hb : b < C.st.n) : ((listB C d p).any fun x => (x : Int) == (b : Int)) = hasB C d p b := by
  rw [Bool.eq_iff_iff, List.any_eq_true]
  constructor
  · rintro ⟨x, hx, e⟩
    have e : x = b := by have := beq_iff_eq.1 e; omega
    exact e ▸ ((list_mem C d p x).1 hx).2
  · intro h
    exact ⟨b, (list_mem C d p b).2 ⟨hb, h⟩, beq_iff_eq.2 rfl⟩
theorem list_any_no (C : CS) (d p : Bool) (b : Int) (h : ∀ k : Nat, (k : Int) = b → hasB C d p k = false) : ((listB C d p).any fun x => (x : Int) == b) = false := by
  rw [List.any_eq_false]
  intro x hx e
  have h1 := ((list_mem C d p x).1 hx).2
  rw [h x (beq_iff_eq.1 e)] at h1
  cases h1
theorem wants_is (C : CS) (b : Nat) : (hasB C true false b && !hasB C false true b) = wants C b := by
  unfold hasB wants
  cases atB C.L b with
  | none => rfl
  | some x => simp
theorem many_is (C : CS) : (listB C true false).countP (fun b : Nat => !((listB C false true).any fun x => (x : Int) == (b : Int))) = cntT (wants C) C.st.n := by
  unfold listB
  rw [pendL_countP]
  refine cntT_same fun b hb => ?_
  rw [← wants_is]
  have := list_any C false true b hb
  unfold listB at this
  rw [this]
theorem tidy_b (x : Buf) : (tidy x).b = x.b := by unfold tidy offDirty; split <;> rfl
theorem tidy_pin (x : Buf) : (tidy x).pin = x.pin := by unfold tidy offDirty; split <;> rfl
theorem tidy_dirty (x : Buf) : (tidy x).dirty = (x.dirty && x.pin) := by
  unfold tidy offDirty
  cases hp : x.pin with
  | true => simp
  | false => simp
/-- two caches that hold the same -/
def alike (C D : CS) : Prop := ∀ b : Nat, atB C.L b = atB D.L b
theorem alike_has {C D : CS} (h : alike C D) (d p : Bool) (b : Nat) : hasB C d p b = hasB D d p b := by unfold hasB; rw [h b]
/-- what a Sync leaves, without orders -/
structure synced (C D : CS) : Prop where
  n : D.st.n = C.st.n
  tidy : ∀ b : Nat, b < C.st.n → atB D.L b = (atB C.L b).map tidy
theorem synced_dirty {C D : CS} (h : synced C D) {b : Nat} (hb : b < C.st.n) (hd : hasB D true false b = true) : hasB C false true b = true := by
  unfold hasB at hd ⊢
  rw [h.tidy b hb] at hd
  cases ha : atB C.L b with
  | none => rw [ha] at hd; cases hd
  | some x =>
    rw [ha] at hd
    simp [tidy_dirty] at hd
    simp [hd.2]
theorem synced_pin {C D : CS} (h : synced C D) {b : Nat} (hb : b < C.st.n) : hasB D false true b = hasB C false true b := by
  unfold hasB
  rw [h.tidy b hb]
  cases atB C.L b with
  | none => rfl
  | some x => simp [tidy_pin]
theorem synced_alike {C D E : CS} (h : synced C D) (he : alike E D) (hn : E.st.n = D.st.n) : synced C E := ⟨hn.trans h.n, fun b hb => (he b).trans (h.tidy b hb)⟩
/-- a Get of a block that is there -/
theorem get_here {C : CS} {b : Nat} (hb : b < C.st.n) (hh : hasB C false false b = true) (hd : hasB C true false b = false) (hc : clean C) :
    (getC C b).1 = C.st.now b ∧ (getC C b).2.1 = 0 ∧ (getC C b).2.2.st = C.st ∧ alike (getC C b).2.2 C ∧ clean (getC C b).2.2 := by
  unfold getC
  rw [if_pos ⟨by omega, by omega⟩]
  unfold hasB at hh hd
  cases ha : atB C.L b with
  | none => rw [ha] at hh; cases hh
  | some x =>
    rw [ha] at hd
    obtain ⟨h1, h2⟩ := atB_some ha
    have hxb : x.b = b := by omega
    have hd : x.dirty = false := by simpa using hd
    dsimp only
    refine ⟨by rw [hc x h1 hd, hxb], rfl, rfl, fun k => ?_, fun y hy hyd => ?_⟩
    · show atB (dropB C.L b ++ [x]) k = _
      rw [atB_snoc, atB_drop]
      by_cases e : (k : Int) = b
      · rw [if_pos e]
        have e : k = b := by omega
        subst e
        dsimp only
        rw [if_pos h2, ha]
      · rw [if_neg e]
        cases ha2 : atB C.L k with
        | some y => rfl
        | none => dsimp only; rw [if_neg (by omega)]
    · rcases List.mem_append.1 hy with hy | hy
      · exact hc y (dropB_mem.1 hy).1 hyd
      · obtain rfl := List.mem_singleton.1 hy; exact hc y h1 hyd
theorem forget_has (C : CS) (b : Int) (d p : Bool) (k : Nat) : hasB (forgetC C b) d p k = (hasB C d p k && ((k : Int) != b)) := by
  unfold hasB
  show (match atB (dropB C.L b) k with | some x => _ | none => _) = _
  rw [atB_drop]
  by_cases e : (k : Int) = b
  · have : ((k : Int) != b) = false := by rw [bne_eq_false_iff_eq]; exact e
    rw [if_pos e, this, Bool.and_false]
  · have : ((k : Int) != b) = true := by rw [bne_iff_ne]; exact e
    rw [if_neg e, this, Bool.and_true]
    rfl
theorem forget_gone (C : CS) (b : Int) : (atB (forgetC C b).L b).isSome = false := by
  show (atB (dropB C.L b) b).isSome = false
  rw [atB_drop, if_pos rfl]; rfl
theorem forget_list {C D : CS} (h : synced C D) (b : Int) : wo (listB C false true) b = listB (forgetC D b) false true := by
  unfold wo listB
  rw [pendL_filter]
  show _ = pendL _ D.st.n
  rw [h.n]
  refine pendL_congr fun k hk => ?_
  rw [forget_has, synced_pin h hk]
theorem sync_synced {C : CS} (h : C.ok) (hl : C.st.left = -1) : (syncC C).1 = 0 ∧ (syncC C).2.st.acts = C.st.acts + cntT (wants C) C.st.n ∧ synced C (syncC C).2 := by
  obtain ⟨h1, h2, h3, h4⟩ := sync_free h hl C.st.n
  exact ⟨h1, h3, (sync_ok h C.st.n).2.1, fun b hb => by
    have := h4 b
    rw [if_pos hb] at this
    exact this⟩
theorem does_clean {C : CS} (h : C.ok) (hc : clean C) (x : ActC) (h12 : x.kind % 13 ≠ 12) : clean (doesR C x).2.2 := by
  by_cases h7 : x.kind % 13 = 7
  · unfold doesR
    rw [h7]
    exact forget_clean hc x.b
  · exact (does_view h hc x h7 h12).1
end Go.Proofs.Yticbielifcjpdaa
