/- container/heap: Push, onto a queue that may be nil. -/
import Derived.Test.YtehjobjjlldckaaGreatCHeap6
namespace Go.Proofs.YtehjobjjlldckaaGreat
set_option linter.unusedVariables false
open Go.RowKit

/-- the queue: its row's block, if there is one yet -/
def QQ (c : Nat) (K : Value → Array Value) (o : Option Nat) (n : Nat) (A : Nat → Nat) (V : Nat → Rec) (w : World) : Prop :=
  match o with
  | some gq => ∃ cap, QAt c K gq cap n A V w
  | none => n = 0 ∧ Blk c (K (.slice none 0 0)) 68 w ∧ Hole K
def PushRet (c : Nat) (K : Value → Array Value) (o : Option Nat) (n g : Nat) (A : Nat → Nat) (V : Nat → Rec) (w : World) (e : Ending) (w' : World) : Prop :=
  ∃ gq cap C, e = .returned (.tuple #[]) ∧ QAt c K gq cap (n + 1) C V w' ∧ heapTo (kV V) C (n + 1) ∧ sameTo (upd A n g) C (n + 1) ∧ Turn (fun j => j = c ∨ j = g ∨ o = some j ∨ ∃ i, i < n ∧ j = A i) w w' ∧ (o = some gq ∨ w.heap.size ≤ gq)
theorem QAt.owns {c : Nat} {K : Value → Array Value} {gq cap n : Nat} {A : Nat → Nat} {V : Nat → Rec} {w : World} (h : QAt c K gq cap n A V w) :
    w.ownsRow 0 80 1 (.slice (some ⟨gq, 0, none⟩) n cap) n ((List.range n).map fun i => ptrV (A i)) := by
  obtain ⟨cur, b, hs, hq⟩ := h.row
  have hle := h.le
  refine ⟨by simp, .inr ⟨gq, cap, cur, rfl, Nat.zero_le _, b, hle, h.hi, by simpa using hs, ?_⟩⟩
  apply List.ext_getElem?
  intro j
  by_cases hj : j < n
  · rw [List.getElem?_take_of_lt (by omega), Array.getElem?_toList, hq j hj, List.getElem?_map, List.getElem?_range hj]; rfl
  · rw [List.getElem?_take_eq_none (by omega), List.getElem?_eq_none (by simp; omega)]
/-- behind the queue's own Push -/
theorem QAt.pushed {c : Nat} {K : Value → Array Value} {n g gq cap : Nat} {A : Nat → Nat} {V : Nat → Rec} {w' : World}
    (hK : Hole K) (hn : n < 256) (ho : w'.ownsRow 0 80 1 (.slice (some ⟨gq, 0, none⟩) (n + 1) cap) (n + 1) (((List.range n).map fun i => ptrV (A i)) ++ [ptrV g])) (hb : Blk c (K (.slice (some ⟨gq, 0, none⟩) (n + 1) cap)) 68 w')
    (hg : Blk g (recCells (V g) n) 91 w') (hi : ∀ i, i < n → Blk (A i) (recCells (V (A i)) i) 91 w') (inj : ∀ i j, i < n → j < n → A i = A j → i = j) (hA : ∀ i, i < n → A i ≠ g)
    (cq : c ≠ gq) (hgc : g ≠ c ∧ g ≠ gq) (ca : ∀ i, i < n → A i ≠ c ∧ A i ≠ gq) (hu : ∀ i, i < n → (V (A i)).used < 2305843009213693952) (hug : (V g).used < 2305843009213693952) : QAt c K gq cap (n + 1) (upd A n g) V w' := by
  have up1 : ∀ i, i < n → upd A n g i = A i := fun i hi => upd_other _ (by omega) _
  rcases ho.2 with ⟨h0, _⟩ | ⟨g', cap', cur, hv, _, hblk, hle, hcm, hcs, htake⟩
  · cases h0
  cases hv
  have sp : ∀ i, i < n + 1 → (i < n ∧ upd A n g i = A i) ∨ (i = n ∧ upd A n g i = g) := fun i hi => by
    by_cases e : i = n
    · subst e; exact .inr ⟨rfl, upd_same _ _ _⟩
    · exact .inl ⟨by omega, up1 i (by omega)⟩
  refine ⟨hb, hK, ⟨cur, hblk, by simpa using hcs, fun k hk => ?_⟩, hle, hcm, by omega, fun i hin => ?_, fun i j hin hjn e => ?_, cq, fun i hin => ?_, fun i hin => ?_⟩
  · have h1 : (cur.toList.take ((n + 1) * 1))[k]? = (((List.range n).map fun i => ptrV (A i)) ++ [ptrV g])[k]? := by rw [htake]
    rw [List.getElem?_take_of_lt (by omega), Array.getElem?_toList] at h1
    rw [h1]
    rcases sp k hk with ⟨h2, e⟩ | ⟨rfl, e⟩
    · rw [e, List.getElem?_append_left (by simpa using h2), List.getElem?_map, List.getElem?_range h2]; rfl
    · rw [e, List.getElem?_append_right (by simp)]; simp
  · rcases sp i hin with ⟨h2, e⟩ | ⟨rfl, e⟩
    · rw [e]; exact hi i h2
    · rw [e]; exact hg
  · rcases sp i hin with ⟨h2, e2⟩ | ⟨rfl, e2⟩ <;> rcases sp j hjn with ⟨h3, e3⟩ | ⟨rfl, e3⟩ <;> rw [e2] at e <;> (try rw [e3] at e)
    · exact inj i j h2 h3 e
    · exact absurd e (hA i h2)
    · exact absurd e.symm (hA j h3)
  · rcases sp i hin with ⟨h2, e⟩ | ⟨rfl, e⟩
    · rw [e]; exact ca i h2
    · rw [e]; exact hgc
  · rcases sp i hin with ⟨h2, e⟩ | ⟨rfl, e⟩
    · rw [e]; exact hu i h2
    · rw [e]; exact hug
theorem qpush_any {c : Nat} {K : Value → Array Value} {o : Option Nat} {n g p : Nat} {A : Nat → Nat} {V : Nat → Rec} (hn : n < 256) (w : World) (h : QQ c K o n A V w) (hg : Blk g (recCells (V g) p) 91 w) (hgc : g ≠ c) (hgo : o ≠ some g) (hA : ∀ i, i < n → A i ≠ g) (hug : (V g).used < 2305843009213693952) :
    Calls Tryz.prog 121 #[.pointer (some ⟨c, 6, none⟩), .iface 80 (ptrV g)] w fun e w' => e = .returned (.tuple #[]) ∧ ∃ gq cap, QAt c K gq cap (n + 1) (upd A n g) V w' ∧ Turn (fun j => j = c ∨ j = g ∨ o = some j) w w' ∧ (o = some gq ∨ w.heap.size ≤ gq) := by
  cases o with
  | none =>
    obtain ⟨rfl, hb, hK⟩ := h
    refine (qpush_raw c K (.slice none 0 0) 0 [] g p (V g) (by omega) w (World.ownsRow_nil _ _ _ _) hb hK hg hgc (fun k hk => by cases hk)).mono ?_
    rintro e w' ⟨rfl, v', ho, hb2, hg2, hs, t⟩
    refine ⟨rfl, ?_⟩
    obtain ⟨ad, cap, rfl, _, _, s3⟩ := shape_of ho
    obtain ⟨gq, rfl, -, hlt⟩ := s3 (by omega)
    have hfar : w.heap.size ≤ gq := by
      rcases hs with hs | hs
      · cases hs
      · exact hs gq rfl
    have hc := hb.lt
    have hgl := hg.lt
    exact ⟨gq, cap, QAt.pushed hK (by omega) ho hb2 hg2 (fun i hi => absurd hi (by omega)) (fun i j hi => absurd hi (by omega)) hA (by omega) ⟨hgc, by omega⟩ (fun i hi => absurd hi (by omega)) (fun i hi => absurd hi (by omega)) hug,
      t.mono fun j _ hj => hj.elim .inl fun hj => hj.elim (fun e => .inr (.inl e)) fun e => (by cases e), .inr hfar⟩
  | some gq0 =>
    obtain ⟨cap0, h⟩ := h
    have hgq : g ≠ gq0 := fun e => hgo (by rw [e])
    refine (qpush_raw c K _ n _ g p (V g) (by omega) w h.owns h.blk h.hole hg hgc (fun k hk => by
      have : gq0 = k := by injection hk
      subst this
      exact ⟨Ne.symm h.cq, Ne.symm hgq⟩)).mono ?_
    rintro e w' ⟨rfl, v', ho, hb2, hg2, hs, t⟩
    refine ⟨rfl, ?_⟩
    have t2 : Turn (fun j => j = c ∨ j = g ∨ some gq0 = some j) w w' := t.mono fun j _ hj => hj
    obtain ⟨ad, cap, rfl, _, _, s3⟩ := shape_of ho
    obtain ⟨gq, rfl, -, hlt⟩ := s3 (by omega)
    have hfar : some gq0 = some gq ∨ w.heap.size ≤ gq := by
      rcases hs with hs | hs
      · exact .inl hs.symm
      · exact .inr (hs gq rfl)
    have hc := h.blk.lt
    have hgl := hg.lt
    have hne : ∀ k, k < w.heap.size → k ≠ gq0 → k ≠ gq := fun k hk hk2 => by
      rcases hfar with e | e
      · injection e with e; rw [← e]; exact hk2
      · omega
    have hAl : ∀ i, i < n → A i < w.heap.size := fun i hi => (h.item i hi).lt
    exact ⟨gq, cap, QAt.pushed h.hole (by omega) ho hb2 hg2 (fun i hi => (h.item i hi).turn t2 (by
      rintro (e | e | e)
      · exact (h.ca i hi).1 e
      · exact hA i hi e
      · injection e with e; exact (h.ca i hi).2 e.symm)) h.inj hA (hne c hc h.cq) ⟨hgc, hne g hgl hgq⟩ (fun i hi => ⟨(h.ca i hi).1, hne _ (hAl i hi) (h.ca i hi).2⟩) h.used hug, t2, hfar⟩
theorem heap_upd {V : Nat → Rec} {A : Nat → Nat} {n g : Nat} (h : heapTo (kV V) A n) : heapTo (kV V) (upd A n g) n := fun k h0 hk => by
  have hp : par k < k := by unfold par; omega
  rw [upd_other _ (by omega), upd_other _ (by omega)]
  exact h k h0 hk
set_option maxHeartbeats 4000000 in
theorem push_any {c : Nat} {K : Value → Array Value} {o : Option Nat} {n g p : Nat} {A : Nat → Nat} {V : Nat → Rec} (hn : n < 256) (w : World) (h : QQ c K o n A V w) (hh : heapTo (kV V) A n) (hg : Blk g (recCells (V g) p) 91 w) (hgc : g ≠ c) (hgo : o ≠ some g) (hA : ∀ i, i < n → A i ≠ g) (hug : (V g).used < 2305843009213693952) :
    Calls Tryz.prog 76 #[hV c, .iface 80 (ptrV g)] w (PushRet c K o n g A V w) := by
  have nl := q_nil "Len" _ _ len_m c
  have np := q_nil "Push" _ _ push_m c
  have mp := q_method_ptr "Push" _ push_m c
  have P := Lib.hid (qpush_any hn w h hg hgc hgo hA hug)
  have HU := Lib.hid (up_begin (heap_upd (g := g) hh))
  clear h hh hg
  go_enter Tryz.func76, Tryz.ntmps76
  go_wp2_with fail
  refine P.out.mono ?_; rintro e w1 ⟨rfl, gq, cap, hq, t, hfar⟩
  have ml := fun fuel => q_method "Len" _ len_m c _ w1 hq.var fuel
  have L := Lib.hid (len_any (some ⟨gq, 0, none⟩) (n + 1) cap hq.le hq.hi w1)
  have sm := hq.small
  have U := Lib.hid (up_any (V := V) (n + 1) n (by omega) (Nat.le_refl _) w1 hq HU.out)
  have HT : Hid (Turn (fun j => j = c ∨ j = g ∨ o = some j) w w1 ∧ (o = some gq ∨ w.heap.size ≤ gq)) := Lib.hid ⟨t, hfar⟩
  clear P hq t hfar
  go_wp2_with fail
  refine L.out.mono ?_; rintro e w' ⟨rfl, rfl⟩
  go_wp2_with fail
  refine U.out.mono ?_; rintro e w2 ⟨rfl, C, hq2, hh2, hw2⟩
  have HZ : Hid (PushRet c K o n g A V w (.returned (.tuple #[])) w2) := Lib.hid (by
    obtain ⟨t, hfar⟩ := HT.out
    refine ⟨gq, cap, C, rfl, hq2, hh2, hw2.same, ?_, hfar⟩
    refine (t.mono (N := fun j => j = c ∨ j = g ∨ o = some j ∨ ∃ i, i < n ∧ j = A i) fun j _ hj => hj.elim .inl fun hj => .inr (hj.elim .inl fun e => .inr (.inl e))).then hw2.turn fun j hj hq => ?_
    rcases hq with e | ⟨i, hi, e⟩
    · subst e
      rcases hfar with e | e
      · exact .inr (.inr (.inl e))
      · omega
    · by_cases e2 : i = n
      · subst e2; rw [upd_same] at e; exact .inr (.inl e)
      · rw [upd_other _ e2] at e; exact .inr (.inr (.inr ⟨i, by omega, e⟩)))
  clear U hq2 hh2 hw2 HT L
  go_wp2
  go_end0
  exact HZ.out
end Go.Proofs.YtehjobjjlldckaaGreat
