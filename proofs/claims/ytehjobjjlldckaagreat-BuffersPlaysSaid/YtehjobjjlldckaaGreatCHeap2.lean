/- A queue in memory; its methods Swap, Push, Pop. -/
import Derived.Test.YtehjobjjlldckaaGreatCHeap1
import Derived.Test.YtehjobjjlldckaaGreatRowIn
namespace Go.Proofs.YtehjobjjlldckaaGreat
set_option linter.unusedVariables false
open Go.RowKit

theorem recCells_set (r : Rec) (p q : Nat) : (recCells r p).setIfInBounds 5 (.int .i64 (q : Int)) = recCells r q := rfl
set_option maxHeartbeats 1000000 in
theorem swap_raw (gq n cap i j g1 g2 p1 p2 : Nat) (cur : Array Value) (x y : Rec) (hi : i < n) (hj : j < n) (hij : i ≠ j) (hg : g1 ≠ g2) (hn : n ≤ cap) (hc : cap ≤ 9223372036854775807) (hq1 : g1 ≠ gq) (hq2 : g2 ≠ gq) (hs : cur.size = cap) (w : World)
    (bq : Blk gq cur 80 w) (q1 : cur[i]? = some (ptrV g1)) (q2 : cur[j]? = some (ptrV g2))
    (b1 : Blk g1 (recCells x p1) 91 w) (b2 : Blk g2 (recCells y p2) 91 w) :
    Calls Tryz.prog 119 #[.slice (some ⟨gq, 0, none⟩) n cap, .int .i64 (i : Int), .int .i64 (j : Int)] w fun e w' => e = .returned (.tuple #[]) ∧
      Blk gq ((cur.setIfInBounds i (ptrV g2)).setIfInBounds j (ptrV g1)) 80 w' ∧ Blk g1 (recCells x j) 91 w' ∧ Blk g2 (recCells y i) 91 w' ∧ Turn (fun k => k = gq ∨ k = g1 ∨ k = g2) w w' := by
  have e1 := (bq.cell i).trans q1
  have e2 := (bq.cell j).trans q2
  have f1 := bq.frozen i
  have f2 := bq.frozen j
  have HW : Hid (∀ w2, w2 = ((w.setCell ⟨gq, i, none⟩ (ptrV g2)).setCell ⟨gq, j, none⟩ (ptrV g1)).drew → Blk gq ((cur.setIfInBounds i (ptrV g2)).setIfInBounds j (ptrV g1)) 80 w2 ∧ Blk g1 (recCells x p1) 91 w2 ∧ Blk g2 (recCells y p2) 91 w2 ∧ Turn (fun k => k = gq ∨ k = g1 ∨ k = g2) w w2) := Lib.hid (by
    rintro w2 rfl
    exact ⟨(bq.set i _).set j _, (b1.other (Ne.symm hq1) _).other (Ne.symm hq1) _, (b2.other (Ne.symm hq2) _).other (Ne.symm hq2) _, (((Turn.refl (fun k => k = gq ∨ k = g1 ∨ k = g2) w).set (p := ⟨gq, i, none⟩) (.inl rfl) _).set (p := ⟨gq, j, none⟩) (.inl rfl) _).drew⟩)
  have HC : Hid (((cur.setIfInBounds i (ptrV g2)).setIfInBounds j (ptrV g1))[i]? = some (ptrV g2) ∧ ((cur.setIfInBounds i (ptrV g2)).setIfInBounds j (ptrV g1))[j]? = some (ptrV g1)) := Lib.hid (by
    refine ⟨?_, ?_⟩
    · rw [Array.getElem?_setIfInBounds_ne (Ne.symm hij), Array.getElem?_setIfInBounds_self, if_pos (by omega)]
    · rw [Array.getElem?_setIfInBounds_self, if_pos (by simp; omega)])
  clear bq q1 q2 b1 b2
  generalize hA : (cur.setIfInBounds i (ptrV g2)).setIfInBounds j (ptrV g1) = cur2 at *
  clear hA
  unfold ptrV at *
  go_enter Tryz.func119, Tryz.ntmps119
  go_wp2
  go_region
  obtain ⟨w2, hw2⟩ : ∃ w2, w2 = ((w.setCell ⟨gq, i, none⟩ (.pointer (some ⟨g2, 0, none⟩))).setCell ⟨gq, j, none⟩ (.pointer (some ⟨g1, 0, none⟩))).drew := ⟨_, rfl⟩
  rw [← hw2]
  obtain ⟨bq, b1, b2, t⟩ := HW.out w2 hw2
  clear e1 e2 f1 f2 HW hw2
  have e1 := (bq.cell i).trans HC.out.1
  have e2 := (bq.cell j).trans HC.out.2
  obtain ⟨_, _, _, _, _, c15⟩ := rec_cells b1
  obtain ⟨_, _, _, _, _, c25⟩ := rec_cells b2
  have f15 := b1.frozen 5
  have f25 := b2.frozen 5
  have HB := Lib.hid (And.intro bq (And.intro b1 (And.intro b2 t)))
  clear bq b1 b2 t HC
  go_wp2
  go_region
  go_end0
  obtain ⟨bq, b1, b2, t⟩ := HB.out
  refine ⟨rfl, (bq.other (p := ⟨g2, 5, none⟩) hq2 _).other (p := ⟨g1, 5, none⟩) hq1 _, ?_, ?_, ((t.set (p := ⟨g2, 5, none⟩) (.inr (.inr rfl)) _).set (p := ⟨g1, 5, none⟩) (.inr (.inl rfl)) _).drew⟩
  · exact (b1.other (p := ⟨g2, 5, none⟩) (Ne.symm hg) _).set 5 _
  · exact (b2.set 5 _).other (p := ⟨g1, 5, none⟩) hg _
theorem set_same {α : Type} (c : Array α) {i : Nat} {x : α} (h : c[i]? = some x) : c.setIfInBounds i x = c := by
  apply Array.ext_getElem?
  intro k
  by_cases e : i = k
  · subst e
    have := (Array.getElem?_eq_some_iff.1 h).1
    rw [Array.getElem?_setIfInBounds_self, if_pos this, h]
  · rw [Array.getElem?_setIfInBounds_ne e]
set_option maxHeartbeats 1000000 in
/-- an item is put against itself -/
theorem swap_self (gq n cap i g1 p1 : Nat) (cur : Array Value) (x : Rec) (hi : i < n) (hn : n ≤ cap) (hc : cap ≤ 9223372036854775807) (hq1 : g1 ≠ gq) (w : World)
    (bq : Blk gq cur 80 w) (q1 : cur[i]? = some (ptrV g1)) (b1 : Blk g1 (recCells x p1) 91 w) :
    Calls Tryz.prog 119 #[.slice (some ⟨gq, 0, none⟩) n cap, .int .i64 (i : Int), .int .i64 (i : Int)] w fun e w' => e = .returned (.tuple #[]) ∧
      Blk gq cur 80 w' ∧ Blk g1 (recCells x i) 91 w' ∧ Turn (fun k => k = gq ∨ k = g1) w w' := by
  have e1 := (bq.cell i).trans q1
  have f1 := bq.frozen i
  have e2 : (w.setCell ⟨gq, i, none⟩ (ptrV g1)).cell? ⟨gq, i, none⟩ = some (ptrV g1) := World.cell?_setCell_same _ _ _ e1
  have HW : Hid (∀ w2, w2 = ((w.setCell ⟨gq, i, none⟩ (ptrV g1)).setCell ⟨gq, i, none⟩ (ptrV g1)).drew → Blk gq cur 80 w2 ∧ Blk g1 (recCells x p1) 91 w2 ∧ Turn (fun k => k = gq ∨ k = g1) w w2) := Lib.hid (by
    rintro w2 rfl
    refine ⟨?_, (b1.other (Ne.symm hq1) _).other (Ne.symm hq1) _, (((Turn.refl (fun k => k = gq ∨ k = g1) w).set (p := ⟨gq, i, none⟩) (.inl rfl) _).set (p := ⟨gq, i, none⟩) (.inl rfl) _).drew⟩
    have := (bq.set i (ptrV g1)).set i (ptrV g1)
    rw [set_same cur q1, set_same cur q1] at this
    exact this)
  have HC := Lib.hid q1
  clear bq q1 b1
  unfold ptrV at *
  go_enter Tryz.func119, Tryz.ntmps119
  go_wp2
  go_region
  obtain ⟨w2, hw2⟩ : ∃ w2, w2 = ((w.setCell ⟨gq, i, none⟩ (.pointer (some ⟨g1, 0, none⟩))).setCell ⟨gq, i, none⟩ (.pointer (some ⟨g1, 0, none⟩))).drew := ⟨_, rfl⟩
  rw [← hw2]
  obtain ⟨bq, b1, t⟩ := HW.out w2 hw2
  clear e1 e2 f1 HW hw2
  have e1 := (bq.cell i).trans HC.out
  obtain ⟨_, _, _, _, _, c15⟩ := rec_cells b1
  have f15 := b1.frozen 5
  have HB := Lib.hid (And.intro bq (And.intro b1 t))
  clear bq b1 t HC
  go_wp2
  go_region
  go_end0
  obtain ⟨bq, b1, t⟩ := HB.out
  refine ⟨rfl, (bq.other (p := ⟨g1, 5, none⟩) hq1 _).other (p := ⟨g1, 5, none⟩) hq1 _, ?_, ((t.set (p := ⟨g1, 5, none⟩) (.inr rfl) _).set (p := ⟨g1, 5, none⟩) (.inr rfl) _).drew⟩
  exact (b1.set 5 _).set 5 _
/-! ### the queue -/
/-- rows of cells that differ in the sixth alone -/
structure Hole (K : Value → Array Value) : Prop where
  at' : ∀ v, (K v)[6]? = some v
  set : ∀ u v, (K u).setIfInBounds 6 v = K v
structure QAt (c : Nat) (K : Value → Array Value) (gq cap n : Nat) (A : Nat → Nat) (V : Nat → Rec) (w : World) : Prop where
  blk : Blk c (K (.slice (some ⟨gq, 0, none⟩) n cap)) 68 w
  hole : Hole K
  row : ∃ cur, Blk gq cur 80 w ∧ cur.size = cap ∧ ∀ k, k < n → cur[k]? = some (ptrV (A k))
  le : n ≤ cap
  hi : cap ≤ 9223372036854775807
  small : n ≤ 256
  item : ∀ i, i < n → Blk (A i) (recCells (V (A i)) i) 91 w
  inj : ∀ i j, i < n → j < n → A i = A j → i = j
  cq : c ≠ gq
  ca : ∀ i, i < n → A i ≠ c ∧ A i ≠ gq
  used : ∀ i, i < n → (V (A i)).used < 2305843009213693952
def QSet (gq n : Nat) (A : Nat → Nat) : Nat → Prop := fun k => k = gq ∨ ∃ i, i < n ∧ k = A i
theorem cell_turn {M : Nat → Prop} {w a : World} {p : Addr} {v : Value} (h : w.cell? p = some v) (t : Turn M w a) (hp : p.block < w.heap.size) (hM : ¬ M p.block) : a.cell? p = some v := (World.cell?_of_block (t.block p.block hp hM)).trans h
section
variable {c : Nat} {K : Value → Array Value} {gq cap n : Nat} {A : Nat → Nat} {V : Nat → Rec} {w w' : World}
theorem QAt.var (h : QAt c K gq cap n A V w) : w.cell? ⟨c, 6, none⟩ = some (.slice (some ⟨gq, 0, none⟩) n cap) := (h.blk.cell 6).trans (h.hole.at' _)
theorem QAt.lt (h : QAt c K gq cap n A V w) : c < w.heap.size := h.blk.lt
theorem QAt.turn {M : Nat → Prop} (h : QAt c K gq cap n A V w) (t : Turn M w w') (h1 : ¬ M c) (h2 : ¬ M gq) (h3 : ∀ i, i < n → ¬ M (A i)) : QAt c K gq cap n A V w' := by
  obtain ⟨cur, b, s, e⟩ := h.row
  have hc := h.lt
  exact ⟨h.blk.turn t h1, h.hole, ⟨cur, b.turn t h2, s, e⟩, h.le, h.hi, h.small, fun i hi => (h.item i hi).turn t (h3 i hi), h.inj, h.cq, h.ca, h.used⟩
theorem QAt.kept1 (h : QAt c K gq cap n A V w) (b : Below w.heap.size w w') : QAt c K gq cap n A V w' := h.turn (Turn.of_below b fun _ => False) (fun h => h) (fun h => h) fun _ _ h => h
theorem QAt.at (h : QAt c K gq cap n A V w) {i : Nat} (hi : i < n) : w.cell? ⟨gq, i, none⟩ = some (ptrV (A i)) := by
  obtain ⟨cur, b, s, e⟩ := h.row
  exact (b.cell i).trans (e i hi)
theorem QAt.congr {B : Nat → Nat} (h : QAt c K gq cap n A V w) (e : ∀ k, k < n → A k = B k) : QAt c K gq cap n B V w := by
  obtain ⟨cur, b, s, q⟩ := h.row
  exact ⟨h.blk, h.hole, ⟨cur, b, s, fun k hk => by rw [← e k hk]; exact q k hk⟩, h.le, h.hi, h.small, fun i hi => by rw [← e i hi]; exact h.item i hi, fun i j hi hj he => h.inj i j hi hj (by rw [e i hi, e j hj]; exact he), h.cq, fun i hi => by rw [← e i hi]; exact h.ca i hi, fun i hi => by rw [← e i hi]; exact h.used i hi⟩
/-- two items change places -/
theorem QAt.swapped {i j : Nat} (h : QAt c K gq cap n A V w) (hi : i < n) (hj : j < n) (hij : i ≠ j) {cur : Array Value} (hs : cur.size = cap) (q : ∀ k, k < n → cur[k]? = some (ptrV (A k)))
    (bq : Blk gq ((cur.setIfInBounds i (ptrV (A j))).setIfInBounds j (ptrV (A i))) 80 w') (b1 : Blk (A i) (recCells (V (A i)) j) 91 w') (b2 : Blk (A j) (recCells (V (A j)) i) 91 w')
    (t : Turn (fun k => k = gq ∨ k = A i ∨ k = A j) w w') : QAt c K gq cap n (swapF A i j) V w' := by
  have hn := h.le
  have hc := h.lt
  have hcM : ¬ (c = gq ∨ c = A i ∨ c = A j) := by
    rintro (e | e | e)
    · exact h.cq e
    · exact (h.ca i hi).1 e.symm
    · exact (h.ca j hj).1 e.symm
  refine ⟨h.blk.turn t hcM, h.hole, ⟨_, bq, by simp [hs], fun k hk => ?_⟩, h.le, h.hi, h.small, fun k hk => ?_, fun a b ha hb e => ?_, h.cq, fun k hk => ?_, fun k hk => ?_⟩
  · by_cases e1 : k = j
    · subst e1; rw [Array.getElem?_setIfInBounds_self, if_pos (by simp; omega), swapF_r]
    · rw [Array.getElem?_setIfInBounds_ne (Ne.symm e1)]
      by_cases e2 : k = i
      · subst e2; rw [Array.getElem?_setIfInBounds_self, if_pos (by omega), swapF_l]
      · rw [Array.getElem?_setIfInBounds_ne (Ne.symm e2), swapF_o A e2 e1]; exact q k hk
  · by_cases e1 : k = j
    · subst e1; rw [swapF_r]; exact b1
    · by_cases e2 : k = i
      · subst e2; rw [swapF_l]; exact b2
      · rw [swapF_o A e2 e1]
        refine (h.item k hk).turn t ?_
        rintro (e | e | e)
        · exact (h.ca k hk).2 e
        · exact e2 (h.inj k i hk hi e)
        · exact e1 (h.inj k j hk hj e)
  · exact same_inj (same_swap A hi hj) h.inj a b ha hb e
  · obtain ⟨m, hm, e⟩ := same_mem (same_swap A hi hj) hk
    rw [e]; exact h.ca m hm
  · obtain ⟨m, hm, e⟩ := same_mem (same_swap A hi hj) hk
    rw [e]; exact h.used m hm
end
theorem less_any {c : Nat} {K : Value → Array Value} {gq cap n : Nat} {A : Nat → Nat} {V : Nat → Rec} (i j : Nat) (hi : i < n) (hj : j < n) (w : World) (h : QAt c K gq cap n A V w) :
    Calls Tryz.prog 118 #[.slice (some ⟨gq, 0, none⟩) n cap, .int .i64 (i : Int), .int .i64 (j : Int)] w fun e w' => e = .returned (.bool (decide (keyR (V (A i)) < keyR (V (A j))))) ∧ Below w.heap.size w w' := by
  rw [← less_key (h.used i hi) (h.used j hj)]
  exact less_raw gq n cap i j (A i) (A j) i j _ _ hi hj h.le h.hi w (h.at hi) (h.at hj) (h.item i hi) (h.item j hj)
theorem swap_any {c : Nat} {K : Value → Array Value} {gq cap n : Nat} {A : Nat → Nat} {V : Nat → Rec} (i j : Nat) (hi : i < n) (hj : j < n) (hij : i ≠ j) (w : World) (h : QAt c K gq cap n A V w) :
    Calls Tryz.prog 119 #[.slice (some ⟨gq, 0, none⟩) n cap, .int .i64 (i : Int), .int .i64 (j : Int)] w fun e w' => e = .returned (.tuple #[]) ∧ QAt c K gq cap n (swapF A i j) V w' ∧ Turn (QSet gq n A) w w' := by
  obtain ⟨cur, b, s, q⟩ := h.row
  refine (swap_raw gq n cap i j (A i) (A j) i j cur _ _ hi hj hij (fun e => hij (h.inj i j hi hj e)) h.le h.hi (h.ca i hi).2 (h.ca j hj).2 s w b (q i hi) (q j hj) (h.item i hi) (h.item j hj)).mono ?_
  rintro e w' ⟨rfl, bq, b1, b2, t⟩
  exact ⟨rfl, h.swapped hi hj hij s q bq b1 b2 t, t.mono fun k _ hk => hk.elim .inl fun hk => .inr (hk.elim (fun e => ⟨i, hi, e⟩) fun e => ⟨j, hj, e⟩)⟩
theorem swap_one {c : Nat} {K : Value → Array Value} {gq cap n : Nat} {A : Nat → Nat} {V : Nat → Rec} (i : Nat) (hi : i < n) (w : World) (h : QAt c K gq cap n A V w) :
    Calls Tryz.prog 119 #[.slice (some ⟨gq, 0, none⟩) n cap, .int .i64 (i : Int), .int .i64 (i : Int)] w fun e w' => e = .returned (.tuple #[]) ∧ QAt c K gq cap n A V w' ∧ Turn (QSet gq n A) w w' := by
  obtain ⟨cur, b, s, q⟩ := h.row
  refine (swap_self gq n cap i (A i) i cur _ hi h.le h.hi (h.ca i hi).2 w b (q i hi) (h.item i hi)).mono ?_
  rintro e w' ⟨rfl, bq, b1, t⟩
  have hc := h.lt
  have hcM : ¬ (c = gq ∨ c = A i) := by
    rintro (e | e)
    · exact h.cq e
    · exact (h.ca i hi).1 e.symm
  refine ⟨rfl, ⟨h.blk.turn t hcM, h.hole, ⟨cur, bq, s, q⟩, h.le, h.hi, h.small, fun k hk => ?_, h.inj, h.cq, h.ca, h.used⟩, t.mono fun k _ hk => hk.elim .inl fun e => .inr ⟨i, hi, e⟩⟩
  by_cases e : k = i
  · subst e; exact b1
  · refine (h.item k hk).turn t ?_
    rintro (e2 | e2)
    · exact (h.ca k hk).2 e2
    · exact e (h.inj k i hk hi e2)
theorem QSet.swap {gq n : Nat} {A : Nat → Nat} {i j : Nat} (hi : i < n) (hj : j < n) {k : Nat} (h : QSet gq n (swapF A i j) k) : QSet gq n A k := by
  rcases h with h | ⟨m, hm, h⟩
  · exact .inl h
  · obtain ⟨l, hl, e⟩ := same_mem (same_swap A hi hj) hm
    exact .inr ⟨l, hl, h.trans e⟩
theorem QSet.same {gq n : Nat} {A B : Nat → Nat} (s : sameTo A B n) {k : Nat} (h : QSet gq n B k) : QSet gq n A k := by
  rcases h with h | ⟨m, hm, h⟩
  · exact .inl h
  · obtain ⟨l, hl, e⟩ := same_mem s hm
    exact .inr ⟨l, hl, h.trans e⟩
end Go.Proofs.YtehjobjjlldckaaGreat
