/- Entries in memory: rows of three ints each. -/
import Derived.Test.YtgcbfiecgiijkaaEnt0
import Derived.Test.YtgcbfiecgiijkaaBase
import Derived.Test.YtgcbfiecgiijkaaRowIn
import Derived.Laws.AppendOwnNone
namespace Go.Proofs.Ytgcbfiecgiijkaa
set_option linter.unusedVariables false
open Go.RowKit

abbrev entV (e : Ent) : Value := .agg #[.int .i64 e.log, .int .i64 e.phys, .int .i64 e.len]
abbrev entC (e : Ent) : Array Value := #[.int .i64 e.log, .int .i64 e.phys, .int .i64 e.len]
def fitE (l : List Ent) : Prop := ∀ e ∈ l, I64 e.log ∧ I64 e.phys ∧ I64 e.len
theorem fitE_at {l : List Ent} (h : fitE l) {k : Nat} (hk : k < l.length) : I64 (eat l k).log ∧ I64 (eat l k).phys ∧ I64 (eat l k).len := by
  rw [eat_eq hk]; exact h _ (List.getElem_mem hk)
/-- the cells of a list of entries -/
def cellsE : List Ent → List Value
  | [] => []
  | e :: l => .int .i64 e.log :: .int .i64 e.phys :: .int .i64 e.len :: cellsE l
theorem cellsE_length : ∀ l, (cellsE l).length = l.length * 3
  | [] => rfl
  | r :: l => by rw [cellsE, List.length_cons, List.length_cons, List.length_cons, cellsE_length l, List.length_cons]; omega
theorem cellsE_append : ∀ a b, cellsE (a ++ b) = cellsE a ++ cellsE b
  | [], b => rfl
  | r :: a, b => by rw [List.cons_append, cellsE, cellsE, cellsE_append a b]; rfl
theorem cellsE_at : ∀ (l : List Ent) (k : Nat) (h : k < l.length), (cellsE l)[k * 3]? = some (.int .i64 (eat l k).log) ∧ (cellsE l)[k * 3 + 1]? = some (.int .i64 (eat l k).phys) ∧ (cellsE l)[k * 3 + 2]? = some (.int .i64 (eat l k).len)
  | r :: l, 0, _ => ⟨rfl, rfl, rfl⟩
  | r :: l, k + 1, h => by
    have := cellsE_at l k (by simpa using h)
    rw [show (k + 1) * 3 = k * 3 + 1 + 1 + 1 by omega, cellsE]
    have e : eat (r :: l) (k + 1) = eat l k := by unfold eat; simp
    rw [e]
    exact this
/-- v is a slice of the entries, wherever they lie -/
abbrev EntsIn (v : Value) (l : List Ent) (w : World) : Prop := RowIn 3 v l.length (cellsE l) w
/-- v holds the entries, in a row of the call's own, at B or behind -/
abbrev EntsAt (B : Nat) (v : Value) (l : List Ent) (w : World) : Prop := w.ownsRow B 57 3 v l.length (cellsE l)
/-- its value's shape, and its cells, in every world behind -/
theorem entsIn_cells {v : Value} {l : List Ent} {w : World} (h : EntsIn v l w) : ∃ ad cap, v = .slice ad l.length cap ∧ l.length ≤ cap ∧ cap ≤ 9223372036854775807 ∧
    (0 < l.length → ∃ g o, ad = some ⟨g, o, none⟩ ∧ g < w.heap.size ∧ ∀ w', Below w.heap.size w w' → ∀ k, k < l.length → w'.cell? ⟨g, o + k * 3, none⟩ = some (.int .i64 (eat l k).log) ∧ w'.cell? ⟨g, o + k * 3 + 1, none⟩ = some (.int .i64 (eat l k).phys) ∧ w'.cell? ⟨g, o + k * 3 + 2, none⟩ = some (.int .i64 (eat l k).len)) ∧ (ad = none → cap = 0) := by
  obtain ⟨ad, cap, rfl, h1, h2, h3, h4⟩ := h.shape
  refine ⟨ad, cap, rfl, h1, h2, fun hp => ?_, h4⟩
  obtain ⟨g, o, rfl, hg, hc⟩ := h3 (by rw [cellsE_length]; omega)
  refine ⟨g, o, rfl, hg, fun w' hb k hk => ?_⟩
  obtain ⟨e1, e2, e3⟩ := cellsE_at l k hk
  exact ⟨(hb.cell (p := ⟨g, o + k * 3, none⟩) hg).trans (hc _ _ e1), (hb.cell (p := ⟨g, o + (k * 3 + 1), none⟩) hg).trans (hc _ _ e2), (hb.cell (p := ⟨g, o + (k * 3 + 2), none⟩) hg).trans (hc _ _ e3)⟩
theorem entsAt_in {B : Nat} {v : Value} {l : List Ent} {w : World} (h : EntsAt B v l w) : EntsIn v l w := by
  refine ⟨cellsE_length l, ?_⟩
  rcases h.2 with ⟨rfl, h0⟩ | ⟨g, cap, cur, rfl, hb, hcur, hr⟩
  · exact ⟨none, 0, by rw [h0], by omega, by unfold maxLen; omega, fun hp => by rw [cellsE_length, h0] at hp; omega, fun _ => rfl⟩
  · refine ⟨_, _, rfl, hr.1, hr.2.1, fun _ => ⟨g, 0, rfl, lt_of_block hcur, fun k u hk => ?_⟩, fun h => by cases h⟩
    rw [Nat.zero_add]
    have hlt := (List.getElem?_eq_some_iff.1 hk).1
    rw [cellsE_length] at hlt
    exact (h.cellAt k (by omega)).trans hk
/-- an own row, read, whatever its elements' type -/
theorem rowE_in {B : Nat} {v : Value} {l : List Ent} {w : World} {e : TypeId} (h : w.ownsRow B e 3 v l.length (cellsE l)) : EntsIn v l w := by
  refine ⟨cellsE_length l, ?_⟩
  rcases h.2 with ⟨rfl, h0⟩ | ⟨g, cap, cur, rfl, hb, hcur, hr⟩
  · exact ⟨none, 0, by rw [h0], by omega, by unfold maxLen; omega, fun hp => by rw [cellsE_length, h0] at hp; omega, fun _ => rfl⟩
  · refine ⟨_, _, rfl, hr.1, hr.2.1, fun _ => ⟨g, 0, rfl, lt_of_block hcur, fun k u hk => ?_⟩, fun h => by cases h⟩
    rw [Nat.zero_add]
    have hlt := (List.getElem?_eq_some_iff.1 hk).1
    rw [cellsE_length] at hlt
    exact (h.cellAt k (by omega)).trans hk
theorem cellsE_one : ∀ (M : List Ent), ∀ x ∈ cellsE M, x.oneCell' = true
  | [], x, hx => by cases hx
  | e :: M, x, hx => by
    rw [cellsE, List.mem_cons, List.mem_cons, List.mem_cons] at hx
    rcases hx with rfl | rfl | rfl | hx
    · rfl
    · rfl
    · rfl
    · exact cellsE_one M x hx
/-- a row of triples: whatever row behind it -/
theorem wpList_appE {ops : Array Oper} {rest : List Oper} {o : Oper} {a : Act} {Q : Exit → Act → World → Prop} {w : World} (hgd : o.guard = none) (s x : Operand) (T e : TypeId)
    (ho : o.op = .call { callee := .builtin .append, args := #[s, x], argTypes := #[T, T] }) (ht : Try.prog.underlying T = some (.slice e)) (hinf : (Try.prog.info? e).map (fun i => (i.zero, i.size, i.bytes)) = some (some (.agg #[.int .i64 0, .int .i64 0, .int .i64 0]), 3, 24))
    (base : Nat) (v : Value) (L : List Ent) (hs : a.eval s = v) (hown : w.ownsRow base e 3 v L.length (cellsE L)) (u : Value) (M : List Ent) (hx : a.eval x = u) (hu : EntsIn u M w)
    (hlen : L.length + M.length ≤ 4000000) (hbase : base ≤ w.heap.size)
    (h : ∀ v' w', w'.ownsRow base e 3 v' (L ++ M).length (cellsE (L ++ M)) → w.grownBy w' v.ownBlock → wpList Try.prog ops Q rest (a.put o.dst v') w') : wpList Try.prog ops Q (o :: rest) a w := by
  obtain ⟨i0, hi, hz0, hz1, hz2⟩ := info_parts hinf
  obtain ⟨h0, ad, cap, rfl, a1, a2, a3, a4⟩ := hu
  cases ad with
  | none =>
    have hc := a4 rfl
    subst hc
    have hm : M = [] := List.eq_nil_of_length_eq_zero (by omega)
    subst hm
    refine wpList_append_own_none hgd s x T ho base e i0 3 ht hi v _ _ hs hown hx (h v w ?_ ⟨rfl, rfl, rfl, Nat.le_refl _, fun _ _ _ => rfl⟩)
    rw [List.append_nil]; exact hown
  | some ad =>
    have hnews : ∀ j x, (cellsE M)[j]? = some x → w.cell? (ad.add j) = some x := by
      intro j x hj
      have hlt := (List.getElem?_eq_some_iff.1 hj).1
      obtain ⟨g, o, e, _, hc⟩ := a3 (by omega)
      cases e
      rw [add_at]; exact hc j x hj
    refine wpList_append_own w hgd s x T ho base e i0 _ 3 24 ht hi hz0 hz1 hz2 rfl (by decide) v _ _ hs hown ad M.length cap (cellsE M) hx (cellsE_length M) hnews (cellsE_one M) (by unfold maxLen; omega) (by omega) hbase ?_
    intro v' w' h1 h2 _
    refine h v' w' ?_ h2
    rw [List.length_append, cellsE_append]
    exact h1
theorem three_new (w : World) (y : Ent) (e : TypeId) : ∀ j u, [Value.int .i64 y.log, Value.int .i64 y.phys, Value.int .i64 y.len][j]? = some u → (w.alloc (.cells (entC y) e)).cell? ((⟨w.heap.size, 0, none⟩ : Addr).add j) = some u := fun j u hj => by
  rw [add_at, Nat.zero_add, World.cell?_alloc_mark]
  simpa using hj
/-- a row of triples: one more behind -/
theorem wpList_app3 {ops : Array Oper} {rest : List Oper} {o : Oper} {a : Act} {Q : Exit → Act → World → Prop} {w : World} (hgd : o.guard = none) (s x : Operand) (T e : TypeId)
    (ho : o.op = .call { callee := .builtin .append, args := #[s, x], argTypes := #[T, T] }) (ht : Try.prog.underlying T = some (.slice e)) (hinf : (Try.prog.info? e).map (fun i => (i.zero, i.size, i.bytes)) = some (some (.agg #[.int .i64 0, .int .i64 0, .int .i64 0]), 3, 24))
    (base : Nat) (v : Value) (L : List Ent) (y : Ent) (hs : a.eval s = v) (hown : w.ownsRow base e 3 v L.length (cellsE L)) (W : World) (hW : w = W.alloc (.cells (entC y) e)) (q : Nat) (hq : W.heap.size = q) (hx : a.eval x = .slice (some ⟨q, 0, none⟩) 1 1)
    (hlen : L.length ≤ 4000) (hbase : base ≤ w.heap.size)
    (h : ∀ v' w', w'.ownsRow base e 3 v' (L ++ [y]).length (cellsE (L ++ [y])) → w.grownBy w' v.ownBlock → wpList Try.prog ops Q rest (a.put o.dst v') w') : wpList Try.prog ops Q (o :: rest) a w := by
  obtain ⟨i0, hi, hz0, hz1, hz2⟩ := info_parts hinf
  subst hW
  subst hq
  refine wpList_append_own (w := W.alloc (.cells (entC y) e)) hgd s x T ho base e i0 _ 3 24 ht hi hz0 hz1 hz2 rfl (by decide) v _ _ hs hown ⟨W.heap.size, 0, none⟩ 1 1 [.int .i64 y.log, .int .i64 y.phys, .int .i64 y.len] hx rfl (three_new W y e) (fun u hu => by simp at hu; rcases hu with rfl | rfl | rfl <;> rfl) (by unfold maxLen; omega) (by omega) hbase ?_
  intro v' w' h1 h2 _
  refine h v' w' ?_ h2
  rw [List.length_append, List.length_singleton, cellsE_append]
  exact h1
theorem blk_kinds {g : Nat} {cs : Array Value} {T e : TypeId} {w w2 : World} {B n : Nat} {v : Value} {xs : List Value} {z : Nat} (h : Blk g cs T w) (ho : w.ownsRow B e z v n xs) (hT : T ≠ e) (hg : w.grownBy w2 v.ownBlock) : Blk g cs T w2 := by
  refine (hg.block g h.lt fun hk => ?_).trans h
  rcases ho.2 with ⟨rfl, -⟩ | ⟨g', cap, cur, rfl, -, hcur, -⟩
  · cases hk
  · have e1 : g = g' := by injection hk
    subst e1
    have h' : w.heap[g]? = some (.cells cs T (0, 0)) := h
    rw [h'] at hcur
    injection hcur with q
    injection q with q1 q2
    exact hT q2
theorem entry_info : (Try.prog.info? 57).map (fun i => (i.zero, i.size, i.bytes)) = some (some (.agg #[.int .i64 0, .int .i64 0, .int .i64 0]), 3, 24) := by kernel_rfl
theorem app3_run {T e ty : TypeId} (ht : Try.prog.underlying T = some (.slice e)) (hinf : (Try.prog.info? e).map (fun i => (i.zero, i.size, i.bytes)) = some (some (.agg #[.int .i64 0, .int .i64 0, .int .i64 0]), 3, 24))
    (base : Nat) (v : Value) (L : List Ent) (y : Ent) (W : World) (hown : W.ownsRow base e 3 v L.length (cellsE L)) (hlen : L.length ≤ 4000) (hbase : base ≤ W.heap.size) :
    ∃ v' w', (Builtin.append_ #[T, T] ty #[v, .slice (some ⟨W.heap.size, 0, none⟩) 1 1]).run Try.prog (W.alloc (.cells (entC y) e)) = .ok v' w' ∧ w'.ownsRow base e 3 v' (L ++ [y]).length (cellsE (L ++ [y])) ∧ (W.alloc (.cells (entC y) e)).grownBy w' v.ownBlock := by
  obtain ⟨i0, hi, hz0, hz1, hz2⟩ := info_parts hinf
  obtain ⟨v', w', hr, k1, k2, _⟩ := run_append_own (P := Try.prog) (W.alloc (.cells (entC y) e)) base T ty e i0 _ 3 24 ht hi hz0 hz1 hz2 rfl (by decide) v L.length (cellsE L) (hown.alloc _) ⟨W.heap.size, 0, none⟩ 1 1 [.int .i64 y.log, .int .i64 y.phys, .int .i64 y.len] rfl (three_new W y e) (fun u hu => by simp at hu; rcases hu with rfl | rfl | rfl <;> rfl) (by unfold maxLen; omega) (by omega) (by rw [size_alloc]; omega)
  refine ⟨v', w', hr, ?_, k2⟩
  rw [List.length_append, List.length_singleton, cellsE_append]
  exact k1
theorem row_same' {B n : Nat} {v : Value} {e : TypeId} {z : Nat} {xs : List Value} {w w' : World} (h : w.ownsRow B e z v n xs) (he : ∀ j, B ≤ j → w'.heap[j]? = w.heap[j]?) : w'.ownsRow B e z v n xs :=
  ⟨h.1, h.2.imp id fun ⟨g, cap, cur, a, b, c, r⟩ => ⟨g, cap, cur, a, b, (he g b).trans c, r⟩⟩
/-- append of whatever row to a row of one's own -/
theorem appE_run (W : World) (base : Nat) (v : Value) (L : List Ent) (hown : EntsAt base v L W) (u : Value) (M : List Ent) (hu : EntsIn u M W) (hl : L.length + M.length ≤ 4000) (hbase : base ≤ W.heap.size) :
    ∃ v' w', (Builtin.append_ #[56, 56] 56 #[v, u]).run Try.prog W = .ok v' w' ∧ EntsAt base v' (L ++ M) w' ∧ W.grownBy w' v.ownBlock := by
  obtain ⟨i0, hi, hz0, hz1, hz2⟩ := info_parts entry_info
  obtain ⟨h0, ad, cap, rfl, a1, a2, a3, a4⟩ := hu
  cases ad with
  | none =>
    have hc := a4 rfl
    subst hc
    have hm : M = [] := List.eq_nil_of_length_eq_zero (by omega)
    subst hm
    refine ⟨v, W, ?_, by rw [List.append_nil]; exact hown, ⟨rfl, rfl, rfl, Nat.le_refl _, fun _ _ _ => rfl⟩⟩
    exact run_append_owned_none (P := Try.prog) (w := W) base 56 56 57 i0 3 Try.underlying56 hi v L.length (cellsE L) hown
  | some ad =>
    have hnews : ∀ j x, (cellsE M)[j]? = some x → W.cell? (ad.add j) = some x := by
      intro j x hj
      have hlt := (List.getElem?_eq_some_iff.1 hj).1
      obtain ⟨g, o, e, _, hc⟩ := a3 (by omega)
      cases e
      rw [add_at]; exact hc j x hj
    have h1 : ∀ x ∈ cellsE M, x.oneCell' = true := by
      intro x hx
      clear hnews a3 a4 h0 a1 hl
      induction M with
      | nil => cases hx
      | cons e M ih =>
        rw [cellsE, List.mem_cons, List.mem_cons, List.mem_cons] at hx
        rcases hx with rfl | rfl | rfl | hx
        · rfl
        · rfl
        · rfl
        · exact ih hx
    obtain ⟨v', w', hr, k1, k2, _⟩ := run_append_own (P := Try.prog) W base 56 56 57 i0 _ 3 24 Try.underlying56 hi hz0 hz1 hz2 rfl (by decide) v L.length (cellsE L) hown ad M.length cap (cellsE M) (cellsE_length M) hnews h1 (by unfold maxLen; omega) (by omega) hbase
    refine ⟨v', w', hr, ?_, k2⟩
    show w'.ownsRow _ _ _ _ (L ++ M).length (cellsE (L ++ M))
    rw [List.length_append, cellsE_append]; exact k1
theorem in_grownE {z n : Nat} {g o c : Nat} {cs : List Value} {w w' : World} {b : Option Nat} (h : RowIn z (.slice (some ⟨g, o, none⟩) n c) n cs w) (hp : 0 < cs.length) (hg : w.grownBy w' b) (hb : b ≠ some g) : RowIn z (.slice (some ⟨g, o, none⟩) n c) n cs w' := by
  obtain ⟨h0, ad, cap, e, h1, h2, h3, h4⟩ := h
  cases e
  refine ⟨h0, _, _, rfl, h1, h2, fun hp => ?_, fun h => by cases h⟩
  obtain ⟨g', o', e, hlt, hc⟩ := h3 hp
  cases e
  exact ⟨g, o, rfl, Nat.lt_of_lt_of_le hlt hg.size, fun k u hk => (World.cell?_of_block (a := ⟨g, o + k, none⟩) (hg.block g hlt (fun e => hb e.symm))).trans (hc k u hk)⟩
theorem fit_small {l : List Ent} (h : ∀ e ∈ l, (-10000 ≤ e.log ∧ e.log ≤ 10000) ∧ (-10000 ≤ e.phys ∧ e.phys ≤ 10000) ∧ (-10000 ≤ e.len ∧ e.len ≤ 10000)) : fitE l := fun e he => by
  have := h e he
  exact ⟨⟨by omega, by omega⟩, ⟨by omega, by omega⟩, ⟨by omega, by omega⟩⟩
/-- entries that a literal has just laid -/
theorem lit_inE (W : World) (l : List Ent) (cs : Array Value) (hl : l.length ≤ 4000) (hc : cs.toList = cellsE l) : EntsIn (.slice (some ⟨W.heap.size, 0, none⟩) l.length l.length) l (W.alloc (.cells cs 57)) := by
  refine ⟨cellsE_length l, some ⟨W.heap.size, 0, none⟩, l.length, rfl, Nat.le_refl _, by unfold maxLen; omega, fun _ => ⟨W.heap.size, 0, rfl, by rw [size_alloc]; omega, fun k u hk => ?_⟩, fun h => by cases h⟩
  rw [Nat.zero_add, World.cell?_alloc_mark]
  rw [← hc] at hk
  simpa using hk
theorem ents_nil (w : World) : EntsIn (.slice none 0 0) [] w := RowIn.nil 3 w
/-- the end: the copy, and what lies behind it, in memory of its own; all older is as it was -/
abbrev appRun (v u : Value) (W : World) (v' : Value) (w' : World) : Prop := (Builtin.append_ #[56, 56] 56 #[v, u]).run Try.prog W = .ok v' w'
abbrev TwinFin (W0 : World) (v : Value) (R : List Ent) (w : World) : Prop := EntsAt W0.heap.size v R w ∧ Below W0.heap.size W0 w
theorem three_runs (W0 : World) (O1 O2 : Obj) (c m : Nat) (L M : List Ent) (u : Value) (hu : EntsIn u L W0) (hm : M.length = m) (hm0 : 0 < m) (hl : L.length + M.length ≤ 4000)
    (h1 : ∀ W : World, EntsAt W.heap.size (.slice (some ⟨W.heap.size, 0, none⟩) 0 c) [] (W.alloc O1))
    (h2 : ∀ W : World, RowIn 3 (.slice (some ⟨W.heap.size, 0, none⟩) m m) m (cellsE M) (W.alloc O2)) :
    (∃ v w v' w', appRun (.slice (some ⟨W0.heap.size, 0, none⟩) 0 c) u (W0.alloc O1) v w ∧ appRun v (.slice (some ⟨w.heap.size, 0, none⟩) m m) (w.alloc O2) v' w' ∧ Below W0.heap.size W0 w ∧ TwinFin W0 v' (L ++ M) w') ∧
    (∃ v w v' w', appRun (.slice (some ⟨W0.heap.size, 0, none⟩) 0 c) u ((W0.alloc O1).alloc O2) v w ∧ appRun v (.slice (some ⟨W0.heap.size + 1, 0, none⟩) m m) w v' w' ∧ Below W0.heap.size W0 w ∧ TwinFin W0 v' (L ++ M) w') ∧
    (∃ v w v' w', appRun (.slice (some ⟨W0.heap.size + 1, 0, none⟩) 0 c) u ((W0.alloc O2).alloc O1) v w ∧ appRun v (.slice (some ⟨W0.heap.size, 0, none⟩) m m) w v' w' ∧ Below W0.heap.size W0 w ∧ TwinFin W0 v' (L ++ M) w') := by
  have z1 := size_alloc W0 O1
  have z2 := size_alloc W0 O2
  have z12 : ((W0.alloc O1).alloc O2).heap.size = W0.heap.size + 2 := by rw [size_alloc, z1]
  have z21 : ((W0.alloc O2).alloc O1).heap.size = W0.heap.size + 2 := by rw [size_alloc, z2]
  have i2 : ∀ (W : World) (q : Nat), W.heap.size = q → EntsIn (.slice (some ⟨q, 0, none⟩) m m) M (W.alloc O2) := fun W q e => by
    have := h2 W
    rw [e] at this
    show RowIn 3 _ M.length (cellsE M) _
    rw [hm]; exact this
  have hp : 0 < (cellsE M).length := by rw [cellsE_length]; omega
  refine ⟨?_, ?_, ?_⟩
  · obtain ⟨v, w, r1, k1, g1⟩ := appE_run (W0.alloc O1) W0.heap.size _ [] (h1 W0) u L (hu.kept (balloc1 _ _)) (by simp; omega) (by omega)
    have b1 := (balloc1 W0 O1).trans (below_of_row (h1 W0) g1 (by omega))
    have hs := b1.size
    obtain ⟨v', w', r2, k2, g2⟩ := appE_run (w.alloc O2) W0.heap.size v L (k1.alloc O2) _ M (i2 w _ rfl) (by omega) (by rw [size_alloc]; omega)
    exact ⟨v, w, v', w', r1, r2, b1, k2, (balloc b1 O2).trans (below_of_row (k1.alloc O2) g2 (by rw [size_alloc]; omega))⟩
  · have o1 : EntsAt W0.heap.size (.slice (some ⟨W0.heap.size, 0, none⟩) 0 c) [] ((W0.alloc O1).alloc O2) := (h1 W0).alloc O2
    have bb := balloc (balloc1 W0 O1) O2
    obtain ⟨v, w, r1, k1, g1⟩ := appE_run ((W0.alloc O1).alloc O2) W0.heap.size _ [] o1 u L (hu.kept bb) (by simp; omega) (by omega)
    have b1 := bb.trans (below_of_row o1 g1 (by omega))
    have hs := b1.size
    have j2 : RowIn 3 (.slice (some ⟨W0.heap.size + 1, 0, none⟩) m m) m (cellsE M) ((W0.alloc O1).alloc O2) := by
      have := i2 (W0.alloc O1) _ z1
      unfold EntsIn at this
      rw [hm] at this; exact this
    have j3 := in_grownE j2 hp g1 (fun e => by have e2 : W0.heap.size = W0.heap.size + 1 := Option.some.inj e; omega)
    obtain ⟨v', w', r2, k2, g2⟩ := appE_run w W0.heap.size v L k1 (.slice (some ⟨W0.heap.size + 1, 0, none⟩) m m) M (by unfold EntsIn; rw [hm]; exact j3) (by omega) hs
    exact ⟨v, w, v', w', r1, r2, b1, k2, b1.trans (below_of_row k1 g2 hs)⟩
  · have o1 : EntsAt W0.heap.size (.slice (some ⟨W0.heap.size + 1, 0, none⟩) 0 c) [] ((W0.alloc O2).alloc O1) := by
      have := row_down (show W0.heap.size ≤ (W0.alloc O2).heap.size by omega) (h1 (W0.alloc O2))
      rw [z2] at this; exact this
    have bb := balloc (balloc1 W0 O2) O1
    obtain ⟨v, w, r1, k1, g1⟩ := appE_run ((W0.alloc O2).alloc O1) W0.heap.size _ [] o1 u L (hu.kept bb) (by simp; omega) (by omega)
    have b1 := bb.trans (below_of_row o1 g1 (by omega))
    have hs := b1.size
    have j2 : RowIn 3 (.slice (some ⟨W0.heap.size, 0, none⟩) m m) m (cellsE M) ((W0.alloc O2).alloc O1) := (h2 W0).kept (balloc1 _ _)
    have j3 := in_grownE j2 hp g1 (fun e => by have e2 : W0.heap.size + 1 = W0.heap.size := Option.some.inj e; omega)
    obtain ⟨v', w', r2, k2, g2⟩ := appE_run w W0.heap.size v L k1 (.slice (some ⟨W0.heap.size, 0, none⟩) m m) M (by unfold EntsIn; rw [hm]; exact j3) (by omega) hs
    exact ⟨v, w, v', w', r1, r2, b1, k2, b1.trans (below_of_row k1 g2 hs)⟩
set_option maxRecDepth 100000 in
theorem room_ents (n : Nat) (hn : n ≤ 4000) (W : World) : (Instr.makeSlice 56 (.int .i64 0) (.int .i64 (n : Int))).run Try.prog W = .ok (.slice (some ⟨W.heap.size, 0, none⟩) 0 n) (W.alloc (.cells (madeCells #[.int .i64 0, .int .i64 0, .int .i64 0] (n * 3)) 57)) ∧
    EntsAt W.heap.size (.slice (some ⟨W.heap.size, 0, none⟩) 0 n) [] (W.alloc (.cells (madeCells #[.int .i64 0, .int .i64 0, .int .i64 0] (n * 3)) 57)) := by
  obtain ⟨i, hi, hz, hs, hb⟩ := info_parts entry_info
  obtain ⟨w', hr, ho, hg⟩ := run_make_own (P := Try.prog) (w := W) W.heap.size 56 57 i _ 3 Try.underlying56 hi hz hs .i64 .i64 n (by rw [hb]; omega) (by unfold maxLen; omega) (Nat.le_refl _)
  have h := run_make (P := Try.prog) W 56 57 i _ Try.underlying56 hi hz .i64 .i64 0 n (by omega) (by omega) (by rw [hb]; omega) (by omega)
  have h2 := hr.symm.trans h
  injection h2 with _ e
  subst e
  refine ⟨by simpa [hs, Value.cells] using h, ?_⟩
  simp [hs, Value.cells] at ho
  exact ho
/-- entries side by side in a block that was just made -/
theorem lit_row (W : World) (M : List Ent) (m : Nat) (cs : Array Value) (hm : M.length = m) (hl : m ≤ 4000) (hc : cs.toList = cellsE M) : RowIn 3 (.slice (some ⟨W.heap.size, 0, none⟩) m m) m (cellsE M) (W.alloc (.cells cs 57)) := by
  subst hm
  exact lit_inE W M cs hl hc
theorem ents_snoc {B : Nat} {v : Value} {l : List Ent} {x : Ent} {w : World} {e : TypeId} (h : w.ownsRow B e 3 v (l.length + 1) (cellsE (l ++ [x]))) : w.ownsRow B e 3 v (l ++ [x]).length (cellsE (l ++ [x])) := by
  rw [List.length_append, List.length_singleton]; exact h
/-- the three cells of an entry that was just laid -/
theorem ent_new (w : World) (e : Ent) (t : TypeId) : ∀ p : BelowP (w.alloc (.cells (entC e) t)), p.to.cell? ⟨w.heap.size, 0, none⟩ = some (.int .i64 e.log) ∧ p.to.cell? ⟨w.heap.size, 1, none⟩ = some (.int .i64 e.phys) ∧ p.to.cell? ⟨w.heap.size, 2, none⟩ = some (.int .i64 e.len) := fun p => by
  have h := (Blk.new (entC e) t w).kept1 p.h
  exact ⟨h.cell 0, h.cell 1, h.cell 2⟩

def Lies (e : Ent) (n : Int) : Prop := (0 ≤ e.log ∧ e.log ≤ 2048 - n) ∧ (1 ≤ e.phys ∧ e.phys ≤ 4096 - n)
instance (e : Ent) (n : Int) : Decidable (Lies e n) := by unfold Lies; infer_instance
theorem entOk_leaf (y : Ent) : EntOk true y ↔ 1 ≤ y.len ∧ Lies y y.len := by
  unfold EntOk Lies; simp only [if_true]; omega
theorem entOk_node (y : Ent) : EntOk false y ↔ y.len = 0 ∧ Lies y 1 := by
  unfold EntOk Lies; simp only [Bool.false_eq_true, if_false]; omega
theorem entOk_end {leaf : Bool} {p : Ent} (h : EntOk leaf p) : 0 ≤ p.log + p.len ∧ p.log + p.len ≤ 10000 := by have := entOk_low h; omega
theorem rowOk_no {leaf : Bool} {l : List Ent} {k : Nat} (hk : k < l.length) (h : ¬ (EntOk leaf (eat l k) ∧ (0 < k → After (eat l (k - 1)) (eat l k)))) : ¬ RowOk leaf l := fun g => h (g k hk)
theorem rowTo_end {leaf : Bool} {l : List Ent} {k : Nat} (h : RowTo leaf l k) (j : Nat) (hj : j < k) : 0 ≤ (eat l j).log + (eat l j).len ∧ (eat l j).log + (eat l j).len ≤ 10000 := entOk_end (h j hj).1
end Go.Proofs.Ytgcbfiecgiijkaa
