import Derived.Test.YtknefoemgifbfaaGreatPd10
import Derived.Test.YtknefoemgifbfaaGreatPd08
import Derived.Test.YtknefoemgifbfaaGreatPd09
import Derived.Laws.AppendOwnNone
set_option linter.unusedVariables false
set_option linter.unusedSimpArgs false
set_option linter.constructorNameAsVariable false
namespace Go.Proofs.YtknefoemgifbfaaGreat
open Go.RowKit
abbrev entV (e : Ent) : Value := .agg #[.int .i64 e.log, .int .i64 e.phys, .int .i64 e.len]
abbrev entC (e : Ent) : Array Value := #[.int .i64 e.log, .int .i64 e.phys, .int .i64 e.len]
def fitE (l : List Ent) : Prop := ∀ e ∈ l, I64 e.log ∧ I64 e.phys ∧ I64 e.len
theorem fitE_at {l : List Ent} (h : fitE l) {k : Nat} (hk : k < l.length) : I64 (eat l k).log ∧ I64 (eat l k).phys ∧ I64 (eat l k).len := by
 rw [eat_eq hk]; exact h _ (List.getElem_mem hk)
def cellsE : List Ent → List Value
 | [] => []
 | e :: l => .int .i64 e.log :: .int .i64 e.phys :: .int .i64 e.len :: cellsE l
theorem cellsE_length : ∀ l, (cellsE l).length = l.length * 3
 | [] => rfl
 | r :: l => by rw [cellsE, List.length_cons, List.length_cons, List.length_cons, cellsE_length l, List.length_cons]; omega
theorem cellsE_append : ∀ a b, cellsE (a ++ b) = cellsE a ++ cellsE b
 | [], b => rfl
 | r :: a, b => by rw [List.cons_append, cellsE, cellsE, cellsE_append a b]; rfl
theorem cellsE_at : ∀ (l : List Ent) (k : Nat) (h : k < l.length), (cellsE l)[k * 3]? = some (.int .i64 (eat l k).log) ∧ (cellsE l)[k * 3 + 1]? = some (.int .i64 (eat l k).phys) ∧ (cellsE l)[k * 3 + 2]? = some (.int .i64 (eat l k).len)
 | r :: l, 0, _ => ⟨rfl, rfl, rfl⟩
 | r :: l, k + 1, h => by
   have := cellsE_at l k (by simpa using h);rw [show (k + 1) * 3 = k * 3 + 1 + 1 + 1 by omega, cellsE]
   have e : eat (r :: l) (k + 1) = eat l k := by unfold eat; simp
   rw [e];exact this
abbrev EntsIn (v : Value) (l : List Ent) (w : World) : Prop := RowIn 3 v l.length (cellsE l) w
abbrev EntsAt (B : Nat) (v : Value) (l : List Ent) (w : World) : Prop := w.ownsRow B 31 3 v l.length (cellsE l)
theorem entsIn_cells {v : Value} {l : List Ent} {w : World} (h : EntsIn v l w) : ∃ ad cap, v = .slice ad l.length cap ∧ l.length ≤ cap ∧ cap ≤ 9223372036854775807 ∧
 (0 < l.length → ∃ g o, ad = some ⟨g, o, none⟩ ∧ g < w.heap.size ∧ ∀ w', Below w.heap.size w w' → ∀ k, k < l.length → w'.cell? ⟨g, o + k * 3, none⟩ = some (.int .i64 (eat l k).log) ∧ w'.cell? ⟨g, o + k * 3 + 1, none⟩ = some (.int .i64 (eat l k).phys) ∧ w'.cell? ⟨g, o + k * 3 + 2, none⟩ = some (.int .i64 (eat l k).len)) ∧ (ad = none → cap = 0) := by
 obtain ⟨ad, cap, rfl, h1, h2, h3, h4⟩ := h.shape;refine ⟨ad, cap, rfl, h1, h2, fun hp => ?_, h4⟩;obtain ⟨g, o, rfl, hg, hc⟩ := h3 (by rw [cellsE_length]; omega);refine ⟨g, o, rfl, hg, fun w' hb k hk => ?_⟩;obtain ⟨e1, e2, e3⟩ := cellsE_at l k hk;exact ⟨(hb.cell (p := ⟨g, o + k * 3, none⟩) hg).trans (hc _ _ e1), (hb.cell (p := ⟨g, o + (k * 3 + 1), none⟩) hg).trans (hc _ _ e2), (hb.cell (p := ⟨g, o + (k * 3 + 2), none⟩) hg).trans (hc _ _ e3)⟩
theorem entsAt_in {B : Nat} {v : Value} {l : List Ent} {w : World} (h : EntsAt B v l w) : EntsIn v l w := by
 refine ⟨cellsE_length l, ?_⟩;rcases h.2 with ⟨rfl, h0⟩ | ⟨g, cap, cur, rfl, hb, hcur, hr⟩
 ·exact ⟨none, 0, by rw [h0], by omega, by unfold maxLen; omega, fun hp => by rw [cellsE_length, h0] at hp; omega, fun _ => rfl⟩
 ·refine ⟨_, _, rfl, hr.1, hr.2.1, fun _ => ⟨g, 0, rfl, lt_of_block hcur, fun k u hk => ?_⟩, fun h => by cases h⟩
  rw [Nat.zero_add];have hlt := (List.getElem?_eq_some_iff.1 hk).1;rw [cellsE_length] at hlt;exact (h.cellAt k (by omega)).trans hk
theorem rowE_in {B : Nat} {v : Value} {l : List Ent} {w : World} {e : TypeId} (h : w.ownsRow B e 3 v l.length (cellsE l)) : EntsIn v l w := by
 refine ⟨cellsE_length l, ?_⟩;rcases h.2 with ⟨rfl, h0⟩ | ⟨g, cap, cur, rfl, hb, hcur, hr⟩
 ·exact ⟨none, 0, by rw [h0], by omega, by unfold maxLen; omega, fun hp => by rw [cellsE_length, h0] at hp; omega, fun _ => rfl⟩
 ·refine ⟨_, _, rfl, hr.1, hr.2.1, fun _ => ⟨g, 0, rfl, lt_of_block hcur, fun k u hk => ?_⟩, fun h => by cases h⟩
  rw [Nat.zero_add];have hlt := (List.getElem?_eq_some_iff.1 hk).1;rw [cellsE_length] at hlt;exact (h.cellAt k (by omega)).trans hk
theorem cellsE_one : ∀ (M : List Ent), ∀ x ∈ cellsE M, x.oneCell' = true
 | [], x, hx => by cases hx
 | e :: M, x, hx => by
   rw [cellsE, List.mem_cons, List.mem_cons, List.mem_cons] at hx;rcases hx with rfl | rfl | rfl | hx
   ·rfl
   ·rfl
   ·rfl
   ·exact cellsE_one M x hx
theorem wpList_appE {ops : Array Oper} {rest : List Oper} {o : Oper} {a : Act} {Q : Exit → Act → World → Prop} {w : World} (hgd : o.guard = none) (s x : Operand) (T e : TypeId)
 (ho : o.op = .call { callee := .builtin .append, args := #[s, x], argTypes := #[T, T] }) (ht : Tryz.prog.underlying T = some (.slice e)) (hinf : (Tryz.prog.info? e).map (fun i => (i.zero, i.size, i.bytes)) = some (some (.agg #[.int .i64 0, .int .i64 0, .int .i64 0]), 3, 24))
 (base : Nat) (v : Value) (L : List Ent) (hs : a.eval s = v) (hown : w.ownsRow base e 3 v L.length (cellsE L)) (u : Value) (M : List Ent) (hx : a.eval x = u) (hu : EntsIn u M w)
 (hlen : L.length + M.length ≤ 4000000) (hbase : base ≤ w.heap.size)
 (h : ∀ v' w', w'.ownsRow base e 3 v' (L ++ M).length (cellsE (L ++ M)) → w.grownBy w' v.ownBlock → wpList Tryz.prog ops Q rest (a.put o.dst v') w') : wpList Tryz.prog ops Q (o :: rest) a w := by
 obtain ⟨i0, hi, hz0, hz1, hz2⟩ := info_parts hinf;obtain ⟨h0, ad, cap, rfl, a1, a2, a3, a4⟩ := hu
 cases ad with
 | none =>
   have hc := a4 rfl;subst hc;have hm : M = [] := List.eq_nil_of_length_eq_zero (by omega);subst hm;refine wpList_append_own_none hgd s x T ho base e i0 3 ht hi v _ _ hs hown hx (h v w ?_ ⟨rfl, rfl, rfl, Nat.le_refl _, fun _ _ _ => rfl⟩);rw [List.append_nil]; exact hown
 | some ad =>
   have hnews : ∀ j x, (cellsE M)[j]? = some x → w.cell? (ad.add j) = some x := by
    intro j x hj;have hlt := (List.getElem?_eq_some_iff.1 hj).1;obtain ⟨g, o, e, _, hc⟩ := a3 (by omega)
    cases e
    rw [add_at]; exact hc j x hj
   refine wpList_append_own w hgd s x T ho base e i0 _ 3 24 ht hi hz0 hz1 hz2 rfl (by decide) v _ _ hs hown ad M.length cap (cellsE M) hx (cellsE_length M) hnews (cellsE_one M) (by unfold maxLen; omega) (by omega) hbase ?_;intro v' w' h1 h2 _;refine h v' w' ?_ h2;rw [List.length_append, cellsE_append];exact h1
theorem three_new (w : World) (y : Ent) (e : TypeId) : ∀ j u, [Value.int .i64 y.log, Value.int .i64 y.phys, Value.int .i64 y.len][j]? = some u → (w.alloc (.cells (entC y) e)).cell? ((⟨w.heap.size, 0, none⟩ : Addr).add j) = some u := fun j u hj => by
 rw [add_at, Nat.zero_add, World.cell?_alloc_mark]
 simpa using hj
theorem wpList_app3 {ops : Array Oper} {rest : List Oper} {o : Oper} {a : Act} {Q : Exit → Act → World → Prop} {w : World} (hgd : o.guard = none) (s x : Operand) (T e : TypeId)
 (ho : o.op = .call { callee := .builtin .append, args := #[s, x], argTypes := #[T, T] }) (ht : Tryz.prog.underlying T = some (.slice e)) (hinf : (Tryz.prog.info? e).map (fun i => (i.zero, i.size, i.bytes)) = some (some (.agg #[.int .i64 0, .int .i64 0, .int .i64 0]), 3, 24))
 (base : Nat) (v : Value) (L : List Ent) (y : Ent) (hs : a.eval s = v) (hown : w.ownsRow base e 3 v L.length (cellsE L)) (W : World) (hW : w = W.alloc (.cells (entC y) e)) (q : Nat) (hq : W.heap.size = q) (hx : a.eval x = .slice (some ⟨q, 0, none⟩) 1 1)
 (hlen : L.length ≤ 4000) (hbase : base ≤ w.heap.size)
 (h : ∀ v' w', w'.ownsRow base e 3 v' (L ++ [y]).length (cellsE (L ++ [y])) → w.grownBy w' v.ownBlock → wpList Tryz.prog ops Q rest (a.put o.dst v') w') : wpList Tryz.prog ops Q (o :: rest) a w := by
 obtain ⟨i0, hi, hz0, hz1, hz2⟩ := info_parts hinf;subst hW;subst hq;refine wpList_append_own (w := W.alloc (.cells (entC y) e)) hgd s x T ho base e i0 _ 3 24 ht hi hz0 hz1 hz2 rfl (by decide) v _ _ hs hown ⟨W.heap.size, 0, none⟩ 1 1 [.int .i64 y.log, .int .i64 y.phys, .int .i64 y.len] hx rfl (three_new W y e) (fun u hu => by simp at hu; rcases hu with rfl | rfl | rfl <;> rfl) (by unfold maxLen; omega) (by omega) hbase ?_;intro v' w' h1 h2 _;refine h v' w' ?_ h2;rw [List.length_append, List.length_singleton, cellsE_append];exact h1
theorem entry_info : (Tryz.prog.info? 31).map (fun i => (i.zero, i.size, i.bytes)) = some (some (.agg #[.int .i64 0, .int .i64 0, .int .i64 0]), 3, 24) := by kernel_rfl
abbrev appRun (v u : Value) (W : World) (v' : Value) (w' : World) : Prop := (Builtin.append_ #[22, 22] 22 #[v, u]).run Tryz.prog W = .ok v' w'
abbrev TwinFin (W0 : World) (v : Value) (R : List Ent) (w : World) : Prop := EntsAt W0.heap.size v R w ∧ Below W0.heap.size W0 w
theorem ents_snoc {B : Nat} {v : Value} {l : List Ent} {x : Ent} {w : World} {e : TypeId} (h : w.ownsRow B e 3 v (l.length + 1) (cellsE (l ++ [x]))) : w.ownsRow B e 3 v (l ++ [x]).length (cellsE (l ++ [x])) := by
 rw [List.length_append, List.length_singleton]; exact h
theorem ent_new (w : World) (e : Ent) (t : TypeId) : ∀ p : BelowP (w.alloc (.cells (entC e) t)), p.to.cell? ⟨w.heap.size, 0, none⟩ = some (.int .i64 e.log) ∧ p.to.cell? ⟨w.heap.size, 1, none⟩ = some (.int .i64 e.phys) ∧ p.to.cell? ⟨w.heap.size, 2, none⟩ = some (.int .i64 e.len) := fun p => by
 have h := (Blk.new (entC e) t w).kept1 p.h;exact ⟨h.cell 0, h.cell 1, h.cell 2⟩
def Lies (e : Ent) (n : Int) : Prop := (0 ≤ e.log ∧ e.log ≤ 2048 - n) ∧ (1 ≤ e.phys ∧ e.phys ≤ 4096 - n)
instance (e : Ent) (n : Int) : Decidable (Lies e n) := by unfold Lies; infer_instance
theorem entOk_leaf (y : Ent) : EntOk true y ↔ 1 ≤ y.len ∧ Lies y y.len := by
 unfold EntOk Lies; simp only [if_true]; omega
theorem entOk_node (y : Ent) : EntOk false y ↔ y.len = 0 ∧ Lies y 1 := by
 unfold EntOk Lies; simp only [Bool.false_eq_true, if_false]; omega
theorem entOk_end {leaf : Bool} {p : Ent} (h : EntOk leaf p) : 0 ≤ p.log + p.len ∧ p.log + p.len ≤ 10000 := by have := entOk_low h; omega
theorem rowOk_no {leaf : Bool} {l : List Ent} {k : Nat} (hk : k < l.length) (h : ¬ (EntOk leaf (eat l k) ∧ (0 < k → After (eat l (k - 1)) (eat l k)))) : ¬ RowOk leaf l := fun g => h (g k hk)
theorem rowTo_end {leaf : Bool} {l : List Ent} {k : Nat} (h : RowTo leaf l k) (j : Nat) (hj : j < k) : 0 ≤ (eat l j).log + (eat l j).len ∧ (eat l j).log + (eat l j).len ≤ 10000 := entOk_end (h j hj).1
open Go.RowKit
def RowsIn {α : Type} (P : Value → α → World → Prop) (v : Value) (L : List α) (w : World) : Prop :=
 ∃ Vs : List Value, Vs.length = L.length ∧ RowIn 1 v L.length Vs w ∧ ∀ k (h1 : k < Vs.length) (h2 : k < L.length), P Vs[k] L[k] w
def RowsAt {α : Type} (P : Value → α → World → Prop) (e : TypeId) (B : Nat) (v : Value) (L : List α) (w : World) : Prop :=
 ∃ Vs : List Value, Vs.length = L.length ∧ w.ownsRow B e 1 v L.length Vs ∧ ∀ k (h1 : k < Vs.length) (h2 : k < L.length), P Vs[k] L[k] w
section
variable {α : Type} {P : Value → α → World → Prop} {v : Value} {L : List α} {w w' : World}
theorem RowsIn.kept (hP : ∀ {v x w w'}, P v x w → Below w.heap.size w w' → P v x w') (h : RowsIn P v L w) (hb : Below w.heap.size w w') : RowsIn P v L w' := by
 obtain ⟨Vs, h1, h2, h3⟩ := h;exact ⟨Vs, h1, h2.kept hb, fun k a b => hP (h3 k a b) hb⟩
theorem RowsIn.nil (P : Value → α → World → Prop) (w : World) : RowsIn P (.slice none 0 0) [] w := ⟨[], rfl, RowIn.nil 1 w, fun k h => by simp at h⟩
theorem RowsAt.kept {e : TypeId} {B : Nat} (hP : ∀ {v x w w'}, P v x w → Below w.heap.size w w' → P v x w') (h : RowsAt P e B v L w) (hb : Below w.heap.size w w') : RowsAt P e B v L w' := by
 obtain ⟨Vs, h1, h2, h3⟩ := h;exact ⟨Vs, h1, row_kept h2 hb, fun k a b => hP (h3 k a b) hb⟩
theorem RowsAt.down {e : TypeId} {B B' : Nat} (hB : B' ≤ B) (h : RowsAt P e B v L w) : RowsAt P e B' v L w := by
 obtain ⟨Vs, h1, h2, h3⟩ := h;exact ⟨Vs, h1, row_down hB h2, h3⟩
theorem own_in {B n : Nat} {e : TypeId} {xs : List Value} (h : w.ownsRow B e 1 v n xs) : RowIn 1 v n xs w := by
 have h1 := h.1;refine ⟨by simpa using h1, ?_⟩;rcases id h.2 with ⟨rfl, rfl⟩ | ⟨g, cap, cur, rfl, hb, hcur, hr⟩
 ·exact ⟨_, _, rfl, Nat.le_refl _, by unfold maxLen; omega, fun hp => by omega, fun _ => rfl⟩
 ·refine ⟨_, _, rfl, hr.1, hr.2.1, fun _ => ⟨g, 0, rfl, lt_of_block hcur, fun k u hk => ?_⟩, fun h => by cases h⟩
  rw [Nat.zero_add];have hlt := (List.getElem?_eq_some_iff.1 hk).1;exact (h.cellAt k (by omega)).trans hk
theorem RowsAt.in {e : TypeId} {B : Nat} (h : RowsAt P e B v L w) : RowsIn P v L w := by
 obtain ⟨Vs, h1, h2, h3⟩ := h;exact ⟨Vs, h1, own_in h2, h3⟩
theorem RowsIn.cells (h : RowsIn P v L w) : ∃ ad cap, v = .slice ad L.length cap ∧ L.length ≤ cap ∧ cap ≤ 9223372036854775807 ∧
 (0 < L.length → ∃ g o, ad = some ⟨g, o, none⟩ ∧ g < w.heap.size ∧ ∀ k (hk : k < L.length), ∃ u, w.cell? ⟨g, o + k, none⟩ = some u ∧ P u L[k] w) ∧ (ad = none → cap = 0) := by
 obtain ⟨Vs, h1, h2, h3⟩ := h;obtain ⟨ad, cap, rfl, a1, a2, a3, a4⟩ := h2.shape;refine ⟨ad, cap, rfl, a1, a2, fun hp => ?_, a4⟩;obtain ⟨g, o, e, hg, hc⟩ := a3 (by omega);exact ⟨g, o, e, hg, fun k hk => ⟨Vs[k]'(by omega), hc k _ (List.getElem?_eq_getElem (by omega)), h3 k (by omega) hk⟩⟩
theorem row_part {z n cap : Nat} {g o : Nat} {cs : List Value} (h : RowIn z (.slice (some ⟨g, o, none⟩) n cap) n cs w) {a b c : Nat} (hab : a ≤ b) (hb : b ≤ n) (hc : b - a ≤ c) (hcc : c ≤ maxLen) (hg : g < w.heap.size) :
 RowIn z (.slice (some ⟨g, o + a * z, none⟩) (b - a) c) (b - a) ((cs.drop (a * z)).take ((b - a) * z)) w := by
 obtain ⟨h0, ad, cap2, e, h1, h2, h3, h4⟩ := h
 cases e
 have hz : b * z ≤ n * z := Nat.mul_le_mul_right z hb;have hz2 : a * z ≤ b * z := Nat.mul_le_mul_right z hab
 have hz3 : (b - a) * z = b * z - a * z := by rw [Nat.sub_mul]
 refine ⟨by rw [List.length_take, List.length_drop, h0]; omega, _, c, rfl, hc, hcc, fun hp => ⟨g, o + a * z, rfl, hg, fun k u hk => ?_⟩, fun h => by cases h⟩;have hk2 := (List.getElem?_eq_some_iff.1 hk).1;rw [List.length_take, List.length_drop, h0] at hk2;rw [List.getElem?_take_of_lt (by omega), List.getElem?_drop] at hk;obtain ⟨g', o', e, _, hc'⟩ := h3 (by omega)
 cases e
 rw [Nat.add_assoc]; exact hc' _ _ hk
end
abbrev NodesIn (v : Value) (L : List (List Ent)) (w : World) : Prop := RowsIn EntsIn v L w
abbrev ShapeIn (v : Value) (S : List (List (List Ent))) (w : World) : Prop := RowsIn NodesIn v S w
theorem ents_kept {v : Value} {x : List Ent} {w w' : World} (h : EntsIn v x w) (hb : Below w.heap.size w w') : EntsIn v x w' := RowIn.kept h hb
theorem nodesIn_kept {v : Value} {L : List (List Ent)} {w w' : World} (h : NodesIn v L w) (hb : Below w.heap.size w w') : NodesIn v L w' := RowsIn.kept ents_kept h hb
theorem shapeIn_kept {v : Value} {S : List (List (List Ent))} {w w' : World} (h : ShapeIn v S w) (hb : Below w.heap.size w w') : ShapeIn v S w' := RowsIn.kept nodesIn_kept h hb
end Go.Proofs.YtknefoemgifbfaaGreat
