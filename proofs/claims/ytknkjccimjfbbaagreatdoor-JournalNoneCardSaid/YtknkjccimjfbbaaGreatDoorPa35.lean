import Derived.Test.YtknkjccimjfbbaaGreatDoorPa10
import Derived.Test.YtknkjccimjfbbaaGreatDoorPa08
import Derived.Maps.OwnOps
import Derived.Maps.OwnSet
set_option linter.unusedVariables false
set_option linter.unusedSimpArgs false
set_option linter.constructorNameAsVariable false
/- The net effect's map: which data a block has. -/
namespace Go.Proofs.YtknkjccimjfbbaaGreatDoor
set_option linter.unusedVariables false
open Go.RowKit Go.Maps

abbrev chgV (c : Int × ByteArray) : Value := .agg #[.int .i64 c.1, .string c.2]
def chgD (c : Int × ByteArray) : DataW Unit := .agg [.lit (.int .i64 c.1), .lit (.string c.2.data.toList)]
def chgP : List Value → Option (DataW Unit × List MemPlace)
  | [.int .i64 x, .string s] => some (chgD (x, s), [])
  | _ => none
def chgR (v : Value) : Option (DataW Unit × List MemPlace) :=
  match v with
  | .agg cs => chgP cs.toList
  | _ => none
theorem chgR_of (c : Int × ByteArray) : chgR (chgV c) = some (chgD c, []) := rfl
theorem chgR_inv {v : Value} {y : DataW Unit × List MemPlace} (h : chgR v = some y) : ∃ c, v = chgV c ∧ y = (chgD c, []) := by
  unfold chgR at h
  split at h
  · rename_i cs
    unfold chgP at h
    split at h
    · rename_i x s e
      refine ⟨(x, s), ?_, by injection h with h; exact h.symm⟩
      have : cs = #[.int .i64 x, .string s] := by rw [← Array.toList_inj, e]
      rw [this]
    · cases h
  · cases h
theorem chgD_inj {c d : Int × ByteArray} (h : chgD c = chgD d) : c = d := by
  obtain ⟨x, s⟩ := c; obtain ⟨y, t⟩ := d
  unfold chgD at h
  injection h with h
  injection h with h1 h2
  injection h1 with h1; injection h1 with _ h1
  injection h2 with h2 _
  injection h2 with h2; injection h2 with h2
  have h1 : x = y := h1
  have h2 : s.data.toList = t.data.toList := h2
  subst h1
  have : s = t := by
    have h3 : s.data = t.data := Array.toList_inj.1 h2
    cases s; cases t; simpa using h3
  rw [this]
def optD2 (b : Int) : Option ByteArray → DataW Unit
  | none => .nil
  | some d => chgD (b, d)
theorem claw : Keyed Tryz.prog 3 := int_keyed Tryz.underlying3
theorem ckey_of (b : Int) (hb : I64 b) : keyOf Tryz.prog 3 (.int .i64 b) = some (.int .i64 b) := keyOf_int_mk Tryz.underlying3 (WalkArith.wf_i64 (by have := hb; omega))
theorem ckey_lit (b : Int) : WideAt.IsKeyLit (.int .i64 b) := by first | trivial | simp [WideAt.IsKeyLit] | exact .inr (.inl ⟨_, _, rfl⟩)
/-- block m is a map of at most n entries, in which block b's change is that of f -/
def MapC (m n : Nat) (f : Int → Option ByteArray) (w : World) : Prop := ∃ D : DataW Unit, w.ownsMap Tryz.prog 3 chgR m n D ∧ ∀ b : Int, I64 b → D.atKey (.int .i64 b) .nil = optD2 b (f b) ∧ Maps.has D (.int .i64 b) = (f b).isSome
section
variable {m n : Nat} {f : Int → Option ByteArray} {w w' : World}
theorem MapC.lt (h : MapC m n f w) : m < w.heap.size := by obtain ⟨D, h, _⟩ := h; exact h.lt
theorem MapC.same (h : MapC m n f w) (e : w'.heap[m]? = w.heap[m]?) : MapC m n f w' := by
  obtain ⟨D, ⟨es, clock, hb, r2⟩, r⟩ := h
  exact ⟨D, ⟨es, clock, e.trans hb, r2⟩, r⟩
theorem MapC.kept1 (h : MapC m n f w) (b : Below w.heap.size w w') : MapC m n f w' := h.same (b.block m h.lt)
theorem MapC.put (h : MapC m n f w) (hn : n ≤ 1000000) {b : Int} (hb : I64 b) (d : ByteArray) :
    ∃ w', (Instr.mapUpdate 99 (.map (some m)) (.int .i64 b) (chgV (b, d))).run Tryz.prog w = .ok () w' ∧ MapC m (n + 1) (putC f (b, d)) w' ∧ w.grownBy w' (some m) := by
  obtain ⟨D, h, hf⟩ := h
  obtain ⟨w', hrun, ho, hg⟩ := h.update claw Tryz.underlying99 (by unfold maxLen; omega) (ckey_of b hb) (chgR_of (b, d))
  have hD := h.isMap
  refine ⟨w', hrun, ⟨_, ho, fun k hk => ?_⟩, hg⟩
  unfold putC
  by_cases e : k = b
  · subst e
    rw [if_pos rfl]
    exact ⟨Maps.atKey_put_same hD (ckey_lit _) _ _, Maps.has_put_same hD (ckey_lit _) _⟩
  · rw [if_neg e]
    have hne : (Lit.int .i64 k) ≠ (Lit.int .i64 b) := fun h => e (by injection h)
    exact ⟨(Maps.atKey_put_other hne _ _).trans (hf k hk).1, (Maps.has_put_other hne _).trans (hf k hk).2⟩
theorem MapC.del (h : MapC m n f w) {b : Int} (hb : I64 b) (ty : TypeId) :
    ∃ w', (Builtin.delete_ #[99, 3] ty #[.map (some m), .int .i64 b]).run Tryz.prog w = .ok (.tuple #[]) w' ∧ MapC m n (delC f b) w' ∧ w.grownBy w' (some m) := by
  obtain ⟨D, h, hf⟩ := h
  obtain ⟨w', hrun, ho, hg⟩ := h.drop claw Tryz.underlying99 (ckey_of b hb) ty
  refine ⟨w', hrun, ⟨_, ho, fun k hk => ?_⟩, hg.grown⟩
  unfold delC
  by_cases e : k = b
  · subst e
    rw [if_pos rfl]
    exact ⟨Maps.atKey_del_same _, Maps.has_del_same⟩
  · rw [if_neg e]
    have hne : (Lit.int .i64 k) ≠ (Lit.int .i64 b) := fun h => e (by injection h)
    exact ⟨(Maps.atKey_del_other hne _).trans (hf k hk).1, (Maps.has_del_other hne).trans (hf k hk).2⟩
end
section
variable {ops : Array Oper} {rest : List Oper} {o : Oper} {a : Act} {Q : Exit → Act → World → Prop} {w : World}
/-- 'last[b] = c' -/
theorem wpList_cPut (hgd : o.guard = none) (x y z : Operand) (hop : o.op = Op.mapUpdate 99 x y z) {m n : Nat} {f : Int → Option ByteArray} (h : MapC m n f w) (hn : n ≤ 1000000) (b : Int) (hb : I64 b) (d : ByteArray)
    (hx : a.eval x = .map (some m)) (hy : a.eval y = .int .i64 b) (hz : a.eval z = chgV (b, d))
    (hK : ∀ w', MapC m (n + 1) (putC f (b, d)) w' → w.grownBy w' (some m) → wpList Tryz.prog ops Q rest (a.put o.dst undef) w') : wpList Tryz.prog ops Q (o :: rest) a w := by
  refine wpList_plain hgd fun K' hK' => ?_
  obtain ⟨w', hrun, r1, r2⟩ := h.put hn hb d
  unfold Oper.wp
  simp [execOp, hop, hx, hy, hz, hrun, Result.andThen]
  exact hK' _ _ (hK w' r1 r2)
/-- 'delete(last, b)' -/
theorem wpList_cDel (hgd : o.guard = none) (x y : Operand) (hop : o.op = Op.call { callee := Callee.builtin Builtin.delete, args := #[x, y], argTypes := #[99, 3] }) {m n : Nat} {f : Int → Option ByteArray} (h : MapC m n f w) (b : Int) (hb : I64 b)
    (hx : a.eval x = .map (some m)) (hy : a.eval y = .int .i64 b)
    (hK : ∀ w', MapC m n (delC f b) w' → w.grownBy w' (some m) → wpList Tryz.prog ops Q rest (a.put o.dst (.tuple #[])) w') : wpList Tryz.prog ops Q (o :: rest) a w := by
  refine wpList_plain hgd fun K' hK' => ?_
  obtain ⟨w', hrun, r1, r2⟩ := h.del hb o.type
  unfold Oper.wp
  simp [execOp, hop, resolve, invoke, builtin, hx, hy, hrun, Result.andThen]
  exact hK' _ _ (hK w' r1 r2)
end
theorem MapC.made (w : World) : MapC w.heap.size 0 (fun _ => none) (w.alloc (.map #[] 0)) :=
  ⟨.map [], World.ownsMap_made _ _ _ _, fun b hb => ⟨rfl, rfl⟩⟩
end Go.Proofs.YtknkjccimjfbbaaGreatDoor
