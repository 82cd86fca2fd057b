/- The cache's map: which buffer a block has. -/
import Derived.Test.YtehjobjjlldckaaGreatCTurn
import Derived.Maps.OwnOps
import Derived.Maps.OwnSet
namespace Go.Proofs.YtehjobjjlldckaaGreat
set_option linter.unusedVariables false
open Go.RowKit Go.Maps

def bufR (v : Value) : Option (DataW Unit × List MemPlace) :=
  match v with
  | .pointer none => some (.nil, [])
  | .pointer (some ⟨g, 0, none⟩) => some (.lit (.int .i64 (g : Int)), [])
  | _ => none
def ptrO : Option Nat → Value
  | none => .pointer none
  | some g => .pointer (some ⟨g, 0, none⟩)
def optD : Option Nat → DataW Unit
  | none => .nil
  | some g => .lit (.int .i64 (g : Int))
theorem bufR_ptr (o : Option Nat) : bufR (ptrO o) = some (optD o, []) := by cases o <;> rfl
theorem bufR_inv {v : Value} {o : Option Nat} {ps : List MemPlace} (h : bufR v = some (optD o, ps)) : v = ptrO o := by
  unfold bufR at h
  split at h
  · cases o with
    | none => rfl
    | some g => simp [optD] at h
  · rename_i g
    cases o with
    | none => simp [optD] at h
    | some g' =>
      simp [optD] at h
      show _ = Value.pointer (some ⟨g', 0, none⟩)
      rw [show g = g' by omega]
  · cases h
theorem law : Keyed Tryz.prog 3 := int_keyed Tryz.underlying3
theorem zeroE (w : World) : (zeroValue 80).run Tryz.prog w = .ok (.pointer none) w := by kernel_rfl
theorem key_of (b : Int) (hb : I64 b) : keyOf Tryz.prog 3 (.int .i64 b) = some (.int .i64 b) := keyOf_int_mk Tryz.underlying3 (WalkArith.wf_i64 (by have := hb; omega))
theorem key_lit (b : Int) : WideAt.IsKeyLit (.int .i64 b) := by first | trivial | simp [WideAt.IsKeyLit] | exact .inr (.inl ⟨_, _, rfl⟩)
/-- block m is a map of n entries, in which block b's buffer is f b -/
def MapAt (m n : Nat) (f : Int → Option Nat) (w : World) : Prop := ∃ D : DataW Unit, w.ownsMap Tryz.prog 3 bufR m n D ∧ Maps.size D = n ∧ ∀ b : Int, I64 b → D.atKey (.int .i64 b) .nil = optD (f b) ∧ Maps.has D (.int .i64 b) = (f b).isSome
def updO (f : Int → Option Nat) (b : Int) (x : Option Nat) : Int → Option Nat := fun k => if k = b then x else f k
theorem updO_same (f : Int → Option Nat) (b : Int) (x : Option Nat) : updO f b x b = x := by unfold updO; rw [if_pos rfl]
theorem updO_other (f : Int → Option Nat) {b k : Int} (x : Option Nat) (h : k ≠ b) : updO f b x k = f k := by unfold updO; rw [if_neg h]
section
variable {m n : Nat} {f : Int → Option Nat} {w w' : World}
theorem MapAt.lt (h : MapAt m n f w) : m < w.heap.size := by obtain ⟨D, h, _⟩ := h; exact h.lt
theorem MapAt.turn {M : Nat → Prop} (h : MapAt m n f w) (t : Turn M w w') (hm : ¬ M m) : MapAt m n f w' := by
  obtain ⟨D, h, r⟩ := h
  have hlt := h.lt
  obtain ⟨es, clock, hb, r2⟩ := h
  exact ⟨D, ⟨es, clock, (t.block m hlt hm).trans hb, r2⟩, r⟩
theorem MapAt.congr {g : Int → Option Nat} (h : MapAt m n f w) (e : ∀ b, I64 b → f b = g b) : MapAt m n g w := by
  obtain ⟨D, h, hs, hf⟩ := h
  exact ⟨D, h, hs, fun b hb => by rw [← e b hb]; exact hf b hb⟩
theorem MapAt.look (h : MapAt m n f w) {b : Int} (hb : I64 b) : (Instr.lookup 64 (.map (some m)) (.int .i64 b) false).run Tryz.prog w = .ok (ptrO (f b)) w := by
  obtain ⟨D, h, hs, hf⟩ := h
  obtain ⟨v, ps, hrun, hv⟩ := h.lookup law Tryz.underlying64 (zeroE w) (zd := .nil) (zp := []) rfl (key_of b hb)
  rw [(hf b hb).1] at hv
  rw [bufR_inv hv] at hrun
  exact hrun
theorem MapAt.len (h : MapAt m n f w) (ty : TypeId) : (Builtin.len_ #[64] ty #[.map (some m)]).run Tryz.prog w = .ok (.int .i64 (n : Int)) w := by
  obtain ⟨D, h, hs, hf⟩ := h
  have := h.len Tryz.underlying64 ty
  rwa [hs] at this
theorem grown_turn {w w' : World} {m : Nat} (h : w.grownBy w' (some m)) : Turn (fun j => j = m) w w' := ⟨h.os, h.tape, h.output, h.size, fun k hk hn => h.block k hk fun e => hn (by injection e)⟩
theorem MapAt.put (h : MapAt m n f w) (hn : n ≤ 1000000) {b : Int} (hb : I64 b) (h0 : f b = none) (g : Nat) :
    ∃ w', (Instr.mapUpdate 64 (.map (some m)) (.int .i64 b) (.pointer (some ⟨g, 0, none⟩))).run Tryz.prog w = .ok () w' ∧ MapAt m (n + 1) (updO f b (some g)) w' ∧ Turn (fun j => j = m) w w' := by
  obtain ⟨D, h, hs, hf⟩ := h
  obtain ⟨w', hrun, ho, hg⟩ := h.update law Tryz.underlying64 (by unfold maxLen; omega) (key_of b hb) (bufR_ptr (some g))
  have hD := h.isMap
  refine ⟨w', hrun, ⟨_, ho, ?_, fun k hk => ?_⟩, grown_turn hg⟩
  · rw [Maps.size_put (h.tidy law), (hf b hb).2, h0, hs]; rfl
  · by_cases e : k = b
    · subst e
      rw [updO_same]
      exact ⟨Maps.atKey_put_same hD (key_lit _) _ _, Maps.has_put_same hD (key_lit _) _⟩
    · rw [updO_other _ _ e]
      have hne : (Lit.int .i64 k) ≠ (Lit.int .i64 b) := fun h => e (by injection h)
      exact ⟨(Maps.atKey_put_other hne _ _).trans (hf k hk).1, (Maps.has_put_other hne _).trans (hf k hk).2⟩
theorem MapAt.del (h : MapAt m n f w) {b : Int} (hb : I64 b) (ty : TypeId) :
    ∃ w', (Builtin.delete_ #[64, 3] ty #[.map (some m), .int .i64 b]).run Tryz.prog w = .ok (.tuple #[]) w' ∧ MapAt m (if (f b).isSome then n - 1 else n) (updO f b none) w' ∧ Turn (fun j => j = m) w w' := by
  obtain ⟨D, h, hs, hf⟩ := h
  obtain ⟨w', hrun, ho, hg⟩ := h.drop law Tryz.underlying64 (key_of b hb) ty
  have hsz := Maps.size_del (k := .int .i64 b) (h.tidy law)
  rw [(hf b hb).2, hs] at hsz
  have hsz2 : Maps.size (D.del (.int .i64 b)) = if (f b).isSome then n - 1 else n := by
    split at hsz <;> rename_i e
    · rw [if_pos e]; omega
    · rw [if_neg e]; omega
  refine ⟨w', hrun, ⟨_, ?_, hsz2, fun k hk => ?_⟩, grown_turn hg.grown⟩
  · obtain ⟨es, clock, h1, h2, h3, h4⟩ := ho
    have h5 : Maps.size (D.del (.int .i64 b)) = es.size := by rw [h4]; simp [Maps.size, length_sorted]
    exact ⟨es, clock, h1, h2, by omega, h4⟩
  · by_cases e : k = b
    · subst e
      rw [updO_same]
      exact ⟨Maps.atKey_del_same _, Maps.has_del_same⟩
    · rw [updO_other _ _ e]
      have hne : (Lit.int .i64 k) ≠ (Lit.int .i64 b) := fun h => e (by injection h)
      exact ⟨(Maps.atKey_del_other hne _).trans (hf k hk).1, (Maps.has_del_other hne).trans (hf k hk).2⟩
end
section
variable {ops : Array Oper} {rest : List Oper} {o : Oper} {a : Act} {Q : Exit → Act → World → Prop} {w : World}
/-- 'm[b] = g' -/
theorem wpList_mapPut (hgd : o.guard = none) (x y z : Operand) (hop : o.op = Op.mapUpdate 64 x y z) {m n : Nat} {f : Int → Option Nat} (h : MapAt m n f w) (hn : n ≤ 1000000) (b : Int) (hb : I64 b) (h0 : f b = none) (g : Nat)
    (hx : a.eval x = .map (some m)) (hy : a.eval y = .int .i64 b) (hz : a.eval z = .pointer (some ⟨g, 0, none⟩))
    (hK : ∀ w', MapAt m (n + 1) (updO f b (some g)) w' → Turn (fun j => j = m) w w' → wpList Tryz.prog ops Q rest (a.put o.dst undef) w') : wpList Tryz.prog ops Q (o :: rest) a w := by
  refine wpList_plain hgd fun K' hK' => ?_
  obtain ⟨w', hrun, r1, r2⟩ := h.put hn hb h0 g
  unfold Oper.wp
  simp [execOp, hop, hx, hy, hz, hrun, Result.andThen]
  exact hK' _ _ (hK w' r1 r2)
/-- 'delete(m, b)' -/
theorem wpList_mapDel (hgd : o.guard = none) (x y : Operand) (hop : o.op = Op.call { callee := Callee.builtin Builtin.delete, args := #[x, y], argTypes := #[64, 3] }) {m n : Nat} {f : Int → Option Nat} (h : MapAt m n f w) (b : Int) (hb : I64 b)
    (hx : a.eval x = .map (some m)) (hy : a.eval y = .int .i64 b) (n' : Nat) (hn' : Hid (n' = if (f b).isSome then n - 1 else n))
    (hK : ∀ w', MapAt m n' (updO f b none) w' → Turn (fun j => j = m) w w' → wpList Tryz.prog ops Q rest (a.put o.dst (.tuple #[])) w') : wpList Tryz.prog ops Q (o :: rest) a w := by
  refine wpList_plain hgd fun K' hK' => ?_
  obtain ⟨w', hrun, r1, r2⟩ := h.del hb o.type
  rw [← hn'.out] at r1
  unfold Oper.wp
  simp [execOp, hop, resolve, invoke, builtin, hx, hy, hrun, Result.andThen]
  exact hK' _ _ (hK w' r1 r2)
end
theorem MapAt.made (w : World) : MapAt w.heap.size 0 (fun _ => none) (w.alloc (.map #[] 0)) :=
  ⟨.map [], World.ownsMap_made _ _ _ _, rfl, fun b hb => ⟨rfl, rfl⟩⟩
end Go.Proofs.YtehjobjjlldckaaGreat
