/- RecordsEncode's copies of a record's lists: regions that draw their order, and make memory. -/
import Derived.Test.YtfgjogaoogiddaaKVal
import Derived.Test.YtfgjogaoogiddaaKRead3
import Derived.Laws.AppendOwnNone
import Derived.Deep.RegionHeld3
import Derived.Deep.RegionLaw
import Derived.Deep.CutBlock
import Derived.Deep.DeepCutAuto
namespace Go.Proofs.Ytfgjogaoogiddaa
set_option linter.unusedVariables false
open Go.RowKit

theorem app_run {e T ty : TypeId} {z : Value} {bytes : Nat} (ht : Try.prog.underlying T = some (.slice e)) (hi : (Try.prog.info? e).map (fun i => (i.zero, i.size, i.bytes)) = some (some z, 1, bytes)) (hzs : z.cells.size = 1) (hby : bytes ≤ 16)
    (w : World) (base : Nat) (v : Value) (n : Nat) (xs : List Value) (hown : w.ownsRow base e 1 v n xs) (u : Value) (m : Nat) (news : List Value) (hu : RowIn 1 u m news w) (h1 : ∀ x ∈ news, x.oneCell' = true) (hn : n + m ≤ 4000000) (hbase : base ≤ w.heap.size) :
    ∃ v' w', (Builtin.append_ #[T, T] ty #[v, u]).run Try.prog w = .ok v' w' ∧ w'.ownsRow base e 1 v' (n + m) (xs ++ news) ∧ w.grownBy w' v.ownBlock := by
  obtain ⟨i, hi0, hz0, hs0, hb0⟩ := info_parts hi
  obtain ⟨hl, ad, cap, rfl, a1, a2, a3, a4⟩ := hu
  have hbyt : (n + m) * bytes ≤ 140737488355328 := by
    have : (n + m) * bytes ≤ 4000000 * 16 := Nat.mul_le_mul hn hby
    omega
  cases ad with
  | none =>
    have hc := a4 rfl
    subst hc
    obtain rfl : m = 0 := by omega
    have hnil : news = [] := List.length_eq_zero_iff.1 (by omega)
    subst hnil
    refine ⟨v, w, ?_, by rw [List.append_nil]; exact hown, ⟨rfl, rfl, rfl, Nat.le_refl _, fun _ _ _ => rfl⟩⟩
    exact run_append_owned_none (P := Try.prog) (w := w) base T ty e i 1 ht hi0 v n xs hown
  | some ad =>
    have hnews : ∀ j x, news[j]? = some x → w.cell? (ad.add j) = some x := by
      intro j x hj
      have hlt := (List.getElem?_eq_some_iff.1 hj).1
      obtain ⟨g, o, e, _, hc⟩ := a3 (by omega)
      cases e
      rw [add_at]; exact hc j x hj
    obtain ⟨v', w', hr, k1, k2, _⟩ := run_append_own (P := Try.prog) w base T ty e i z 1 bytes ht hi0 hz0 hs0 hb0 hzs (by decide) v n xs hown ad m cap news (by omega) hnews h1 (by unfold maxLen; omega) hbyt hbase
    exact ⟨v', w', hr, k1, k2⟩
theorem step_app {ops : Array Oper} {o : Oper} {a : Act} {w : World} {K : Act → World → Prop} {Q : Exit → Act → World → Prop} {E : Prop} (hgd : o.guard = none) (s x : Operand) (T e : TypeId) (z : Value) (bytes : Nat)
    (ho : o.op = .call { callee := .builtin .append, args := #[s, x], argTypes := #[T, T] })
    (ht : Try.prog.underlying T = some (.slice e)) (hi : (Try.prog.info? e).map (fun i => (i.zero, i.size, i.bytes)) = some (some z, 1, bytes)) (hzs : z.cells.size = 1) (hby : bytes ≤ 16)
    (base : Nat) (v : Value) (n : Nat) (xs : List Value) (hs : a.eval s = v) (hown : w.ownsRow base e 1 v n xs) (u : Value) (m : Nat) (news : List Value) (hx : a.eval x = u) (hu : RowIn 1 u m news w) (h1 : ∀ x ∈ news, x.oneCell' = true) (hn : n + m ≤ 4000000) (hbase : base ≤ w.heap.size)
    (h : ∀ v' w', w'.ownsRow base e 1 v' (n + m) (xs ++ news) → w.grownBy w' v.ownBlock → Below base w w' → K (a.put o.dst v') w') :
    if Region.wanted o (yielded ops a.tmps) = true then Oper.wp Try.prog o a w K Q else E := by
  have hw : Region.wanted o (yielded ops a.tmps) = true := by simp [Region.wanted, hgd]
  rw [if_pos hw]
  obtain ⟨v', w', hr, k1, k2⟩ := app_run (ty := o.type) ht hi hzs hby w base v n xs hown u m news hu h1 hn hbase
  unfold Oper.wp
  simp [execOp, ho, resolve, invoke, builtin, hs, hx, hr, Result.andThen]
  exact h _ _ k1 k2 (below_of_row hown k2 hbase)
/-- a row of room alone, in whatever world -/
theorem room_ints (n : Nat) (hn : n ≤ 4000000) (W : World) : (Instr.makeSlice 23 (.int .i64 0) (.int .i64 (n : Int))).run Try.prog W = .ok (.slice (some ⟨W.heap.size, 0, none⟩) 0 n) (W.alloc (.cells (madeCells #[.int .i64 0] n) 3)) ∧
    (W.alloc (.cells (madeCells #[.int .i64 0] n) 3)).ownsRow W.heap.size 3 1 (.slice (some ⟨W.heap.size, 0, none⟩) 0 n) 0 [] := by
  obtain ⟨i, hi, hz, hs, hb⟩ := info_parts kint_info
  obtain ⟨w', hr, ho, hg⟩ := run_make_own (P := Try.prog) (w := W) W.heap.size 23 3 i (.int .i64 0) 1 Try.underlying23 hi hz hs .i64 .i64 n (by rw [hb]; omega) (by unfold maxLen; omega) (Nat.le_refl _)
  have h := run_make (P := Try.prog) W 23 3 i (.int .i64 0) Try.underlying23 hi hz .i64 .i64 0 n (by omega) (by omega) (by rw [hb]; omega) (by omega)
  have h2 := hr.symm.trans h
  injection h2 with _ e
  subst e
  exact ⟨by simpa [hs, Value.cells] using h, by simpa [hs, Value.cells] using ho⟩
theorem room_bools (n : Nat) (hn : n ≤ 4000000) (W : World) : (Instr.makeSlice 24 (.int .i64 0) (.int .i64 (n : Int))).run Try.prog W = .ok (.slice (some ⟨W.heap.size, 0, none⟩) 0 n) (W.alloc (.cells (madeCells #[.bool false] n) 4)) ∧
    (W.alloc (.cells (madeCells #[.bool false] n) 4)).ownsRow W.heap.size 4 1 (.slice (some ⟨W.heap.size, 0, none⟩) 0 n) 0 [] := by
  obtain ⟨i, hi, hz, hs, hb⟩ := info_parts kbool_info
  obtain ⟨w', hr, ho, hg⟩ := run_make_own (P := Try.prog) (w := W) W.heap.size 24 4 i (.bool false) 1 Try.underlying24 hi hz hs .i64 .i64 n (by rw [hb]; omega) (by unfold maxLen; omega) (Nat.le_refl _)
  have h := run_make (P := Try.prog) W 24 4 i (.bool false) Try.underlying24 hi hz .i64 .i64 0 n (by omega) (by omega) (by rw [hb]; omega) (by omega)
  have h2 := hr.symm.trans h
  injection h2 with _ e
  subst e
  exact ⟨by simpa [hs, Value.cells] using h, by simpa [hs, Value.cells] using ho⟩
/-- two values, side by side, in a block that was just made -/
theorem two_in (W : World) (x y : Value) (t : TypeId) : RowIn 1 (.slice (some ⟨W.heap.size, 0, none⟩) 2 2) 2 [x, y] (W.alloc (.cells #[x, y] t)) :=
  ⟨rfl, some ⟨W.heap.size, 0, none⟩, 2, rfl, Nat.le_refl _, by unfold maxLen; omega, fun _ => ⟨W.heap.size, 0, rfl, by rw [size_alloc]; omega, fun k u hk => by
    rw [Nat.zero_add, World.cell?_alloc_mark]; simpa using hk⟩, fun h => by cases h⟩
/-- a row in another block stays, when a row grows -/
theorem in_grown {z n : Nat} {g o c : Nat} {cs : List Value} {w w' : World} {b : Option Nat} (h : RowIn z (.slice (some ⟨g, o, none⟩) n c) n cs w) (hp : 0 < cs.length) (hg : w.grownBy w' b) (hb : b ≠ some g) : RowIn z (.slice (some ⟨g, o, none⟩) n c) n cs w' := by
  obtain ⟨h0, ad, cap, e, h1, h2, h3, h4⟩ := h
  cases e
  refine ⟨h0, _, _, rfl, h1, h2, fun hp => ?_, fun h => by cases h⟩
  obtain ⟨g', o', e, hlt, hc⟩ := h3 hp
  cases e
  exact ⟨g, o, rfl, Nat.lt_of_lt_of_le hlt hg.size, fun k u hk => (World.cell?_of_block (a := ⟨g, o + k, none⟩) (hg.block g hlt (fun e => hb e.symm))).trans (hc k u hk)⟩
end Go.Proofs.Ytfgjogaoogiddaa
