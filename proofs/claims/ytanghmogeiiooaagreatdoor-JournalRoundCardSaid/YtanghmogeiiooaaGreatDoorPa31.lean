import Derived.Test.YtanghmogeiiooaaGreatDoorPa01
import Derived.Deep.RegionHeld
import Derived.Laws.Tables
import Derived.Test.YtanghmogeiiooaaGreatDoorPa30
import Derived.Test.YtanghmogeiiooaaGreatDoorPa25
import Derived.Lib.SliceRun
set_option linter.unusedVariables false
set_option linter.unusedSimpArgs false
set_option linter.constructorNameAsVariable false
/- A region's operations, one by one, in whatever order: the step of an append whose run is known. For whatever program. -/
namespace Go.Proofs.YtanghmogeiiooaaGreatDoor
set_option linter.unusedVariables false
open Go.RowKit

theorem step_append {ops : Array Oper} {o : Oper} {a : Act} {w w2 : World} {K : Act → World → Prop} {Q : Exit → Act → World → Prop} {E : Prop} (hw : Region.wanted o (yielded ops a.tmps) = true) (s x : Operand) (T : TypeId)
    (ho : o.op = .call { callee := .builtin .append, args := #[s, x], argTypes := #[T, T] }) {vs vx v' : Value} (hs : a.eval s = vs) (hx : a.eval x = vx)
    (hrun : (Builtin.append_ #[T, T] o.type #[vs, vx]).run Tryz.prog w = .ok v' w2) (h : K (a.put o.dst v') w2) : if Region.wanted o (yielded ops a.tmps) = true then Oper.wp Tryz.prog o a w K Q else E := by
  rw [if_pos hw]
  unfold Oper.wp execOp
  simp only [ho, resolve, invoke, builtin, Sem.run_bind, Sem.run_pure, Result.andThen_ok, List.map_toArray, List.map_cons, List.map_nil, hs, hx, hrun]
  exact h
theorem setRow_blk {w : World} {g : Nat} {old : Array Value} {T : TypeId} (h : Blk g old T w) (cs : Array Value) : Blk g cs T (w.setRow g cs) := setRow_heap w g _ _ _ _ h
theorem setRow_below {w : World} {g B : Nat} (h : B ≤ g) (cs : Array Value) : Below B w (w.setRow g cs) := ⟨rfl, rfl, rfl, by simp, fun k hk => setRow_other w g k cs (by omega)⟩
end Go.Proofs.YtanghmogeiiooaaGreatDoor

/- Texts put behind a row, as runs; what keeps all that is no cells. -/
namespace Go.Proofs.YtanghmogeiiooaaGreatDoor
set_option linter.unusedVariables false
open Go.RowKit

theorem app1_run {ty : TypeId} (base : Nat) (v : Value) (L : List ByteArray) (y : ByteArray) (W : World) (hown : TextsOwn base v L W) (hlen : L.length ≤ 4000000) (hbase : base ≤ W.heap.size) :
    ∃ v' w', (Builtin.append_ #[106, 106] ty #[v, .slice (some ⟨W.heap.size, 0, none⟩) 1 1]).run Tryz.prog (W.alloc (.cells #[.string y] 9)) = .ok v' w' ∧ TextsOwn base v' (L ++ [y]) w' ∧ (W.alloc (.cells #[.string y] 9)).grownBy w' v.ownBlock := by
  obtain ⟨i0, hi, hz0, hz1, hz2⟩ := info_parts str_info
  obtain ⟨v', w', hr, k1, k2, _⟩ := run_append_own (P := Tryz.prog) (W.alloc (.cells #[.string y] 9)) base 106 ty 9 i0 _ 1 16 Tryz.underlying106 hi hz0 hz1 hz2 rfl (by decide) v L.length (L.map Value.string) (hown.alloc _) ⟨W.heap.size, 0, none⟩ 1 1 [.string y] rfl (knew_one W _ _) (fun u hu => by simp at hu; subst hu; rfl) (by unfold maxLen; omega) (by omega) (by rw [size_alloc]; omega)
  refine ⟨v', w', hr, ?_, k2⟩
  show w'.ownsRow _ _ _ _ (L ++ [y]).length ((L ++ [y]).map _)
  rw [List.length_append, List.length_singleton, List.map_append]; exact k1
theorem appT_run {ty : TypeId} (base B2 : Nat) (v v2 : Value) (L M : List ByteArray) (W : World) (hown : TextsOwn base v L W) (h2 : TextsOwn B2 v2 M W) (h0 : 0 < M.length) (hlen : L.length ≤ 4000000) (hlen2 : M.length ≤ 4000) (hbase : base ≤ W.heap.size) :
    ∃ v' w', (Builtin.append_ #[106, 106] ty #[v, v2]).run Tryz.prog W = .ok v' w' ∧ TextsOwn base v' (L ++ M) w' ∧ W.grownBy w' v.ownBlock := by
  obtain ⟨i0, hi, hz0, hz1, hz2⟩ := info_parts str_info
  obtain ⟨ad, c, rfl, h3, h4, h5⟩ := shape_of h2
  obtain ⟨g, rfl, -, -⟩ := h5 h0
  obtain ⟨v', w', hr, k1, k2, _⟩ := run_append_own (P := Tryz.prog) W base 106 ty 9 i0 _ 1 16 Tryz.underlying106 hi hz0 hz1 hz2 rfl (by decide) v L.length (L.map Value.string) hown ⟨g, 0, none⟩ M.length c (M.map Value.string) (by rw [List.length_map]; omega) (fun j u hj => by
    have hl := (List.getElem?_eq_some_iff.1 hj).1
    rw [List.length_map] at hl
    rw [add_at, Nat.zero_add, h2.cellAt j (by omega)]; exact hj) (fun u hu => by obtain ⟨z, _, rfl⟩ := List.mem_map.1 hu; rfl) (by unfold maxLen; omega) (by omega) hbase
  refine ⟨v', w', hr, ?_, k2⟩
  show w'.ownsRow _ _ _ _ (L ++ M).length ((L ++ M).map _)
  rw [List.length_append, List.map_append]; exact k1
theorem keeps_below {W W' : World} (h : Below W.heap.size W W') : KeepsOthers W W' := ⟨h.size, fun k o hk _ => (h.block k (Array.getElem?_eq_some_iff.1 hk).1).trans hk⟩
theorem keeps_row {W W' : World} {B n z : Nat} {v : Value} {e : TypeId} {xs : List Value} (h : W.ownsRow B e z v n xs) (hg : W.grownBy W' v.ownBlock) : KeepsOthers W W' :=
  KeepsOthers.of_grownBy hg fun j o ej hj => by
    rcases h.2 with ⟨rfl, _⟩ | ⟨g, cap, cur, rfl, _, hgb, _⟩
    · simp [Value.ownBlock] at ej
    · obtain rfl : g = j := by simpa [Value.ownBlock] using ej
      rw [hgb] at hj; cases hj; rfl
/-- a block of cells abides the turn of what is no cells -/
theorem blk_other {g : Nat} {cs : Array Value} {t : TypeId} {W W' : World} {row : Option Nat} (h : Blk g cs t W) (hg : W.grownBy W' row) (hr : ∀ r, row = some r → ∃ o : Obj, W.heap[r]? = some o ∧ o.isCells = false) : Blk g cs t W' :=
  (hg.block g h.lt fun e => by
    obtain ⟨o, ho, hc⟩ := hr g e.symm
    rw [show W.heap[g]? = _ from h] at ho; cases ho; cases hc).trans h
theorem row_other {B n z : Nat} {v : Value} {e : TypeId} {xs : List Value} {W W' : World} {row : Option Nat} (h : W.ownsRow B e z v n xs) (hg : W.grownBy W' row) (hr : ∀ r, row = some r → ∃ o : Obj, W.heap[r]? = some o ∧ o.isCells = false) : W'.ownsRow B e z v n xs := by
  refine h.kept hg ?_
  rcases h.2 with ⟨rfl, _⟩ | ⟨g, cap, cur, rfl, _, hgb, _⟩
  · exact .inl rfl
  · refine .inr fun e' => ?_
    obtain ⟨o, ho, hc⟩ := hr g (by simpa [Value.ownBlock] using e'.symm)
    rw [hgb] at ho; cases ho; cases hc
theorem grp_sub {α : Type} (m : Nat) (L : List α) (k : Nat) : (grp m L k).Sublist L := (List.take_sublist _ _).trans (List.drop_sublist _ _)
theorem grp_homes {m k : Nat} {R : List Int} (hm : 0 < m) (hp : R.Pairwise (· < ·)) (hb : ∀ x ∈ R, 0 ≤ x ∧ x < 4096) (h : k * m < R.length) : HomesOk (grp m R k) (m : Int) :=
  homesOk_of (hp.sublist (grp_sub m R k)) (fun x hx => hb x ((grp_sub m R k).subset hx)) (by rw [grp_length]; omega) (by rw [grp_length]; omega)
theorem grp_changes {m k : Nat} {L : List (Int × ByteArray)} (hm : 0 < m) (hp : (L.map Prod.fst).Pairwise (· < ·)) (hb : ∀ c ∈ L, 0 ≤ c.1 ∧ c.1 < 4096 ∧ c.2.size = 128) (h : k * m < L.length) : HomesOk ((grp m L k).map Prod.fst) (m : Int) ∧ ∀ c ∈ grp m L k, c.2.size = 128 := by
  refine ⟨homesOk_of (hp.sublist ((grp_sub m L k).map _)) (fun x hx => ?_) (by rw [List.length_map, grp_length]; omega) (by rw [List.length_map, grp_length]; omega), fun c hc => (hb c ((grp_sub m L k).subset hc)).2.2⟩
  obtain ⟨c, hc, rfl⟩ := List.mem_map.1 hx
  have := hb c ((grp_sub m L k).subset hc)
  exact ⟨this.1, this.2.1⟩
end Go.Proofs.YtanghmogeiiooaaGreatDoor
