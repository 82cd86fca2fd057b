/- Rows of texts in memory; appends to them; slices.IndexFunc, slices.ContainsFunc at texts. For whatever program. -/
import Derived.Test.YtgjcdjcngepleaaDoorBase
import Derived.Test.YtgjcdjcngepleaaDoorRowIn
import Derived.Test.YtgjcdjcngepleaaDoorStrEq
import Derived.Laws.AppendOwnNone
namespace Go.Proofs.YtgjcdjcngepleaaDoor
set_option linter.unusedVariables false
open Go.RowKit

theorem str_infoT : (Tryd.prog.info? 9).map (fun i => (i.zero, i.size, i.bytes)) = some (some (.string ⟨#[]⟩), 1, 16) := by kernel_rfl
/-- text k of a list -/
def sat (l : List ByteArray) (k : Nat) : ByteArray := l[k]?.getD ⟨#[]⟩
theorem sat_eq {l : List ByteArray} {k : Nat} (h : k < l.length) : sat l k = l[k] := by unfold sat; rw [List.getElem?_eq_getElem h]; rfl
theorem sat_mem {l : List ByteArray} {k : Nat} (h : k < l.length) : sat l k ∈ l := by rw [sat_eq h]; exact List.getElem_mem h
abbrev cellsT (l : List ByteArray) : List Value := l.map Value.string
theorem cellsT_length (l : List ByteArray) : (cellsT l).length = l.length := List.length_map ..
theorem cellsT_at (l : List ByteArray) (k : Nat) (h : k < l.length) : (cellsT l)[k]? = some (.string (sat l k)) := by
  unfold cellsT; rw [List.getElem?_map, List.getElem?_eq_getElem h, sat_eq h]; rfl
/-- v is a slice of the texts, wherever they lie -/
abbrev StrsIn (v : Value) (l : List ByteArray) (w : World) : Prop := RowIn 1 v l.length (cellsT l) w
/-- v holds the texts, in a row of the call's own, at B or behind -/
abbrev StrsAt (B : Nat) (v : Value) (l : List ByteArray) (w : World) : Prop := w.ownsRow B 9 1 v l.length (cellsT l)
/-- its value's shape, and its cells, in every world behind -/
theorem strsIn_cells {v : Value} {l : List ByteArray} {w : World} (h : StrsIn v l w) : ∃ ad cap, v = .slice ad l.length cap ∧ l.length ≤ cap ∧ cap ≤ 9223372036854775807 ∧
    (0 < l.length → ∃ g o, ad = some ⟨g, o, none⟩ ∧ g < w.heap.size ∧ ∀ w', Below w.heap.size w w' → ∀ k, k < l.length → w'.cell? ⟨g, o + k, none⟩ = some (.string (sat l k))) ∧ (ad = none → cap = 0) := by
  obtain ⟨ad, cap, rfl, h1, h2, h3, h4⟩ := h.shape
  refine ⟨ad, cap, rfl, h1, h2, fun hp => ?_, h4⟩
  obtain ⟨g, o, rfl, hg, hc⟩ := h3 (by rw [cellsT_length]; omega)
  exact ⟨g, o, rfl, hg, fun w' hb k hk => (hb.cell (p := ⟨g, o + k, none⟩) hg).trans (hc _ _ (cellsT_at l k hk))⟩
theorem strsAt_in {B : Nat} {v : Value} {l : List ByteArray} {w : World} (h : StrsAt B v l w) : StrsIn v l w := by
  refine ⟨by rw [cellsT_length, Nat.mul_one], ?_⟩
  rcases h.2 with ⟨rfl, h0⟩ | ⟨g, cap, cur, rfl, hb, hcur, hr⟩
  · exact ⟨none, 0, by rw [h0], by omega, by unfold maxLen; omega, fun hp => by rw [cellsT_length, h0] at hp; omega, fun _ => rfl⟩
  · refine ⟨_, _, rfl, hr.1, hr.2.1, fun _ => ⟨g, 0, rfl, lt_of_block hcur, fun k u hk => ?_⟩, fun h => by cases h⟩
    rw [Nat.zero_add]
    have hlt := (List.getElem?_eq_some_iff.1 hk).1
    rw [cellsT_length] at hlt
    exact (h.cellAt k (by omega)).trans hk
theorem strs_nil (w : World) : StrsIn (.slice none 0 0) [] w := RowIn.nil 1 w
/-- texts that a literal has just laid -/
theorem lit_inT (W : World) (l : List ByteArray) (cs : Array Value) (hl : l.length ≤ 4000) (hc : cs.toList = cellsT l) : StrsIn (.slice (some ⟨W.heap.size, 0, none⟩) l.length l.length) l (W.alloc (.cells cs 9)) := by
  refine ⟨by rw [cellsT_length, Nat.mul_one], some ⟨W.heap.size, 0, none⟩, l.length, rfl, Nat.le_refl _, by unfold maxLen; omega, fun _ => ⟨W.heap.size, 0, rfl, by rw [size_alloc]; omega, fun k u hk => ?_⟩, fun h => by cases h⟩
  rw [Nat.zero_add, World.cell?_alloc_mark]
  rw [← hc] at hk
  simpa using hk
/-- a slice's beginning -/
theorem strs_take {ad : Option Addr} {l : List ByteArray} {n cap : Nat} {w : World} (k : Nat) (hk : k ≤ l.length) (h : StrsIn (.slice ad n cap) l w) : StrsIn (.slice ad k cap) (l.take k) w := by
  obtain ⟨h0, ad', cap', e, h1, h2, h3, h4⟩ := h
  cases e
  have hl : (l.take k).length = k := by rw [List.length_take]; omega
  refine ⟨by rw [cellsT_length, Nat.mul_one], ad, cap, by rw [hl], by omega, h2, fun hp => ?_, h4⟩
  rw [cellsT_length, hl] at hp
  obtain ⟨g, o, rfl, hg, hc⟩ := h3 (by rw [cellsT_length]; omega)
  refine ⟨g, o, rfl, hg, fun j u hj => hc j u ?_⟩
  have hlt := (List.getElem?_eq_some_iff.1 hj).1
  rw [cellsT_length, hl] at hlt
  have e : cellsT (l.take k) = (cellsT l).take k := by unfold cellsT; rw [List.map_take]
  rw [e, List.getElem?_take_of_lt hlt] at hj
  exact hj
/-- append of whatever row to a row of one's own -/
theorem appT_run (W : World) (ty : TypeId) (base : Nat) (v : Value) (L : List ByteArray) (hown : StrsAt base v L W) (u : Value) (M : List ByteArray) (hu : StrsIn u M W) (hl : L.length + M.length ≤ 40000) (hbase : base ≤ W.heap.size) :
    ∃ v' w', (Builtin.append_ #[22, 22] ty #[v, u]).run Tryd.prog W = .ok v' w' ∧ StrsAt base v' (L ++ M) w' ∧ W.grownBy w' v.ownBlock := by
  obtain ⟨i0, hi, hz0, hz1, hz2⟩ := info_parts str_infoT
  obtain ⟨h0, ad, cap, rfl, a1, a2, a3, a4⟩ := hu
  cases ad with
  | none =>
    have hc := a4 rfl
    subst hc
    have hm : M = [] := List.eq_nil_of_length_eq_zero (by omega)
    subst hm
    refine ⟨v, W, ?_, by rw [List.append_nil]; exact hown, ⟨rfl, rfl, rfl, Nat.le_refl _, fun _ _ _ => rfl⟩⟩
    exact run_append_owned_none (P := Tryd.prog) (w := W) base 22 ty 9 i0 1 Tryd.underlying22 hi v L.length (cellsT L) hown
  | some ad =>
    have hnews : ∀ j x, (cellsT M)[j]? = some x → W.cell? (ad.add j) = some x := by
      intro j x hj
      have hlt := (List.getElem?_eq_some_iff.1 hj).1
      obtain ⟨g, o, e, _, hc⟩ := a3 (by omega)
      cases e
      rw [add_at]; exact hc j x hj
    obtain ⟨v', w', hr, k1, k2, _⟩ := run_append_own (P := Tryd.prog) W base 22 ty 9 i0 _ 1 16 Tryd.underlying22 hi hz0 hz1 hz2 rfl (by decide) v L.length (cellsT L) hown ad M.length cap (cellsT M) (by rw [cellsT_length, Nat.mul_one]) hnews (fun u hu => by obtain ⟨y, _, rfl⟩ := List.mem_map.1 hu; rfl) (by unfold maxLen; omega) (by omega) hbase
    refine ⟨v', w', hr, ?_, k2⟩
    show w'.ownsRow _ _ _ _ (L ++ M).length (cellsT (L ++ M))
    rw [List.length_append, show cellsT (L ++ M) = cellsT L ++ cellsT M from List.map_append]; exact k1
theorem wpList_appTM {ops : Array Oper} {rest : List Oper} {o : Oper} {a : Act} {Q : Exit → Act → World → Prop} {w : World} (hgd : o.guard = none) (s x : Operand)
    (ho : o.op = .call { callee := .builtin .append, args := #[s, x], argTypes := #[22, 22] })
    (base : Nat) (v : Value) (L : List ByteArray) (hs : a.eval s = v) (hown : StrsAt base v L w) (u : Value) (M : List ByteArray) (hx : a.eval x = u) (hu : StrsIn u M w) (hl : L.length + M.length ≤ 40000) (hbase : base ≤ w.heap.size)
    (h : ∀ v' w', StrsAt base v' (L ++ M) w' → Below base w w' → wpList Tryd.prog ops Q rest (a.put o.dst v') w') : wpList Tryd.prog ops Q (o :: rest) a w := by
  refine wpList_plain hgd fun K' hK' => ?_
  obtain ⟨v', w', hrun, r1, r2⟩ := appT_run w o.type base v L hown u M hu hl hbase
  unfold Oper.wp
  simp [execOp, ho, resolve, invoke, builtin, hs, hx, hrun, Result.andThen]
  exact hK' _ _ (h v' w' r1 (below_of_row hown r2 hbase))
/-- the same under a guard that holds -/
theorem wpList_appTMg {ops : Array Oper} {rest : List Oper} {o : Oper} {a : Act} {Q : Exit → Act → World → Prop} {w : World} (hgd : Region.wanted o (yielded ops a.tmps) = true) (s x : Operand)
    (ho : o.op = .call { callee := .builtin .append, args := #[s, x], argTypes := #[22, 22] })
    (base : Nat) (v : Value) (L : List ByteArray) (hs : a.eval s = v) (hown : StrsAt base v L w) (u : Value) (M : List ByteArray) (hx : a.eval x = u) (hu : StrsIn u M w) (hl : L.length + M.length ≤ 40000) (hbase : base ≤ w.heap.size)
    (h : ∀ v' w', StrsAt base v' (L ++ M) w' → Below base w w' → wpList Tryd.prog ops Q rest (a.put o.dst v') w') : wpList Tryd.prog ops Q (o :: rest) a w := by
  refine wpList_step fun K' hK' => ?_
  rw [if_pos hgd]
  obtain ⟨v', w', hrun, r1, r2⟩ := appT_run w o.type base v L hown u M hu hl hbase
  unfold Oper.wp
  simp [execOp, ho, resolve, invoke, builtin, hs, hx, hrun, Result.andThen]
  exact hK' _ _ (h v' w' r1 (below_of_row hown r2 hbase))
/-- one text that is put behind -/
theorem wpList_appT1 {ops : Array Oper} {rest : List Oper} {o : Oper} {a : Act} {Q : Exit → Act → World → Prop} {w : World} (hgd : o.guard = none) (s x : Operand)
    (ho : o.op = .call { callee := .builtin .append, args := #[s, x], argTypes := #[22, 22] })
    (base : Nat) (v : Value) (L : List ByteArray) (k : ByteArray) (hs : a.eval s = v) (hown : StrsAt base v L w) (W : World) (hW : w = W.alloc (.cells #[.string k] 9)) (hx : a.eval x = .slice (some ⟨W.heap.size, 0, none⟩) 1 1)
    (hlen : L.length ≤ 30000) (hbase : base ≤ w.heap.size)
    (h : ∀ v' w', StrsAt base v' (L ++ [k]) w' → Below base w w' → wpList Tryd.prog ops Q rest (a.put o.dst v') w') : wpList Tryd.prog ops Q (o :: rest) a w :=
  wpList_appTM hgd s x ho base v L hs hown _ [k] hx (by rw [hW]; exact lit_inT W [k] #[.string k] (by simp) rfl) (by show L.length + 1 ≤ _; omega) hbase h
/-- texts that fill a block that was just laid -/
theorem strsAt_new (w : World) (l : List ByteArray) (hl : l.length ≤ 4000000) : StrsAt w.heap.size (.slice (some ⟨w.heap.size, 0, none⟩) l.length l.length) l (w.alloc (.cells (l.map Value.string).toArray 9)) :=
  ⟨by rw [cellsT_length, Nat.mul_one], .inr ⟨w.heap.size, l.length, (l.map Value.string).toArray, rfl, Nat.le_refl _, heap_alloc_new _ _, Nat.le_refl _, by unfold maxLen; omega, by simp, by simp [List.take_of_length_le]⟩⟩
/-- room for texts -/
theorem room_strs (n : Nat) (hn : n ≤ 40000) (W : World) : (Instr.makeSlice 22 (.int .i64 0) (.int .i64 (n : Int))).run Tryd.prog W = .ok (.slice (some ⟨W.heap.size, 0, none⟩) 0 n) (W.alloc (.cells (madeCells #[.string ⟨#[]⟩] n) 9)) ∧
    StrsAt W.heap.size (.slice (some ⟨W.heap.size, 0, none⟩) 0 n) [] (W.alloc (.cells (madeCells #[.string ⟨#[]⟩] n) 9)) := by
  obtain ⟨i, hi, hz, hs, hb⟩ := info_parts str_infoT
  obtain ⟨w', hr, ho, hg⟩ := run_make_own (P := Tryd.prog) (w := W) W.heap.size 22 9 i _ 1 Tryd.underlying22 hi hz hs .i64 .i64 n (by rw [hb]; omega) (by unfold maxLen; omega) (Nat.le_refl _)
  have h := run_make (P := Tryd.prog) W 22 9 i _ Tryd.underlying22 hi hz .i64 .i64 0 n (by omega) (by omega) (by rw [hb]; omega) (by omega)
  have h2 := hr.symm.trans h
  injection h2 with _ e
  subst e
  refine ⟨by simpa [hs, Value.cells] using h, ?_⟩
  simp [hs, Value.cells] at ho
  exact ho

/-! ### slices.IndexFunc, slices.ContainsFunc -/
/-- where the first of the list is, of which p holds; or -1 -/
def idxT (p : ByteArray → Bool) (l : List ByteArray) : Int := match l.findIdx? p with | some i => i | none => -1
theorem idxT_hit {p : ByteArray → Bool} {l : List ByteArray} {k : Nat} (h : k < l.length) (h1 : ∀ j, j < k → p (sat l j) = false) (h2 : p (sat l k) = true) : idxT p l = (k : Int) := by
  have : l.findIdx? p = some k := by
    rw [List.findIdx?_eq_some_iff_getElem]
    refine ⟨h, by rw [← sat_eq h]; exact h2, fun j hj => ?_⟩
    rw [← sat_eq (by omega), h1 j hj]; decide
  unfold idxT; rw [this]
theorem idxT_miss {p : ByteArray → Bool} {l : List ByteArray} (h1 : ∀ j, j < l.length → p (sat l j) = false) : idxT p l = -1 := by
  have : l.findIdx? p = none := by
    rw [List.findIdx?_eq_none_iff]
    intro x hx
    obtain ⟨j, hj, rfl⟩ := List.getElem_of_mem hx
    rw [← sat_eq hj]; exact h1 j hj
  unfold idxT; rw [this]
theorem idxT_any (p : ByteArray → Bool) (l : List ByteArray) : decide (0 ≤ idxT p l) = l.any p := by
  unfold idxT
  cases e : l.findIdx? p with
  | some k =>
    obtain ⟨h, h2, -⟩ := List.findIdx?_eq_some_iff_getElem.1 e
    show decide (0 ≤ (k : Int)) = _
    rw [decide_eq_true (by omega), eq_comm, List.any_eq_true]
    exact ⟨_, List.getElem_mem h, h2⟩
  | none =>
    rw [List.findIdx?_eq_none_iff] at e
    show decide (0 ≤ (-1 : Int)) = _
    rw [decide_eq_false (by omega), eq_comm, List.any_eq_false]
    intro x hx
    rw [e x hx]; decide
set_option maxHeartbeats 4000000 in
theorem idxT_walk (l : List ByteArray) (fn : Nat) (caps : Array Value) (p : ByteArray → Bool) (v : Value) (w : World) (hv : StrsIn v l w)
    (hent : ∀ args w, (callFunc fn args).run Tryd.prog w = .ok (.enter fn args) w)
    (hc : ∀ d ∈ l, ∀ W, Below w.heap.size w W → Calls Tryd.prog fn (#[.string d] ++ caps) W fun e w' => e = .returned (.bool (p d)) ∧ Below W.heap.size W w') :
    Calls Tryd.prog 34 #[v, .func (.func fn) #[] caps] w fun e w' => e = .returned (.int .i64 (idxT p l)) ∧ Below w.heap.size w w' := by
  obtain ⟨ad, cap, rfl, h1, h2, h3, -⟩ := strsIn_cells hv
  have HC := Lib.hid fun k (hk : k < l.length) => hc _ (sat_mem hk)
  have HH := Lib.hid fun k => @idxT_hit p l k
  have HM := Lib.hid (@idxT_miss p l)
  obtain ⟨R, hR⟩ : ∃ R, R = idxT p l := ⟨_, rfl⟩
  rw [← hR] at HH HM ⊢
  obtain ⟨D, hD⟩ : ∃ D : Nat → ByteArray, D = sat l := ⟨_, rfl⟩
  rw [← hD] at HC HH HM h3
  clear hR hD hc hv
  generalize l.length = n at *
  go_enter Tryd.func34, Tryd.ntmps34
  go_wp2
  go_loopw [8] (fun q wr => ∃ k : Nat, q = .int .i64 k ∧ k ≤ n ∧ Hid (∀ j, j < k → p (D j) = false) ∧ Below w.heap.size w wr) (fun q _ => n - (intOf q).toNat)
  case atStart => exact ⟨0, rfl, Nat.zero_le _, Lib.hid (fun j hj => by omega), Below.refl _ _⟩
  case round =>
    obtain ⟨k, rfl, hk, HK, hb⟩ := hrel
    by_cases hlt : k < n
    · obtain ⟨g, o, rfl, hg, hcc⟩ := h3 (by omega)
      have c1 := hcc wr hb k hlt
      have C := HC.out k hlt wr hb
      have HHk := Lib.hid (HH.out k hlt HK.out)
      have HKn : Hid (p (D k) = false → ∀ j, j < k + 1 → p (D j) = false) := Lib.hid fun h j hj => by
        by_cases e : j = k
        · subst e; exact h
        · exact HK.out j (by omega)
      generalize D k = d at *
      generalize p d = b at *
      have C := Lib.hid C
      clear h3 hcc HC HH HM
      cases b
      · go_wp2_with fail
        refine C.out.mono ?_; rintro e w2 ⟨rfl, b2⟩
        have hb2 := bnext hb b2
        have HKk := Lib.hid (HKn.out (by simp))
        clear b2 C HKn HHk
        go_wp2
        exact ⟨⟨k + 1, by go_num, by omega, HKk, hb2⟩, by simp [intOf]; omega⟩
      · go_wp2_with fail
        refine C.out.mono ?_; rintro e w2 ⟨rfl, b2⟩
        have hb2 := bnext hb b2
        have HHr := Lib.hid (HHk.out (by simp))
        clear b2 C HKn HHk
        go_wp2
        go_ret
        exact ⟨by rw [HHr.out]; rfl, hb2⟩
    · obtain rfl : k = n := by omega
      have HMr := Lib.hid (HM.out HK.out)
      go_wp2
      go_ret
      exact ⟨by rw [HMr.out]; rfl, hb⟩
theorem contT_any (l : List ByteArray) (fn : Nat) (p : ByteArray → Bool) (v : Value) (w : World) (hv : StrsIn v l w)
    (hent : ∀ args w, (callFunc fn args).run Tryd.prog w = .ok (.enter fn args) w)
    (hc : ∀ d ∈ l, ∀ W, Below w.heap.size w W → Calls Tryd.prog fn #[.string d] W fun e w' => e = .returned (.bool (p d)) ∧ Below W.heap.size W w') :
    Calls Tryd.prog 26 #[v, .func (.func fn) #[] #[]] w fun e w' => e = .returned (.bool (l.any p)) ∧ Below w.heap.size w w' := by
  have C := Lib.hid (idxT_walk l fn #[] p v w hv hent (by simpa using hc))
  have HR : Hid (decide (0 ≤ idxT p l) = l.any p) := Lib.hid (idxT_any p l)
  generalize l.any p = b at *
  generalize idxT p l = r at *
  clear hc hent
  go_enter Tryd.func26, Tryd.ntmps26
  go_wp2_with fail
  refine C.out.mono ?_; rintro e w2 ⟨rfl, b2⟩
  go_wp2
  go_ret
  exact ⟨ret_bool HR.out, b2⟩
end Go.Proofs.YtgjcdjcngepleaaDoor
