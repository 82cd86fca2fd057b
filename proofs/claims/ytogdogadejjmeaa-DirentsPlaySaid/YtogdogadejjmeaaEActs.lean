/- Acts of a play, in memory; an argument that is a list of them, read; a row without one of its entries, put together anew. -/
import Derived.Test.YtogdogadejjmeaaELaw3
import Derived.Test.YtogdogadejjmeaaEOpen
import Derived.Test.YtogdogadejjmeaaStepApp
namespace Go.Proofs.Ytogdogadejjmeaa
set_option linter.unusedVariables false
open Go.ChangeShapes Go.WideShapes Go.ChangeAt Go.RowKit

abbrev EAct : Type := Den × Bool
def cellsA : List EAct → List Value
  | [] => []
  | a :: l => .string a.1.name :: .int .i64 a.1.ino :: .bool a.2 :: cellsA l
theorem cellsA_length : ∀ l, (cellsA l).length = l.length * 3
  | [] => rfl
  | r :: l => by rw [cellsA, List.length_cons, List.length_cons, List.length_cons, cellsA_length l, List.length_cons]; omega
def aat (l : List EAct) (k : Nat) : EAct := l[k]?.getD ⟨default, false⟩
theorem cellsA_at : ∀ (l : List EAct) (k : Nat) (h : k < l.length), (cellsA l)[k * 3]? = some (.string (aat l k).1.name) ∧ (cellsA l)[k * 3 + 1]? = some (.int .i64 (aat l k).1.ino) ∧ (cellsA l)[k * 3 + 2]? = some (.bool (aat l k).2)
  | r :: l, 0, _ => ⟨rfl, rfl, rfl⟩
  | r :: l, k + 1, h => by
    have := cellsA_at l k (by simpa using h)
    rw [show (k + 1) * 3 = k * 3 + 1 + 1 + 1 by omega, cellsA]
    have e : aat (r :: l) (k + 1) = aat l k := by unfold aat; simp
    rw [e]
    exact this
def fitA (l : List EAct) : Prop := ∀ a ∈ l, a.1.name.size ≤ maxLen ∧ I64 a.1.ino
theorem fitA_at {l : List EAct} (h : fitA l) {k : Nat} (hk : k < l.length) : (aat l k).1.name.size ≤ maxLen ∧ I64 (aat l k).1.ino := by
  have e : aat l k = l[k] := by unfold aat; rw [List.getElem?_eq_getElem hk]; rfl
  rw [e]; exact h _ (List.getElem_mem hk)
abbrev EActsIn (v : Value) (l : List EAct) (w : World) : Prop := RowIn 3 v l.length (cellsA l) w
theorem eacts_cells {v : Value} {l : List EAct} {w : World} (h : EActsIn v l w) : ∃ ad cap, v = .slice ad l.length cap ∧ l.length ≤ cap ∧ cap ≤ 9223372036854775807 ∧
    (0 < l.length → ∃ g o, ad = some ⟨g, o, none⟩ ∧ g < w.heap.size ∧ ∀ w', Below w.heap.size w w' → ∀ k, k < l.length → w'.cell? ⟨g, o + k * 3, none⟩ = some (.string (aat l k).1.name) ∧ w'.cell? ⟨g, o + k * 3 + 1, none⟩ = some (.int .i64 (aat l k).1.ino) ∧ w'.cell? ⟨g, o + k * 3 + 2, none⟩ = some (.bool (aat l k).2)) := by
  obtain ⟨ad, cap, rfl, h1, h2, h3, h4⟩ := h.shape
  refine ⟨ad, cap, rfl, h1, h2, fun hp => ?_⟩
  obtain ⟨g, o, rfl, hg, hc⟩ := h3 (by rw [cellsA_length]; omega)
  refine ⟨g, o, rfl, hg, fun w' hb k hk => ?_⟩
  obtain ⟨e1, e2, e3⟩ := cellsA_at l k hk
  exact ⟨(hb.cell (p := ⟨g, o + k * 3, none⟩) hg).trans (hc _ _ e1), (hb.cell (p := ⟨g, o + (k * 3 + 1), none⟩) hg).trans (hc _ _ e2), (hb.cell (p := ⟨g, o + (k * 3 + 2), none⟩) hg).trans (hc _ _ e3)⟩

/-! ### read -/
theorem act_under : ∃ (fs : Array Field) (f0 f1 : Field), Try.prog.underlying 45 = some (.struct fs) ∧ fs[0]? = some f0 ∧ fs[1]? = some f1 ∧ f0.offset = 0 ∧ f0.type = 25 ∧ f1.offset = 2 ∧ f1.type = 4 :=
  ⟨_, _, _, Try.underlying45, rfl, rfl, rfl, rfl, rfl, rfl⟩
theorem act_cellsOf : Try.prog.cellsOf 45 = 3 := by kernel_rfl
theorem bool_cellsOf : Try.prog.cellsOf 4 = 1 := by kernel_rfl
section
variable {H : Type} {enc : TypeId × Value → H} {w : World} {held : Bool}
theorem open_act_cells {cs : List Value} {fuel : Nat} {y : DataW H × List MemPlace} (hl : cs.length = 3)
    (h : DataW.trod enc Try.prog w 0 (fun _ => true) held fuel 45 cs = some y) : ∃ a : EAct, cs = [.string a.1.name, .int .i64 a.1.ino, .bool a.2] ∧ a.1.name.size ≤ maxLen ∧ I64 a.1.ino := by
  obtain ⟨fs, f0, f1, hs, h0, h1, o0, t0, o1, t1⟩ := act_under
  obtain ⟨xs, n, _, _, _, hlen, hr⟩ := DataW.trod_struct hs h
  have hz : 2 ≤ fs.size := by
    have := (Array.getElem?_eq_some_iff.1 h1).1; omega
  match cs, hl with
  | [c0, c1, c2], _ =>
    have r0 := hr 0 f0 h0
    have r1 := hr 1 f1 h1
    rw [o0, t0, den_cellsOf, List.getElem?_eq_getElem (show 0 < xs.length by omega)] at r0
    rw [o1, t1, bool_cellsOf, List.getElem?_eq_getElem (show 1 < xs.length by omega)] at r1
    obtain ⟨d, e, hb⟩ := open_den_cells (cs := [c0, c1]) rfl r0
    obtain ⟨b, e2, _⟩ := DataW.trod_bool Try.underlying4 r1
    simp only [List.cons.injEq, and_true] at e
    simp at e2
    obtain ⟨rfl, rfl⟩ := e
    subst e2
    exact ⟨(d, b), rfl, hb⟩
theorem rows_acts : ∀ (n : Nat) (cs : List Value), cs.length = n * 3 → (∀ i < n, ∃ a : EAct, (cs.drop (i * 3)).take 3 = [.string a.1.name, .int .i64 a.1.ino, .bool a.2] ∧ a.1.name.size ≤ maxLen ∧ I64 a.1.ino) → ∃ l : List EAct, l.length = n ∧ cs = cellsA l ∧ fitA l
  | 0, cs, hl, _ => ⟨[], rfl, List.eq_nil_of_length_eq_zero (by omega), fun e he => by cases he⟩
  | n + 1, cs, hl, h => by
    obtain ⟨e, he, hf⟩ := h 0 (by omega)
    obtain ⟨l, hll, hcl, hfl⟩ := rows_acts n (cs.drop 3) (by rw [List.length_drop]; omega) fun i hi => by
      have := h (i + 1) (by omega)
      rw [List.drop_drop, show 3 + i * 3 = (i + 1) * 3 by omega]
      exact this
    refine ⟨e :: l, by rw [List.length_cons, hll], ?_, fun y hy => ?_⟩
    · rw [cellsA, ← hcl]
      rw [Nat.zero_mul, List.drop_zero] at he
      conv => lhs; rw [← List.take_append_drop 3 cs, he]
      rfl
    · rcases List.mem_cons.1 hy with rfl | hy
      · exact hf
      · exact hfl y hy
end
theorem open_eacts {H : Type} {enc : TypeId × Value → H} {W : World} {base : Nat} {v : Value} {d : DataW H} {p : List MemPlace} (hval : Value.okWide Try.prog W .any base 42 v)
    (h : DataW.Trod enc Try.prog W 0 (fun _ => true) true 42 v d p) : ∃ l : List EAct, fitA l ∧ EActsIn v l W := by
  obtain ⟨n, cs, hr, hi⟩ := open_row Try.underlying42 hval h
  rw [act_cellsOf] at hr hi
  obtain ⟨l, hl, rfl, hf⟩ := rows_acts n cs hr.1 fun i hlt => by
    obtain ⟨m, x, hx⟩ := hi i hlt
    refine open_act_cells ?_ hx
    rw [List.length_take, List.length_drop, hr.1]
    have : (i + 1) * 3 ≤ n * 3 := Nat.mul_le_mul_right 3 (by omega)
    omega
  subst hl
  exact ⟨l, hf, hr⟩

/-! ### a row without one of its entries -/
theorem row_takeD {B g cap : Nat} {L : List Den} {w : World} (h : DensAt B (.slice (some ⟨g, 0, none⟩) L.length cap) L w) (hc : L.length ≤ cap) (hm : cap ≤ 9223372036854775807) {i : Nat} (hi : i ≤ L.length) : DensIn (.slice (some ⟨g, 0, none⟩) i cap) (L.take i) w := by
  have hcl := row_cells h
  have hl : (L.take i).length = i := by rw [List.length_take]; omega
  refine ⟨cellsD_length _, _, _, by rw [hl], by omega, by unfold maxLen; omega, fun _ => ⟨g, 0, rfl, hcl.1, fun k u hk => ?_⟩, fun h => by cases h⟩
  have hkl := (List.getElem?_eq_some_iff.1 hk).1
  rw [cellsD_length, hl] at hkl
  rw [Nat.zero_add, (hcl.2 k (by omega)).1, ← hk, cellD_take hi hkl]
theorem row_dropD {B g cap : Nat} {L : List Den} {w : World} (h : DensAt B (.slice (some ⟨g, 0, none⟩) L.length cap) L w) (hc : L.length ≤ cap) (hm : cap ≤ 9223372036854775807) {i : Nat} (hi : i < L.length) {A : Addr} (hA : (if cap = i + 1 then some (⟨g, 0, none⟩ : Addr) else some ⟨g, (i + 1) * 2, none⟩) = some A) :
    DensIn (.slice (some A) (L.length - (i + 1)) (cap - (i + 1))) (L.drop (i + 1)) w := by
  have hcl := row_cells h
  have hl : (L.drop (i + 1)).length = L.length - (i + 1) := by rw [List.length_drop]
  refine ⟨cellsD_length _, some A, cap - (i + 1), by rw [hl], by omega, by unfold maxLen; omega, fun hp => ?_, fun h => by cases h⟩
  rw [cellsD_length, hl] at hp
  rw [if_neg (by omega)] at hA
  refine ⟨g, (i + 1) * 2, hA.symm, hcl.1, fun k u hk => ?_⟩
  have hkl := (List.getElem?_eq_some_iff.1 hk).1
  rw [cellsD_length, hl] at hkl
  rw [(hcl.2 _ (by omega)).1, ← hk, cellD_drop (by omega) (by omega)]
theorem erase_runs (W : World) (B : Nat) (ty1 ty2 : TypeId) (g cap : Nat) (L : List Den) (hL : L.length ≤ 1000) (h : DensAt B (.slice (some ⟨g, 0, none⟩) L.length cap) L W) (hc : L.length ≤ cap) (hm : cap ≤ 9223372036854775807) (i : Nat) (hi : i < L.length) (A : Addr) (hA : (if cap = i + 1 then some (⟨g, 0, none⟩ : Addr) else some ⟨g, (i + 1) * 2, none⟩) = some A) :
    ∃ v w v' w', (Builtin.append_ #[22, 22] ty1 #[.slice (some ⟨W.heap.size, 0, none⟩) 0 0, .slice (some ⟨g, 0, none⟩) i cap]).run Try.prog (W.alloc (.cells #[] 25)) = .ok v w ∧
      (Builtin.append_ #[22, 22] ty2 #[v, .slice (some A) (L.length - (i + 1)) (cap - (i + 1))]).run Try.prog w = .ok v' w' ∧ DensAt W.heap.size v' (L.eraseIdx i) w' ∧ Below W.heap.size W w' := by
  have hb0 := balloc1 W (.cells #[] 25)
  have h0 : DensAt W.heap.size (.slice (some ⟨W.heap.size, 0, none⟩) 0 0) [] (W.alloc (.cells #[] 25)) := World.ownsRow_lit W #[] 0 (Nat.le_refl _) (by unfold maxLen; omega) rfl
  obtain ⟨v, w, r1, k1, g1⟩ := appD_run (W.alloc (.cells #[] 25)) ty1 W.heap.size _ [] h0 (.slice (some ⟨g, 0, none⟩) i cap) (L.take i) ((row_takeD h hc hm (Nat.le_of_lt hi)).kept hb0) (by rw [List.length_take]; simp; omega) (by rw [size_alloc]; omega)
  have b1 := hb0.trans (below_of_row h0 g1 (by rw [size_alloc]; omega))
  rw [List.nil_append] at k1
  obtain ⟨v', w', r2, k2, g2⟩ := appD_run w ty2 W.heap.size v (L.take i) k1 _ (L.drop (i + 1)) ((row_dropD h hc hm hi hA).kept b1) (by rw [List.length_take, List.length_drop]; omega) b1.size
  refine ⟨v, w, v', w', r1, r2, ?_, b1.trans (below_of_row k1 g2 b1.size)⟩
  rw [List.eraseIdx_eq_take_drop_succ]; exact k2
end Go.Proofs.Ytogdogadejjmeaa
