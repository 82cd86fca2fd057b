/- Stage 7's lists of acts: read, as an argument. -/
import Derived.Test.YtehjobjjlldckaaGreatRowIn
import Derived.Test.YtehjobjjlldckaaGreatRows
import Derived.OpenShut
namespace Go.Proofs.YtehjobjjlldckaaGreat
set_option linter.unusedVariables false
open Go.ChangeShapes Go.WideShapes Go.RowKit

/-- an act: its kind, its block, its number, its byte, whether it pins, its text -/
structure ActC where
  kind : Nat
  b : Int
  n : Int
  fill : Nat
  pin : Bool
  data : ByteArray
instance : Inhabited ActC := ⟨⟨0, 0, 0, 0, false, ⟨#[]⟩⟩⟩
def actCells (x : ActC) : List Value := [.int .u8 (x.kind : Int), .int .i64 x.b, .int .i64 x.n, .int .u8 (x.fill : Int), .bool x.pin, .string x.data]
structure ActC.ok (x : ActC) : Prop where
  kind : x.kind < 256
  b : -9223372036854775808 ≤ x.b ∧ x.b ≤ 9223372036854775807
  n : -9223372036854775808 ≤ x.n ∧ x.n ≤ 9223372036854775807
  fill : x.fill < 256
  data : x.data.size ≤ maxLen
def ActsIn (v : Value) (n : Nat) (A : Nat → ActC) (w : World) : Prop := RowIn 6 v n (flat (fun i => actCells (A i)) n) w ∧ ∀ i < n, (A i).ok
theorem ActsIn.kept {v : Value} {n : Nat} {A : Nat → ActC} {w w' : World} (h : ActsIn v n A w) (hb : Below w.heap.size w w') : ActsIn v n A w' := ⟨h.1.kept hb, h.2⟩
theorem acts_flat {A : Nat → ActC} {n i : Nat} (h : i < n) {j : Nat} (hj : j < 6) : (flat (fun i => actCells (A i)) n)[i * 6 + j]? = (actCells (A i))[j]? :=
  flat_at (C := fun i => actCells (A i)) (z := 6) (fun _ _ => rfl) h hj
/-- the slice, and act i's cells -/
theorem ActsIn.shape {v : Value} {n : Nat} {A : Nat → ActC} {w : World} (h : ActsIn v n A w) : ∃ ad cap, v = .slice ad n cap ∧ n ≤ cap ∧ cap ≤ 9223372036854775807 ∧
    (0 < n → ∃ g o, ad = some ⟨g, o, none⟩ ∧ g < w.heap.size ∧ ∀ i, i < n → w.cell? ⟨g, o + i * 6, none⟩ = some (.int .u8 ((A i).kind : Int)) ∧ w.cell? ⟨g, o + i * 6 + 1, none⟩ = some (.int .i64 (A i).b) ∧ w.cell? ⟨g, o + i * 6 + 2, none⟩ = some (.int .i64 (A i).n) ∧
      w.cell? ⟨g, o + i * 6 + 3, none⟩ = some (.int .u8 ((A i).fill : Int)) ∧ w.cell? ⟨g, o + i * 6 + 4, none⟩ = some (.bool (A i).pin) ∧ w.cell? ⟨g, o + i * 6 + 5, none⟩ = some (.string (A i).data)) := by
  obtain ⟨ad, cap, rfl, h1, h2, h3, _⟩ := h.1.shape
  refine ⟨ad, cap, rfl, h1, h2, fun hp => ?_⟩
  obtain ⟨g, o, rfl, hg, hc⟩ := h3 (by rw [flat_length (z := 6) fun _ _ => rfl]; omega)
  refine ⟨g, o, rfl, hg, fun i hi => ?_⟩
  have k := fun j (hj : j < 6) u (hu : (actCells (A i))[j]? = some u) => hc (i * 6 + j) u ((acts_flat hi hj).trans hu)
  have e : ∀ j, o + (i * 6 + j) = o + i * 6 + j := fun j => by omega
  simp only [e] at k
  exact ⟨k 0 (by omega) _ rfl, k 1 (by omega) _ rfl, k 2 (by omega) _ rfl, k 3 (by omega) _ rfl, k 4 (by omega) _ rfl, k 5 (by omega) _ rfl⟩

section
variable {H : Type} {enc : TypeId × Value → H} {P : Program} {w : World} {held : Bool}
theorem six {α : Type} {l : List α} (h : l.length = 6) : ∃ a b c d e f, l = [a, b, c, d, e, f] := by
  match l, h with
  | [a, b, c, d, e, f], _ => exact ⟨a, b, c, d, e, f, rfl⟩
theorem open_acts {r : Reach} {b0 : Nat} {t e : TypeId} {fs : Array Field} {v : Value} {d : DataW H} {p : List MemPlace} (ht : P.underlying t = some (.slice e)) (he : P.underlying e = some (.struct fs)) (hn : fs.size = 6)
    (hone : Deep.oneCellFields P fs = true) (ce : P.cellsOf e = 6)
    (t0 : (fs[0]?).bind (fun f => P.underlying f.type) = some (.int .u8)) (t1 : (fs[1]?).bind (fun f => P.underlying f.type) = some (.int .i64)) (t2 : (fs[2]?).bind (fun f => P.underlying f.type) = some (.int .i64))
    (t3 : (fs[3]?).bind (fun f => P.underlying f.type) = some (.int .u8)) (t4 : (fs[4]?).bind (fun f => P.underlying f.type) = some .bool) (t5 : (fs[5]?).bind (fun f => P.underlying f.type) = some .string)
    (hv : Value.okWide P w r b0 t v) (h : DataW.Trod enc P w 0 (fun _ => true) held t v d p) : ∃ n A, ActsIn v n A w := by
  obtain ⟨n, cs, hr, hi⟩ := open_row ht hv h
  rw [ce] at hr hi
  have each : ∀ i, i < n → ∃ x : ActC, (cs.drop (i * 6)).take 6 = actCells x ∧ x.ok := fun i hlt => by
    obtain ⟨m, y, hy⟩ := hi i hlt
    have hl : ((cs.drop (i * 6)).take 6).length = 6 := by
      have := hr.1
      rw [List.length_take, List.length_drop]; omega
    have hf := open_fields he hone hy (hl.trans hn.symm)
    generalize (cs.drop (i * 6)).take 6 = l at *
    obtain ⟨c0, c1, c2, c3, c4, c5, rfl⟩ := six hl
    have ft : ∀ j (hj : j < fs.size) dsc, (fs[j]?).bind (fun f => P.underlying f.type) = some dsc → P.underlying (fs[j]).type = some dsc := fun j hj dsc h => by
      rw [Array.getElem?_eq_getElem hj] at h; exact h
    obtain ⟨m0, x0, y0⟩ := hf 0 (by omega)
    obtain ⟨m1, x1, y1⟩ := hf 1 (by omega)
    obtain ⟨m2, x2, y2⟩ := hf 2 (by omega)
    obtain ⟨m3, x3, y3⟩ := hf 3 (by omega)
    obtain ⟨m4, x4, y4⟩ := hf 4 (by omega)
    obtain ⟨m5, x5, y5⟩ := hf 5 (by omega)
    obtain ⟨a0, e0, _, w0⟩ := DataW.trod_int (ft 0 (by omega) _ t0) y0
    obtain ⟨a1, e1, _, w1⟩ := DataW.trod_int (ft 1 (by omega) _ t1) y1
    obtain ⟨a2, e2, _, w2⟩ := DataW.trod_int (ft 2 (by omega) _ t2) y2
    obtain ⟨a3, e3, _, w3⟩ := DataW.trod_int (ft 3 (by omega) _ t3) y3
    obtain ⟨s4, e4, _⟩ := DataW.trod_bool (ft 4 (by omega) _ t4) y4
    obtain ⟨s5, e5, _, w5⟩ := DataW.trod_string (ft 5 (by omega) _ t5) y5
    simp only [List.cons.injEq, and_true, List.getElem_cons_zero, List.getElem_cons_succ] at e0 e1 e2 e3 e4 e5
    have b0 := bounds_u8 w0
    have b3 := bounds_u8 w3
    obtain ⟨k0, rfl⟩ := Int.eq_ofNat_of_zero_le b0.1
    obtain ⟨k3, rfl⟩ := Int.eq_ofNat_of_zero_le b3.1
    refine ⟨⟨k0, a1, a2, k3, s4, s5⟩, ?_, ⟨by show k0 < 256; omega, bounds_i64 w1, bounds_i64 w2, by show k3 < 256; omega, w5⟩⟩
    rw [e0, e1, e2, e3, e4, e5]; rfl
  obtain ⟨A, hA⟩ := Deep.choose_lt each
  refine ⟨n, A, ?_, fun i hi => (hA i hi).2⟩
  have hcs : cs = flat (fun i => actCells (A i)) n := by
    apply List.ext_getElem?
    intro k
    by_cases hk : k < n * 6
    · have h1 : k / 6 < n := by omega
      have h2 : k / 6 * 6 + k % 6 = k := by omega
      have h3 := acts_flat (A := A) h1 (show k % 6 < 6 by omega)
      rw [h2] at h3
      rw [h3, ← (hA _ h1).1, List.getElem?_take_of_lt (by omega), List.getElem?_drop, h2]
    · rw [List.getElem?_eq_none (by rw [hr.1]; omega), List.getElem?_eq_none (by rw [flat_length (z := 6) fun _ _ => rfl]; omega)]
  rw [← hcs]; exact hr
end
set_option maxRecDepth 100000 in
theorem act_under : ∃ fs, Tryz.prog.underlying 43 = some (.struct fs) ∧ fs.size = 6 ∧ Deep.oneCellFields Tryz.prog fs = true ∧
    (fs[0]?).bind (fun f => Tryz.prog.underlying f.type) = some (.int .u8) ∧ (fs[1]?).bind (fun f => Tryz.prog.underlying f.type) = some (.int .i64) ∧ (fs[2]?).bind (fun f => Tryz.prog.underlying f.type) = some (.int .i64) ∧
    (fs[3]?).bind (fun f => Tryz.prog.underlying f.type) = some (.int .u8) ∧ (fs[4]?).bind (fun f => Tryz.prog.underlying f.type) = some .bool ∧ (fs[5]?).bind (fun f => Tryz.prog.underlying f.type) = some .string :=
  ⟨_, Tryz.underlying43, by kernel_rfl, by kernel_rfl, by kernel_rfl, by kernel_rfl, by kernel_rfl, by kernel_rfl, by kernel_rfl, by kernel_rfl⟩
theorem act_cells : Tryz.prog.cellsOf 43 = 6 := by kernel_rfl
set_option maxRecDepth 100000 in
theorem open_acts7 {H : Type} {enc : TypeId × Value → H} {W : World} {base : Nat} {v : Value} {d : DataW H} {p : List MemPlace} (hval : Value.okWide Tryz.prog W .any base 24 v)
    (h : DataW.Trod enc Tryz.prog W 0 (fun _ => true) true 24 v d p) : ∃ n A, ActsIn v n A W := by
  obtain ⟨fs, hs, h0, h1, t0, t1, t2, t3, t4, t5⟩ := act_under
  exact open_acts Tryz.underlying24 hs h0 h1 act_cells t0 t1 t2 t3 t4 t5 hval h
end Go.Proofs.YtehjobjjlldckaaGreat
