import Derived.Test.YtanghmogeiiooaaGreatDoorPa23
import Derived.Test.YtanghmogeiiooaaGreatDoorPa11
import Derived.Test.YtanghmogeiiooaaGreatDoorPa25
set_option linter.unusedVariables false
set_option linter.unusedSimpArgs false
set_option linter.constructorNameAsVariable false
/- strings.Join of a row of texts, with nothing between. -/
namespace Go.Proofs
open Go.Shelf
theorem Tryz.joinX : Builder.Extra Tryz.prog Tryz.joinS_ren where
  sizeBuilder := by kernel_rfl
  liesBuilder := by kernel_rfl
  t5 := Tryz.repeatS.t5
  a5 := Tryz.repeatS.a5
  z5 := Tryz.repeatS.z5
  v5 := Tryz.repeatS.v5
  infoByte := by kernel_rfl
  cellsByte := by kernel_rfl
  sizeByte := by kernel_rfl
  neB5 := by decide
end Go.Proofs
namespace Go.Proofs.YtanghmogeiiooaaGreatDoor
set_option linter.unusedVariables false
open Go.RowKit

def joinT (L : List ByteArray) : ByteArray := ⟨(L.flatMap fun b => b.data.toList).toArray⟩
theorem joinT_list (L : List ByteArray) : (joinT L).data.toList = L.flatMap fun b => b.data.toList := rfl
theorem joinTail_none : ∀ r : List (List UInt8), Lib.joinTail [] r = r.flatten
  | [] => rfl
  | x :: r => by rw [List.flatten_cons, ← joinTail_none r]; rfl
theorem join_none (xs : List (List UInt8)) : Lib.join xs [] = xs.flatten := by
  cases xs with
  | nil => rfl
  | cons x r => rw [Lib.join_cons, joinTail_none]; rfl
theorem join_texts (L : List ByteArray) : Lib.join (L.map (·.data.toList)) (⟨#[]⟩ : ByteArray).data.toList = L.flatMap fun b => b.data.toList := by
  rw [show (⟨#[]⟩ : ByteArray).data.toList = [] from rfl, join_none]; simp [List.flatMap]
theorem flat_size {L : List ByteArray} {z : Nat} (h : ∀ b ∈ L, b.size = z) : (L.flatMap fun b => b.data.toList).length = L.length * z := by
  induction L with
  | nil => simp
  | cons b L ih =>
    rw [List.flatMap_cons, List.length_append, ih fun x hx => h x (by simp [hx]), List.length_cons, Nat.add_mul]
    have : b.data.toList.length = z := by have := h b (by simp); simpa using this
    omega
theorem joinT_size {L : List ByteArray} {z : Nat} (h : ∀ b ∈ L, b.size = z) : (joinT L).size = L.length * z := by
  have := flat_size h
  show (joinT L).data.size = _
  rw [← Array.length_toList, joinT_list, this]
theorem join_any (L : List ByteArray) (hL : L.length ≤ 1000000) (hz : ∀ b ∈ L, b.size = 128) (v : Value) (w : World) (hv : TextsIn v L w) :
    Calls Tryz.prog 80 #[v, .string ⟨#[]⟩] w fun e w' => e = .returned (.string (joinT L)) ∧ Below w.heap.size w w' := by
  obtain ⟨ad, cap, rfl, h1, h2, h3, -⟩ := hv.shape
  have hf : Tryz.joinS_ren.f 156 = 80 := by kernel_rfl
  have hlen := flat_size hz
  by_cases h0 : L.length = 0
  · obtain rfl := List.eq_nil_of_length_eq_zero h0
    have h := Any.strings_Join_none Tryz.joinS Tryz.joinX ad cap ⟨#[]⟩ w
    rw [hf] at h
    exact h.mono fun e w' ⟨he, hw⟩ => ⟨by rw [he]; rfl, hw ▸ Below.refl _ _⟩
  · obtain ⟨g, o, rfl, hg, hc⟩ := row_cells h3 (by omega)
    have h := Any.strings_Join Tryz.joinS Tryz.joinX g o cap L ⟨#[]⟩ w (fun j x hj => by
      obtain ⟨hl, rfl⟩ := List.getElem?_eq_some_iff.1 hj
      exact hc j hl) hg (by omega) h1 (by rw [join_texts]; omega)
    rw [hf, join_texts] at h
    exact h
end Go.Proofs.YtanghmogeiiooaaGreatDoor
