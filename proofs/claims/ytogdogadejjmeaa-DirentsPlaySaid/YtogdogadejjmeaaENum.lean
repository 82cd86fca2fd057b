/- Entries of a directory in memory; misled, taken. -/
import Derived.Test.YtogdogadejjmeaaEMath
import Derived.Test.YtogdogadejjmeaaBase
import Derived.Test.YtogdogadejjmeaaRowIn
namespace Go.Proofs.Ytogdogadejjmeaa
set_option linter.unusedVariables false
open Go.RowKit

abbrev denV (d : Den) : Value := .agg #[.string d.name, .int .i64 d.ino]
abbrev denC (d : Den) : Array Value := #[.string d.name, .int .i64 d.ino]
def fitD (l : List Den) : Prop := ∀ d ∈ l, d.name.size ≤ 1000000000 ∧ I64 d.ino
def dat (l : List Den) (k : Nat) : Den := l[k]?.getD default
theorem dat_eq {l : List Den} {k : Nat} (h : k < l.length) : dat l k = l[k] := by unfold dat; rw [List.getElem?_eq_getElem h]; rfl
theorem dat_mem {l : List Den} {k : Nat} (h : k < l.length) : dat l k ∈ l := by rw [dat_eq h]; exact List.getElem_mem h
/-- the cells of a list of entries -/
def cellsD : List Den → List Value
  | [] => []
  | d :: l => .string d.name :: .int .i64 d.ino :: cellsD l
theorem cellsD_length : ∀ l, (cellsD l).length = l.length * 2
  | [] => rfl
  | r :: l => by rw [cellsD, List.length_cons, List.length_cons, cellsD_length l, List.length_cons]; omega
theorem cellsD_append : ∀ a b, cellsD (a ++ b) = cellsD a ++ cellsD b
  | [], b => rfl
  | r :: a, b => by rw [List.cons_append, cellsD, cellsD, cellsD_append a b]; rfl
theorem cellsD_at : ∀ (l : List Den) (k : Nat) (h : k < l.length), (cellsD l)[k * 2]? = some (.string (dat l k).name) ∧ (cellsD l)[k * 2 + 1]? = some (.int .i64 (dat l k).ino)
  | r :: l, 0, _ => ⟨rfl, rfl⟩
  | r :: l, k + 1, h => by
    have := cellsD_at l k (by simpa using h)
    rw [show (k + 1) * 2 = k * 2 + 1 + 1 by omega, cellsD]
    have e : dat (r :: l) (k + 1) = dat l k := by unfold dat; simp
    rw [e]
    exact this
/-- v is a slice of the entries, wherever they lie -/
abbrev DensIn (v : Value) (l : List Den) (w : World) : Prop := RowIn 2 v l.length (cellsD l) w
/-- v holds the entries, in a row of the call's own, at B or behind -/
abbrev DensAt (B : Nat) (v : Value) (l : List Den) (w : World) : Prop := w.ownsRow B 25 2 v l.length (cellsD l)
/-- its value's shape, and its cells, in every world behind -/
theorem densIn_cells {v : Value} {l : List Den} {w : World} (h : DensIn v l w) : ∃ ad cap, v = .slice ad l.length cap ∧ l.length ≤ cap ∧ cap ≤ 9223372036854775807 ∧
    (0 < l.length → ∃ g o, ad = some ⟨g, o, none⟩ ∧ g < w.heap.size ∧ ∀ w', Below w.heap.size w w' → ∀ k, k < l.length → w'.cell? ⟨g, o + k * 2, none⟩ = some (.string (dat l k).name) ∧ w'.cell? ⟨g, o + k * 2 + 1, none⟩ = some (.int .i64 (dat l k).ino)) ∧ (ad = none → cap = 0) := by
  obtain ⟨ad, cap, rfl, h1, h2, h3, h4⟩ := h.shape
  refine ⟨ad, cap, rfl, h1, h2, fun hp => ?_, h4⟩
  obtain ⟨g, o, rfl, hg, hc⟩ := h3 (by rw [cellsD_length]; omega)
  refine ⟨g, o, rfl, hg, fun w' hb k hk => ?_⟩
  obtain ⟨e1, e2⟩ := cellsD_at l k hk
  exact ⟨(hb.cell (p := ⟨g, o + k * 2, none⟩) hg).trans (hc _ _ e1), (hb.cell (p := ⟨g, o + (k * 2 + 1), none⟩) hg).trans (hc _ _ e2)⟩
theorem densAt_in {B : Nat} {v : Value} {l : List Den} {w : World} (h : DensAt B v l w) : DensIn v l w := by
  refine ⟨cellsD_length l, ?_⟩
  rcases h.2 with ⟨rfl, h0⟩ | ⟨g, cap, cur, rfl, hb, hcur, hr⟩
  · exact ⟨none, 0, by rw [h0], by omega, by unfold maxLen; omega, fun hp => by rw [cellsD_length, h0] at hp; omega, fun _ => rfl⟩
  · refine ⟨_, _, rfl, hr.1, hr.2.1, fun _ => ⟨g, 0, rfl, lt_of_block hcur, fun k u hk => ?_⟩, fun h => by cases h⟩
    rw [Nat.zero_add]
    have hlt := (List.getElem?_eq_some_iff.1 hk).1
    rw [cellsD_length] at hlt
    exact (h.cellAt k (by omega)).trans hk
/-- the two cells of an entry that was just laid -/
theorem den_new (w : World) (d : Den) (t : TypeId) : ∀ p : BelowP (w.alloc (.cells (denC d) t)), p.to.cell? ⟨w.heap.size, 0, none⟩ = some (.string d.name) ∧ p.to.cell? ⟨w.heap.size, 1, none⟩ = some (.int .i64 d.ino) := fun p => by
  have h := (Blk.new (denC d) t w).kept1 p.h
  exact ⟨h.cell 0, h.cell 1⟩
theorem used_take {l : List Den} {k : Nat} (h : k < l.length) : used (l.take (k + 1)) = used (l.take k) + (5 + (dat l k).name.size) := by
  rw [List.take_succ_eq_append_getElem h, used_snoc, dat_eq h]; rfl
theorem used_le_take (l : List Den) (k : Nat) : used (l.take k) ≤ used l := by
  have := used_append (l.take k) (l.drop k)
  rw [List.take_append_drop] at this
  omega

/-! ### misled -/
theorem misled_any (d : Den) (w : World) :
    Calls Try.prog 37 #[denV d] w fun e w' => e = .returned (.bool (!decide (InoIn d.ino))) ∧ Below w.heap.size w w' := by
  have hb := balloc1 w (.cells (denC d) 25)
  obtain ⟨nm, n⟩ := d
  unfold InoIn
  dsimp only at *
  by_cases h1 : n < 0
  · have HR : Hid ((!decide (0 ≤ n ∧ n ≤ 4294967295)) = true) := Lib.hid (by simp; omega)
    rw [HR.out]
    clear HR
    have q : decide (n < 0) = true := decide_eq_true h1
    go_enter Try.func37, Try.ntmps37
    go_wp2
    go_ret
    exact ⟨rfl, hb⟩
  · have q : decide (n < 0) = false := decide_eq_false h1
    have HR : Hid ((!decide (0 ≤ n ∧ n ≤ 4294967295)) = decide (4294967295 < n)) := Lib.hid (by rw [Bool.eq_iff_iff]; simp; omega)
    rw [HR.out]
    clear HR h1
    go_enter Try.func37, Try.ntmps37
    go_wp2
    go_ret
    exact ⟨rfl, hb⟩

/-! ### taken -/
set_option maxHeartbeats 4000000 in
theorem taken_any (l : List Den) (hu : used l ≤ 1000000000000) (v : Value) (w : World) (hv : DensIn v l w) :
    Calls Try.prog 33 #[v] w fun e w' => e = .returned (.int .i64 (used l : Int)) ∧ Below w.heap.size w w' := by
  obtain ⟨ad, cap, rfl, h1, h2, h3, -⟩ := densIn_cells hv
  have HS := Lib.hid fun k => @used_take l k
  have HL := Lib.hid fun k => Nat.le_trans (used_le_take l k) hu
  have HE : Hid (used (l.take l.length) = used l) := Lib.hid (by rw [List.take_length])
  have H0 : Hid (used (l.take 0) = 0) := Lib.hid rfl
  rw [← HE.out]
  obtain ⟨U, hU⟩ : ∃ U : Nat → Nat, U = fun k => used (l.take k) := ⟨_, rfl⟩
  have hU2 : ∀ k, used (l.take k) = U k := fun k => by rw [hU]
  simp only [hU2] at HS HL H0 ⊢
  clear HE hU hU2 hu hv
  obtain ⟨D, hD⟩ : ∃ D : Nat → Den, D = dat l := ⟨_, rfl⟩
  rw [← hD] at HS h3
  generalize l.length = n at *
  clear hD
  go_enter Try.func33, Try.ntmps33
  go_wp2
  go_loopw [3, 8] (fun p q wr => ∃ k : Nat, q = .int .i64 k ∧ p = .int .i64 (U k : Int) ∧ k ≤ n ∧ Below w.heap.size w wr) (fun _ q _ => n - (intOf q).toNat)
  case atStart => exact ⟨0, rfl, by rw [H0.out]; rfl, Nat.zero_le _, Below.refl _ _⟩
  case round =>
    obtain ⟨k, rfl, rfl, hk, hb⟩ := hrel
    have hul := HL.out k
    by_cases hlt : k < n
    · obtain ⟨g, o, rfl, hg, hc⟩ := h3 (by omega)
      obtain ⟨c1, c2⟩ := hc wr hb k hlt
      have hs := HS.out k hlt
      have hul1 := HL.out (k + 1)
      generalize D k = d at *
      obtain ⟨nm, ino⟩ := d
      dsimp only at *
      have hbq := balloc hb (.cells #[.string nm, .int .i64 ino] 25)
      have hz : (U k : Int) + (5 + (nm.size : Int)) = (U (k + 1) : Int) := by omega
      clear h3 hc hs
      go_wp2
      exact ⟨⟨k + 1, by go_num, by first | rfl | rw [← hz] | (rw [← hz]; go_num), by omega, hbq⟩, by simp [intOf]; omega⟩
    · obtain rfl : k = n := by omega
      go_wp2
      go_ret
      exact ⟨rfl, hb⟩
end Go.Proofs.Ytogdogadejjmeaa
