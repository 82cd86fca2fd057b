/- Entries in memory; within, lies, valid, follows, May. -/
import Derived.Test.YtfepjjjoikcljaaIMath
import Derived.Test.YtfepjjjoikcljaaBase
import Derived.Test.YtfepjjjoikcljaaRowIn
namespace Go.Proofs.Ytfepjjjoikcljaa
set_option linter.unusedVariables false
open Go.RowKit

abbrev entV (e : Ent) : Value := .agg #[.int .i64 e.log, .int .i64 e.phys, .int .i64 e.len]
abbrev entC (e : Ent) : Array Value := #[.int .i64 e.log, .int .i64 e.phys, .int .i64 e.len]
def fitE (l : List Ent) : Prop := ∀ e ∈ l, I64 e.log ∧ I64 e.phys ∧ I64 e.len
theorem fitE_at {l : List Ent} (h : fitE l) {k : Nat} (hk : k < l.length) : I64 (eat l k).log ∧ I64 (eat l k).phys ∧ I64 (eat l k).len := by
  rw [eat_eq hk]; exact h _ (List.getElem_mem hk)
/-- the cells of a list of entries -/
def cellsE : List Ent → List Value
  | [] => []
  | e :: l => .int .i64 e.log :: .int .i64 e.phys :: .int .i64 e.len :: cellsE l
theorem cellsE_length : ∀ l, (cellsE l).length = l.length * 3
  | [] => rfl
  | r :: l => by rw [cellsE, List.length_cons, List.length_cons, List.length_cons, cellsE_length l, List.length_cons]; omega
theorem cellsE_append : ∀ a b, cellsE (a ++ b) = cellsE a ++ cellsE b
  | [], b => rfl
  | r :: a, b => by rw [List.cons_append, cellsE, cellsE, cellsE_append a b]; rfl
theorem cellsE_at : ∀ (l : List Ent) (k : Nat) (h : k < l.length), (cellsE l)[k * 3]? = some (.int .i64 (eat l k).log) ∧ (cellsE l)[k * 3 + 1]? = some (.int .i64 (eat l k).phys) ∧ (cellsE l)[k * 3 + 2]? = some (.int .i64 (eat l k).len)
  | r :: l, 0, _ => ⟨rfl, rfl, rfl⟩
  | r :: l, k + 1, h => by
    have := cellsE_at l k (by simpa using h)
    rw [show (k + 1) * 3 = k * 3 + 1 + 1 + 1 by omega, cellsE]
    have e : eat (r :: l) (k + 1) = eat l k := by unfold eat; simp
    rw [e]
    exact this
/-- v is a slice of the entries, wherever they lie -/
abbrev EntsIn (v : Value) (l : List Ent) (w : World) : Prop := RowIn 3 v l.length (cellsE l) w
/-- v holds the entries, in a row of the call's own, at B or behind -/
abbrev EntsAt (B : Nat) (v : Value) (l : List Ent) (w : World) : Prop := w.ownsRow B 26 3 v l.length (cellsE l)
/-- its value's shape, and its cells, in every world behind -/
theorem entsIn_cells {v : Value} {l : List Ent} {w : World} (h : EntsIn v l w) : ∃ ad cap, v = .slice ad l.length cap ∧ l.length ≤ cap ∧ cap ≤ 9223372036854775807 ∧
    (0 < l.length → ∃ g o, ad = some ⟨g, o, none⟩ ∧ g < w.heap.size ∧ ∀ w', Below w.heap.size w w' → ∀ k, k < l.length → w'.cell? ⟨g, o + k * 3, none⟩ = some (.int .i64 (eat l k).log) ∧ w'.cell? ⟨g, o + k * 3 + 1, none⟩ = some (.int .i64 (eat l k).phys) ∧ w'.cell? ⟨g, o + k * 3 + 2, none⟩ = some (.int .i64 (eat l k).len)) ∧ (ad = none → cap = 0) := by
  obtain ⟨ad, cap, rfl, h1, h2, h3, h4⟩ := h.shape
  refine ⟨ad, cap, rfl, h1, h2, fun hp => ?_, h4⟩
  obtain ⟨g, o, rfl, hg, hc⟩ := h3 (by rw [cellsE_length]; omega)
  refine ⟨g, o, rfl, hg, fun w' hb k hk => ?_⟩
  obtain ⟨e1, e2, e3⟩ := cellsE_at l k hk
  exact ⟨(hb.cell (p := ⟨g, o + k * 3, none⟩) hg).trans (hc _ _ e1), (hb.cell (p := ⟨g, o + (k * 3 + 1), none⟩) hg).trans (hc _ _ e2), (hb.cell (p := ⟨g, o + (k * 3 + 2), none⟩) hg).trans (hc _ _ e3)⟩
theorem entsAt_in {B : Nat} {v : Value} {l : List Ent} {w : World} (h : EntsAt B v l w) : EntsIn v l w := by
  refine ⟨cellsE_length l, ?_⟩
  rcases h.2 with ⟨rfl, h0⟩ | ⟨g, cap, cur, rfl, hb, hcur, hr⟩
  · exact ⟨none, 0, by rw [h0], by omega, by unfold maxLen; omega, fun hp => by rw [cellsE_length, h0] at hp; omega, fun _ => rfl⟩
  · refine ⟨_, _, rfl, hr.1, hr.2.1, fun _ => ⟨g, 0, rfl, lt_of_block hcur, fun k u hk => ?_⟩, fun h => by cases h⟩
    rw [Nat.zero_add]
    have hlt := (List.getElem?_eq_some_iff.1 hk).1
    rw [cellsE_length] at hlt
    exact (h.cellAt k (by omega)).trans hk
/-- the three cells of an entry that was just laid -/
theorem ent_new (w : World) (e : Ent) (t : TypeId) : ∀ p : BelowP (w.alloc (.cells (entC e) t)), p.to.cell? ⟨w.heap.size, 0, none⟩ = some (.int .i64 e.log) ∧ p.to.cell? ⟨w.heap.size, 1, none⟩ = some (.int .i64 e.phys) ∧ p.to.cell? ⟨w.heap.size, 2, none⟩ = some (.int .i64 e.len) := fun p => by
  have h := (Blk.new (entC e) t w).kept1 p.h
  exact ⟨h.cell 0, h.cell 1, h.cell 2⟩

theorem iwithin_any (n a b : Int) (w : World) :
    Calls Try.prog 22 #[.int .i64 n, .int .i64 a, .int .i64 b] w fun e w' => e = .returned (.bool (decide (a ≤ n ∧ n ≤ b))) ∧ w = w' := by
  by_cases h1 : a ≤ n
  · by_cases h2 : n ≤ b
    · go_enter Try.func22, Try.ntmps22
      go_wp2
      go_ret
      exact ⟨ret_bool (by simp; omega), rfl⟩
    · have h2 : b < n := by omega
      go_enter Try.func22, Try.ntmps22
      go_wp2
      go_ret
      exact ⟨ret_bool (by simp; omega), rfl⟩
  · have h2 : n < a := by omega
    go_enter Try.func22, Try.ntmps22
    go_wp2
    go_ret
    exact ⟨ret_bool (by simp; omega), rfl⟩
theorem iwithin_yes (n a b : Int) (h : a ≤ n ∧ n ≤ b) (w : World) :
    Calls Try.prog 22 #[.int .i64 n, .int .i64 a, .int .i64 b] w fun e w' => e = .returned (.bool true) ∧ w = w' := by
  have := iwithin_any n a b w; rw [decide_eq_true h] at this; exact this
theorem iwithin_no (n a b : Int) (h : ¬ (a ≤ n ∧ n ≤ b)) (w : World) :
    Calls Try.prog 22 #[.int .i64 n, .int .i64 a, .int .i64 b] w fun e w' => e = .returned (.bool false) ∧ w = w' := by
  have := iwithin_any n a b w; rw [decide_eq_false h] at this; exact this
def Lies (e : Ent) (n : Int) : Prop := (0 ≤ e.log ∧ e.log ≤ 2048 - n) ∧ (1 ≤ e.phys ∧ e.phys ≤ 4096 - n)
instance (e : Ent) (n : Int) : Decidable (Lies e n) := by unfold Lies; infer_instance
set_option maxHeartbeats 2000000 in
theorem lies_any (y : Ent) (n : Int) (h1 : 1 ≤ n) (h2 : n ≤ 9223372036854775807) (w : World) :
    Calls Try.prog 50 #[entV y, .int .i64 n] w fun e w' => e = .returned (.bool (decide (Lies y n))) ∧ Below w.heap.size w w' := by
  have hb := balloc1 w (.cells (entC y) 26)
  by_cases hl : 0 ≤ y.log ∧ y.log ≤ 2048 - n
  · have W1 := Lib.hid (iwithin_yes _ _ _ hl)
    by_cases hp : 1 ≤ y.phys ∧ y.phys ≤ 4096 - n
    · have W2 := Lib.hid (iwithin_yes _ _ _ hp)
      have HR : Hid (decide (Lies y n) = true) := Lib.hid (decide_eq_true ⟨hl, hp⟩)
      rw [HR.out]
      clear HR hl hp
      obtain ⟨a, p, z⟩ := y
      dsimp only at *
      go_enter Try.func50, Try.ntmps50
      go_wp2_with fail
      refine (W1.out _).mono ?_; rintro e w1 ⟨rfl, rfl⟩
      go_wp2_with fail
      refine (W2.out _).mono ?_; rintro e w1 ⟨rfl, rfl⟩
      go_wp2
      go_ret
      exact ⟨rfl, hb⟩
    · have W2 := Lib.hid (iwithin_no _ _ _ hp)
      have HR : Hid (decide (Lies y n) = false) := Lib.hid (decide_eq_false fun k => hp k.2)
      rw [HR.out]
      clear HR hl hp
      obtain ⟨a, p, z⟩ := y
      dsimp only at *
      go_enter Try.func50, Try.ntmps50
      go_wp2_with fail
      refine (W1.out _).mono ?_; rintro e w1 ⟨rfl, rfl⟩
      go_wp2_with fail
      refine (W2.out _).mono ?_; rintro e w1 ⟨rfl, rfl⟩
      go_wp2
      go_ret
      exact ⟨rfl, hb⟩
  · have W1 := Lib.hid (iwithin_no _ _ _ hl)
    have HR : Hid (decide (Lies y n) = false) := Lib.hid (decide_eq_false fun k => hl k.1)
    rw [HR.out]
    clear HR hl
    obtain ⟨a, p, z⟩ := y
    dsimp only at *
    go_enter Try.func50, Try.ntmps50
    go_wp2_with fail
    refine (W1.out _).mono ?_; rintro e w1 ⟨rfl, rfl⟩
    go_wp2
    go_ret
    exact ⟨rfl, hb⟩
theorem entOk_leaf (y : Ent) : EntOk true y ↔ 1 ≤ y.len ∧ Lies y y.len := by
  unfold EntOk Lies; simp only [if_true]; omega
theorem entOk_node (y : Ent) : EntOk false y ↔ y.len = 0 ∧ Lies y 1 := by
  unfold EntOk Lies; simp only [Bool.false_eq_true, if_false]; omega
set_option maxHeartbeats 2000000 in
theorem ivalid_any (y : Ent) (hz : I64 y.len) (leaf : Bool) (w : World) :
    Calls Try.prog 37 #[entV y, .bool leaf] w fun e w' => e = .returned (.bool (decide (EntOk leaf y))) ∧ Below w.heap.size w w' := by
  have hb := balloc1 w (.cells (entC y) 26)
  cases leaf with
  | true =>
    by_cases h1 : 1 ≤ y.len
    · have L := Lib.hid (lies_any y y.len h1 hz.2)
      have HR : Hid (decide (EntOk true y) = decide (Lies y y.len)) := Lib.hid (by rw [decide_eq_decide, entOk_leaf]; simp [h1])
      rw [HR.out]
      generalize decide (Lies y y.len) = b at *
      clear HR hz
      obtain ⟨a, p, z⟩ := y
      dsimp only at *
      go_enter Try.func37, Try.ntmps37
      go_wp2_with fail
      refine (L.out _).mono ?_; rintro e w1 ⟨rfl, b1⟩
      go_wp2
      go_ret
      exact ⟨rfl, bnext hb b1⟩
    · have HR : Hid (decide (EntOk true y) = false) := Lib.hid (decide_eq_false fun k => h1 ((entOk_leaf y).1 k).1)
      rw [HR.out]
      have h2 : y.len < 1 := by omega
      clear HR hz h1
      obtain ⟨a, p, z⟩ := y
      dsimp only at *
      go_enter Try.func37, Try.ntmps37
      go_wp2
      go_ret
      exact ⟨rfl, hb⟩
  | false =>
    by_cases h1 : y.len = 0
    · have L := Lib.hid (lies_any y 1 (by omega) (by omega))
      have HR : Hid (decide (EntOk false y) = decide (Lies y 1)) := Lib.hid (by rw [decide_eq_decide, entOk_node]; simp [h1])
      rw [HR.out]
      generalize decide (Lies y 1) = b at *
      have e1 : (y.len == 0) = true := by rw [beq_iff_eq]; exact h1
      clear HR hz h1
      obtain ⟨a, p, z⟩ := y
      dsimp only at *
      go_enter Try.func37, Try.ntmps37
      go_wp2_with fail
      refine (L.out _).mono ?_; rintro e w1 ⟨rfl, b1⟩
      go_wp2
      go_ret
      exact ⟨rfl, bnext hb b1⟩
    · have HR : Hid (decide (EntOk false y) = false) := Lib.hid (decide_eq_false fun k => h1 ((entOk_node y).1 k).1)
      rw [HR.out]
      have e1 : (y.len == 0) = false := by rw [beq_eq_false_iff_ne]; exact h1
      clear HR hz h1
      obtain ⟨a, p, z⟩ := y
      dsimp only at *
      go_enter Try.func37, Try.ntmps37
      go_wp2
      go_ret
      exact ⟨rfl, hb⟩
theorem entOk_end {leaf : Bool} {p : Ent} (h : EntOk leaf p) : 0 ≤ p.log + p.len ∧ p.log + p.len ≤ 10000 := by have := entOk_low h; omega
set_option maxHeartbeats 2000000 in
theorem follows_any (p y : Ent) (hz : 0 ≤ p.log + p.len ∧ p.log + p.len ≤ 10000) (w : World) :
    Calls Try.prog 38 #[entV p, entV y] w fun e w' => e = .returned (.bool (decide (After p y))) ∧ Below w.heap.size w w' := by
  have hb := balloc (balloc1 w (.cells (entC p) 26)) (.cells (entC y) 26)
  unfold After
  obtain ⟨a, b, c⟩ := p
  obtain ⟨a', b', c'⟩ := y
  dsimp only at *
  by_cases h1 : a < a'
  · by_cases h2 : a + c ≤ a'
    · have HR : Hid (decide (a < a' ∧ a + c ≤ a') = true) := Lib.hid (decide_eq_true ⟨h1, h2⟩)
      rw [HR.out]
      have h3 : decide (a + c ≤ a') = true := decide_eq_true h2
      clear HR h2
      go_enter Try.func38, Try.ntmps38
      go_wp2
      go_ret
      exact ⟨rfl, hb⟩
    · have HR : Hid (decide (a < a' ∧ a + c ≤ a') = false) := Lib.hid (decide_eq_false fun k => h2 k.2)
      rw [HR.out]
      have h3 : decide (a + c ≤ a') = false := decide_eq_false h2
      clear HR h2
      go_enter Try.func38, Try.ntmps38
      go_wp2
      go_ret
      exact ⟨rfl, hb⟩
  · have HR : Hid (decide (a < a' ∧ a + c ≤ a') = false) := Lib.hid (decide_eq_false fun k => h1 k.1)
    rw [HR.out]
    have h3 : a' ≤ a := by omega
    clear HR h1
    go_enter Try.func38, Try.ntmps38
    go_wp2
    go_ret
    exact ⟨rfl, hb⟩
end Go.Proofs.Ytfepjjjoikcljaa
