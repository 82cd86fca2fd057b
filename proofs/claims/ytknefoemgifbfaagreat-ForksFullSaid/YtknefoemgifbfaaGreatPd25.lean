import Derived.Test.YtknefoemgifbfaaGreatPd08
import Derived.Test.YtknefoemgifbfaaGreatPd13
import Derived.WalkKit
import Derived.WalkSpells
import Derived.WalkLawsBesides
import Derived.Lib.Hide
import Derived.Laws.OwnMore
import Derived.Laws.StructEq
import Derived.Laws.IdiomStrings
import Derived.OneCell
import Derived.Deep.QuietTactic
import Derived.BigQuiet
import Derived.BigRegion
import Derived.IntWalk
import Derived.Sort.Grow
import Derived.Shelf.SlSortCmp.QuietGrown
import Derived.Deep.RegionHeld3
import Derived.Deep.DrawnRows
set_option linter.unusedVariables false
set_option linter.unusedSimpArgs false
set_option linter.constructorNameAsVariable false
namespace Go.Proofs.YtknefoemgifbfaaGreat
open Go.RowKit
def fitR (l : List (Int × Int)) : Prop := ∀ r ∈ l, I64 r.1 ∧ I64 r.2
theorem okR_fit {r : Int × Int} (h : okR r) : I64 r.1 ∧ I64 r.2 := by
 have h1 := h.1; have h2 := h.2.1; have h3 := h.2.2;exact ⟨⟨by omega, by omega⟩, by omega, by omega⟩
theorem Norm.fit {e : Int} {l : List (Int × Int)} (h : Norm e l) : fitR l := fun r hr => okR_fit (h.mem r hr).1
theorem fit_at {l : List (Int × Int)} (h : fitR l) (k : Nat) (hk : k < l.length) : I64 l[k].1 ∧ I64 l[k].2 := h _ (List.getElem_mem hk)
def cellsR : List (Int × Int) → List Value
 | [] => []
 | r :: l => .int .i64 r.1 :: .int .i64 r.2 :: cellsR l
theorem cellsR_length : ∀ l, (cellsR l).length = l.length * 2
 | [] => rfl
 | r :: l => by rw [cellsR, List.length_cons, List.length_cons, cellsR_length l, List.length_cons]; omega
theorem cellsR_append : ∀ a b, cellsR (a ++ b) = cellsR a ++ cellsR b
 | [], b => rfl
 | r :: a, b => by rw [List.cons_append, cellsR, cellsR, cellsR_append a b]; rfl
theorem cellsR_at : ∀ (l : List (Int × Int)) (k : Nat) (h : k < l.length), (cellsR l)[k * 2]? = some (.int .i64 l[k].1) ∧ (cellsR l)[k * 2 + 1]? = some (.int .i64 l[k].2)
 | r :: l, 0, _ => ⟨rfl, rfl⟩
 | r :: l, k + 1, h => by
   have := cellsR_at l k (by simpa using h);rw [show (k + 1) * 2 = k * 2 + 1 + 1 by omega, cellsR];exact this
theorem cellsR_last (l : List (Int × Int)) (q q' : Int × Int) : ((cellsR (l ++ [q])).set (l.length * 2) (.int .i64 q'.1)).set (l.length * 2 + 1) (.int .i64 q'.2) = cellsR (l ++ [q']) := by
 rw [cellsR_append, cellsR_append, List.set_append_right _ _ (by rw [cellsR_length]; omega), cellsR_length, List.set_append_right _ _ (by rw [cellsR_length]; omega), cellsR_length];rw [show l.length * 2 - l.length * 2 = 0 by omega, show l.length * 2 + 1 - l.length * 2 = 1 by omega]; rfl
def RunsIn (v : Value) (l : List (Int × Int)) (w : World) : Prop :=
 ∃ (ad : Option Addr) (cap : Nat), v = .slice ad l.length cap ∧ l.length ≤ cap ∧ cap ≤ maxLen ∧ (0 < l.length → ∃ g o, ad = some ⟨g, o, none⟩ ∧ g < w.heap.size ∧
  ∀ k (h : k < l.length), w.cell? ⟨g, o + k * 2, none⟩ = some (.int .i64 l[k].1) ∧ w.cell? ⟨g, o + k * 2 + 1, none⟩ = some (.int .i64 l[k].2)) ∧ (ad = none → cap = 0)
theorem runsIn_kept {v : Value} {l : List (Int × Int)} {w w' : World} (h : RunsIn v l w) (hb : Below w.heap.size w w') : RunsIn v l w' := by
 obtain ⟨ad, cap, rfl, h1, h2, h3, h4⟩ := h;refine ⟨ad, cap, rfl, h1, h2, fun hp => ?_, h4⟩;obtain ⟨g, o, rfl, hg, hc⟩ := h3 hp;refine ⟨g, o, rfl, Nat.lt_of_lt_of_le hg hb.size, fun k hk => ?_⟩;obtain ⟨c1, c2⟩ := hc k hk;exact ⟨(hb.cell (p := ⟨g, o + k * 2, none⟩) hg).trans c1, (hb.cell (p := ⟨g, o + k * 2 + 1, none⟩) hg).trans c2⟩
abbrev RunsAt (B : Nat) (v : Value) (l : List (Int × Int)) (w : World) : Prop := w.ownsRow B 136 2 v l.length (cellsR l)
theorem info_run : (Tryz.prog.info? 136).map (fun i => (i.zero, i.size, i.bytes)) = some (some (.agg #[.int .i64 0, .int .i64 0]), 2, 16) := by kernel_rfl
theorem run_cells {B g cap : Nat} {l : List (Int × Int)} {w : World} {n : Nat} (h : w.ownsRow B 136 2 (.slice (some ⟨g, 0, none⟩) n cap) n (cellsR l)) (k : Nat) (hk : k < l.length) :
 w.cell? ⟨g, k * 2, none⟩ = some (.int .i64 l[k].1) ∧ w.cell? ⟨g, k * 2 + 1, none⟩ = some (.int .i64 l[k].2) := by
 have e : n * 2 = l.length * 2 := by rw [← cellsR_length, ← h.1]
 obtain ⟨h1, h2⟩ := cellsR_at l k hk;exact ⟨(h.cellAt _ (by omega)).trans h1, (h.cellAt _ (by omega)).trans h2⟩
theorem runsAt_in {B : Nat} {v : Value} {l : List (Int × Int)} {w : World} (h : RunsAt B v l w) : RunsIn v l w := by
 have hn : ∀ ad cap, v = .slice ad l.length cap → ad = none → cap = 0 := by
  rintro ad cap rfl rfl;rcases h.2 with ⟨h0, _⟩ | ⟨g, cap', cur, h0, _⟩
  ·simp only [Value.slice.injEq] at h0; exact h0.2.2
  ·simp only [Value.slice.injEq] at h0; cases h0.1
 obtain ⟨ad, cap, rfl, h1, h2, h3⟩ := shape_of h;refine ⟨ad, cap, rfl, h1, h2, fun hp => ?_, hn _ _ rfl⟩;obtain ⟨g, rfl, hb, hg⟩ := h3 hp;refine ⟨g, 0, rfl, hg, fun k hk => ?_⟩;rw [Nat.zero_add];exact run_cells h k hk
theorem bgrow {w a : World} (h : Below w.heap.size w a) (os : Array Obj) : Below w.heap.size w (Sort.grow a os) :=
 ⟨h.os, h.tape, h.output, by show _ ≤ (a.heap ++ os).size; rw [Array.size_append]; exact Nat.le_trans h.size (Nat.le_add_right _ _),
  fun k hk => by
   show (a.heap ++ os)[k]? = _
   rw [Array.getElem?_append_left (Nat.lt_of_lt_of_le hk h.size)]; exact h.block k hk⟩
theorem new_cells (w : World) (a b : Int) : ∀ (j : Nat) (u : Value), [Value.int .i64 a, Value.int .i64 b][j]? = some u → (w.alloc (.cells #[.int .i64 a, .int .i64 b] 136)).cell? ((⟨w.heap.size, 0, none⟩ : Addr).add j) = some u := by
 intro j u hj
 have hadd : (⟨w.heap.size, 0, none⟩ : Addr).add j = ⟨w.heap.size, j, none⟩ := by unfold Addr.add; split <;> simp_all
 rw [hadd, World.cell?_alloc_mark]
 simpa using hj
theorem one_cells (a b : Int) : ∀ u ∈ [Value.int .i64 a, Value.int .i64 b], u.oneCell' = true := by
 intro u hu; simp at hu; rcases hu with rfl | rfl <;> rfl
theorem runs_snoc {B m : Nat} {a b : Int} {v : Value} {l : List (Int × Int)} {w : World} (hm : l.length = m) (h : w.ownsRow B 136 2 v (m + 1) (cellsR l ++ [.int .i64 a, .int .i64 b])) : RunsAt B v (l ++ [(a, b)]) w := by
 subst hm
 show w.ownsRow _ _ _ _ (l ++ [(a, b)]).length (cellsR (l ++ [(a, b)]))
 rw [cellsR_append, List.length_append]; exact h
theorem runvalid_any (a b : Int) (ha : I64 a) (hb : I64 b) (w : World) :
 Calls Tryz.prog 96 #[.agg #[.int .i64 a, .int .i64 b]] w fun e w' => e = .returned (.bool (decide (okR (a, b)))) ∧ w' = w.alloc (.cells #[.int .i64 a, .int .i64 b] 136) := by
 obtain ⟨ha1, ha2⟩ := ha;obtain ⟨hb1, hb2⟩ := hb
 have E : Hid (decide (okR (a, b)) = (decide (0 ≤ a) && decide (1 ≤ b) && decide (b ≤ 9223372036854775807 - a))) := Lib.hid (by
  rw [Bool.eq_iff_iff]; simp only [Bool.and_eq_true, decide_eq_true_eq]; unfold okR
  show 0 ≤ a ∧ 1 ≤ b ∧ a + b ≤ _ ↔ _
  omega)
 by_cases h1 : 0 ≤ a
 ·by_cases h2 : 1 ≤ b
  ·go_enter Tryz.func96, Tryz.ntmps96
   go_wp2;go_ret;exact ⟨ret_bool (by rw [E.out]; simp [h1, h2]), rfl⟩
  ·have h2' : b < 1 := by omega
   go_enter Tryz.func96, Tryz.ntmps96
   go_wp2;go_ret;exact ⟨ret_bool (by rw [E.out]; simp [h1]; omega), rfl⟩
 ·have h1' : a < 0 := by omega
  go_enter Tryz.func96, Tryz.ntmps96
  go_wp2;go_ret;exact ⟨ret_bool (by rw [E.out]; simp; omega), rfl⟩
theorem end_any (a b : Int) (h : I64 (a + b)) (w : World) :
 Calls Tryz.prog 97 #[.agg #[.int .i64 a, .int .i64 b]] w fun e w' => e = .returned (.int .i64 (a + b)) ∧ w' = w.alloc (.cells #[.int .i64 a, .int .i64 b] 136) := by
 obtain ⟨h1, h2⟩ := h
 go_enter Tryz.func97, Tryz.ntmps97
 go_wp2;go_ret;exact ⟨rfl, rfl⟩
theorem between_any (a b : Int) (h : I64 (b - a)) (w : World) :
 Calls Tryz.prog 116 #[.int .i64 a, .int .i64 b] w fun e w' => e = .returned (.agg #[.int .i64 a, .int .i64 (b - a)]) ∧ w' = w.alloc (.cells #[.int .i64 a, .int .i64 (b - a)] 136) := by
 obtain ⟨h1, h2⟩ := h
 go_enter Tryz.func116, Tryz.ntmps116
 go_wp2
 (try simp only [Exit.inBlock, Exit.then])
 refine bodyPost_ret (v := .agg #[.int .i64 a, .int .i64 (b - a)]) ?_ rfl ⟨rfl, ?_⟩
 ·rw [results_one_cell rfl]
  go_simp
 ·rfl
open Go.RowKit
theorem cell_gr {w : World} {a : Addr} {v : Value} (hb : a.block < w.heap.size) (h : w.cell? a = some v) : ∀ (n : Nat) (os : Array Obj), (Sort.grow (w.drewN n) os).cell? a = some v := fun n os => cell_grown hb h n os
theorem cell_old {w : World} {a : Addr} {v : Value} (hb : a.block < w.heap.size) (h : w.cell? a = some v) (o : Obj) : (w.alloc o).cell? a = some v := (World.cell?_of_block (heap_alloc_old _ _ hb)).trans h
theorem two_gr (w : World) (a b : Int) : (∀ (n : Nat) (os : Array Obj), (Sort.grow ((w.alloc (.cells #[.int .i64 a, .int .i64 b] 136)).drewN n) os).cell? ⟨w.heap.size, 0, none⟩ = some (.int .i64 a)) ∧
 ∀ (n : Nat) (os : Array Obj), (Sort.grow ((w.alloc (.cells #[.int .i64 a, .int .i64 b] 136)).drewN n) os).cell? ⟨w.heap.size, 1, none⟩ = some (.int .i64 b) := by
 have hs : w.heap.size < (w.alloc (.cells #[.int .i64 a, .int .i64 b] 136)).heap.size := by show _ < (w.heap.push _).size; simp
 refine ⟨cell_gr hs ?_, cell_gr hs ?_⟩ <;> rw [World.cell?_alloc_mark] <;> rfl
theorem valid_gr (a b : Int) (ha : I64 a) (hb : I64 b) (W : World) :
 Calls Tryz.prog 96 #[.agg #[.int .i64 a, .int .i64 b]] W fun e w' => e = .returned (.bool (decide (okR (a, b)))) ∧ ∃ q os', w' = Sort.grow (W.drewN q) os' :=
 (runvalid_any a b ha hb W).mono fun e w' ⟨he, hw⟩ => ⟨he, 0, _, hw.trans (Sort.alloc_eq_grow _ _)⟩
theorem end_gr (a b : Int) (h : I64 (a + b)) (W : World) :
 Calls Tryz.prog 97 #[.agg #[.int .i64 a, .int .i64 b]] W fun e w' => e = .returned (.int .i64 (a + b)) ∧ ∃ q os', w' = Sort.grow (W.drewN q) os' :=
 (end_any a b h W).mono fun e w' ⟨he, hw⟩ => ⟨he, 0, _, hw.trans (Sort.alloc_eq_grow _ _)⟩
end Go.Proofs.YtknefoemgifbfaaGreat
