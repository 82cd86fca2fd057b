import Derived.Test.YtknefoemgifbfaaGreatPd28
import Derived.Test.YtknefoemgifbfaaGreatPd02
import Derived.Sort.OwnSortedInts
set_option linter.unusedVariables false
set_option linter.unusedSimpArgs false
set_option linter.constructorNameAsVariable false
namespace Go.Proofs.YtknefoemgifbfaaGreat
open Go.RowKit Go.Shelf
abbrev IntsFk (B : Nat) (v : Value) (l : List Int) (w : World) : Prop := w.ownsRow B 3 1 v l.length (l.map (Value.int .i64))
theorem fk_info_int : (Tryz.prog.info? 3).map (fun i => (i.zero, i.size, i.bytes)) = some (some (.int .i64 0), 1, 8) := by kernel_rfl
theorem fkints_snoc {B m : Nat} {a : Int} {v : Value} {l : List Int} {w : World} (hm : l.length = m) (h : w.ownsRow B 3 1 v (m + 1) (l.map (Value.int .i64) ++ [.int .i64 a])) : IntsFk B v (l ++ [a]) w := by
 subst hm
 show w.ownsRow _ _ _ _ (l ++ [a]).length ((l ++ [a]).map _)
 rw [List.map_append, List.length_append]; exact h
theorem fknew_int (w : World) (a : Int) : ∀ (j : Nat) (u : Value), [Value.int .i64 a][j]? = some u → (w.alloc (.cells #[.int .i64 a] 3)).cell? ((⟨w.heap.size, 0, none⟩ : Addr).add j) = some u := by
 intro j u hj
 have hadd : (⟨w.heap.size, 0, none⟩ : Addr).add j = ⟨w.heap.size, j, none⟩ := by unfold Addr.add; split <;> simp_all
 rw [hadd, World.cell?_alloc_mark]
 simpa using hj
theorem fksort_some (zs : List Int) (B g cap : Nat) (W : World) (hB : B ≤ g) (hg : g < W.heap.size) (hl : zs.length ≤ 1000000) (h : IntsFk B (.slice (some ⟨g, 0, none⟩) zs.length cap) zs W) :
 Calls Tryz.prog 86 #[.slice (some ⟨g, 0, none⟩) zs.length cap] W fun e w' => e = .returned (.tuple #[]) ∧ IntsFk B (.slice (some ⟨g, 0, none⟩) zs.length cap) (zs.mergeSort fun x y => decide (x ≤ y)) w' ∧ Below B W w' := by
 rcases h.2 with ⟨h0, _⟩ | ⟨g', cap', cur, hv, hb, hcur, hle, hm, hsz, htk⟩
 ·cases h0
 cases hv
 rw [Nat.mul_one] at htk;have hH := holds_of_blockI hcur htk;have hcon := Any.slices_Sort_int Tryz.sortInts g 0 cap zs W hH hg (by omega);refine Calls.mono (show Calls Tryz.prog 86 _ _ _ from hcon) ?_;rintro e w' ⟨he, n, os, rfl⟩;have hlen : (zs.mergeSort fun x y => decide (x ≤ y)).length = zs.length := List.length_mergeSort _;have ho := ownsRow_sortedI (w := W) (n := n) (os := os) (ss := zs) (ts := zs.mergeSort fun x y => decide (x ≤ y)) hlen hB hcur hle hm hsz;refine ⟨he, ?_, (Below.refl _ _).grown (grownBy_sortedI (w := W) (g := g) (n := n) (os := os) _) (by omega) (fun k hk => by cases hk; exact hB)⟩
 show World.ownsRow _ _ _ _ _ (List.length _) _
 rw [hlen]; exact ho
theorem fksort_none (ad : Option Addr) (cap : Nat) (w : World) : Calls Tryz.prog 86 #[.slice ad 0 cap] w fun e w' => e = .returned (.tuple #[]) ∧ w' = w := Any.slices_Sort_int_none Tryz.sortInts ad cap w
theorem fksort_any (zs : List Int) (B : Nat) (v : Value) (W : World) (hB : B ≤ W.heap.size) (hl : zs.length ≤ 1000000) (h : IntsFk B v zs W) :
 Calls Tryz.prog 86 #[v] W fun e w' => e = .returned (.tuple #[]) ∧ IntsFk B v (zs.mergeSort fun x y => decide (x ≤ y)) w' ∧ Below B W w' := by
 obtain ⟨ad, cap, rfl, h1, h2, h3⟩ := shape_of h;by_cases h0 : zs.length = 0
 ·have hnil : zs = [] := List.length_eq_zero_iff.1 h0
  subst hnil;refine (fksort_none ad cap W).mono ?_;rintro e w' ⟨rfl, rfl⟩;exact ⟨rfl, by simpa using h, Below.refl _ _⟩
 ·obtain ⟨g, rfl, hg, hlt⟩ := h3 (by omega)
  exact fksort_some zs B g cap W hg hlt hl h
theorem intsFk_in {B : Nat} {v : Value} {l : List Int} {w : World} (h : IntsFk B v l w) : IntsR v l w := own_in h
theorem wpList_int {ops : Array Oper} {rest : List Oper} {o : Oper} {a : Act} {Q : Exit → Act → World → Prop} {w : World} (hgd : o.guard = none) (s x : Operand)
 (ho : o.op = .call { callee := .builtin .append, args := #[s, x], argTypes := #[43, 43] })
 (base : Nat) (v : Value) (l : List Int) (hs : a.eval s = v) (hown : IntsFk base v l w)
 (ad : Addr) (c : Nat) (b : Int) (hx : a.eval x = .slice (some ad) 1 c) (hnews : ∀ j u, [Value.int .i64 b][j]? = some u → w.cell? (ad.add j) = some u)
 (hlen : l.length + 1 ≤ 4000000) (hbase : base ≤ w.heap.size)
 (h : ∀ v' w', IntsFk base v' (l ++ [b]) w' → w.grownBy w' v.ownBlock → wpList Tryz.prog ops Q rest (a.put o.dst v') w') : wpList Tryz.prog ops Q (o :: rest) a w := by
 obtain ⟨i0, hi, hz0, hz1, hz2⟩ := info_parts fk_info_int;refine wpList_append_own w hgd s x 43 ho base 3 i0 (.int .i64 0) 1 8 Tryz.underlying43 hi hz0 hz1 hz2 rfl (by decide) v _ _ hs hown ad 1 c [.int .i64 b] hx rfl hnews (fun u hu => by simp at hu; subst hu; rfl) (by unfold maxLen; omega) (by omega) hbase ?_;intro v' w' h1 h2 _;exact h v' w' (fkints_snoc rfl h1) h2
end Go.Proofs.YtknefoemgifbfaaGreat
