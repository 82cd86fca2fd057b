/- Count, Lengths, Largest. -/
import Derived.Test.YtmdkekbhondkbaaRMeet
import Derived.Sort.OwnSortedInts
namespace Go.Proofs.Ytmdkekbhondkbaa
set_option linter.unusedVariables false
open Go.RowKit Go.Shelf

theorem norm_take : ∀ {e : Int} {l : List (Int × Int)} (k : Nat), Norm e l → Norm e (l.take k)
  | _, _, 0, _ => .nil _
  | _, _, k + 1, .nil _ => .nil _
  | _, _, k + 1, .cons a b c => .cons a b (norm_take k c)
theorem sum_snoc : ∀ (l : List (Int × Int)) (r : Int × Int), sumR (l ++ [r]) = sumR l + r.2
  | [], r => by simp [sumR]
  | q :: l, r => by rw [List.cons_append, sumR, sumR, sum_snoc l r]; omega
theorem sum_take (l : List (Int × Int)) (h : Norm (-1) l) (k : Nat) : 0 ≤ sumR (l.take k) ∧ sumR (l.take k) ≤ 9223372036854775807 := by
  rcases sum_le (norm_take k h) (by omega) with h | h
  · omega
  · rw [h, sumR]; omega
/-- the greatest length -/
def maxR (l : List (Int × Int)) : Int := l.foldl (fun m r => max m r.2) 0
theorem max_snoc (l : List (Int × Int)) (r : Int × Int) : maxR (l ++ [r]) = max (maxR l) r.2 := by unfold maxR; rw [List.foldl_append]; rfl
/-- the lengths, rising -/
def lensR (l : List (Int × Int)) : List Int := (l.map (·.2)).mergeSort fun x y => decide (x ≤ y)

set_option maxHeartbeats 2000000 in
theorem count_any (l : List (Int × Int)) (hf : fitR l) (hl : l.length ≤ 500000) (v : Value) (w : World) (hv : RunsIn v l w) :
    Calls Try.prog 21 #[v] w fun e w' => e = .returned (.int .i64 (sumR (normR l))) ∧ Below w.heap.size w w' := by
  have N := Lib.hid (norm_any l hf (by omega) v w hv)
  have HS := Lib.hid (sum_take (normR l) (norm_norm l))
  have hok : ∀ r ∈ normR l, okR r := fun r hr => ((norm_norm l).mem r hr).1
  have hlen := norm_len l
  clear hv
  generalize normR l = m at *
  go_enter Try.func21, Try.ntmps21
  go_wp2_with fail
  refine N.out.mono ?_; rintro e w1 ⟨vm, rfl, hm, hb1⟩
  obtain ⟨adm, capm, rfl, m1, m2, m3⟩ := shape_of hm
  have m2 : capm ≤ 9223372036854775807 := m2
  clear N
  go_wp2
  go_loopw [3, 9] (fun c p wr => ∃ (k : Nat) (s : Int), p = .int .i64 k ∧ c = .int .i64 s ∧ k ≤ m.length ∧ Hid (s = sumR (m.take k)) ∧ Below w1.heap.size w1 wr) (fun _ p _ => m.length - (intOf p).toNat)
  case atStart => exact ⟨0, 0, rfl, rfl, Nat.zero_le _, Lib.hid rfl, Below.refl _ _⟩
  case round =>
    obtain ⟨k, s, rfl, rfl, hk, HK, hb⟩ := hrel
    by_cases hlt : k < m.length
    · obtain ⟨g, rfl, hgB, hg⟩ := m3 (by omega)
      obtain ⟨c1, c2⟩ := run_cells (row_kept hm hb) k hlt
      obtain ⟨hr1, hr2, hr3⟩ := hok _ (List.getElem_mem hlt)
      have HN : Hid (s + m[k].2 = sumR (m.take (k + 1))) := Lib.hid (by rw [List.take_succ_eq_append_getElem hlt, sum_snoc, HK.out])
      have b1 := HS.out k
      have b2 := HS.out (k + 1)
      rw [← HN.out] at b2
      rw [← HK.out] at b1
      have hbq := balloc' hb hb.size (.cells #[.int .i64 m[k].1, .int .i64 m[k].2] 37)
      generalize m[k].1 = a at *
      generalize m[k].2 = b at *
      have b3 := b2.2
      have b4 := b1.1
      clear hm m3 HS b1 b2 hok
      go_wp2
      exact ⟨⟨k + 1, s + b, by go_num, rfl, by omega, HN, hbq⟩, by simp [intOf]; omega⟩
    · obtain rfl : k = m.length := by omega
      have HE : Hid (s = sumR m) := Lib.hid (by have := HK.out; rwa [List.take_length] at this)
      clear hm m3 HS
      go_wp2
      go_ret
      exact ⟨ret_int HE.out, bnext hb1 hb⟩

set_option maxHeartbeats 2000000 in
theorem largest_any (l : List (Int × Int)) (hf : fitR l) (hl : l.length ≤ 500000) (v : Value) (w : World) (hv : RunsIn v l w) :
    Calls Try.prog 23 #[v] w fun e w' => e = .returned (.int .i64 (maxR (normR l))) ∧ Below w.heap.size w w' := by
  have N := Lib.hid (norm_any l hf (by omega) v w hv)
  have hlen := norm_len l
  clear hv
  generalize normR l = m at *
  go_enter Try.func23, Try.ntmps23
  go_wp2_with fail
  refine N.out.mono ?_; rintro e w1 ⟨vm, rfl, hm, hb1⟩
  obtain ⟨adm, capm, rfl, m1, m2, m3⟩ := shape_of hm
  have m2 : capm ≤ 9223372036854775807 := m2
  clear N
  go_wp2
  go_loopw [3, 9] (fun c p wr => ∃ (k : Nat) (s : Int), p = .int .i64 k ∧ c = .int .i64 s ∧ k ≤ m.length ∧ Hid (s = maxR (m.take k)) ∧ Below w1.heap.size w1 wr) (fun _ p _ => m.length - (intOf p).toNat)
  case atStart => exact ⟨0, 0, rfl, rfl, Nat.zero_le _, Lib.hid rfl, Below.refl _ _⟩
  case round =>
    obtain ⟨k, s, rfl, rfl, hk, HK, hb⟩ := hrel
    by_cases hlt : k < m.length
    · obtain ⟨g, rfl, hgB, hg⟩ := m3 (by omega)
      obtain ⟨c1, c2⟩ := run_cells (row_kept hm hb) k hlt
      have HN : Hid (max s m[k].2 = maxR (m.take (k + 1))) := Lib.hid (by rw [List.take_succ_eq_append_getElem hlt, max_snoc, HK.out])
      have hbq := balloc' hb hb.size (.cells #[.int .i64 m[k].1, .int .i64 m[k].2] 37)
      obtain ⟨x, hx⟩ : ∃ x, max s m[k].2 = x := ⟨_, rfl⟩
      rw [hx] at HN
      generalize m[k].1 = a at *
      generalize m[k].2 = b at *
      have dx : (if s < b then b else s) = x := by rw [← hx]; split <;> omega
      clear hm m3
      go_wp2
      exact ⟨⟨k + 1, x, by go_num, rfl, by omega, HN, hbq⟩, by simp [intOf]; omega⟩
    · obtain rfl : k = m.length := by omega
      have HE : Hid (s = maxR m) := Lib.hid (by have := HK.out; rwa [List.take_length] at this)
      clear hm m3
      go_wp2
      go_ret
      exact ⟨ret_int HE.out, bnext hb1 hb⟩

/-- v holds the ints, in a row of the call's own, at B or behind -/
abbrev IntsAt (B : Nat) (v : Value) (l : List Int) (w : World) : Prop := w.ownsRow B 3 1 v l.length (l.map (Value.int .i64))
theorem info_int : (Try.prog.info? 3).map (fun i => (i.zero, i.size, i.bytes)) = some (some (.int .i64 0), 1, 8) := by kernel_rfl
theorem ints_snoc {B m : Nat} {a : Int} {v : Value} {l : List Int} {w : World} (hm : l.length = m) (h : w.ownsRow B 3 1 v (m + 1) (l.map (Value.int .i64) ++ [.int .i64 a])) : IntsAt B v (l ++ [a]) w := by
  subst hm
  show w.ownsRow _ _ _ _ (l ++ [a]).length ((l ++ [a]).map _)
  rw [List.map_append, List.length_append]; exact h
theorem int_cell {B g cap n : Nat} {l : List Int} {w : World} (h : w.ownsRow B 3 1 (.slice (some ⟨g, 0, none⟩) n cap) n (l.map (Value.int .i64))) (k : Nat) (hk : k < l.length) : w.cell? ⟨g, k, none⟩ = some (.int .i64 l[k]) := by
  have e : n * 1 = l.length := by rw [← h.1, List.length_map]
  rw [h.cellAt k (by omega)]; simp [hk]
theorem new_int (w : World) (a : Int) : ∀ (j : Nat) (u : Value), [Value.int .i64 a][j]? = some u → (w.alloc (.cells #[.int .i64 a] 3)).cell? ((⟨w.heap.size, 0, none⟩ : Addr).add j) = some u := by
  intro j u hj
  have hadd : (⟨w.heap.size, 0, none⟩ : Addr).add j = ⟨w.heap.size, j, none⟩ := by unfold Addr.add; split <;> simp_all
  rw [hadd, World.cell?_alloc_mark]
  simpa using hj
theorem sortInts_some (zs : List Int) (B g cap : Nat) (W : World) (hB : B ≤ g) (hg : g < W.heap.size) (hl : zs.length ≤ 1000000) (h : IntsAt B (.slice (some ⟨g, 0, none⟩) zs.length cap) zs W) :
    Calls Try.prog 44 #[.slice (some ⟨g, 0, none⟩) zs.length cap] W fun e w' => e = .returned (.tuple #[]) ∧ IntsAt B (.slice (some ⟨g, 0, none⟩) zs.length cap) (zs.mergeSort fun x y => decide (x ≤ y)) w' ∧ Below B W w' := by
  rcases h.2 with ⟨h0, _⟩ | ⟨g', cap', cur, hv, hb, hcur, hle, hm, hsz, htk⟩
  · cases h0
  cases hv
  rw [Nat.mul_one] at htk
  have hH := holds_of_blockI hcur htk
  have hcon := Any.slices_Sort_int Try.sortInts g 0 cap zs W hH hg (by omega)
  refine Calls.mono (show Calls Try.prog 44 _ _ _ from hcon) ?_
  rintro e w' ⟨he, n, os, rfl⟩
  have hlen : (zs.mergeSort fun x y => decide (x ≤ y)).length = zs.length := List.length_mergeSort _
  have ho := ownsRow_sortedI (w := W) (n := n) (os := os) (ss := zs) (ts := zs.mergeSort fun x y => decide (x ≤ y)) hlen hB hcur hle hm hsz
  refine ⟨he, ?_, (Below.refl _ _).grown (grownBy_sortedI (w := W) (g := g) (n := n) (os := os) _) (by omega) (fun k hk => by cases hk; exact hB)⟩
  show World.ownsRow _ _ _ _ _ (List.length _) _
  rw [hlen]; exact ho
theorem sortInts_none (ad : Option Addr) (cap : Nat) (w : World) : Calls Try.prog 44 #[.slice ad 0 cap] w fun e w' => e = .returned (.tuple #[]) ∧ w' = w := Any.slices_Sort_int_none Try.sortInts ad cap w
theorem sortInts_any (zs : List Int) (B : Nat) (v : Value) (W : World) (hB : B ≤ W.heap.size) (hl : zs.length ≤ 1000000) (h : IntsAt B v zs W) :
    Calls Try.prog 44 #[v] W fun e w' => e = .returned (.tuple #[]) ∧ IntsAt B v (zs.mergeSort fun x y => decide (x ≤ y)) w' ∧ Below B W w' := by
  obtain ⟨ad, cap, rfl, h1, h2, h3⟩ := shape_of h
  by_cases h0 : zs.length = 0
  · have hnil : zs = [] := List.length_eq_zero_iff.1 h0
    subst hnil
    refine (sortInts_none ad cap W).mono ?_
    rintro e w' ⟨rfl, rfl⟩
    exact ⟨rfl, by simpa using h, Below.refl _ _⟩
  · obtain ⟨g, rfl, hg, hlt⟩ := h3 (by omega)
    exact sortInts_some zs B g cap W hg hlt hl h

set_option maxHeartbeats 2000000 in
theorem lengths_any (l : List (Int × Int)) (hf : fitR l) (hl : l.length ≤ 500000) (v : Value) (w : World) (hv : RunsIn v l w) :
    Calls Try.prog 14 #[v] w fun e w' => ∃ v', e = .returned v' ∧ IntsAt w.heap.size v' (lensR (normR l)) w' ∧ Below w.heap.size w w' := by
  have N := Lib.hid (norm_any l hf (by omega) v w hv)
  obtain ⟨i0, hi, hz0, hz1, hz2⟩ := info_parts info_int
  have hlen := norm_len l
  clear hv
  generalize normR l = m at *
  go_enter Try.func14, Try.ntmps14
  go_wp2_with fail
  refine N.out.mono ?_; rintro e w1 ⟨vm, rfl, hm, hb1⟩
  obtain ⟨adm, capm, rfl, m1, m2, m3⟩ := shape_of hm
  have m2 : capm ≤ 9223372036854775807 := m2
  clear N
  go_wp2
  go_loopw [3, 9] (fun vn p wr => ∃ (k : Nat), p = .int .i64 k ∧ k ≤ m.length ∧ IntsAt w1.heap.size vn ((m.take k).map (·.2)) wr ∧ Below w1.heap.size w1 wr) (fun _ p _ => m.length - (intOf p).toNat)
  case atStart => exact ⟨0, rfl, Nat.zero_le _, World.ownsRow_nil _ _ _ _, Below.refl _ _⟩
  case round =>
    obtain ⟨k, rfl, hk, hown, hb⟩ := hrel
    by_cases hlt : k < m.length
    · obtain ⟨g, rfl, hgB, hg⟩ := m3 (by omega)
      obtain ⟨c1, c2⟩ := run_cells (row_kept hm hb) k hlt
      have HN : Hid ((m.take (k + 1)).map (·.2) = (m.take k).map (·.2) ++ [m[k].2]) := Lib.hid (by rw [List.take_succ_eq_append_getElem hlt, List.map_append]; rfl)
      have hol : ((m.take k).map (·.2)).length ≤ k := by simp; omega
      have hbq := balloc' hb hb.size (.cells #[.int .i64 m[k].1, .int .i64 m[k].2] 37)
      have hownq := hown.alloc (.cells #[.int .i64 m[k].1, .int .i64 m[k].2] 37)
      generalize (m.take k).map (·.2) = out at *
      generalize m[k].1 = a at *
      generalize m[k].2 = b at *
      have hsq := hbq.size
      clear hm m3 hown
      go_wp2_with (at_builtin; refine wpList_append_own _ rfl _ _ 24 rfl w1.heap.size 3 i0 (.int .i64 0) 1 8 Try.underlying24 hi hz0 hz1 hz2 rfl (by decide) _ _ _ rfl (hownq.alloc _) ⟨wr.heap.size + 1, 0, none⟩ 1 1 [.int .i64 b] rfl rfl (by have h := new_int (wr.alloc (.cells #[.int .i64 a, .int .i64 b] 37)) b; rwa [size_alloc] at h) (fun u hu => by simp at hu; subst hu; rfl) (by unfold maxLen; omega) (by omega) (by rw [size_alloc]; omega) ?_)
      intro v' w2 hown2 hg2 _
      have h2 := ints_snoc rfl hown2
      have hb2 := (balloc' hbq hsq _).trans (below_of_row (hownq.alloc _) hg2 (by rw [size_alloc]; omega))
      clear hown2 hg2 hownq hbq
      go_wp2
      exact ⟨⟨k + 1, by go_num, by omega, by rw [HN.out]; exact h2, hb2⟩, by simp [intOf]; omega⟩
    · obtain rfl : k = m.length := by omega
      rw [List.take_length] at hown
      have S := Lib.hid (sortInts_any (m.map (·.2)) w1.heap.size _ wr hb.size (by simp; omega) hown)
      clear hm m3 hown
      go_wp2_with fail
      refine S.out.mono ?_; rintro e w2 ⟨rfl, h2, hb2⟩
      have hb3 := bnext hb1 (hb.trans hb2)
      have h3 := row_down hb1.size h2
      clear S h2 hb2 hb hb1
      go_wp2
      go_ret
      exact ⟨_, rfl, h3, hb3⟩
end Go.Proofs.Ytmdkekbhondkbaa
