/- slices.Delete of one entry, in a row of the call's own. -/
import Derived.Test.YtogdogadejjmeaaERead
import Derived.Deep.RegionLaw
namespace Go.Proofs.Ytogdogadejjmeaa
set_option linter.unusedVariables false
open Go.RowKit

theorem den_zero (w : World) : (zeroValue 25).run Try.prog w = .ok (.agg #[.string ⟨#[]⟩, .int .i64 0]) w := by kernel_rfl
theorem zeros_one : (Builtin.zeroCells (Value.cells (.agg #[.string ⟨#[]⟩, .int .i64 0])) 1).toList = [.string ⟨#[]⟩, .int .i64 0] := by
  have : Value.cells (.agg #[.string ⟨#[]⟩, .int .i64 0]) = #[.string ⟨#[]⟩, .int .i64 0] := by simp [Value.cells]
  rw [this]
  simp [Builtin.zeroCells]
  rfl
theorem clear_den (w : World) (ty : TypeId) (b o c : Nat) (hc : ∀ j, j < 2 → (w.cell? ⟨b, o + j, none⟩).isSome = true) (hf : ∀ j, j < 2 → w.frozen? ⟨b, o + j, none⟩ = false) :
    (Builtin.clear_ #[22] ty #[.slice (some ⟨b, o, none⟩) 1 c]).run Try.prog w = .ok (.tuple #[]) (w.setCells b o [.string ⟨#[]⟩, .int .i64 0]) := by
  have hst := run_storeCells_cells (P := Try.prog) b o [.string ⟨#[]⟩, .int .i64 0] 0 w (by simpa using hc) (by simpa using hf) (by intro v hv'; simp at hv'; rcases hv' with rfl | rfl <;> rfl)
  simp only [Nat.add_zero] at hst
  simp [Builtin.clear_, run_underlying Try.underlying22, den_zero, zeros_one, hst]
def cellD (l : List Den) (j : Nat) : Value := (cellsD l)[j]?.getD undef
theorem cellD_some {l : List Den} {j : Nat} (h : j < l.length * 2) : (cellsD l)[j]? = some (cellD l j) := by
  unfold cellD; rw [List.getElem?_eq_getElem (by rw [cellsD_length]; exact h)]; rfl
theorem cellD_drop {l : List Den} {i t : Nat} (hi : i ≤ l.length) (h : i * 2 + t < l.length * 2) : (cellsD (l.drop i))[t]? = some (cellD l (i * 2 + t)) := by
  rw [← cellD_some h]
  have hs : cellsD l = cellsD (l.take i) ++ cellsD (l.drop i) := by rw [← cellsD_append, List.take_append_drop]
  have ht : (cellsD (l.take i)).length = i * 2 := by rw [cellsD_length, List.length_take]; omega
  rw [hs, List.getElem?_append_right (by omega), ht]; congr 1; omega
theorem cellD_take {l : List Den} {i t : Nat} (hi : i ≤ l.length) (h : t < i * 2) : (cellsD (l.take i))[t]? = some (cellD l t) := by
  rw [← cellD_some (by omega)]
  have hs : cellsD l = cellsD (l.take i) ++ cellsD (l.drop i) := by rw [← cellsD_append, List.take_append_drop]
  have ht : (cellsD (l.take i)).length = i * 2 := by rw [cellsD_length, List.length_take]; omega
  rw [hs, List.getElem?_append_left (by omega)]
theorem cellD_erase {l : List Den} {i k : Nat} (hi : i < l.length) (h : k + 2 < l.length * 2) : (cellsD (l.eraseIdx i))[k]? = some (if k < i * 2 then cellD l k else cellD l (k + 2)) := by
  have ht : (cellsD (l.take i)).length = i * 2 := by rw [cellsD_length, List.length_take]; omega
  rw [List.eraseIdx_eq_take_drop_succ, cellsD_append]
  by_cases hk : k < i * 2
  · rw [if_pos hk, List.getElem?_append_left (by omega), cellD_take (by omega) hk]
  · rw [if_neg hk, List.getElem?_append_right (by omega), ht, cellD_drop (by omega) (by omega), show (i + 1) * 2 + (k - i * 2) = k + 2 by omega]
theorem row_cells {B g cap : Nat} {l : List Den} {w : World} (h : DensAt B (.slice (some ⟨g, 0, none⟩) l.length cap) l w) : CellsAt g (l.length * 2) (cellD l) w :=
  ⟨(h.lt g rfl).2, fun j hj => ⟨by rw [h.cellAt j (by omega)]; exact cellD_some hj, h.frozenAt j⟩⟩
theorem cellsD_flat : ∀ (l : List Den) (u : Value), u ∈ cellsD l → u.oneCell' = true
  | [], u, h => by simp [cellsD] at h
  | d :: l, u, h => by
    simp only [cellsD, List.mem_cons] at h
    rcases h with rfl | rfl | h
    · rfl
    · rfl
    · exact cellsD_flat l u h
def movedC (l : List Den) (i m : Nat) (j : Nat) : Value := if j < i * 2 then cellD l j else if j < (i + m) * 2 then cellD l (j + 2) else cellD l j
def erasedC (l : List Den) (i m : Nat) (j : Nat) : Value := if j = (i + m) * 2 then .string ⟨#[]⟩ else if j = (i + m) * 2 + 1 then .int .i64 0 else movedC l i m j
set_option maxRecDepth 100000 in
set_option maxHeartbeats 8000000 in
theorem delete_any (l : List Den) (i : Nat) (hi : i < l.length) (B : Nat) (v : Value) (w : World) (hown : DensAt B v l w) (hB : B ≤ w.heap.size) :
    Calls Try.prog 34 #[v, .int .i64 (i : Int), .int .i64 ((i : Int) + 1)] w fun e w' => ∃ v', e = .returned v' ∧ DensIn v' (l.eraseIdx i) w' ∧ Below B w w' := by
  have mixed : Try.prog.follows .mixedOrders = true := by kernel_rfl
  obtain ⟨i0, hi0, hz0, hz1, hz2⟩ := info_parts den_info
  obtain ⟨ad, cap, rfl, p1, p2, p3⟩ := shape_of hown
  obtain ⟨g, rfl, hgB, hg⟩ := p3 (by omega)
  have p2 : cap ≤ 9223372036854775807 := p2
  have hcl := row_cells hown
  obtain ⟨m, hm⟩ : ∃ m, l.length = i + 1 + m := ⟨l.length - (i + 1), by omega⟩
  obtain ⟨news, hnews⟩ : ∃ news, news = cellsD (l.drop (i + 1)) := ⟨_, rfl⟩
  have hnl : news.length = m * 2 := by rw [hnews, cellsD_length, List.length_drop]; omega
  have hnat : ∀ t u, news[t]? = some u → w.drew.cell? ⟨g, (i + 1) * 2 + t, none⟩ = some u := fun t u hu => by
    have ht := (List.getElem?_eq_some_iff.1 hu).1
    have h := (hcl.2 ((i + 1) * 2 + t) (by omega)).1
    rw [hnews, cellD_drop (by omega) (by omega)] at hu
    exact h.trans hu
  obtain ⟨A, hA, hsrc⟩ : ∃ A : Addr, (if cap = i + 1 then some (⟨g, 0, none⟩ : Addr) else some ⟨g, (i + 1) * 2, none⟩) = some A ∧ Hid (∀ t u, news[t]? = some u → w.drew.cell? (A.add t) = some u) := by
    by_cases h : cap = i + 1
    · refine ⟨⟨g, 0, none⟩, by simp [h], Lib.hid fun t u hu => ?_⟩
      have ht := (List.getElem?_eq_some_iff.1 hu).1
      omega
    · refine ⟨⟨g, (i + 1) * 2, none⟩, by simp [h], Lib.hid fun t u hu => ?_⟩
      rw [add_at]; exact hnat t u hu
  have s2 : Hid (∀ u ∈ news, u.oneCell' = true) := Lib.hid fun u hu => cellsD_flat _ u (by rw [hnews] at hu; exact hu)
  have s3 : Hid (∀ t, t < news.length → (w.drew.cell? ⟨g, 0 + i * 2 + t, none⟩).isSome = true ∧ w.drew.frozen? ⟨g, 0 + i * 2 + t, none⟩ = false) := Lib.hid fun t ht => by
    have h := hcl.2 (i * 2 + t) (by omega)
    rw [Nat.zero_add]
    exact ⟨by show (w.cell? _).isSome = true; rw [h.1]; rfl, h.2⟩
  obtain ⟨W1, hW1⟩ : ∃ W1, W1 = w.drew.setCells g (0 + i * 2) news := ⟨_, rfl⟩
  have hC1 : CellsAt g (l.length * 2) (movedC l i m) W1 := by
    rw [hW1, Nat.zero_add]
    refine CellsAt.sets (F := cellD l) (vs := news) (o := i * 2) (show CellsAt g (l.length * 2) (cellD l) w.drew from hcl) (by omega) _ (fun j hj => ?_) (fun j hj hn => ?_)
    · have h : news[j]? = some (cellD l ((i + 1) * 2 + j)) := by rw [hnews]; exact cellD_drop (by omega) (by omega)
      rw [(List.getElem?_eq_some_iff.1 h).2]
      unfold movedC
      rw [if_neg (by omega), if_pos (by omega)]; congr 1; omega
    · unfold movedC
      rcases hn with hn | hn
      · rw [if_pos hn]
      · rw [if_neg (by omega), if_neg (by omega)]
  have hclr : ∀ ty c, (Builtin.clear_ #[22] ty #[.slice (some ⟨g, (i + m) * 2, none⟩) (i + 1 + m - (i + m)) c]).run Try.prog W1 = .ok (.tuple #[]) (W1.setCells g ((i + m) * 2) [.string ⟨#[]⟩, .int .i64 0]) := fun ty c => by
    rw [show i + 1 + m - (i + m) = 1 by omega]
    exact clear_den W1 ty g _ c (fun j hj => by rw [(hC1.2 _ (by omega)).1]; rfl) (fun j hj => (hC1.2 _ (by omega)).2)
  have hC2 : CellsAt g (l.length * 2) (erasedC l i m) (W1.setCells g ((i + m) * 2) [.string ⟨#[]⟩, .int .i64 0]) := by
    refine CellsAt.sets (F := movedC l i m) (vs := [.string ⟨#[]⟩, .int .i64 0]) (o := (i + m) * 2) hC1 (by simp only [List.length_cons, List.length_nil]; omega) _ (fun j hj => ?_) (fun j hj hn => ?_)
    · have hj2 : j = 0 ∨ j = 1 := by simp at hj; omega
      unfold erasedC
      rcases hj2 with rfl | rfl
      · rw [if_pos (by omega)]; rfl
      · rw [if_neg (by omega), if_pos (by omega)]; rfl
    · unfold erasedC
      simp only [List.length_cons, List.length_nil] at hn
      rw [if_neg (by omega), if_neg (by omega)]
  have hBW : Below B w (W1.setCells g ((i + m) * 2) [.string ⟨#[]⟩, .int .i64 0]) := by
    obtain ⟨a1, a2, a3, a4, a5⟩ := setCells_keeps g [.string ⟨#[]⟩, .int .i64 0] ((i + m) * 2) W1
    obtain ⟨c1, c2, c3, c4, c5⟩ := setCells_keeps g news (0 + i * 2) w.drew
    rw [← hW1] at c1 c2 c3 c4 c5
    exact ⟨a1.trans c1, a2.trans c2, a3.trans c3, by rw [a4, c4]; exact Nat.le_refl _, fun k hk => (a5 k (by omega)).trans (c5 k (by omega))⟩
  have hRes : DensIn (.slice (some ⟨g, 0, none⟩) (i + m) cap) (l.eraseIdx i) (W1.setCells g ((i + m) * 2) [.string ⟨#[]⟩, .int .i64 0]) := by
    have hlen : (l.eraseIdx i).length = i + m := by rw [List.length_eraseIdx_of_lt hi]; omega
    refine ⟨cellsD_length _, _, _, by rw [hlen], by omega, by unfold maxLen; omega, fun _ => ⟨g, 0, rfl, hC2.1, fun k u hk => ?_⟩, fun h => by cases h⟩
    have hkl := (List.getElem?_eq_some_iff.1 hk).1
    rw [cellsD_length, hlen] at hkl
    rw [Nat.zero_add, (hC2.2 k (by omega)).1, ← hk, cellD_erase hi (by omega)]
    unfold erasedC movedC
    rw [if_neg (by omega), if_neg (by omega)]
    by_cases hk2 : k < i * 2
    · rw [if_pos hk2, if_pos hk2]
    · rw [if_neg hk2, if_neg hk2, if_pos (by omega)]
  have hW : Hid (W1 = w.drew.setCells g (0 + i * 2) news) := Lib.hid hW1
  have HRes := Lib.hid hRes
  have HBW := Lib.hid hBW
  have hnl2 : Hid (news.length = m * 2) := Lib.hid hnl
  have hic : i ≤ cap := by omega
  have hjc : i + 1 ≤ cap := by omega
  have hq1 : (0 : Int) ≤ (i : Int) + 1 := by omega
  have hq2 : (i : Int) + 1 ≤ (i : Int) + 1 + (m : Int) := by omega
  have hne : ((i : Int) == (i : Int) + 1) = false := by rw [beq_eq_false_iff_ne]; omega
  clear hW1 hC1 hC2 hBW hRes hown hcl hnat hnews hnl p3
  rw [hm] at p1 ⊢
  go_enter Try.func34, Try.ntmps34
  go_wp2_with fail
  go_region_law (refine step_append_room rfl (.tmp 22) (.tmp 25) 22 rfl 25 i0 2 Try.underlying22 hi0 hz1 g 0 i cap (by simp [Act.eval, Act.put]) A m (cap - (i + 1)) news (by simp [Act.eval, Act.put]) hnl2.out hsrc.out s2.out (by omega) s3.out ?_; rw [← hW.out])
  go_wp2
  go_ret
  exact ⟨_, rfl, HRes.out, HBW.out⟩
end Go.Proofs.Ytogdogadejjmeaa
