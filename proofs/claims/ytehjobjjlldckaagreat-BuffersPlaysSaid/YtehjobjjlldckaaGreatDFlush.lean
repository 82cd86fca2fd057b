/- Flush. -/
import Derived.Test.YtehjobjjlldckaaGreatDDev
import Derived.StillTailTactics
namespace Go.Proofs.YtehjobjjlldckaaGreat
set_option linter.unusedVariables false
open Go.RowKit

def cellsL (n : Nat) (F : Nat → Value) : List Value := (List.range n).map F
theorem cellsL_length (n : Nat) (F : Nat → Value) : (cellsL n F).length = n := by simp [cellsL]
theorem cellsL_at {n : Nat} {F : Nat → Value} (j : Nat) (h : j < (cellsL n F).length) : (cellsL n F)[j] = F j := by simp [cellsL]
theorem cellsL_some {n : Nat} {F : Nat → Value} {j : Nat} {v : Value} (h : (cellsL n F)[j]? = some v) : j < n ∧ F j = v := by
  obtain ⟨h1, h2⟩ := List.getElem?_eq_some_iff.1 h
  rw [cellsL_length] at h1
  rw [cellsL_at] at h2
  exact ⟨h1, h2⟩
/-- copy, of a row's first cells over another's -/
theorem run_copy_over {w : World} {ty : TypeId} {g g' o o' n cap cap' N N' : Nat} {F G : Nat → Value} (h : CellsAt g N F w) (h' : CellsAt g' N' G w) (ho : o + n ≤ N) (ho' : o' + n ≤ N') (h1 : ∀ j, j < n → (G (o' + j)).oneCell' = true) :
    (Builtin.copy_ #[61, 61] ty #[.slice (some ⟨g, o, none⟩) n cap, .slice (some ⟨g', o', none⟩) n cap']).run Tryz.prog w = .ok (goInt n) (w.setCells g o (cellsL n fun j => G (o' + j))) := by
  have e := cellsL_length n fun j => G (o' + j)
  have := run_copy_cells (P := Tryz.prog) w 61 61 ty 5 g o n cap ⟨g', o', none⟩ n cap' (cellsL n fun j => G (o' + j)) Tryz.underlying61 u8_size
    (by rw [e]; exact (Nat.min_self n).symm) (fun j v hj => by
      obtain ⟨h2, h3⟩ := cellsL_some hj
      rw [add_at, (h'.2 (o' + j) (by omega)).1]; exact congrArg some h3)
    (fun j hj => by rw [e] at hj; rw [(h.2 (o + j) (by omega)).1]; rfl) (fun j hj => by rw [e] at hj; exact (h.2 (o + j) (by omega)).2)
    (fun v hv => by obtain ⟨j, hj, rfl⟩ := List.mem_map.1 hv; exact h1 j (List.mem_range.1 hj))
  rw [e] at this; exact this
theorem byF_one (f : Nat → ByteArray) (j : Nat) : (byF f j).oneCell' = true := rfl
theorem sets_over {w : World} {g n : Nat} {F G : Nat → Value} (h : CellsAt g n F w) : CellsAt g n G (w.setCells g 0 (cellsL n fun j => G (0 + j))) := by
  have e := cellsL_length n fun j => G (0 + j)
  exact h.sets (by omega) G (fun j hj => by rw [cellsL_at]) (fun j hj hn => by omega)
theorem zero_bool (w : World) : (zeroValue 4).run Tryz.prog w = .ok (.bool false) w := by kernel_rfl
theorem sets_false {w : World} {g n : Nat} {F : Nat → Value} (h : CellsAt g n F w) : CellsAt g n (fun _ => .bool false) (w.setCells g 0 (List.replicate n (.bool false))) :=
  h.sets (by simp) _ (fun j hj => by simp) (fun j hj hn => by rw [List.length_replicate] at hn; omega)

theorem flush_no {d lo hi : Nat} {S : St} (h0 : S.left = 0) (w : World) (h : DevAt d lo hi S w) :
    Calls Tryz.prog 40 #[.pointer (some ⟨d, 0, none⟩)] w fun e w' => e = .returned (.int .i64 61) ∧ w = w' := by
  obtain ⟨gn, gk, gp, cn, ck, l, h⟩ := h
  obtain ⟨c0, _, _, c3, _, _⟩ := h.cells
  have M := Lib.hid (missing_no d w c0)
  have A := Lib.hid (act_no w h h0)
  clear h h0
  go_enter Tryz.func40, Tryz.ntmps40
  go_wp2_with fail
  refine M.out.mono ?_; rintro e w' ⟨rfl, rfl⟩
  go_wp2_with fail
  refine A.out.mono ?_; rintro e w' ⟨rfl, rfl⟩
  go_wp2
  go_ret
  exact ⟨rfl, rfl⟩
set_option maxRecDepth 100000 in
set_option maxHeartbeats 1000000 in
theorem flush_ok {d lo hi : Nat} {S : St} (h0 : S.left ≠ 0) (ha : S.acts ≤ 1000000) (w : World) (h : DevAt d lo hi S w) :
    Calls Tryz.prog 40 #[.pointer (some ⟨d, 0, none⟩)] w fun e w' => e = .returned (.int .i64 0) ∧ DevAt d lo hi S.flushed w' ∧ Zone lo hi w w' := by
  obtain ⟨gn, gk, gp, cn, ck, l, h⟩ := h
  obtain ⟨c0, _, _, c3, _, _⟩ := h.cells
  have M := Lib.hid (missing_no d w c0)
  have A := Lib.hid (act_yes w h h0 ha)
  have HO := Lib.hid h.ok
  clear h h0 ha
  go_enter Tryz.func40, Tryz.ntmps40
  go_wp2_with fail
  refine M.out.mono ?_; rintro e w' ⟨rfl, rfl⟩
  go_wp2_with fail
  refine A.out.mono ?_; rintro e w1 ⟨rfl, h1, z1⟩
  clear c0 c3 M A
  have c1 : w1.cell? ⟨d, 1, none⟩ = some (.slice (some ⟨gn, 0, none⟩) (S.n * 128) cn) := h1.blk.cell 1
  have c2 : w1.cell? ⟨d, 2, none⟩ = some (.slice (some ⟨gk, 0, none⟩) (S.n * 128) ck) := h1.blk.cell 2
  go_wp2
  go_still_tail 8, (by kernel_rfl)
  change wpList _ _ _ _ _ w1.drew
  have h2 : Dev d lo hi gn gk gp cn ck (lessOne l) S.acted w1.drew := h1.kept1 (Below.refl _ _).drew
  have z2 : Zone lo hi w w1.drew := z1.drew
  clear h1 z1 c1 c2
  generalize w1.drew = w2 at *
  have hc0 := fun ty => run_copy_over (ty := ty) (o := 0) (o' := 0) (cap := ck) (cap' := cn) (n := S.n * 128) h2.was h2.now (by show _ ≤ S.n * 128; omega) (by show _ ≤ S.n * 128; omega) (fun j _ => byF_one _ _)
  obtain ⟨w3, hw3⟩ : ∃ w3, w3 = w2.setCells gk 0 (cellsL (S.n * 128) fun j => byF S.now (0 + j)) := ⟨_, rfl⟩
  have hc : ∀ ty, (Builtin.copy_ #[61, 61] ty #[.slice (some ⟨gk, 0, none⟩) (S.n * 128) ck, .slice (some ⟨gn, 0, none⟩) (S.n * 128) cn]).run Tryz.prog w2 = .ok (goInt (S.n * 128 : Nat)) w3 := fun ty => by rw [hw3]; exact hc0 ty
  clear hc0
  have b3 : Blk d (devCells d gn gk gp cn ck (lessOne l) S.n (S.acts + 1)) 85 w3 := by rw [hw3]; exact h2.blk.sets_other (Ne.symm h2.a2) _
  have now3 : CellsAt gn (S.n * 128) (byF S.now) w3 := by rw [hw3]; exact h2.now.sets_other (Ne.symm h2.a4) _
  have was3 : CellsAt gk (S.n * 128) (byF S.now) w3 := by rw [hw3]; exact sets_over h2.was
  have pend3 : CellsAt gp S.n (fun j => .bool (S.pend j)) w3 := by rw [hw3]; exact h2.pend.sets_other h2.a6 _
  have z3 : Zone lo hi w w3 := by rw [hw3]; exact z2.sets h2.zk.1 h2.zk.2 _ _
  have top := h2.top
  have top3 : hi ≤ w3.heap.size := by rw [hw3, (setCells_keeps gk _ 0 w2).2.2.2.1]; exact top
  have H2 := Lib.hid h2
  clear hw3 h2 z2
  have d3 : w3.cell? ⟨d, 3, none⟩ = some (.slice (some ⟨gp, 0, none⟩) S.n S.n) := b3.cell 3
  have hcl := fun ty => Lib.run_clear_slice (P := Tryz.prog) w3 51 4 ty (.bool false) Tryz.underlying51 zero_bool rfl rfl gp 0 S.n S.n (by have := HO.out.lo; omega)
    (fun j hj => by rw [Nat.zero_add, (pend3.2 j hj).1]; rfl) (fun j hj => by rw [Nat.zero_add]; exact (pend3.2 j hj).2)
  go_wp2_with (first | simp only [hc] | simp only [hcl])
  go_ret
  have h2 := H2.out
  refine ⟨rfl, ⟨gn, gk, gp, cn, ck, lessOne l, flushed_ok HO.out, b3.sets_other (Ne.symm h2.a3) _, now3.sets_other (Ne.symm h2.a5) _, was3.sets_other (Ne.symm h2.a6) _, sets_false pend3, h2.left, h2.i64, h2.cn, h2.ck, h2.zd, h2.zn, h2.zk, h2.zp, ?_, h2.a1, h2.a2, h2.a3, h2.a4, h2.a5, h2.a6⟩, z3.sets h2.zp.1 h2.zp.2 _ _⟩
  rw [(setCells_keeps gp _ 0 w3).2.2.2.1]; exact top3
theorem flush_any {d lo hi : Nat} {S : St} (ha : S.acts ≤ 1000000) (w : World) (h : DevAt d lo hi S w) :
    Calls Tryz.prog 40 #[.pointer (some ⟨d, 0, none⟩)] w fun e w' => e = .returned (.int .i64 (fCode S)) ∧ DevAt d lo hi (fSt S) w' ∧ Zone lo hi w w' := by
  by_cases h0 : S.left = 0
  · have e : fCode S = 61 := by unfold fCode; rw [if_pos h0]
    have e2 : fSt S = S := by unfold fSt; rw [if_pos h0]
    rw [e, e2]
    exact (flush_no h0 w h).mono fun e w' ⟨he, hw⟩ => by subst hw; exact ⟨he, h, Zone.refl _ _ _⟩
  · have e : fCode S = 0 := by unfold fCode; rw [if_neg h0]
    have e2 : fSt S = S.flushed := by unfold fSt; rw [if_neg h0]
    rw [e, e2]
    exact flush_ok h0 ha w h
end Go.Proofs.YtehjobjjlldckaaGreat
