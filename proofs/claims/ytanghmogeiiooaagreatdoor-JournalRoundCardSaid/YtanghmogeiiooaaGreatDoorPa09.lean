import Derived.Test.YtanghmogeiiooaaGreatDoorPa08
import Derived.StillTailTactics
set_option linter.unusedVariables false
set_option linter.unusedSimpArgs false
set_option linter.constructorNameAsVariable false
/- Flush. -/
namespace Go.Proofs.YtanghmogeiiooaaGreatDoor
set_option linter.unusedVariables false
open Go.RowKit

def cellsL (n : Nat) (F : Nat → Value) : List Value := (List.range n).map F
theorem cellsL_length (n : Nat) (F : Nat → Value) : (cellsL n F).length = n := by simp [cellsL]
theorem cellsL_at {n : Nat} {F : Nat → Value} (j : Nat) (h : j < (cellsL n F).length) : (cellsL n F)[j] = F j := by simp [cellsL]
theorem cellsL_some {n : Nat} {F : Nat → Value} {j : Nat} {v : Value} (h : (cellsL n F)[j]? = some v) : j < n ∧ F j = v := by
  obtain ⟨h1, h2⟩ := List.getElem?_eq_some_iff.1 h
  rw [cellsL_length] at h1
  rw [cellsL_at] at h2
  exact ⟨h1, h2⟩
/-- copy, of a row's first cells over another's -/
theorem run_copy_over {w : World} {ty : TypeId} {g g' o o' n cap cap' N N' : Nat} {F G : Nat → Value} (h : CellsAt g N F w) (h' : CellsAt g' N' G w) (ho : o + n ≤ N) (ho' : o' + n ≤ N') (h1 : ∀ j, j < n → (G (o' + j)).oneCell' = true) :
    (Builtin.copy_ #[43, 43] ty #[.slice (some ⟨g, o, none⟩) n cap, .slice (some ⟨g', o', none⟩) n cap']).run Tryz.prog w = .ok (goInt n) (w.setCells g o (cellsL n fun j => G (o' + j))) := by
  have e := cellsL_length n fun j => G (o' + j)
  have := run_copy_cells (P := Tryz.prog) w 43 43 ty 5 g o n cap ⟨g', o', none⟩ n cap' (cellsL n fun j => G (o' + j)) Tryz.underlying43 u8_size
    (by rw [e]; exact (Nat.min_self n).symm) (fun j v hj => by
      obtain ⟨h2, h3⟩ := cellsL_some hj
      rw [add_at, (h'.2 (o' + j) (by omega)).1]; exact congrArg some h3)
    (fun j hj => by rw [e] at hj; rw [(h.2 (o + j) (by omega)).1]; rfl) (fun j hj => by rw [e] at hj; exact (h.2 (o + j) (by omega)).2)
    (fun v hv => by obtain ⟨j, hj, rfl⟩ := List.mem_map.1 hv; exact h1 j (List.mem_range.1 hj))
  rw [e] at this; exact this
theorem byF_one (f : Nat → ByteArray) (j : Nat) : (byF f j).oneCell' = true := rfl
theorem sets_over {w : World} {g n : Nat} {F G : Nat → Value} (h : CellsAt g n F w) : CellsAt g n G (w.setCells g 0 (cellsL n fun j => G (0 + j))) := by
  have e := cellsL_length n fun j => G (0 + j)
  exact h.sets (by omega) G (fun j hj => by rw [cellsL_at]) (fun j hj hn => by omega)
theorem zero_bool (w : World) : (zeroValue 4).run Tryz.prog w = .ok (.bool false) w := by kernel_rfl
theorem sets_false {w : World} {g n : Nat} {F : Nat → Value} (h : CellsAt g n F w) : CellsAt g n (fun _ => .bool false) (w.setCells g 0 (List.replicate n (.bool false))) :=
  h.sets (by simp) _ (fun j hj => by simp) (fun j hj hn => by rw [List.length_replicate] at hn; omega)

theorem flush_no {d lo hi : Nat} {S : St} (h0 : S.left = 0) (w : World) (h : DevAt d lo hi S w) :
    Calls Tryz.prog 40 #[.pointer (some ⟨d, 0, none⟩)] w fun e w' => e = .returned (.int .i64 61) ∧ w = w' := by
  obtain ⟨gn, gk, gp, cn, ck, l, h⟩ := h
  obtain ⟨c0, _, _, c3, _, _⟩ := h.cells
  have M := Lib.hid (missing_no d w c0)
  have A := Lib.hid (act_no w h h0)
  clear h h0
  go_enter Tryz.func40, Tryz.ntmps40
  go_wp2_with fail
  refine M.out.mono ?_; rintro e w' ⟨rfl, rfl⟩
  go_wp2_with fail
  refine A.out.mono ?_; rintro e w' ⟨rfl, rfl⟩
  go_wp2
  go_ret
  exact ⟨rfl, rfl⟩
set_option maxRecDepth 100000 in
set_option maxHeartbeats 1000000 in
theorem flush_ok {d lo hi : Nat} {S : St} (h0 : S.left ≠ 0) (ha : S.acts ≤ 1000000) (w : World) (h : DevAt d lo hi S w) :
    Calls Tryz.prog 40 #[.pointer (some ⟨d, 0, none⟩)] w fun e w' => e = .returned (.int .i64 0) ∧ DevAt d lo hi S.flushed w' ∧ Zone lo hi w w' := by
  obtain ⟨gn, gk, gp, cn, ck, l, h⟩ := h
  obtain ⟨c0, _, _, c3, _, _⟩ := h.cells
  have M := Lib.hid (missing_no d w c0)
  have A := Lib.hid (act_yes w h h0 ha)
  have HO := Lib.hid h.ok
  clear h h0 ha
  go_enter Tryz.func40, Tryz.ntmps40
  go_wp2_with fail
  refine M.out.mono ?_; rintro e w' ⟨rfl, rfl⟩
  go_wp2_with fail
  refine A.out.mono ?_; rintro e w1 ⟨rfl, h1, z1⟩
  clear c0 c3 M A
  have c1 : w1.cell? ⟨d, 1, none⟩ = some (.slice (some ⟨gn, 0, none⟩) (S.n * 128) cn) := h1.blk.cell 1
  have c2 : w1.cell? ⟨d, 2, none⟩ = some (.slice (some ⟨gk, 0, none⟩) (S.n * 128) ck) := h1.blk.cell 2
  go_wp2
  go_still_tail 8, (by kernel_rfl)
  change wpList _ _ _ _ _ w1.drew
  have h2 : Dev d lo hi gn gk gp cn ck (lessOne l) S.acted w1.drew := h1.kept1 (Below.refl _ _).drew
  have z2 : Zone lo hi w w1.drew := z1.drew
  clear h1 z1 c1 c2
  generalize w1.drew = w2 at *
  have hc0 := fun ty => run_copy_over (ty := ty) (o := 0) (o' := 0) (cap := ck) (cap' := cn) (n := S.n * 128) h2.was h2.now (by show _ ≤ S.n * 128; omega) (by show _ ≤ S.n * 128; omega) (fun j _ => byF_one _ _)
  obtain ⟨w3, hw3⟩ : ∃ w3, w3 = w2.setCells gk 0 (cellsL (S.n * 128) fun j => byF S.now (0 + j)) := ⟨_, rfl⟩
  have hc : ∀ ty, (Builtin.copy_ #[43, 43] ty #[.slice (some ⟨gk, 0, none⟩) (S.n * 128) ck, .slice (some ⟨gn, 0, none⟩) (S.n * 128) cn]).run Tryz.prog w2 = .ok (goInt (S.n * 128 : Nat)) w3 := fun ty => by rw [hw3]; exact hc0 ty
  clear hc0
  have b3 : Blk d (devCells d gn gk gp cn ck (lessOne l) S.n (S.acts + 1)) 82 w3 := by rw [hw3]; exact h2.blk.sets_other (Ne.symm h2.a2) _
  have now3 : CellsAt gn (S.n * 128) (byF S.now) w3 := by rw [hw3]; exact h2.now.sets_other (Ne.symm h2.a4) _
  have was3 : CellsAt gk (S.n * 128) (byF S.now) w3 := by rw [hw3]; exact sets_over h2.was
  have pend3 : CellsAt gp S.n (fun j => .bool (S.pend j)) w3 := by rw [hw3]; exact h2.pend.sets_other h2.a6 _
  have z3 : Zone lo hi w w3 := by rw [hw3]; exact z2.sets h2.zk.1 h2.zk.2 _ _
  have top := h2.top
  have top3 : hi ≤ w3.heap.size := by rw [hw3, (setCells_keeps gk _ 0 w2).2.2.2.1]; exact top
  have H2 := Lib.hid h2
  clear hw3 h2 z2
  have d3 : w3.cell? ⟨d, 3, none⟩ = some (.slice (some ⟨gp, 0, none⟩) S.n S.n) := b3.cell 3
  have hcl := fun ty => Lib.run_clear_slice (P := Tryz.prog) w3 25 4 ty (.bool false) Tryz.underlying25 zero_bool rfl rfl gp 0 S.n S.n (by have := HO.out.lo; omega)
    (fun j hj => by rw [Nat.zero_add, (pend3.2 j hj).1]; rfl) (fun j hj => by rw [Nat.zero_add]; exact (pend3.2 j hj).2)
  go_wp2_with (first | simp only [hc] | simp only [hcl])
  go_ret
  have h2 := H2.out
  refine ⟨rfl, ⟨gn, gk, gp, cn, ck, lessOne l, flushed_ok HO.out, b3.sets_other (Ne.symm h2.a3) _, now3.sets_other (Ne.symm h2.a5) _, was3.sets_other (Ne.symm h2.a6) _, sets_false pend3, h2.left, h2.i64, h2.cn, h2.ck, h2.zd, h2.zn, h2.zk, h2.zp, ?_, h2.a1, h2.a2, h2.a3, h2.a4, h2.a5, h2.a6⟩, z3.sets h2.zp.1 h2.zp.2 _ _⟩
  rw [(setCells_keeps gp _ 0 w3).2.2.2.1]; exact top3
theorem flush_any {d lo hi : Nat} {S : St} (ha : S.acts ≤ 1000000) (w : World) (h : DevAt d lo hi S w) :
    Calls Tryz.prog 40 #[.pointer (some ⟨d, 0, none⟩)] w fun e w' => e = .returned (.int .i64 (fCode S)) ∧ DevAt d lo hi (fSt S) w' ∧ Zone lo hi w w' := by
  by_cases h0 : S.left = 0
  · have e : fCode S = 61 := by unfold fCode; rw [if_pos h0]
    have e2 : fSt S = S := by unfold fSt; rw [if_pos h0]
    rw [e, e2]
    exact (flush_no h0 w h).mono fun e w' ⟨he, hw⟩ => by subst hw; exact ⟨he, h, Zone.refl _ _ _⟩
  · have e : fCode S = 0 := by unfold fCode; rw [if_neg h0]
    have e2 : fSt S = S.flushed := by unfold fSt; rw [if_neg h0]
    rw [e, e2]
    exact flush_ok h0 ha w h
end Go.Proofs.YtanghmogeiiooaaGreatDoor

/- Read, Write, Flush. -/
namespace Go.Proofs.YtanghmogeiiooaaGreatDoor
set_option linter.unusedVariables false
open Go.RowKit

theorem read_any {d lo hi : Nat} {S : St} (b : Int) (w : World) (h : DevAt d lo hi S w) :
    Calls Tryz.prog 42 #[.pointer (some ⟨d, 0, none⟩), .int .i64 b] w fun e w' => e = .returned (.tuple #[.string (rText S b), .int .i64 (rCode S b)]) ∧ w = w' := by
  obtain ⟨gn, gk, gp, cn, ck, l, h⟩ := h
  obtain ⟨c0, c1, _, c3, _, _⟩ := h.cells
  have M := Lib.hid (missing_no d w c0)
  by_cases hb : 0 ≤ b ∧ b < (S.n : Int)
  · obtain ⟨k, rfl⟩ := Int.eq_ofNat_of_zero_le hb.1
    have hk : k < S.n := by omega
    have e1 : rText S (k : Int) = S.now k := by unfold rText; rw [if_pos hb]; rfl
    have e2 : rCode S (k : Int) = 0 := by unfold rCode; rw [if_pos hb]
    rw [e1, e2]
    have E := Lib.hid (exists_in d gp S.n S.n k hk h.ok.hi w c3)
    have K := Lib.hid (block_any gn (S.n * 128) cn k (by have := h.ok.hi; omega) (by omega) h.cn.1 h.cn.2 w)
    have R := read_block (cap := cn - k * 128) h.now hk (h.ok.now k hk)
    clear h hb e1 e2
    go_enter Tryz.func42, Tryz.ntmps42
    go_wp2_with fail
    refine M.out.mono ?_; rintro e w' ⟨rfl, rfl⟩
    go_wp2_with fail
    refine E.out.mono ?_; rintro e w' ⟨rfl, rfl⟩
    go_wp2_with fail
    refine K.out.mono ?_; rintro e w' ⟨rfl, rfl⟩
    go_wp2
    go_ret2
    exact ⟨rfl, rfl⟩
  · have e1 : rText S b = ⟨#[]⟩ := by unfold rText; rw [if_neg hb]
    have e2 : rCode S b = 60 := by unfold rCode; rw [if_neg hb]
    rw [e1, e2]
    have E := Lib.hid (exists_out d gp S.n S.n b (by omega) h.ok.hi w c3)
    clear h hb e1 e2
    go_enter Tryz.func42, Tryz.ntmps42
    go_wp2_with fail
    refine M.out.mono ?_; rintro e w' ⟨rfl, rfl⟩
    go_wp2_with fail
    refine E.out.mono ?_; rintro e w' ⟨rfl, rfl⟩
    go_wp2
    go_ret2
    exact ⟨rfl, rfl⟩

set_option maxHeartbeats 1000000 in
theorem write_ok {d lo hi : Nat} {S : St} (b : Nat) (s : ByteArray) (hb : b < S.n) (hs : s.size = 128) (h0 : S.left ≠ 0) (ha : S.acts ≤ 1000000) (w : World) (h : DevAt d lo hi S w) :
    Calls Tryz.prog 53 #[.pointer (some ⟨d, 0, none⟩), .int .i64 (b : Int), .string s] w fun e w' => e = .returned (.int .i64 0) ∧ DevAt d lo hi (S.wrote b s) w' ∧ Zone lo hi w w' := by
  obtain ⟨gn, gk, gp, cn, ck, l, h⟩ := h
  obtain ⟨c0, _, _, c3, _, _⟩ := h.cells
  have M := Lib.hid (missing_no d w c0)
  have hn := h.ok.hi
  have E := Lib.hid (exists_in d gp S.n S.n b hb hn w c3)
  have A := Lib.hid (act_yes w h h0 ha)
  have K := Lib.hid (block_any gn (S.n * 128) cn b (by omega) (by omega) h.cn.1 h.cn.2)
  have ht : ((s.size : Int) != 128) = false := by rw [bne_eq_false_iff_eq]; omega
  have HS := Lib.hid hs
  have HO := Lib.hid h.ok
  clear h h0 hs
  go_enter Tryz.func53, Tryz.ntmps53
  go_wp2_with fail
  refine M.out.mono ?_; rintro e w' ⟨rfl, rfl⟩
  go_wp2_with fail
  refine E.out.mono ?_; rintro e w' ⟨rfl, rfl⟩
  go_wp2_with fail
  refine A.out.mono ?_; rintro e w1 ⟨rfl, h1, z1⟩
  clear c0 c3 M E A
  obtain ⟨c0, c1, _, c3, _, _⟩ := h1.cells
  have hc := fun ty => run_copy_str (ty := ty) (o := b * 128) (cap := cn - b * 128) (s := s) h1.now (by have := HS.out; show _ ≤ S.n * 128; omega) 128 HS.out
  obtain ⟨w2, hw2⟩ : ∃ w2, w2 = w1.setCells gn (b * 128) (bytesL s) := ⟨_, rfl⟩
  rw [← hw2] at hc
  have b2 : Blk d (devCells d gn gk gp cn ck (lessOne l) S.n (S.acts + 1)) 82 w2 := by rw [hw2]; exact h1.blk.sets_other (Ne.symm h1.a1) _
  have now2 : CellsAt gn (S.n * 128) (byF (upd S.now b s)) w2 := by rw [hw2]; exact sets_block h1.now hb HS.out
  have was2 : CellsAt gk (S.n * 128) (byF S.was) w2 := by rw [hw2]; exact h1.was.sets_other h1.a4 _
  have pend2 : CellsAt gp S.n (fun j => .bool (S.pend j)) w2 := by rw [hw2]; exact h1.pend.sets_other h1.a5 _
  have z2 : Zone lo hi w w2 := by rw [hw2]; exact z1.sets h1.zn.1 h1.zn.2 _ _
  have H1 := Lib.hid h1
  have top := h1.top
  have top2 : hi ≤ w2.heap.size := by rw [hw2, (setCells_keeps gn (bytesL s) (b * 128) w1).2.2.2.1]; exact top
  clear hw2 h1 z1
  have d3 : w2.cell? ⟨d, 3, none⟩ = some (.slice (some ⟨gp, 0, none⟩) S.n S.n) := b2.cell 3
  obtain ⟨p1, p2⟩ := pend2.2 b hb
  go_wp2_with fail
  refine (K.out _).mono ?_; rintro e w' ⟨rfl, rfl⟩
  clear c0 c3
  go_wp2
  go_ret
  have h1 := H1.out
  refine ⟨rfl, ⟨gn, gk, gp, cn, ck, lessOne l, ?_⟩, z2.set h1.zp.1 h1.zp.2 _⟩
  have hq : CellsAt gp S.n (fun j => .bool (upd S.pend b true j)) (w2.setCell ⟨gp, b, none⟩ (.bool true)) := (pend2.set hb (.bool true)).congr fun j _ => by
    by_cases e : j = b
    · subst e; rw [upd_same, upd_same]
    · rw [upd_other _ e, upd_other _ e]
  exact ⟨wrote_ok HO.out hb HS.out, b2.other (Ne.symm h1.a3) _, now2.other (Ne.symm h1.a5) _, was2.other (Ne.symm h1.a6) _, hq, h1.left, h1.i64, h1.cn, h1.ck, h1.zd, h1.zn, h1.zk, h1.zp, by simpa [World.setCell] using top2, h1.a1, h1.a2, h1.a3, h1.a4, h1.a5, h1.a6⟩
theorem write_off1 {d lo hi : Nat} {S : St} (b : Int) (s : ByteArray) (hb : b < 0 ∨ (S.n : Int) ≤ b) (w : World) (h : DevAt d lo hi S w) :
    Calls Tryz.prog 53 #[.pointer (some ⟨d, 0, none⟩), .int .i64 b, .string s] w fun e w' => e = .returned (.int .i64 60) ∧ w = w' := by
  obtain ⟨gn, gk, gp, cn, ck, l, h⟩ := h
  obtain ⟨c0, _, _, c3, _, _⟩ := h.cells
  have M := Lib.hid (missing_no d w c0)
  have E := Lib.hid (exists_out d gp S.n S.n b hb h.ok.hi w c3)
  clear h hb
  go_enter Tryz.func53, Tryz.ntmps53
  go_wp2_with fail
  refine M.out.mono ?_; rintro e w' ⟨rfl, rfl⟩
  go_wp2_with fail
  refine E.out.mono ?_; rintro e w' ⟨rfl, rfl⟩
  go_wp2
  go_ret
  exact ⟨rfl, rfl⟩
theorem write_off2 {d lo hi : Nat} {S : St} (b : Nat) (s : ByteArray) (hb : b < S.n) (hs : s.size ≠ 128) (w : World) (h : DevAt d lo hi S w) :
    Calls Tryz.prog 53 #[.pointer (some ⟨d, 0, none⟩), .int .i64 (b : Int), .string s] w fun e w' => e = .returned (.int .i64 2) ∧ w = w' := by
  obtain ⟨gn, gk, gp, cn, ck, l, h⟩ := h
  obtain ⟨c0, _, _, c3, _, _⟩ := h.cells
  have M := Lib.hid (missing_no d w c0)
  have E := Lib.hid (exists_in d gp S.n S.n b hb h.ok.hi w c3)
  have ht : ((s.size : Int) != 128) = true := by rw [bne_iff_ne]; omega
  clear h hb hs
  go_enter Tryz.func53, Tryz.ntmps53
  go_wp2_with fail
  refine M.out.mono ?_; rintro e w' ⟨rfl, rfl⟩
  go_wp2_with fail
  refine E.out.mono ?_; rintro e w' ⟨rfl, rfl⟩
  go_wp2
  go_ret
  exact ⟨rfl, rfl⟩
theorem write_off3 {d lo hi : Nat} {S : St} (b : Nat) (s : ByteArray) (hb : b < S.n) (hs : s.size = 128) (h0 : S.left = 0) (w : World) (h : DevAt d lo hi S w) :
    Calls Tryz.prog 53 #[.pointer (some ⟨d, 0, none⟩), .int .i64 (b : Int), .string s] w fun e w' => e = .returned (.int .i64 61) ∧ w = w' := by
  obtain ⟨gn, gk, gp, cn, ck, l, h⟩ := h
  obtain ⟨c0, _, _, c3, _, _⟩ := h.cells
  have M := Lib.hid (missing_no d w c0)
  have E := Lib.hid (exists_in d gp S.n S.n b hb h.ok.hi w c3)
  have A := Lib.hid (act_no w h h0)
  have ht : ((s.size : Int) != 128) = false := by rw [bne_eq_false_iff_eq]; omega
  clear h hb hs h0
  go_enter Tryz.func53, Tryz.ntmps53
  go_wp2_with fail
  refine M.out.mono ?_; rintro e w' ⟨rfl, rfl⟩
  go_wp2_with fail
  refine E.out.mono ?_; rintro e w' ⟨rfl, rfl⟩
  go_wp2_with fail
  refine A.out.mono ?_; rintro e w' ⟨rfl, rfl⟩
  go_wp2
  go_ret
  exact ⟨rfl, rfl⟩
theorem write_any {d lo hi : Nat} {S : St} (b : Int) (s : ByteArray) (ha : S.acts ≤ 1000000) (w : World) (h : DevAt d lo hi S w) :
    Calls Tryz.prog 53 #[.pointer (some ⟨d, 0, none⟩), .int .i64 b, .string s] w fun e w' => e = .returned (.int .i64 (wCode S b s.size)) ∧ DevAt d lo hi (wSt S b s) w' ∧ Zone lo hi w w' := by
  by_cases hb : b < 0 ∨ (S.n : Int) ≤ b
  · have e : wCode S b s.size = 60 := by unfold wCode; rw [if_pos hb]
    have e2 : wSt S b s = S := by unfold wSt; rw [e]; rfl
    rw [e, e2]
    exact (write_off1 b s hb w h).mono fun e w' ⟨he, hw⟩ => by subst hw; exact ⟨he, h, Zone.refl _ _ _⟩
  · obtain ⟨k, rfl⟩ := Int.eq_ofNat_of_zero_le (show 0 ≤ b by omega)
    by_cases hs : s.size = 128
    · by_cases h0 : S.left = 0
      · have e : wCode S (k : Int) s.size = 61 := by unfold wCode; rw [if_neg hb, if_neg (by omega), if_pos h0]
        have e2 : wSt S (k : Int) s = S := by unfold wSt; rw [e]; rfl
        rw [e, e2]
        exact (write_off3 k s (by omega) hs h0 w h).mono fun e w' ⟨he, hw⟩ => by subst hw; exact ⟨he, h, Zone.refl _ _ _⟩
      · have e : wCode S (k : Int) s.size = 0 := wCode_zero (by omega) (by omega) hs h0
        have e2 : wSt S (k : Int) s = S.wrote k s := by unfold wSt; rw [if_pos e]; rfl
        rw [e, e2]
        exact write_ok k s (by omega) hs h0 ha w h
    · have e : wCode S (k : Int) s.size = 2 := by unfold wCode; rw [if_neg hb, if_pos hs]
      have e2 : wSt S (k : Int) s = S := by unfold wSt; rw [e]; rfl
      rw [e, e2]
      exact (write_off2 k s (by omega) hs w h).mono fun e w' ⟨he, hw⟩ => by subst hw; exact ⟨he, h, Zone.refl _ _ _⟩
end Go.Proofs.YtanghmogeiiooaaGreatDoor

/- Acts: function values that write to the device; do, write's two closures. -/
namespace Go.Proofs.YtanghmogeiiooaaGreatDoor
set_option linter.unusedVariables false
open Go.RowKit

/-- a function value that, whenever it is called behind world W, does these deeds on the device -/
structure Does (d lo hi : Nat) (id : FuncId) (caps : Array Value) (L : List Deed) (W : World) : Prop where
  ent : ∀ args w, (callFunc id args).run Tryz.prog w = .ok (.enter id args) w
  run : ∀ (W' : World) (S : St), Zone lo hi W W' → S.acts + L.length ≤ 1000000 → DevAt d lo hi S W' →
    Calls Tryz.prog id caps W' fun e w' => e = .returned (.int .i64 (deeds S L).1) ∧ DevAt d lo hi (deeds S L).2 w' ∧ Zone lo hi W' w'
theorem Does.kept {d lo hi : Nat} {id : FuncId} {caps : Array Value} {L : List Deed} {W W1 : World} (h : Does d lo hi id caps L W) (z : Zone lo hi W W1) : Does d lo hi id caps L W1 :=
  ⟨h.ent, fun W' S hz ha hd => h.run W' S (z.trans hz) ha hd⟩
theorem Deed.acts (S : St) (a : Deed) : (a.st S).acts ≤ S.acts + 1 := by
  cases a with
  | write b d => exact wSt_acts S b d
  | flush => exact fSt_acts S
theorem deeds_acts (S : St) (l : List Deed) : (deeds S l).2.acts ≤ S.acts + l.length := by
  induction l generalizing S with
  | nil => exact Nat.le_refl _
  | cons a l ih =>
    have h1 := a.acts S
    by_cases hc : a.code S = 0
    · rw [deeds_yes hc]; have := ih (a.st S); simp only [List.length_cons]; omega
    · rw [deeds_no hc]; simp only [List.length_cons]; omega
theorem deeds_one (S : St) (a : Deed) : deeds S [a] = (a.code S, a.st S) := by
  by_cases hc : a.code S = 0
  · rw [deeds_yes hc, deeds_nil, hc]
  · rw [deeds_no hc]
/-- v is a slice of such function values, outside of the device -/
def ActsRow (d lo hi : Nat) (v : Value) (Ls : List (List Deed)) (W : World) : Prop :=
  ∃ ad cap, v = .slice ad Ls.length cap ∧ Ls.length ≤ cap ∧ cap ≤ 9223372036854775807 ∧
    (0 < Ls.length → ∃ g o, ad = some ⟨g, o, none⟩ ∧ g < W.heap.size ∧ (g < lo ∨ hi ≤ g) ∧
      ∀ k (hk : k < Ls.length), ∃ id caps, W.cell? ⟨g, o + k, none⟩ = some (.func (.func id) #[] caps) ∧ Does d lo hi id caps Ls[k] W)
theorem zone_cell {lo hi g o : Nat} {w w' : World} (z : Zone lo hi w w') (hg : g < w.heap.size) (ho : g < lo ∨ hi ≤ g) : w'.cell? ⟨g, o, none⟩ = w.cell? ⟨g, o, none⟩ :=
  World.cell?_of_block (a := ⟨g, o, none⟩) (z.block g hg ho)
theorem ActsRow.kept {d lo hi : Nat} {v : Value} {Ls : List (List Deed)} {W W1 : World} (h : ActsRow d lo hi v Ls W) (z : Zone lo hi W W1) : ActsRow d lo hi v Ls W1 := by
  obtain ⟨ad, cap, e, h1, h2, h3⟩ := h
  refine ⟨ad, cap, e, h1, h2, fun hp => ?_⟩
  obtain ⟨g, o, e2, hg, ho, hk⟩ := h3 hp
  refine ⟨g, o, e2, Nat.lt_of_lt_of_le hg z.size, ho, fun k hkl => ?_⟩
  obtain ⟨id, caps, h4, h5⟩ := hk k hkl
  exact ⟨id, caps, (zone_cell z hg ho).trans h4, h5.kept z⟩
theorem flat_take_succ {α : Type} {l : List (List α)} {k : Nat} (hk : k < l.length) : (l.take (k + 1)).flatten = (l.take k).flatten ++ l[k] := by
  rw [List.take_succ_eq_append_getElem hk, List.flatten_append]; simp
theorem flat_take_le {α : Type} (l : List (List α)) (k : Nat) : (l.take k).flatten.length ≤ l.flatten.length := by
  have : l.flatten = (l.take k).flatten ++ (l.drop k).flatten := by rw [← List.flatten_append, List.take_append_drop]
  rw [this, List.length_append]; omega
theorem deeds_upto {S S2 : St} {l : List (List Deed)} {k : Nat} (hk : k < l.length) (h : deeds S (l.take k).flatten = (0, S2)) : deeds S (l.take (k + 1)).flatten = deeds S2 l[k] := by
  rw [flat_take_succ hk, deeds_app_yes (by rw [h]), h]
theorem deeds_stop {S : St} {l : List (List Deed)} {k : Nat} (h : (deeds S (l.take k).flatten).1 ≠ 0) : deeds S l.flatten = deeds S (l.take k).flatten := by
  have : l.flatten = (l.take k).flatten ++ (l.drop k).flatten := by rw [← List.flatten_append, List.take_append_drop]
  rw [this, deeds_app_no h]
set_option maxRecDepth 100000 in
set_option maxHeartbeats 4000000 in
theorem do_any {d lo hi : Nat} {S : St} {Ls : List (List Deed)} (v : Value) (w : World) (h : DevAt d lo hi S w) (hv : ActsRow d lo hi v Ls w) (ha : S.acts + Ls.flatten.length ≤ 1000000) :
    Calls Tryz.prog 37 #[v] w fun e w' => e = .returned (.int .i64 (deeds S Ls.flatten).1) ∧ DevAt d lo hi (deeds S Ls.flatten).2 w' ∧ Zone lo hi w w' := by
  obtain ⟨ad, cap, rfl, h1, h2, h3⟩ := hv
  have H3 := Lib.hid h3
  have HD := Lib.hid h
  clear h h3
  go_enter Tryz.func37, Tryz.ntmps37
  go_wp2
  go_loopw [8] (fun q wr => ∃ (k : Nat) (S2 : St), q = .int .i64 k ∧ k ≤ Ls.length ∧ Hid (deeds S (Ls.take k).flatten = (0, S2)) ∧ DevAt d lo hi S2 wr ∧ Zone lo hi w wr) (fun q _ => Ls.length - (intOf q).toNat)
  case atStart => exact ⟨0, S, rfl, Nat.zero_le _, Lib.hid rfl, HD.out, Zone.refl _ _ _⟩
  case round =>
    obtain ⟨k, S2, rfl, hk, HS, hd, hz⟩ := hrel
    by_cases hlt : k < Ls.length
    · obtain ⟨g, o, rfl, hg, ho, hc⟩ := H3.out (by omega)
      obtain ⟨id, caps, c1, dd⟩ := hc k hlt
      have c1 := (zone_cell hz hg ho).trans c1
      have hent := dd.ent
      have hacts : S2.acts + (Ls[k]).length ≤ 1000000 := by
        have e1 := deeds_acts S (Ls.take k).flatten
        rw [HS.out] at e1
        have e2 := flat_take_le Ls (k + 1)
        rw [flat_take_succ hlt, List.length_append] at e2
        have e1 : S2.acts ≤ _ := e1
        omega
      have R := dd.run wr S2 hz hacts hd
      have HU := Lib.hid (deeds_upto hlt HS.out)
      have HST := Lib.hid (deeds_stop (S := S) (l := Ls) (k := k + 1))
      obtain ⟨c, S3, hcs⟩ : ∃ c S3, deeds S2 Ls[k] = (c, S3) := ⟨_, _, rfl⟩
      rw [hcs] at R HU
      have R := Lib.hid R
      have HZ := Lib.hid hz
      clear hc dd hd hcs HS hz H3 HD hg ho
      go_wp2_with fail
      refine R.out.mono ?_; rintro e w2 ⟨rfl, hd2, hz2⟩
      have HZ2 := Lib.hid (HZ.out.trans hz2)
      have HD2 := Lib.hid hd2
      clear R hd2 hz2 HZ c1
      by_cases hc0 : c = 0
      · subst hc0
        go_wp2
        exact ⟨⟨k + 1, S3, by go_num, by omega, HU, HD2.out, HZ2.out⟩, by simp [intOf]; omega⟩
      · have hc1 : (c != 0) = true := by rw [bne_iff_ne]; exact hc0
        have e : deeds S Ls.flatten = (c, S3) := by
          rw [HST.out (by rw [HU.out]; exact hc0), HU.out]
        have HE := Lib.hid e
        clear e HU HST
        go_wp2
        go_ret
        rw [HE.out]
        exact ⟨rfl, HD2.out, HZ2.out⟩
    · obtain rfl : k = Ls.length := by omega
      have e := HS.out
      rw [List.take_length] at e
      have HE := Lib.hid e
      clear e HS H3 HD
      go_wp2
      go_ret
      rw [HE.out]
      exact ⟨rfl, hd, hz⟩
set_option maxRecDepth 100000 in
/-- write's closures: one change is written -/
theorem clo_write {d lo hi rb cb : Nat} {b l i la ma ml ta tl da : Int} {x : Int} {s : ByteArray} (W : World) (hr : RingAt rb (some ⟨d, 0, none⟩) b l i la ma ml ta tl da W) (hrb : rb < lo ∨ hi ≤ rb)
    (hc : Blk cb #[.int .i64 x, .string s] 61 W) (hcb : cb < lo ∨ hi ≤ cb) : Does d lo hi 63 #[.pointer (some ⟨rb, 0, none⟩), .pointer (some ⟨cb, 0, none⟩)] [.write x s] W := by
  refine ⟨fun _ _ => rfl, fun W' S hz ha hd => ?_⟩
  have hr' : RingAt rb (some ⟨d, 0, none⟩) b l i la ma ml ta tl da W' := (hz.block rb hr.lt hrb).trans hr
  have hc' : Blk cb #[.int .i64 x, .string s] 61 W' := hc.kept hz hcb
  obtain ⟨c0, -⟩ := hr'.cells
  have d0 := hc'.cell 0
  have d1 := hc'.cell 1
  simp at d0 d1
  have WR := Lib.hid (write_any x s (show S.acts ≤ 1000000 by simp at ha; omega) W' hd)
  rw [deeds_one]
  clear hr hc hr' hc' hz ha hd
  go_enter Tryz.func63, Tryz.ntmps63
  go_wp2_with fail
  refine WR.out.mono ?_; rintro e w2 ⟨rfl, hd2, hz2⟩
  go_wp2
  go_ret
  exact ⟨rfl, hd2, hz2⟩
set_option maxRecDepth 100000 in
/-- all of them, one behind the other -/
theorem clo_all {d lo hi ab : Nat} {v : Value} {Ls : List (List Deed)} (W : World) (hA : Blk ab #[v] 125 W) (hab : ab < lo ∨ hi ≤ ab) (hv : ActsRow d lo hi v Ls W) :
    Does d lo hi 64 #[.pointer (some ⟨ab, 0, none⟩)] Ls.flatten W := by
  refine ⟨fun _ _ => rfl, fun W' S hz ha hd => ?_⟩
  have hA' : Blk ab #[v] 125 W' := hA.kept hz hab
  have hv' := hv.kept hz
  have d0 := hA'.cell 0
  have DO := do_any v W' hd hv' ha
  obtain ⟨ad, cap, rfl, -⟩ := hv
  simp at d0
  have DO := Lib.hid DO
  clear hA hA' hv' hz ha hd
  go_enter Tryz.func64, Tryz.ntmps64
  go_wp2_with fail
  refine DO.out.mono ?_; rintro e w2 ⟨rfl, hd2, hz2⟩
  go_wp2
  go_ret
  exact ⟨rfl, hd2, hz2⟩
end Go.Proofs.YtanghmogeiiooaaGreatDoor
