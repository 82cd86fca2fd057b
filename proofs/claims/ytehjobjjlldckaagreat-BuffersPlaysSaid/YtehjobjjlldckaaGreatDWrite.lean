/- Read, Write, Flush. -/
import Derived.Test.YtehjobjjlldckaaGreatDDev
import Derived.StillTailTactics
namespace Go.Proofs.YtehjobjjlldckaaGreat
set_option linter.unusedVariables false
open Go.RowKit

theorem read_any {d lo hi : Nat} {S : St} (b : Int) (w : World) (h : DevAt d lo hi S w) :
    Calls Tryz.prog 28 #[.pointer (some ⟨d, 0, none⟩), .int .i64 b] w fun e w' => e = .returned (.tuple #[.string (rText S b), .int .i64 (rCode S b)]) ∧ w = w' := by
  obtain ⟨gn, gk, gp, cn, ck, l, h⟩ := h
  obtain ⟨c0, c1, _, c3, _, _⟩ := h.cells
  have M := Lib.hid (missing_no d w c0)
  by_cases hb : 0 ≤ b ∧ b < (S.n : Int)
  · obtain ⟨k, rfl⟩ := Int.eq_ofNat_of_zero_le hb.1
    have hk : k < S.n := by omega
    have e1 : rText S (k : Int) = S.now k := by unfold rText; rw [if_pos hb]; rfl
    have e2 : rCode S (k : Int) = 0 := by unfold rCode; rw [if_pos hb]
    rw [e1, e2]
    have E := Lib.hid (exists_in d gp S.n S.n k hk h.ok.hi w c3)
    have K := Lib.hid (block_any gn (S.n * 128) cn k (by have := h.ok.hi; omega) (by omega) h.cn.1 h.cn.2 w)
    have R := read_block (cap := cn - k * 128) h.now hk (h.ok.now k hk)
    clear h hb e1 e2
    go_enter Tryz.func28, Tryz.ntmps28
    go_wp2_with fail
    refine M.out.mono ?_; rintro e w' ⟨rfl, rfl⟩
    go_wp2_with fail
    refine E.out.mono ?_; rintro e w' ⟨rfl, rfl⟩
    go_wp2_with fail
    refine K.out.mono ?_; rintro e w' ⟨rfl, rfl⟩
    go_wp2
    go_ret2
    exact ⟨rfl, rfl⟩
  · have e1 : rText S b = ⟨#[]⟩ := by unfold rText; rw [if_neg hb]
    have e2 : rCode S b = 60 := by unfold rCode; rw [if_neg hb]
    rw [e1, e2]
    have E := Lib.hid (exists_out d gp S.n S.n b (by omega) h.ok.hi w c3)
    clear h hb e1 e2
    go_enter Tryz.func28, Tryz.ntmps28
    go_wp2_with fail
    refine M.out.mono ?_; rintro e w' ⟨rfl, rfl⟩
    go_wp2_with fail
    refine E.out.mono ?_; rintro e w' ⟨rfl, rfl⟩
    go_wp2
    go_ret2
    exact ⟨rfl, rfl⟩

set_option maxHeartbeats 1000000 in
theorem write_ok {d lo hi : Nat} {S : St} (b : Nat) (s : ByteArray) (hb : b < S.n) (hs : s.size = 128) (h0 : S.left ≠ 0) (ha : S.acts ≤ 1000000) (w : World) (h : DevAt d lo hi S w) :
    Calls Tryz.prog 29 #[.pointer (some ⟨d, 0, none⟩), .int .i64 (b : Int), .string s] w fun e w' => e = .returned (.int .i64 0) ∧ DevAt d lo hi (S.wrote b s) w' ∧ Zone lo hi w w' := by
  obtain ⟨gn, gk, gp, cn, ck, l, h⟩ := h
  obtain ⟨c0, _, _, c3, _, _⟩ := h.cells
  have M := Lib.hid (missing_no d w c0)
  have hn := h.ok.hi
  have E := Lib.hid (exists_in d gp S.n S.n b hb hn w c3)
  have A := Lib.hid (act_yes w h h0 ha)
  have K := Lib.hid (block_any gn (S.n * 128) cn b (by omega) (by omega) h.cn.1 h.cn.2)
  have ht : ((s.size : Int) != 128) = false := by rw [bne_eq_false_iff_eq]; omega
  have HS := Lib.hid hs
  have HO := Lib.hid h.ok
  clear h h0 hs
  go_enter Tryz.func29, Tryz.ntmps29
  go_wp2_with fail
  refine M.out.mono ?_; rintro e w' ⟨rfl, rfl⟩
  go_wp2_with fail
  refine E.out.mono ?_; rintro e w' ⟨rfl, rfl⟩
  go_wp2_with fail
  refine A.out.mono ?_; rintro e w1 ⟨rfl, h1, z1⟩
  clear c0 c3 M E A
  obtain ⟨c0, c1, _, c3, _, _⟩ := h1.cells
  have hc := fun ty => run_copy_str (ty := ty) (o := b * 128) (cap := cn - b * 128) (s := s) h1.now (by have := HS.out; show _ ≤ S.n * 128; omega) 128 HS.out
  obtain ⟨w2, hw2⟩ : ∃ w2, w2 = w1.setCells gn (b * 128) (bytesL s) := ⟨_, rfl⟩
  rw [← hw2] at hc
  have b2 : Blk d (devCells d gn gk gp cn ck (lessOne l) S.n (S.acts + 1)) 85 w2 := by rw [hw2]; exact h1.blk.sets_other (Ne.symm h1.a1) _
  have now2 : CellsAt gn (S.n * 128) (byF (upd S.now b s)) w2 := by rw [hw2]; exact sets_block h1.now hb HS.out
  have was2 : CellsAt gk (S.n * 128) (byF S.was) w2 := by rw [hw2]; exact h1.was.sets_other h1.a4 _
  have pend2 : CellsAt gp S.n (fun j => .bool (S.pend j)) w2 := by rw [hw2]; exact h1.pend.sets_other h1.a5 _
  have z2 : Zone lo hi w w2 := by rw [hw2]; exact z1.sets h1.zn.1 h1.zn.2 _ _
  have H1 := Lib.hid h1
  have top := h1.top
  have top2 : hi ≤ w2.heap.size := by rw [hw2, (setCells_keeps gn (bytesL s) (b * 128) w1).2.2.2.1]; exact top
  clear hw2 h1 z1
  have d3 : w2.cell? ⟨d, 3, none⟩ = some (.slice (some ⟨gp, 0, none⟩) S.n S.n) := b2.cell 3
  obtain ⟨p1, p2⟩ := pend2.2 b hb
  go_wp2_with fail
  refine (K.out _).mono ?_; rintro e w' ⟨rfl, rfl⟩
  clear c0 c3
  go_wp2
  go_ret
  have h1 := H1.out
  refine ⟨rfl, ⟨gn, gk, gp, cn, ck, lessOne l, ?_⟩, z2.set h1.zp.1 h1.zp.2 _⟩
  have hq : CellsAt gp S.n (fun j => .bool (upd S.pend b true j)) (w2.setCell ⟨gp, b, none⟩ (.bool true)) := (pend2.set hb (.bool true)).congr fun j _ => by
    by_cases e : j = b
    · subst e; rw [upd_same, upd_same]
    · rw [upd_other _ e, upd_other _ e]
  exact ⟨wrote_ok HO.out hb HS.out, b2.other (Ne.symm h1.a3) _, now2.other (Ne.symm h1.a5) _, was2.other (Ne.symm h1.a6) _, hq, h1.left, h1.i64, h1.cn, h1.ck, h1.zd, h1.zn, h1.zk, h1.zp, by simpa [World.setCell] using top2, h1.a1, h1.a2, h1.a3, h1.a4, h1.a5, h1.a6⟩
theorem write_off1 {d lo hi : Nat} {S : St} (b : Int) (s : ByteArray) (hb : b < 0 ∨ (S.n : Int) ≤ b) (w : World) (h : DevAt d lo hi S w) :
    Calls Tryz.prog 29 #[.pointer (some ⟨d, 0, none⟩), .int .i64 b, .string s] w fun e w' => e = .returned (.int .i64 60) ∧ w = w' := by
  obtain ⟨gn, gk, gp, cn, ck, l, h⟩ := h
  obtain ⟨c0, _, _, c3, _, _⟩ := h.cells
  have M := Lib.hid (missing_no d w c0)
  have E := Lib.hid (exists_out d gp S.n S.n b hb h.ok.hi w c3)
  clear h hb
  go_enter Tryz.func29, Tryz.ntmps29
  go_wp2_with fail
  refine M.out.mono ?_; rintro e w' ⟨rfl, rfl⟩
  go_wp2_with fail
  refine E.out.mono ?_; rintro e w' ⟨rfl, rfl⟩
  go_wp2
  go_ret
  exact ⟨rfl, rfl⟩
theorem write_off2 {d lo hi : Nat} {S : St} (b : Nat) (s : ByteArray) (hb : b < S.n) (hs : s.size ≠ 128) (w : World) (h : DevAt d lo hi S w) :
    Calls Tryz.prog 29 #[.pointer (some ⟨d, 0, none⟩), .int .i64 (b : Int), .string s] w fun e w' => e = .returned (.int .i64 2) ∧ w = w' := by
  obtain ⟨gn, gk, gp, cn, ck, l, h⟩ := h
  obtain ⟨c0, _, _, c3, _, _⟩ := h.cells
  have M := Lib.hid (missing_no d w c0)
  have E := Lib.hid (exists_in d gp S.n S.n b hb h.ok.hi w c3)
  have ht : ((s.size : Int) != 128) = true := by rw [bne_iff_ne]; omega
  clear h hb hs
  go_enter Tryz.func29, Tryz.ntmps29
  go_wp2_with fail
  refine M.out.mono ?_; rintro e w' ⟨rfl, rfl⟩
  go_wp2_with fail
  refine E.out.mono ?_; rintro e w' ⟨rfl, rfl⟩
  go_wp2
  go_ret
  exact ⟨rfl, rfl⟩
theorem write_off3 {d lo hi : Nat} {S : St} (b : Nat) (s : ByteArray) (hb : b < S.n) (hs : s.size = 128) (h0 : S.left = 0) (w : World) (h : DevAt d lo hi S w) :
    Calls Tryz.prog 29 #[.pointer (some ⟨d, 0, none⟩), .int .i64 (b : Int), .string s] w fun e w' => e = .returned (.int .i64 61) ∧ w = w' := by
  obtain ⟨gn, gk, gp, cn, ck, l, h⟩ := h
  obtain ⟨c0, _, _, c3, _, _⟩ := h.cells
  have M := Lib.hid (missing_no d w c0)
  have E := Lib.hid (exists_in d gp S.n S.n b hb h.ok.hi w c3)
  have A := Lib.hid (act_no w h h0)
  have ht : ((s.size : Int) != 128) = false := by rw [bne_eq_false_iff_eq]; omega
  clear h hb hs h0
  go_enter Tryz.func29, Tryz.ntmps29
  go_wp2_with fail
  refine M.out.mono ?_; rintro e w' ⟨rfl, rfl⟩
  go_wp2_with fail
  refine E.out.mono ?_; rintro e w' ⟨rfl, rfl⟩
  go_wp2_with fail
  refine A.out.mono ?_; rintro e w' ⟨rfl, rfl⟩
  go_wp2
  go_ret
  exact ⟨rfl, rfl⟩
theorem write_any {d lo hi : Nat} {S : St} (b : Int) (s : ByteArray) (ha : S.acts ≤ 1000000) (w : World) (h : DevAt d lo hi S w) :
    Calls Tryz.prog 29 #[.pointer (some ⟨d, 0, none⟩), .int .i64 b, .string s] w fun e w' => e = .returned (.int .i64 (wCode S b s.size)) ∧ DevAt d lo hi (wSt S b s) w' ∧ Zone lo hi w w' := by
  by_cases hb : b < 0 ∨ (S.n : Int) ≤ b
  · have e : wCode S b s.size = 60 := by unfold wCode; rw [if_pos hb]
    have e2 : wSt S b s = S := by unfold wSt; rw [e]; rfl
    rw [e, e2]
    exact (write_off1 b s hb w h).mono fun e w' ⟨he, hw⟩ => by subst hw; exact ⟨he, h, Zone.refl _ _ _⟩
  · obtain ⟨k, rfl⟩ := Int.eq_ofNat_of_zero_le (show 0 ≤ b by omega)
    by_cases hs : s.size = 128
    · by_cases h0 : S.left = 0
      · have e : wCode S (k : Int) s.size = 61 := by unfold wCode; rw [if_neg hb, if_neg (by omega), if_pos h0]
        have e2 : wSt S (k : Int) s = S := by unfold wSt; rw [e]; rfl
        rw [e, e2]
        exact (write_off3 k s (by omega) hs h0 w h).mono fun e w' ⟨he, hw⟩ => by subst hw; exact ⟨he, h, Zone.refl _ _ _⟩
      · have e : wCode S (k : Int) s.size = 0 := wCode_zero (by omega) (by omega) hs h0
        have e2 : wSt S (k : Int) s = S.wrote k s := by unfold wSt; rw [if_pos e]; rfl
        rw [e, e2]
        exact write_ok k s (by omega) hs h0 ha w h
    · have e : wCode S (k : Int) s.size = 2 := by unfold wCode; rw [if_neg hb, if_pos hs]
      have e2 : wSt S (k : Int) s = S := by unfold wSt; rw [e]; rfl
      rw [e, e2]
      exact (write_off2 k s (by omega) hs w h).mono fun e w' ⟨he, hw⟩ => by subst hw; exact ⟨he, h, Zone.refl _ _ _⟩
end Go.Proofs.YtehjobjjlldckaaGreat
