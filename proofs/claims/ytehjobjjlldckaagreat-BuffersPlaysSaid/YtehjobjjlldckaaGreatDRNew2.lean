/- The document's New, Open: the walks. -/
import Derived.Test.YtehjobjjlldckaaGreatDRNew
import Derived.StillTailTactics
namespace Go.Proofs.YtehjobjjlldckaaGreat
set_option linter.unusedVariables false
open Go.RowKit

set_option maxRecDepth 100000 in
set_option maxHeartbeats 2000000 in
theorem rnew_yes (n : Nat) (h1 : 1 ≤ n) (h2 : n ≤ 4096) (w : World) :
    Calls Tryz.prog 6 #[.int .i64 (n : Int)] w fun e w' => ∃ r, e = .returned (.tuple #[.pointer (some ⟨r, 0, none⟩), .int .i64 0]) ∧ RefAt r w.heap.size w'.heap.size (freshSt n zeroB) w' ∧ Below w.heap.size w w' := by
  have hm : (Instr.makeSlice 61 (.int .i64 128) (.int .i64 128)).run Tryz.prog w = .ok (.slice (some ⟨w.heap.size, 0, none⟩) 128 128) (w.alloc (.cells (madeCells #[.int .u8 0] 128) 5)) := u8s_made 128 (by omega) w
  have hc : CellsAt w.heap.size 128 (byF zeroB) (w.alloc (.cells (madeCells #[.int .u8 0] 128) 5)) := CellsAt.alloc_new _ _ _ _ _ fun j hj => by rw [byF_zero]; exact madeCells_at _ _ _ hj
  have hb : Below w.heap.size w (w.alloc (.cells (madeCells #[.int .u8 0] 128) 5)) := balloc1 _ _
  generalize (w.alloc (.cells (madeCells #[.int .u8 0] 128) 5)) = w1 at *
  have hz := u8_string (w := w1) ⟨w.heap.size, 0, none⟩ 128 zeros 128 zeros_size (fun j hj => by rw [add_at, Nat.zero_add, (hc.2 j hj).1, byF_zero, zeros_at])
  have hbx := hb.size
  have M0 : Mk w1.heap.size w (.slice none 0 0) (.slice none 0 0) (.slice none 0 0) 0 0 0 (w1.alloc (.cells #[.slice none 0 0, .slice none 0 0, .slice none 0 0, .int .i64 (-1), .int .i64 0] 53)) :=
    ⟨Blk.new _ _ _, World.ownsRow_nil _ _ _ _, World.ownsRow_nil _ _ _ _, World.ownsRow_nil _ _ _ _, (fun k h => by cases h), (fun k h => by cases h), (fun k h => by cases h), balloc hb _, hbx⟩
  clear hc hb hbx
  have HM0 := Lib.hid M0
  clear M0
  go_enter Tryz.func6, Tryz.ntmps6
  go_wp2
  go_loopw [6] (fun q wr => ∃ (i : Nat) (vn vw vp : Value), q = .int .i64 i ∧ i ≤ n ∧ Mk w1.heap.size w vn vw vp i i i wr) (fun q _ => n - (intOf q).toNat)
  case atStart => exact ⟨0, _, _, _, rfl, Nat.zero_le _, HM0.out⟩
  case round =>
    clear hm hz
    obtain ⟨i, vn, vw, vp, rfl, hi, hM⟩ := hrel
    generalize w1.heap.size = r at *
    by_cases hlt : i < n
    · have c0 : wr.cell? ⟨r, 0, none⟩ = some vn := hM.blk.cell 0
      have HM := Lib.hid hM
      have hMa := hM.alloc (.cells #[.string zeros] 9)
      obtain ⟨B, HB⟩ : ∃ B, Hid ((wr.alloc (.cells #[.string zeros] 9)).heap.size = B) := ⟨_, rfl⟩
      clear hM
      go_wp2_with (at_builtin; refine wpList_push rfl _ _ 50 9 rfl (r + 1) (.string ⟨#[]⟩) 16 Tryz.underlying50 str_info rfl (by decide) _ _ _ rfl (by omega) hMa.now wr (.string zeros) rfl wr.heap.size rfl rfl rfl hMa.size B HB ?_)
      intro v1 x1 k1 k2 k3
      obtain ⟨ad1, cap1, hv1, -, -, -⟩ := shape_of k1
      subst hv1
      have b1 := blk_grown hMa.blk hMa.now k2 (Nat.lt_succ_self r)
      have hN := hMa.pushNow k1 k2 (by rw [HB.out]; exact k3)
      have e0 : x1.cell? ⟨r, 0, none⟩ = some vn := b1.cell 0
      have f0 := b1.frozen 0
      have c1 := hN.blk.cell 1
      have hNa := hN.alloc (.cells #[.string zeros] 9)
      have HN := Lib.hid hN
      clear hN hMa k1 k2 k3 b1 c0 HM
      clear HB B
      obtain ⟨B, HB⟩ : ∃ B, Hid (((x1.setCell ⟨r, 0, none⟩ (.slice ad1 (i + 1) cap1)).alloc (.cells #[.string zeros] 9)).heap.size = B) := ⟨_, rfl⟩
      have c1 : (x1.setCell ⟨r, 0, none⟩ (.slice ad1 (i + 1) cap1)).cell? ⟨r, 1, none⟩ = some vw := c1
      go_wp2_with (at_builtin; refine wpList_push rfl _ _ 50 9 rfl (r + 1) (.string ⟨#[]⟩) 16 Tryz.underlying50 str_info rfl (by decide) _ _ _ rfl (by omega) hNa.was (x1.setCell ⟨r, 0, none⟩ (.slice ad1 (i + 1) cap1)) (.string zeros) rfl x1.heap.size (Lib.hid (by simp [World.setCell])) rfl rfl hNa.size B HB ?_)
      intro v2 x2 k1 k2 k3
      obtain ⟨ad2, cap2, hv2, -, -, -⟩ := shape_of k1
      subst hv2
      have b1 := blk_grown hNa.blk hNa.was k2 (Nat.lt_succ_self r)
      have hO := hNa.pushWas k1 k2 (by rw [HB.out]; exact k3)
      have e1 : x2.cell? ⟨r, 1, none⟩ = some vw := b1.cell 1
      have f1 := b1.frozen 1
      have c2 : (x2.setCell ⟨r, 1, none⟩ (.slice ad2 (i + 1) cap2)).cell? ⟨r, 2, none⟩ = some vp := hO.blk.cell 2
      have hOa := hO.alloc (.cells #[.bool false] 4)
      have HO := Lib.hid hO
      clear hO hNa k1 k2 k3 b1 c1 HN e0 f0
      clear HB B
      obtain ⟨B, HB⟩ : ∃ B, Hid (((x2.setCell ⟨r, 1, none⟩ (.slice ad2 (i + 1) cap2)).alloc (.cells #[.bool false] 4)).heap.size = B) := ⟨_, rfl⟩
      go_wp2_with (at_builtin; refine wpList_push rfl _ _ 51 4 rfl (r + 1) (.bool false) 1 Tryz.underlying51 bool_info rfl (by decide) _ _ _ rfl (by omega) hOa.pend (x2.setCell ⟨r, 1, none⟩ (.slice ad2 (i + 1) cap2)) (.bool false) rfl x2.heap.size (Lib.hid (by simp [World.setCell])) rfl rfl hOa.size B HB ?_)
      intro v3 x3 k1 k2 k3
      obtain ⟨ad3, cap3, hv3, -, -, -⟩ := shape_of k1
      subst hv3
      have b1 := blk_grown hOa.blk hOa.pend k2 (Nat.lt_succ_self r)
      have hQ := Lib.hid (hOa.pushPend k1 k2 (by rw [HB.out]; exact k3))
      have e2 : x3.cell? ⟨r, 2, none⟩ = some vp := b1.cell 2
      have f2 := b1.frozen 2
      clear hOa k1 k2 k3 b1 c2 HO e1 f1
      go_wp2
      exact ⟨⟨i + 1, _, _, _, by go_num, by omega, hQ.out⟩, by simp [intOf]; omega⟩
    · obtain rfl : i = n := by omega
      have HD := Lib.hid (hM.done h1 h2)
      have HB := Lib.hid hM.below
      clear hM
      go_wp2
      go_ret2
      exact ⟨r, rfl, HD.out, HB.out⟩
theorem rnew_no (n : Int) (h : n < 1 ∨ 4096 < n) (w : World) :
    Calls Tryz.prog 6 #[.int .i64 n] w fun e w' => e = .returned (.tuple #[.pointer none, .int .i64 2]) ∧ w = w' := by
  rcases h with h | h
  · go_enter Tryz.func6, Tryz.ntmps6
    go_wp2
    go_ret2
    exact ⟨rfl, rfl⟩
  · have h1 : 1 ≤ n := by omega
    go_enter Tryz.func6, Tryz.ntmps6
    go_wp2
    go_ret2
    exact ⟨rfl, rfl⟩
end Go.Proofs.YtehjobjjlldckaaGreat
