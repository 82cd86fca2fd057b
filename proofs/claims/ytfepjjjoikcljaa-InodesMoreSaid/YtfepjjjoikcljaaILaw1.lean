/- The walk of InodesFree. -/
import Derived.Test.YtfepjjjoikcljaaIAlive
namespace Go.Proofs.Ytfepjjjoikcljaa
set_option linter.unusedVariables false
open Go.RowKit

/-- what the program's Encode answers, and Check -/
theorem ienc_ways (x : Ino) (hf : fitE x.root) : ∃ (T : ByteArray) (c : Int), (∀ v w, EntsIn v x.root w → Calls Try.prog 9 #[inoV x v] w fun e w' => e = .returned (.tuple #[.string T, .int .i64 c]) ∧ Below w.heap.size w w') ∧
    ((InoOk x ∧ T = ino x ∧ c = 0) ∨ (¬ InoOk x ∧ T = ⟨#[]⟩ ∧ c = 2)) := by
  by_cases h : InoOk x
  · exact ⟨ino x, 0, fun v w hv => ienc_yes x h v w hf hv, .inl ⟨h, rfl, rfl⟩⟩
  · exact ⟨⟨#[]⟩, 2, fun v w hv => ienc_no x hf h v w hv, .inr ⟨h, rfl, rfl⟩⟩
set_option maxRecDepth 100000 in
set_option maxHeartbeats 4000000 in
theorem ifree_walk (x : Ino) (hf : fitE x.root) (v : Value) (w : World) (hv : EntsIn v x.root w) :
    Calls Try.prog 8 #[inoV x v] w fun e w' => e = .returned (.bool true) ∧ Below w.heap.size w w' := by
  have hb0 := balloc1 w (.cells (inoC x v) 24)
  obtain ⟨ad, cap, rfl, c1, c2, -⟩ := entsIn_cells hv
  by_cases hl : x.root.length ≤ 1000
  · have dl : decide ((1000 : Int) < (x.root.length : Int)) = false := decide_eq_false (by omega)
    obtain ⟨T, c, E, hE⟩ := ienc_ways { x with kind := 0 } hf
    have C := fun v w hv => icheck_any { x with kind := 0 } hf v w hv
    have S := fun v u w hv hu => isame_any { x with kind := 0 } noI v u w hv hu
    have AL := Lib.hid ialive_any
    have hk := kind0_iff x
    have hbd : decide (InoOk { x with kind := 0 }) = decide ({ x with kind := 0 } = noI) := by rw [decide_eq_decide]; exact hk
    rw [hbd] at C
    have hT : (decide ({ x with kind := 0 } = noI) = true ∧ T = bs (zeroL 64) ∧ c = 0) ∨ (decide ({ x with kind := 0 } = noI) = false ∧ T = ⟨#[]⟩ ∧ c = 2) := by
      rcases hE with ⟨h1, h2, h3⟩ | ⟨h1, h2, h3⟩
      · have e := hk.1 h1
        exact .inl ⟨decide_eq_true e, by rw [h2, e, izeros], h3⟩
      · exact .inr ⟨decide_eq_false fun e => h1 (hk.2 e), h2, h3⟩
    generalize decide ({ x with kind := 0 } = noI) = b at *
    obtain ⟨w1, hw1⟩ : ∃ w1, w.alloc (.cells (inoC { x with kind := 0 } (.slice ad x.root.length cap)) 24) = w1 := ⟨_, rfl⟩
    have hX1 : InoAt w.heap.size { x with kind := 0 } (.slice ad x.root.length cap) w1 := by rw [← hw1]; exact Blk.new _ _ w
    have hb1 : Below w.heap.size w w1 := by rw [← hw1]; exact balloc1 _ _
    have hv1 := hv.kept hb1
    obtain ⟨kd, pn, lk, sz, dp, rt⟩ := x
    dsimp only at *
    obtain ⟨w2, hw2⟩ : ∃ w2, w1.alloc (.cells (madeCells #[.int .u8 0] 64) 5) = w2 := ⟨_, rfl⟩
    have b12 : Below w1.heap.size w1 w2 := by rw [← hw2]; exact balloc1 _ _
    have hX2 := hX1.kept1 b12
    have hv2 := Lib.hid (hv1.kept b12)
    have hb2 := bnext hb1 b12
    have hm : (Instr.makeSlice 39 (.int .i64 64) (.int .i64 64)).run Try.prog w1 = .ok (.slice (some ⟨w1.heap.size, 0, none⟩) 64 64) (w1.alloc (.cells (madeCells #[.int .u8 0] 64) 5)) := kz_made 64 (by omega) w1
    have hbk := kz_back w1 64
    rw [hw2] at hm hbk
    have HW1 := Lib.hid hw1
    have E := Lib.hid E
    have C := Lib.hid C
    have S := Lib.hid S
    have HT := Lib.hid hT
    have HX2 := Lib.hid hX2
    have HB2 := Lib.hid hb2
    clear hw1 hw2 hX1 hb0 hb1 hv hv1 b12 hf hE hk hbd hX2 hb2
    go_enter Try.func8, Try.ntmps8
    go_upto_region 4 with fail
    try rw [HW1.out]
    obtain ⟨x0, x1, x2, x3, x4, x5⟩ := InoAt.cells HX2.out
    dsimp only at *
    generalize bs (zeroL 64) = Z at *
    go_wp2_with fail
    refine (E.out _ _ hv2.out).mono ?_; rintro e w3 ⟨rfl, b3⟩
    have hX3 := Lib.hid (HX2.out.kept1 b3)
    have hv3 := Lib.hid (hv2.out.kept b3)
    have hB3 := Lib.hid (bnext HB2.out b3)
    clear x0 x1 x2 x3 x4 x5 hm hbk HX2 hv2 HB2 b3 E
    obtain ⟨x0, x1, x2, x3, x4, x5⟩ := InoAt.cells hX3.out
    dsimp only at *
    go_wp2_with fail
    refine (S.out _ _ _ hv3.out (ents_nil _)).mono ?_; rintro e w4 ⟨rfl, b4⟩
    have hX4 := Lib.hid (hX3.out.kept1 b4)
    have hv4 := Lib.hid (hv3.out.kept b4)
    have hB4 := Lib.hid (bnext hB3.out b4)
    clear x0 x1 x2 x3 x4 x5 hX3 hv3 hB3 b4 S
    obtain ⟨x0, x1, x2, x3, x4, x5⟩ := InoAt.cells hX4.out
    dsimp only at *
    go_wp2_with fail
    refine (C.out _ _ hv4.out).mono ?_; rintro e w5 ⟨rfl, b5⟩
    have hB5 := bnext hB4.out b5
    clear x0 x1 x2 x3 x4 x5 hX4 hv4 hB4 b5 C
    rcases HT.out with ⟨rfl, rfl, rfl⟩ | ⟨rfl, rfl, rfl⟩
    all_goals
      clear HT
      go_wp2_with fail
      refine (AL.out _).mono ?_; rintro e w6 ⟨rfl, b6⟩
      have hB6 := bnext hB5 b6
      go_wp2
      go_ret
      exact ⟨rfl, hB6⟩
  · have dl : decide ((1000 : Int) < (x.root.length : Int)) = true := decide_eq_true (by omega)
    obtain ⟨kd, pn, lk, sz, dp, rt⟩ := x
    dsimp only at *
    clear hl hv hf
    go_enter Try.func8, Try.ntmps8
    go_wp2
    go_ret
    exact ⟨rfl, hb0⟩
end Go.Proofs.Ytfepjjjoikcljaa
