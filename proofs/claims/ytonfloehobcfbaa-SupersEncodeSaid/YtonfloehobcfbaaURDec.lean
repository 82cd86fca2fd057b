/- The document's Decode. -/
import Derived.Test.YtonfloehobcfbaaUDec2
namespace Go.Proofs.Ytonfloehobcfbaa
set_option linter.unusedVariables false
open Go.RowKit

theorem fillA_zero (b : ByteArray) (w : World) : CellsAt w.heap.size 10 (fillX b 0) (w.alloc (.cells (supC noS) 64)) := CellsAt.alloc_new _ _ _ _ _ fun j hj => by
  unfold fillX
  rw [if_neg (by omega)]
  match j, hj with
  | 0, _ => rfl | 1, _ => rfl | 2, _ => rfl | 3, _ => rfl | 4, _ => rfl | 5, _ => rfl | 6, _ => rfl | 7, _ => rfl | 8, _ => rfl | 9, _ => rfl
set_option maxRecDepth 100000 in
set_option maxHeartbeats 4000000 in
theorem urdec_noenc (b : ByteArray) (hs : b.size ≤ maxLen) (h : ¬ SupOk (readX b)) (w : World) :
    Calls Try.prog 16 #[.string b] w fun e w' => e = decBad ∧ Below w.heap.size w w' := by
  have GI : Hid (∀ j : Nat, j < 10 → ∀ w, Calls Try.prog 30 #[.string b, .int .i64 (8 + 4 * (j : Int)), .int .i64 4] w fun e w' => e = .returned (.tuple #[.int .i64 (numX b j), .bool (intOk b (8 + 4 * (j : Int)) 4)]) ∧ w = w') := Lib.hid fun j hj w => rgetInt_any b hs _ 4 w
  obtain ⟨w0, hw0⟩ : ∃ w0, w.alloc (.cells #[.int .i64 0, .int .i64 0, .int .i64 0, .int .i64 0, .int .i64 0, .int .i64 0, .int .i64 0, .int .i64 0, .int .i64 0, .int .i64 0] 23) = w0 := ⟨_, rfl⟩
  have hR1 : SupAt w.heap.size noS w0 := by rw [← hw0]; exact Blk.new _ _ _
  have hB1 : Below w.heap.size w w0 := by rw [← hw0]; exact balloc1 _ _
  have hz1 : w0.heap.size = w.heap.size + 1 := by rw [← hw0]; exact size_alloc _ _
  obtain ⟨w9, hw9⟩ : ∃ w9, w0.alloc (.cells #[.int .i64 0, .int .i64 0, .int .i64 0, .int .i64 0, .int .i64 0, .int .i64 0, .int .i64 0, .int .i64 0, .int .i64 0, .int .i64 0] 64) = w9 := ⟨_, rfl⟩
  have hR2 : SupAt w.heap.size noS w9 := by rw [← hw9]; exact hR1.kept1 (balloc1 _ _)
  have hF2 : CellsAt w0.heap.size 10 (fillX b 0) w9 := by rw [← hw9]; exact fillA_zero b w0
  have hB2 : Below w.heap.size w w9 := by rw [← hw9]; exact balloc hB1 _
  have hc := fun wr (h : CellsAt w0.heap.size 10 (fillX b 10) wr) j hj => fillX_cell h j hj
  rw [hz1] at hF2 hc
  have HC := Lib.hid hc
  have HST := Lib.hid (fun k (hk : k < 10) wr (h : CellsAt (w.heap.size + 1) 10 (fillX b k) wr) => fillX_set b h hk)
  have HFC := Lib.hid (fun (k : Nat) (hk : k < 10) wr (h : CellsAt (w.heap.size + 1) 10 (fillX b k) wr) => h.2 k hk)
  generalize fillX b = FX at *
  clear hR1 hB1 hc
  go_enter Try.func16, Try.ntmps16
  go_wp2
  go_loopw [5] (fun q wr => ∃ k : Nat, q = .int .i64 k ∧ k ≤ 10 ∧ CellsAt (w.heap.size + 1) 10 (FX k) wr ∧ SupAt w.heap.size noS wr ∧ Below w.heap.size w wr) (fun q _ => 10 - (intOf q).toNat)
  case atStart => exact ⟨0, rfl, by omega, hF2, hR2, hB2⟩
  case' round =>
    clear hF2 hR2 hB2 hw0 hw9 hz1
    obtain ⟨k, rfl, hk, hF, hR, hB⟩ := hrel
    by_cases hlt : k < 10
    · obtain ⟨q2, q3⟩ := HFC.out k hlt wr hF
      have HF2 := Lib.hid (HST.out k hlt wr hF)
      have HR2 : Hid (SupAt w.heap.size noS (wr.setCell ⟨w.heap.size + 1, k, none⟩ (.int .i64 (numX b k)))) := Lib.hid (hR.other (by show w.heap.size + 1 ≠ _; omega) _)
      have HB2 : Hid (Below w.heap.size w (wr.setCell ⟨w.heap.size + 1, k, none⟩ (.int .i64 (numX b k)))) := Lib.hid (hB.setCell (by show _ ≤ _ + 1; omega) _)
      clear hF hR hB
      go_wp2_with fail
      refine (GI.out k hlt _).mono ?_; rintro e w4 ⟨rfl, rfl⟩
      go_wp2
      exact ⟨⟨k + 1, by go_num, by omega, HF2.out, HR2.out, HB2.out⟩, by simp [intOf]; omega⟩
    obtain rfl : k = 10 := by omega
    have c := HC.out wr hF
    have c0 := c 0 (by omega); have c1 := c 1 (by omega); have c2 := c 2 (by omega); have c3 := c 3 (by omega); have c4 := c 4 (by omega)
    have c5 := c 5 (by omega); have c6 := c 6 (by omega); have c7 := c 7 (by omega); have c8 := c 8 (by omega); have c9 := c 9 (by omega)
    obtain ⟨w2, hw2⟩ : ∃ w2, wr.alloc (.cells (supC (readX b)) 23) = w2 := ⟨_, rfl⟩
    have hb2 : Below w.heap.size w w2 := by rw [← hw2]; exact balloc hB _
    have hZ2 : SupAt w.heap.size noS w2 := by rw [← hw2]; exact hR.kept1 (balloc1 _ _)
    have hS2 : SupAt wr.heap.size (readX b) w2 := by rw [← hw2]; exact Blk.new _ _ _
    have hF3 := hF.1
    unfold readX at *
    generalize numX b 0 = x0 at *
    generalize numX b 1 = x1 at *
    generalize numX b 2 = x2 at *
    generalize numX b 3 = x3 at *
    generalize numX b 4 = x4 at *
    generalize numX b 5 = x5 at *
    generalize numX b 6 = x6 at *
    generalize numX b 7 = x7 at *
    generalize numX b 8 = x8 at *
    generalize numX b 9 = x9 at *
    have hw2 : wr.alloc (.cells #[.int .i64 x0, .int .i64 x1, .int .i64 x2, .int .i64 x3, .int .i64 x4, .int .i64 x5, .int .i64 x6, .int .i64 x7, .int .i64 x8, .int .i64 x9] 23) = w2 := hw2
    clear c hF hR hB HFC HST HC GI
  have E := Lib.hid (fun w => urenc_no ⟨x0, x1, x2, x3, x4, x5, x6, x7, x8, x9⟩ h w)
  clear h
  obtain ⟨d0, d1, d2, d3, d4, d5, d6, d7, d8, d9⟩ := SupAt.cells hS2
  have HW2 := Lib.hid hw2
  clear hw2
  go_wp2_with fail
  try rw [HW2.out]
  refine (E.out _).mono ?_; rintro e w4 ⟨rfl, b4⟩
  have HZ := Lib.hid (hZ2.kept1 b4)
  have HB := Lib.hid (bnext hb2 b4)
  clear hZ2 hb2 b4 d0 d1 d2 d3 d4 d5 d6 d7 d8 d9 E HW2 hS2
  go_wp2_with (refine wpList_store_sup (s := noS) rfl _ _ rfl rfl rfl HZ.out ?_)
  intro w5 h5 hl5 hs5 _
  obtain ⟨y0, y1, y2, y3, y4, y5, y6, y7, y8, y9⟩ := SupAt.cells h5
  have hbe : Below w.heap.size w w5 := HB.out.trans hl5
  clear hl5 hs5
  go_wp2
  refine bodyPost_ret (v := .tuple #[supV noS, .int .i64 80]) ?_ rfl ⟨rfl, hbe⟩
  rw [results_cell_tmp rfl]
  go_simp
set_option maxRecDepth 100000 in
set_option maxHeartbeats 4000000 in
theorem urdec_other (b : ByteArray) (hs : b.size ≤ maxLen) (h : SupOk (readX b)) (hne : sup (readX b) ≠ b) (w : World) :
    Calls Try.prog 16 #[.string b] w fun e w' => e = decBad ∧ Below w.heap.size w w' := by
  have GI : Hid (∀ j : Nat, j < 10 → ∀ w, Calls Try.prog 30 #[.string b, .int .i64 (8 + 4 * (j : Int)), .int .i64 4] w fun e w' => e = .returned (.tuple #[.int .i64 (numX b j), .bool (intOk b (8 + 4 * (j : Int)) 4)]) ∧ w = w') := Lib.hid fun j hj w => rgetInt_any b hs _ 4 w
  obtain ⟨w0, hw0⟩ : ∃ w0, w.alloc (.cells #[.int .i64 0, .int .i64 0, .int .i64 0, .int .i64 0, .int .i64 0, .int .i64 0, .int .i64 0, .int .i64 0, .int .i64 0, .int .i64 0] 23) = w0 := ⟨_, rfl⟩
  have hR1 : SupAt w.heap.size noS w0 := by rw [← hw0]; exact Blk.new _ _ _
  have hB1 : Below w.heap.size w w0 := by rw [← hw0]; exact balloc1 _ _
  have hz1 : w0.heap.size = w.heap.size + 1 := by rw [← hw0]; exact size_alloc _ _
  obtain ⟨w9, hw9⟩ : ∃ w9, w0.alloc (.cells #[.int .i64 0, .int .i64 0, .int .i64 0, .int .i64 0, .int .i64 0, .int .i64 0, .int .i64 0, .int .i64 0, .int .i64 0, .int .i64 0] 64) = w9 := ⟨_, rfl⟩
  have hR2 : SupAt w.heap.size noS w9 := by rw [← hw9]; exact hR1.kept1 (balloc1 _ _)
  have hF2 : CellsAt w0.heap.size 10 (fillX b 0) w9 := by rw [← hw9]; exact fillA_zero b w0
  have hB2 : Below w.heap.size w w9 := by rw [← hw9]; exact balloc hB1 _
  have hc := fun wr (h : CellsAt w0.heap.size 10 (fillX b 10) wr) j hj => fillX_cell h j hj
  rw [hz1] at hF2 hc
  have HC := Lib.hid hc
  have HST := Lib.hid (fun k (hk : k < 10) wr (h : CellsAt (w.heap.size + 1) 10 (fillX b k) wr) => fillX_set b h hk)
  have HFC := Lib.hid (fun (k : Nat) (hk : k < 10) wr (h : CellsAt (w.heap.size + 1) 10 (fillX b k) wr) => h.2 k hk)
  generalize fillX b = FX at *
  clear hR1 hB1 hc
  go_enter Try.func16, Try.ntmps16
  go_wp2
  go_loopw [5] (fun q wr => ∃ k : Nat, q = .int .i64 k ∧ k ≤ 10 ∧ CellsAt (w.heap.size + 1) 10 (FX k) wr ∧ SupAt w.heap.size noS wr ∧ Below w.heap.size w wr) (fun q _ => 10 - (intOf q).toNat)
  case atStart => exact ⟨0, rfl, by omega, hF2, hR2, hB2⟩
  case' round =>
    clear hF2 hR2 hB2 hw0 hw9 hz1
    obtain ⟨k, rfl, hk, hF, hR, hB⟩ := hrel
    by_cases hlt : k < 10
    · obtain ⟨q2, q3⟩ := HFC.out k hlt wr hF
      have HF2 := Lib.hid (HST.out k hlt wr hF)
      have HR2 : Hid (SupAt w.heap.size noS (wr.setCell ⟨w.heap.size + 1, k, none⟩ (.int .i64 (numX b k)))) := Lib.hid (hR.other (by show w.heap.size + 1 ≠ _; omega) _)
      have HB2 : Hid (Below w.heap.size w (wr.setCell ⟨w.heap.size + 1, k, none⟩ (.int .i64 (numX b k)))) := Lib.hid (hB.setCell (by show _ ≤ _ + 1; omega) _)
      clear hF hR hB
      go_wp2_with fail
      refine (GI.out k hlt _).mono ?_; rintro e w4 ⟨rfl, rfl⟩
      go_wp2
      exact ⟨⟨k + 1, by go_num, by omega, HF2.out, HR2.out, HB2.out⟩, by simp [intOf]; omega⟩
    obtain rfl : k = 10 := by omega
    have c := HC.out wr hF
    have c0 := c 0 (by omega); have c1 := c 1 (by omega); have c2 := c 2 (by omega); have c3 := c 3 (by omega); have c4 := c 4 (by omega)
    have c5 := c 5 (by omega); have c6 := c 6 (by omega); have c7 := c 7 (by omega); have c8 := c 8 (by omega); have c9 := c 9 (by omega)
    obtain ⟨w2, hw2⟩ : ∃ w2, wr.alloc (.cells (supC (readX b)) 23) = w2 := ⟨_, rfl⟩
    have hb2 : Below w.heap.size w w2 := by rw [← hw2]; exact balloc hB _
    have hZ2 : SupAt w.heap.size noS w2 := by rw [← hw2]; exact hR.kept1 (balloc1 _ _)
    have hS2 : SupAt wr.heap.size (readX b) w2 := by rw [← hw2]; exact Blk.new _ _ _
    have hF3 := hF.1
    unfold readX at *
    generalize numX b 0 = x0 at *
    generalize numX b 1 = x1 at *
    generalize numX b 2 = x2 at *
    generalize numX b 3 = x3 at *
    generalize numX b 4 = x4 at *
    generalize numX b 5 = x5 at *
    generalize numX b 6 = x6 at *
    generalize numX b 7 = x7 at *
    generalize numX b 8 = x8 at *
    generalize numX b 9 = x9 at *
    have hw2 : wr.alloc (.cells #[.int .i64 x0, .int .i64 x1, .int .i64 x2, .int .i64 x3, .int .i64 x4, .int .i64 x5, .int .i64 x6, .int .i64 x7, .int .i64 x8, .int .i64 x9] 23) = w2 := hw2
    clear c hF hR hB HFC HST HC GI
  have E := fun w => urenc_yes ⟨x0, x1, x2, x3, x4, x5, x6, x7, x8, x9⟩ h w
  have hd := supText_ne hne
  generalize sup ⟨x0, x1, x2, x3, x4, x5, x6, x7, x8, x9⟩ = T at *
  have E := Lib.hid E
  clear h hne
  obtain ⟨d0, d1, d2, d3, d4, d5, d6, d7, d8, d9⟩ := SupAt.cells hS2
  have HW2 := Lib.hid hw2
  clear hw2
  go_wp2_with fail
  try rw [HW2.out]
  refine (E.out _).mono ?_; rintro e w4 ⟨rfl, b4⟩
  have HZ := Lib.hid (hZ2.kept1 b4)
  have HB := Lib.hid (bnext hb2 b4)
  clear hZ2 hb2 b4 d0 d1 d2 d3 d4 d5 d6 d7 d8 d9 E HW2 hS2
  go_wp2_with (refine wpList_store_sup (s := noS) rfl _ _ rfl rfl rfl HZ.out ?_)
  intro w5 h5 hl5 hs5 _
  obtain ⟨y0, y1, y2, y3, y4, y5, y6, y7, y8, y9⟩ := SupAt.cells h5
  have hbe : Below w.heap.size w w5 := HB.out.trans hl5
  clear hl5 hs5
  go_wp2
  refine bodyPost_ret (v := .tuple #[supV noS, .int .i64 80]) ?_ rfl ⟨rfl, hbe⟩
  rw [results_cell_tmp rfl]
  go_simp
set_option maxRecDepth 100000 in
set_option maxHeartbeats 4000000 in
theorem urdec_same (b : ByteArray) (hs : b.size ≤ maxLen) (h : SupOk (readX b)) (he : sup (readX b) = b) (w : World) :
    Calls Try.prog 16 #[.string b] w fun e w' => e = .returned (.tuple #[supV (readX b), .int .i64 0]) ∧ Below w.heap.size w w' := by
  obtain ⟨S, hSX⟩ : ∃ S, S = readX b := ⟨_, rfl⟩
  have HSX := Lib.hid hSX
  rw [← hSX]
  clear hSX
  have GI : Hid (∀ j : Nat, j < 10 → ∀ w, Calls Try.prog 30 #[.string b, .int .i64 (8 + 4 * (j : Int)), .int .i64 4] w fun e w' => e = .returned (.tuple #[.int .i64 (numX b j), .bool (intOk b (8 + 4 * (j : Int)) 4)]) ∧ w = w') := Lib.hid fun j hj w => rgetInt_any b hs _ 4 w
  obtain ⟨w0, hw0⟩ : ∃ w0, w.alloc (.cells #[.int .i64 0, .int .i64 0, .int .i64 0, .int .i64 0, .int .i64 0, .int .i64 0, .int .i64 0, .int .i64 0, .int .i64 0, .int .i64 0] 23) = w0 := ⟨_, rfl⟩
  have hR1 : SupAt w.heap.size noS w0 := by rw [← hw0]; exact Blk.new _ _ _
  have hB1 : Below w.heap.size w w0 := by rw [← hw0]; exact balloc1 _ _
  have hz1 : w0.heap.size = w.heap.size + 1 := by rw [← hw0]; exact size_alloc _ _
  obtain ⟨w9, hw9⟩ : ∃ w9, w0.alloc (.cells #[.int .i64 0, .int .i64 0, .int .i64 0, .int .i64 0, .int .i64 0, .int .i64 0, .int .i64 0, .int .i64 0, .int .i64 0, .int .i64 0] 64) = w9 := ⟨_, rfl⟩
  have hR2 : SupAt w.heap.size noS w9 := by rw [← hw9]; exact hR1.kept1 (balloc1 _ _)
  have hF2 : CellsAt w0.heap.size 10 (fillX b 0) w9 := by rw [← hw9]; exact fillA_zero b w0
  have hB2 : Below w.heap.size w w9 := by rw [← hw9]; exact balloc hB1 _
  have hc := fun wr (h : CellsAt w0.heap.size 10 (fillX b 10) wr) j hj => fillX_cell h j hj
  rw [hz1] at hF2 hc
  have HC := Lib.hid hc
  have HST := Lib.hid (fun k (hk : k < 10) wr (h : CellsAt (w.heap.size + 1) 10 (fillX b k) wr) => fillX_set b h hk)
  have HFC := Lib.hid (fun (k : Nat) (hk : k < 10) wr (h : CellsAt (w.heap.size + 1) 10 (fillX b k) wr) => h.2 k hk)
  generalize fillX b = FX at *
  clear hR1 hB1 hc
  go_enter Try.func16, Try.ntmps16
  go_wp2
  go_loopw [5] (fun q wr => ∃ k : Nat, q = .int .i64 k ∧ k ≤ 10 ∧ CellsAt (w.heap.size + 1) 10 (FX k) wr ∧ SupAt w.heap.size noS wr ∧ Below w.heap.size w wr) (fun q _ => 10 - (intOf q).toNat)
  case atStart => exact ⟨0, rfl, by omega, hF2, hR2, hB2⟩
  case' round =>
    clear hF2 hR2 hB2 hw0 hw9 hz1
    obtain ⟨k, rfl, hk, hF, hR, hB⟩ := hrel
    by_cases hlt : k < 10
    · obtain ⟨q2, q3⟩ := HFC.out k hlt wr hF
      have HF2 := Lib.hid (HST.out k hlt wr hF)
      have HR2 : Hid (SupAt w.heap.size noS (wr.setCell ⟨w.heap.size + 1, k, none⟩ (.int .i64 (numX b k)))) := Lib.hid (hR.other (by show w.heap.size + 1 ≠ _; omega) _)
      have HB2 : Hid (Below w.heap.size w (wr.setCell ⟨w.heap.size + 1, k, none⟩ (.int .i64 (numX b k)))) := Lib.hid (hB.setCell (by show _ ≤ _ + 1; omega) _)
      clear hF hR hB
      go_wp2_with fail
      refine (GI.out k hlt _).mono ?_; rintro e w4 ⟨rfl, rfl⟩
      go_wp2
      exact ⟨⟨k + 1, by go_num, by omega, HF2.out, HR2.out, HB2.out⟩, by simp [intOf]; omega⟩
    obtain rfl : k = 10 := by omega
    have c := HC.out wr hF
    have c0 := c 0 (by omega); have c1 := c 1 (by omega); have c2 := c 2 (by omega); have c3 := c 3 (by omega); have c4 := c 4 (by omega)
    have c5 := c 5 (by omega); have c6 := c 6 (by omega); have c7 := c 7 (by omega); have c8 := c 8 (by omega); have c9 := c 9 (by omega)
    obtain ⟨w2, hw2⟩ : ∃ w2, wr.alloc (.cells (supC (readX b)) 23) = w2 := ⟨_, rfl⟩
    have hb2 : Below w.heap.size w w2 := by rw [← hw2]; exact balloc hB _
    have hZ2 : SupAt w.heap.size noS w2 := by rw [← hw2]; exact hR.kept1 (balloc1 _ _)
    have hS2 : SupAt wr.heap.size (readX b) w2 := by rw [← hw2]; exact Blk.new _ _ _
    have hF3 := hF.1
    unfold readX at *
    generalize numX b 0 = x0 at *
    generalize numX b 1 = x1 at *
    generalize numX b 2 = x2 at *
    generalize numX b 3 = x3 at *
    generalize numX b 4 = x4 at *
    generalize numX b 5 = x5 at *
    generalize numX b 6 = x6 at *
    generalize numX b 7 = x7 at *
    generalize numX b 8 = x8 at *
    generalize numX b 9 = x9 at *
    have hw2 : wr.alloc (.cells #[.int .i64 x0, .int .i64 x1, .int .i64 x2, .int .i64 x3, .int .i64 x4, .int .i64 x5, .int .i64 x6, .int .i64 x7, .int .i64 x8, .int .i64 x9] 23) = w2 := hw2
    clear c hF hR hB HFC HST HC GI
  have E := fun w => urenc_yes ⟨x0, x1, x2, x3, x4, x5, x6, x7, x8, x9⟩ h w
  rw [he] at E
  have E := Lib.hid E
  clear h he
  obtain ⟨d0, d1, d2, d3, d4, d5, d6, d7, d8, d9⟩ := SupAt.cells hS2
  have HW2 := Lib.hid hw2
  clear hw2
  go_wp2_with fail
  try rw [HW2.out]
  refine (E.out _).mono ?_; rintro e w4 ⟨rfl, b4⟩
  have HZ := Lib.hid (hZ2.kept1 b4)
  have HB := Lib.hid (bnext hb2 b4)
  have hS4 := hS2.kept1 b4
  clear hZ2 hb2 b4 d0 d1 d2 d3 d4 d5 d6 d7 d8 d9 E HW2 hS2
  obtain ⟨d0, d1, d2, d3, d4, d5, d6, d7, d8, d9⟩ := SupAt.cells hS4
  clear hS4
  go_wp2_with (refine wpList_store_sup (s := ⟨x0, x1, x2, x3, x4, x5, x6, x7, x8, x9⟩) rfl _ _ rfl rfl rfl HZ.out ?_)
  intro w5 h5 hl5 hs5 _
  obtain ⟨y0, y1, y2, y3, y4, y5, y6, y7, y8, y9⟩ := SupAt.cells h5
  have hbe : Below w.heap.size w w5 := HB.out.trans hl5
  clear hl5 hs5
  go_wp2
  refine bodyPost_ret (v := .tuple #[supV ⟨x0, x1, x2, x3, x4, x5, x6, x7, x8, x9⟩, .int .i64 0]) ?_ rfl ⟨by rw [HSX.out], hbe⟩
  rw [results_cell_tmp rfl]
  go_simp
theorem urdec_yes (b : ByteArray) (hs : b.size ≤ maxLen) (h : IsSup b) (w : World) :
    Calls Try.prog 16 #[.string b] w fun e w' => e = .returned (.tuple #[supV (readS b), .int .i64 0]) ∧ Below w.heap.size w w' := by
  have k := (isSup_iff b).2 h
  have := urdec_same b hs k.1 k.2 w
  rwa [readX_in (isSup_size h)] at this
theorem urdec_no (b : ByteArray) (hs : b.size ≤ maxLen) (h : ¬ IsSup b) (w : World) :
    Calls Try.prog 16 #[.string b] w fun e w' => e = decBad ∧ Below w.heap.size w w' := by
  by_cases h1 : SupOk (readX b)
  · exact urdec_other b hs h1 (fun h2 => h ((isSup_iff b).1 ⟨h1, h2⟩)) w
  · exact urdec_noenc b hs h1 w
end Go.Proofs.Ytonfloehobcfbaa
