/- The chapter's examples. -/
import Derived.Test.YtfepjjjoikcljaaIDec
import Derived.Test.YtfepjjjoikcljaaISame
import Derived.Test.YtfepjjjoikcljaaKZero
import Derived.Deep.Cut
namespace Go.Proofs.Ytfepjjjoikcljaa
set_option linter.unusedVariables false
open Go.RowKit

theorem ext_listI (s : ByteArray) (a b : Nat) : (s.extract a b).toList = (s.data.toList.drop a).take (b - a) := by
  rw [Lib.extract_eq, ByteArray.toList_eq]
def entX : Ent := ⟨0, 100, 3⟩
def inoX : Ino := ⟨1, true, 1, 300, 0, [entX]⟩
def inoY : Ino := ⟨2, false, 0, 0, 0, [⟨0, 100, 2⟩, ⟨1, 200, 1⟩]⟩
theorem inoX_ok : InoOk inoX := by decide
theorem inoY_no : ¬ InoOk inoY := by decide
theorem izeros : ino noI = bs (zeroL 64) := by unfold ino; rw [noI_bytes]; rfl
theorem izeros_is : IsIno (bs (zeroL 64)) := by rw [← izeros]; exact isIno_of noI_ok
theorem izeros_read : readI (bs (zeroL 64)) = noI := by rw [← izeros]; exact read_ino noI_ok
theorem fit_small {l : List Ent} (h : ∀ e ∈ l, (-10000 ≤ e.log ∧ e.log ≤ 10000) ∧ (-10000 ≤ e.phys ∧ e.phys ≤ 10000) ∧ (-10000 ≤ e.len ∧ e.len ≤ 10000)) : fitE l := fun e he => by
  have := h e he
  exact ⟨⟨by omega, by omega⟩, ⟨by omega, by omega⟩, ⟨by omega, by omega⟩⟩
/-- entries that a literal has just laid -/
theorem lit_in (W : World) (l : List Ent) (cs : Array Value) (hl : l.length ≤ 4000) (hc : cs.toList = cellsE l) : EntsIn (.slice (some ⟨W.heap.size, 0, none⟩) l.length l.length) l (W.alloc (.cells cs 26)) := by
  refine ⟨cellsE_length l, some ⟨W.heap.size, 0, none⟩, l.length, rfl, Nat.le_refl _, by unfold maxLen; omega, fun _ => ⟨W.heap.size, 0, rfl, by rw [size_alloc]; omega, fun k u hk => ?_⟩, fun h => by cases h⟩
  rw [Nat.zero_add, World.cell?_alloc_mark]
  rw [← hc] at hk
  simpa using hk
theorem ents_nil (w : World) : EntsIn (.slice none 0 0) [] w := RowIn.nil 3 w
set_option maxRecDepth 100000 in
set_option maxHeartbeats 4000000 in
theorem ialive_any (w : World) :
    Calls Try.prog 14 #[] w fun e w' => e = .returned (.bool true) ∧ Below w.heap.size w w' := by
  obtain ⟨w1, hw1⟩ : ∃ w1, w.alloc (.cells #[.int .i64 0, .int .i64 100, .int .i64 3] 26) = w1 := ⟨_, rfl⟩
  have hE1 : EntsIn (.slice (some ⟨w.heap.size, 0, none⟩) 1 1) [entX] w1 := by rw [← hw1]; exact lit_in w [entX] _ (by decide) rfl
  have hb1 : Below w.heap.size w w1 := by rw [← hw1]; exact balloc1 _ _
  have hz1 : w1.heap.size = w.heap.size + 1 := by rw [← hw1, size_alloc]
  obtain ⟨S, E1, D1, hsz, h26⟩ : ∃ S : ByteArray,
      Hid (∀ v w, EntsIn v [entX] w → Calls Try.prog 9 #[.agg #[.int .i64 1, .bool true, .int .i64 1, .int .i64 300, .int .i64 0, v]] w fun e w' => e = inoRet S ∧ Below w.heap.size w w') ∧
      Hid (∀ w, Calls Try.prog 15 #[.string S] w fun e w' => ∃ v, e = .returned (.tuple #[.agg #[.int .i64 1, .bool true, .int .i64 1, .int .i64 300, .int .i64 0, v], .int .i64 0]) ∧ EntsAt w.heap.size v [entX] w' ∧ Below w.heap.size w w') ∧
      S.size = 64 ∧ ((S.extract 0 26).toList == [1, 1, 1, 0, 44, 1, 0, 0, 0, 0, 0, 0, 0, 1, 0, 0, 0, 0, 100, 0, 0, 0, 3, 0, 0, 0]) = true := by
    refine ⟨ino inoX, Lib.hid fun v w hv => ienc_yes inoX inoX_ok v w (fit_small (by decide)) hv, Lib.hid fun w => ?_, ino_size (by decide), ?_⟩
    · have := idec_yes (ino inoX) (by rw [ino_size (by decide)]; unfold maxLen; omega) (isIno_of inoX_ok) w
      rw [read_ino inoX_ok] at this; exact this
    · rw [ext_listI, ino_list]; rfl
  have D2 : Hid (∀ w, Calls Try.prog 15 #[.string (bs (zeroL 64))] w fun e w' => ∃ v, e = .returned (.tuple #[.agg #[.int .i64 0, .bool false, .int .i64 0, .int .i64 0, .int .i64 0, v], .int .i64 0]) ∧ EntsAt w.heap.size v [] w' ∧ Below w.heap.size w w') := Lib.hid (fun w => by
    have := idec_yes (bs (zeroL 64)) (by rw [bs_size, zeroL_length]; unfold maxLen; omega) izeros_is w
    rw [izeros_read] at this; exact this)
  have C1 := fun v w hv => icheck_any inoY (fit_small (by decide)) v w hv
  rw [decide_eq_false inoY_no] at C1
  have C1 := Lib.hid C1
  have SX : Hid (∀ v u w, EntsIn v [entX] w → EntsIn u [entX] w → Calls Try.prog 13 #[.agg #[.int .i64 1, .bool true, .int .i64 1, .int .i64 300, .int .i64 0, v], .agg #[.int .i64 1, .bool true, .int .i64 1, .int .i64 300, .int .i64 0, u]] w fun e w' => e = .returned (.bool true) ∧ Below w.heap.size w w') := Lib.hid fun v u w hv hu => by
    have := isame_any inoX inoX v u w hv hu
    rw [decide_eq_true rfl] at this; exact this
  have SN : Hid (∀ v u w, EntsIn v [] w → EntsIn u [] w → Calls Try.prog 13 #[.agg #[.int .i64 0, .bool false, .int .i64 0, .int .i64 0, .int .i64 0, v], .agg #[.int .i64 0, .bool false, .int .i64 0, .int .i64 0, .int .i64 0, u]] w fun e w' => e = .returned (.bool true) ∧ Below w.heap.size w w') := Lib.hid fun v u w hv hu => by
    have := isame_any noI noI v u w hv hu
    rw [decide_eq_true rfl] at this; exact this
  have hm : ∀ w, (Instr.makeSlice 39 (.int .i64 64) (.int .i64 64)).run Try.prog w = .ok (.slice (some ⟨w.heap.size, 0, none⟩) 64 64) (w.alloc (.cells (madeCells #[.int .u8 0] 64) 5)) := fun w => kz_made 64 (by omega) w
  have hbk := fun w => kz_back w 64
  generalize bs (zeroL 64) = Z at *
  obtain ⟨w2, hw2⟩ : ∃ w2, w1.alloc (.cells #[.int .i64 1, .bool true, .int .i64 1, .int .i64 300, .int .i64 0, .slice (some ⟨w.heap.size, 0, none⟩) 1 1] 24) = w2 := ⟨_, rfl⟩
  have hX2 : InoAt w1.heap.size inoX (.slice (some ⟨w.heap.size, 0, none⟩) 1 1) w2 := by rw [← hw2]; exact Blk.new _ _ w1
  have hE2 := hE1.kept (show Below w1.heap.size w1 w2 by rw [← hw2]; exact balloc1 _ _)
  have hb2 : Below w.heap.size w w2 := by rw [← hw2]; exact balloc hb1 _
  rw [hz1] at hX2
  have HW1 := Lib.hid hw1
  have HW2 := Lib.hid hw2
  have hcx := InoAt.cells hX2
  have HX2 := Lib.hid hX2
  have HE2 := Lib.hid hE2
  have HB2 := Lib.hid hb2
  have HZ1 := Lib.hid hz1
  clear hE1 hw1 hz1 hw2 hb1 hX2 hE2 hb2
  unfold inoX at hcx
  dsimp only at hcx
  obtain ⟨c0, c1, c2, c3, c4, c5⟩ := hcx
  go_enter Try.func14, Try.ntmps14
  go_upto_region 2 with fail
  try rw [HW1.out]
  try rw [HZ1.out]
  try rw [HW2.out]
  go_wp2_with fail
  refine (E1.out _ _ HE2.out).mono ?_; rintro e w3 ⟨rfl, b3⟩
  have HX3 := Lib.hid (HX2.out.kept1 b3)
  have HE3 := Lib.hid (HE2.out.kept b3)
  have HB3 := Lib.hid (bnext HB2.out b3)
  clear HX2 HE2 HB2 b3 c0 c1 c2 c3 c4 c5 HW1 HW2
  go_wp2_with fail
  refine (D1.out _).mono ?_; rintro e w4 ⟨v4, rfl, hR4, b4⟩
  have hX4 := HX3.out.kept1 b4
  have hE4 := HE3.out.kept b4
  have hB4 := bnext HB3.out b4
  obtain ⟨ad4, cap4, rfl, -⟩ := shape_of hR4
  have hI4 := entsAt_in hR4
  obtain ⟨w5, hw5⟩ : ∃ w5, w4.alloc (.cells #[.int .i64 1, .bool true, .int .i64 1, .int .i64 300, .int .i64 0, .slice ad4 1 cap4] 24) = w5 := ⟨_, rfl⟩
  have b45 : Below w4.heap.size w4 w5 := by rw [← hw5]; exact balloc1 _ _
  have hY5 : InoAt w4.heap.size inoX (.slice ad4 1 cap4) w5 := by rw [← hw5]; exact Blk.new _ _ w4
  obtain ⟨w6, hw6⟩ : ∃ w6, w5.alloc (.cells (madeCells #[.int .u8 0] 64) 5) = w6 := ⟨_, rfl⟩
  have b56 : Below w5.heap.size w5 w6 := by rw [← hw6]; exact balloc1 _ _
  have hX6 := Lib.hid ((hX4.kept1 b45).kept1 b56)
  have hE6 := Lib.hid ((hE4.kept b45).kept b56)
  have hI6 := Lib.hid ((hI4.kept b45).kept b56)
  have hY6 := Lib.hid (hY5.kept1 b56)
  have hB6 := Lib.hid (bnext (bnext hB4 b45) b56)
  have HW5 := Lib.hid hw5
  have hm5 := hm w5
  have hbk5 := hbk w5
  rw [hw6] at hm5 hbk5
  clear hX4 hE4 hB4 hI4 hR4 b4 b45 b56 hY5 hw5 hw6 hm hbk HX3 HE3 HB3
  go_upto_region 4 with fail
  rw [HW5.out]
  go_wp2_with fail
  refine (D2.out _).mono ?_; rintro e w7 ⟨v7, rfl, hR7, b7⟩
  obtain ⟨ad7, cap7, rfl, -⟩ := shape_of hR7
  have hI7 := entsAt_in hR7
  obtain ⟨w8, hw8⟩ : ∃ w8, w7.alloc (.cells #[.int .i64 0, .bool false, .int .i64 0, .int .i64 0, .int .i64 0, .slice ad7 0 cap7] 24) = w8 := ⟨_, rfl⟩
  have b78 : Below w7.heap.size w7 w8 := by rw [← hw8]; exact balloc1 _ _
  have hZ8 := Lib.hid (show InoAt w7.heap.size noI (.slice ad7 0 cap7) w8 by rw [← hw8]; exact Blk.new _ _ w7)
  have hX8 := Lib.hid ((hX6.out.kept1 b7).kept1 b78)
  have hE8 := Lib.hid ((hE6.out.kept b7).kept b78)
  have hI8 := Lib.hid ((hI6.out.kept b7).kept b78)
  have hY8 := Lib.hid ((hY6.out.kept1 b7).kept1 b78)
  have hJ8 := Lib.hid (hI7.kept b78)
  have hB8 := Lib.hid (bnext (bnext hB6.out b7) b78)
  have HW8 := Lib.hid hw8
  clear hX6 hE6 hI6 hY6 hB6 b7 b78 hI7 hR7 hw8 hm5 hbk5 HW5 E1 D1 D2
  have hx := InoAt.cells hX8.out
  have hy := InoAt.cells hY8.out
  unfold inoX at hx hy
  dsimp only at hx hy
  obtain ⟨c0, c1, c2, c3, c4, c5⟩ := hx
  obtain ⟨d0, d1, d2, d3, d4, d5⟩ := hy
  have hz := InoAt.cells hZ8.out
  unfold noI at hz
  dsimp only at hz
  obtain ⟨e0, e1, e2, e3, e4, e5⟩ := hz
  go_upto_region 5 with fail
  rw [HW8.out]
  go_wp2_with fail
  refine (SX.out _ _ _ hE8.out hI8.out).mono ?_; rintro e w9 ⟨rfl, b9⟩
  have hJ9 := hJ8.out.kept b9
  have hz := InoAt.cells (hZ8.out.kept1 b9)
  have hB9 := bnext hB8.out b9
  clear c0 c1 c2 c3 c4 c5 d0 d1 d2 d3 d4 d5 e0 e1 e2 e3 e4 e5 hX8 hY8 hE8 hI8 hZ8 hJ8 hB8 b9
  unfold noI at hz
  dsimp only at hz
  obtain ⟨e0, e1, e2, e3, e4, e5⟩ := hz
  go_wp2_with fail
  refine (SN.out _ _ _ hJ9 (ents_nil _)).mono ?_; rintro e w10 ⟨rfl, b10⟩
  have hB10 := bnext hB9 b10
  clear e0 e1 e2 e3 e4 e5 hJ9 hB9 b10
  have hlit : EntsIn (.slice (some ⟨w10.heap.size, 0, none⟩) 2 2) [⟨0, 100, 2⟩, ⟨1, 200, 1⟩] (w10.alloc (.cells #[.int .i64 0, .int .i64 100, .int .i64 2, .int .i64 1, .int .i64 200, .int .i64 1] 26)) := lit_in w10 [⟨0, 100, 2⟩, ⟨1, 200, 1⟩] _ (by decide) rfl
  have hB11 := balloc hB10 (.cells #[.int .i64 0, .int .i64 100, .int .i64 2, .int .i64 1, .int .i64 200, .int .i64 1] 26)
  have HL := Lib.hid hlit
  clear hlit hB10
  go_wp2_with fail
  refine (C1.out _ _ HL.out).mono ?_; rintro e w12 ⟨rfl, b12⟩
  have hB12 := bnext hB11 b12
  go_wp2
  go_ret
  exact ⟨rfl, hB12⟩
end Go.Proofs.Ytfepjjjoikcljaa
