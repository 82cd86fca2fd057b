/- The chapter's examples (alive). -/
import Derived.Test.YtpgpglnbpahcjaaGAsk2
import Derived.Test.YtpgpglnbpahcjaaRowK
namespace Go.Proofs.Ytpgpglnbpahcjaa
set_option linter.unusedVariables false
open Go.RowKit

theorem ex_ok : okN 256 128 8 1 4 := by unfold okN; omega
abbrev exG : Value := geo 256 128 8 1 129 1 130 4 134
theorem ex_of (w : World) : Calls Try.prog 8 #[.int .i64 256, .int .i64 128, .int .i64 8] w fun e w' => e = .returned (.tuple #[exG, .int .i64 0]) ∧ Below w.heap.size w w' := of_yes 256 128 8 1 4 ex_ok w
theorem ex_of9 (w : World) : Calls Try.prog 8 #[.int .i64 256, .int .i64 128, .int .i64 9] w fun e w' => e = .returned offG ∧ Below w.heap.size w w' := of_off 256 128 9 (by unfold okG; omega) w
theorem ex_in3 (w : World) : Calls Try.prog 11 #[exG, .int .i64 3] w fun e w' => e = .returned (.tuple #[.int .i64 131, .int .i64 64, .int .i64 0]) ∧ Below w.heap.size w w' := inode_in 256 128 8 1 4 ex_ok 3 (by decide) w
theorem ex_in8 (w : World) : Calls Try.prog 11 #[exG, .int .i64 8] w fun e w' => e = .returned (.tuple #[.int .i64 0, .int .i64 0, .int .i64 4]) ∧ Below w.heap.size w w' := inode_out 256 128 8 1 4 ex_ok 8 (by decide) w
theorem ex_wh (w : World) : Calls Try.prog 15 #[exG, .int .i64 134] w fun e w' => e = .returned (.int .i64 4) ∧ Below w.heap.size w w' := where_in 256 128 8 1 4 ex_ok 134 (by decide) (by decide) w
theorem ex_wh2 (w : World) : Calls Try.prog 15 #[exG, .int .i64 256] w fun e w' => e = .returned (.int .i64 (-1)) ∧ Below w.heap.size w w' := where_out 256 128 8 1 4 ex_ok 256 (by decide) w
/-- what stands in a block of one run -/
theorem one_in {g : Nat} {a b : Int} {w : World} (h : w.heap[g]? = some (.cells #[.int .i64 a, .int .i64 b] 36 (0, 0))) : RunsIn (.slice (some ⟨g, 0, none⟩) 1 1) [(a, b)] w := by
  refine ⟨some ⟨g, 0, none⟩, 1, rfl, Nat.le_refl _, by unfold maxLen; omega, fun _ => ⟨g, 0, rfl, lt_of_block h, fun k hk => ?_⟩, fun h => by cases h⟩
  obtain rfl : k = 0 := by simp at hk; exact hk
  simp [World.cell?, h]
theorem ex_fix (w : World) : Calls Try.prog 13 #[exG] w fun e w' => ∃ g, e = .returned (.slice (some ⟨g, 0, none⟩) 1 1) ∧ RunsIn (.slice (some ⟨g, 0, none⟩) 1 1) [(0, 134)] w' ∧ Below w.heap.size w w' :=
  (fixed_on 256 128 8 1 4 ex_ok w).mono fun e w' ⟨g, he, _, h, b⟩ => ⟨g, he, one_in h, b⟩

set_option maxHeartbeats 4000000 in
theorem alive_any (w : World) : Calls Try.prog 10 #[] w fun e w' => e = .returned (.bool true) ∧ Below w.heap.size w w' := by
  have O1 := Lib.hid ex_of
  have O2 := Lib.hid ex_of9
  have I1 := Lib.hid ex_in3
  have I2 := Lib.hid ex_in8
  have W1 := Lib.hid ex_wh
  have W2 := Lib.hid ex_wh2
  have F := Lib.hid ex_fix
  have SY := Lib.hid same_yes
  go_enter Try.func10, Try.ntmps10
  go_wp2_with fail
  refine (O1.out _).mono ?_; rintro e w1 ⟨rfl, hb⟩
  have G := GeoAt.new 256 128 8 1 129 1 130 4 134 w1
  have hb := balloc hb (.cells (cellsG 256 128 8 1 129 1 130 4 134) 23)
  go_wp2_with fail
  refine (O2.out _).mono ?_; rintro e w2 ⟨rfl, b⟩
  have G := (G.kept1 b).kept1 (balloc1 _ (.cells (cellsG 0 0 0 0 0 0 0 0 0) 23))
  have hb := balloc (bnext hb b) (.cells (cellsG 0 0 0 0 0 0 0 0 0) 23)
  obtain ⟨c0, c1, c2, c3, c4, c5, c6, c7, c8⟩ := G.cells
  clear b O1 O2
  go_wp2_with fail
  refine (I1.out _).mono ?_; rintro e w3 ⟨rfl, b⟩
  have G := G.kept1 b
  have hb := bnext hb b
  clear b I1 c0 c1 c2 c3 c4 c5 c6 c7 c8
  obtain ⟨c0, c1, c2, c3, c4, c5, c6, c7, c8⟩ := G.cells
  go_wp2_with fail
  refine (I2.out _).mono ?_; rintro e w4 ⟨rfl, b⟩
  have G := G.kept1 b
  have hb := bnext hb b
  clear b I2 c0 c1 c2 c3 c4 c5 c6 c7 c8
  obtain ⟨c0, c1, c2, c3, c4, c5, c6, c7, c8⟩ := G.cells
  go_wp2_with fail
  refine (W1.out _).mono ?_; rintro e w5 ⟨rfl, b⟩
  have G := G.kept1 b
  have hb := bnext hb b
  clear b W1 c0 c1 c2 c3 c4 c5 c6 c7 c8
  obtain ⟨c0, c1, c2, c3, c4, c5, c6, c7, c8⟩ := G.cells
  go_wp2_with fail
  refine (W2.out _).mono ?_; rintro e w6 ⟨rfl, b⟩
  have G := G.kept1 b
  have hb := bnext hb b
  clear b W2 c0 c1 c2 c3 c4 c5 c6 c7 c8
  obtain ⟨c0, c1, c2, c3, c4, c5, c6, c7, c8⟩ := G.cells
  go_wp2_with fail
  refine (F.out _).mono ?_; rintro e w7 ⟨g, rfl, r, b⟩
  have hb := bnext hb b
  have r := runsIn_kept r (balloc1 w7 (.cells #[.int .i64 0, .int .i64 134] 36))
  have S := Lib.hid (SY.out _ _ _ _ r (lit_in [(0, 134)] w7 _ rfl (by decide) 1 rfl))
  have hb := balloc hb (.cells #[.int .i64 0, .int .i64 134] 36)
  clear b F SY G c0 c1 c2 c3 c4 c5 c6 c7 c8 r
  go_wp2_with fail
  refine S.out.mono ?_; rintro e w8 ⟨rfl, b⟩
  have hb := bnext hb b
  clear b S
  go_wp2
  go_ret
  exact ⟨rfl, hb⟩
end Go.Proofs.Ytpgpglnbpahcjaa
