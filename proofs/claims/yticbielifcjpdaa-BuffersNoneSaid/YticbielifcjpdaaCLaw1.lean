/- The walk of BuffersNone. -/
import Derived.Test.YticbielifcjpdaaCMade
namespace Go.Proofs.Yticbielifcjpdaa
set_option linter.unusedVariables false
open Go.RowKit

theorem NoCache.kept1 {v : Value} {w w' : World} (h : NoCache v w) (b : Below w.heap.size w w') : NoCache v w' := by
  rcases h with rfl | ⟨c, rfl, h⟩
  · exact .inl rfl
  · exact .inr ⟨c, rfl, (b.cell (p := ⟨c, 0, none⟩) (World.block_lt_of_cell? w _ h)).trans h⟩
set_option maxRecDepth 100000 in
set_option maxHeartbeats 8000000 in
theorem none_walk (b n : Int) (pin : Bool) (w : World) : Calls Try.prog 3 #[.int .i64 b, .int .i64 n, .bool pin] w fun e w' => e = .returned (.bool true) ∧ Below w.heap.size w w' := by
  have NW := Lib.hid cnew_none
  have UP := Lib.hid cunpin_none
  have FG := Lib.hid cforget_none
  have GT := Lib.hid cget_none
  have PT := Lib.hid cput_none
  have OT := Lib.hid cout_none
  have SY := Lib.hid csync_none
  have HS := Lib.hid chas_none
  have DT := Lib.hid cdirty_none
  have PN := Lib.hid cpinned_none
  have F := Lib.hid (fill_of 1 (by decide))
  have AL := Lib.hid alive_any
  go_enter Try.func3, Try.ntmps3
  go_wp2
  refine wp_loop_rounds 3 ?_
  rw [rounds_succ]
  have hn : NoCache (.pointer none) w := .inl rfl
  have hd : NoDev (.pointer none) w := .inl rfl
  have hb := Below.refl w.heap.size w
  go_wp2_with fail
  refine (NW.out _ _ _ hd).mono ?_; rintro e w' ⟨rfl, rfl⟩
  go_wp2_with fail
  refine (UP.out _ _ _ hn).mono ?_; rintro e w' ⟨rfl, rfl⟩
  go_wp2_with fail
  refine (FG.out _ _ _ hn).mono ?_; rintro e w' ⟨rfl, rfl⟩
  go_wp2_with fail
  refine (GT.out _ _ _ hn).mono ?_; rintro e w' ⟨rfl, rfl⟩
  go_wp2_with fail
  refine (F.out _).mono ?_; rintro e wf ⟨rfl, b⟩
  have hn := hn.kept1 b
  have hb := bnext hb b
  clear b hd
  go_wp2_with fail
  refine (PT.out _ _ _ _ _ hn).mono ?_; rintro e w' ⟨rfl, rfl⟩
  go_wp2_with fail
  refine (OT.out _ _ _ hn).mono ?_; rintro e w' ⟨rfl, rfl⟩
  go_wp2_with fail
  refine (SY.out _ _ hn).mono ?_; rintro e w' ⟨rfl, rfl⟩
  go_wp2_with fail
  refine (HS.out _ _ _ hn).mono ?_; rintro e w' ⟨rfl, rfl⟩
  go_wp2_with fail
  refine (DT.out _ _ hn).mono ?_; rintro e w' ⟨rfl, rfl⟩
  go_wp2_with fail
  refine (PN.out _ _ hn).mono ?_; rintro e w' ⟨rfl, rfl⟩
  clear hn
  go_wp2
  rw [rounds_succ]
  have b1 := balloc1 wf (.cells #[.pointer none, .nilFunc, .nilFunc, .nilFunc, .int .i64 0, .map none, .slice none 0 0, .int .i64 0] 31)
  have s1 : (wf.alloc (.cells #[.pointer none, .nilFunc, .nilFunc, .nilFunc, .int .i64 0, .map none, .slice none 0 0, .int .i64 0] 31)).heap.size = wf.heap.size + 1 := size_alloc _ _
  have b2 := balloc1 (wf.alloc (.cells #[.pointer none, .nilFunc, .nilFunc, .nilFunc, .int .i64 0, .map none, .slice none 0 0, .int .i64 0] 31)) (.cells #[.pointer none, .slice none 0 0, .slice none 0 0, .slice none 0 0, .int .i64 0, .int .i64 0] 35)
  have hn0 : NoCache (.pointer (some ⟨wf.heap.size, 0, none⟩)) (wf.alloc (.cells #[.pointer none, .nilFunc, .nilFunc, .nilFunc, .int .i64 0, .map none, .slice none 0 0, .int .i64 0] 31)) := .inr ⟨_, rfl, (Blk.new _ _ wf).cell 0⟩
  have hn := hn0.kept1 b2
  have hd : NoDev (.pointer (some ⟨wf.heap.size + 1, 0, none⟩)) ((wf.alloc (.cells #[.pointer none, .nilFunc, .nilFunc, .nilFunc, .int .i64 0, .map none, .slice none 0 0, .int .i64 0] 31)).alloc (.cells #[.pointer none, .slice none 0 0, .slice none 0 0, .slice none 0 0, .int .i64 0, .int .i64 0] 35)) := .inr ⟨_, rfl, by
    have := (Blk.new #[.pointer none, .slice none 0 0, .slice none 0 0, .slice none 0 0, .int .i64 0, .int .i64 0] 35 (wf.alloc (.cells #[.pointer none, .nilFunc, .nilFunc, .nilFunc, .int .i64 0, .map none, .slice none 0 0, .int .i64 0] 31))).cell 0
    rw [s1] at this
    exact this⟩
  have hb := bnext hb (bnext b1 b2)
  clear b1 b2 hn0
  go_wp2_with fail
  refine (NW.out _ _ _ hd).mono ?_; rintro e w' ⟨rfl, rfl⟩
  go_wp2_with fail
  refine (UP.out _ _ _ hn).mono ?_; rintro e w' ⟨rfl, rfl⟩
  go_wp2_with fail
  refine (FG.out _ _ _ hn).mono ?_; rintro e w' ⟨rfl, rfl⟩
  go_wp2_with fail
  refine (GT.out _ _ _ hn).mono ?_; rintro e w' ⟨rfl, rfl⟩
  go_wp2_with fail
  refine (F.out _).mono ?_; rintro e wf ⟨rfl, b⟩
  have hn := hn.kept1 b
  have hb := bnext hb b
  clear b hd
  go_wp2_with fail
  refine (PT.out _ _ _ _ _ hn).mono ?_; rintro e w' ⟨rfl, rfl⟩
  go_wp2_with fail
  refine (OT.out _ _ _ hn).mono ?_; rintro e w' ⟨rfl, rfl⟩
  go_wp2_with fail
  refine (SY.out _ _ hn).mono ?_; rintro e w' ⟨rfl, rfl⟩
  go_wp2_with fail
  refine (HS.out _ _ _ hn).mono ?_; rintro e w' ⟨rfl, rfl⟩
  go_wp2_with fail
  refine (DT.out _ _ hn).mono ?_; rintro e w' ⟨rfl, rfl⟩
  go_wp2_with fail
  refine (PN.out _ _ hn).mono ?_; rintro e w' ⟨rfl, rfl⟩
  clear hn NW UP FG GT PT OT SY HS DT PN
  go_wp2
  rw [rounds_succ]
  go_wp2_with fail
  refine (AL.out _).mono ?_; rintro e wz ⟨rfl, b⟩
  have hb := bnext hb b
  clear b AL
  go_wp2
  go_ret
  exact ⟨rfl, hb⟩
end Go.Proofs.Yticbielifcjpdaa
