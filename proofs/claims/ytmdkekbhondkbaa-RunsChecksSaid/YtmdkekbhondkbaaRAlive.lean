/- alive: the chapter's examples. -/
import Derived.Test.YtmdkekbhondkbaaRSame
namespace Go.Proofs.Ytmdkekbhondkbaa
set_option linter.unusedVariables false
open Go.RowKit Go.Shelf

theorem lit_at (l : List (Int × Int)) (w : World) (cs : Array Value) (h : cs = (cellsR l).toArray) (hl : l.length ≤ 1000) (n : Nat) (hn : l.length = n) (H : Nat) (hH : w.heap.size = H) : RunsIn (.slice (some ⟨H, 0, none⟩) n n) l (w.alloc (.cells cs 37)) := by
  subst hH; exact lit_in l w cs h hl n hn
abbrev litA (w : World) : World := w.alloc (.cells #[.int .i64 0, .int .i64 10] 37)
abbrev litB (w : World) : World := w.alloc (.cells #[.int .i64 3, .int .i64 2, .int .i64 9, .int .i64 4] 37)
abbrev litC (w : World) : World := w.alloc (.cells #[.int .i64 5, .int .i64 2, .int .i64 0, .int .i64 1, .int .i64 6, .int .i64 3] 37)
theorem balloc1 (w : World) (o : Obj) : Below w.heap.size w (w.alloc o) := (Below.refl _ _).alloc (Nat.le_refl _) _

set_option maxHeartbeats 8000000 in
theorem alive_any (w : World) : Calls Try.prog 27 #[] w fun e w' => e = .returned (.bool true) ∧ Below w.heap.size w w' := by
  have fA : fitR [((0 : Int), (10 : Int))] := fit_ex (by decide)
  have fB : fitR [((3 : Int), (2 : Int)), (9, 4)] := fit_ex (by decide)
  have fC : fitR [((5 : Int), (2 : Int)), (0, 1), (6, 3)] := fit_ex (by decide)
  have hA := runsIn_kept (runsIn_kept (lit_at [(0, 10)] w _ rfl (by decide) 1 rfl w.heap.size rfl) (balloc1 (litA w) (.cells #[.int .i64 3, .int .i64 2, .int .i64 9, .int .i64 4] 37))) (balloc1 (litB (litA w)) (.cells #[.int .i64 5, .int .i64 2, .int .i64 0, .int .i64 1, .int .i64 6, .int .i64 3] 37))
  have hB := runsIn_kept (lit_at [(3, 2), (9, 4)] (litA w) _ rfl (by decide) 2 rfl (w.heap.size + 1) (size_alloc _ _)) (balloc1 (litB (litA w)) (.cells #[.int .i64 5, .int .i64 2, .int .i64 0, .int .i64 1, .int .i64 6, .int .i64 3] 37))
  have hC := lit_at [(5, 2), (0, 1), (6, 3)] (litB (litA w)) _ rfl (by decide) 3 rfl (w.heap.size + 1 + 1) (by rw [size_alloc, size_alloc])
  have hb0 : Below w.heap.size w (litC (litB (litA w))) := bnext (bnext (balloc1 w _) (balloc1 (litA w) _)) (balloc1 (litB (litA w)) _)
  have C1 := lengths_any [(5, 2), (0, 1), (6, 3)] fC (by decide) _ _ hC
  rw [ex_norm, ex_lens] at C1
  have CK : ∀ W v, RunsIn v [(3, 2), (9, 4)] W → Calls Try.prog 16 #[v] W fun e w' => e = .returned (.bool true) ∧ Below W.heap.size W w' := fun W v h => by
    have := check_any [(3, 2), (9, 4)] fB v W h
    rwa [decide_eq_true ex_ok] at this
  have CN : ∀ W v, RunsIn v [(0, 2), (2, 1)] W → Calls Try.prog 16 #[v] W fun e w' => e = .returned (.bool false) ∧ Below W.heap.size W w' := fun W v h => by
    have := check_any [(0, 2), (2, 1)] (fit_ex (by decide)) v W h
    rwa [decide_eq_false ex_no] at this
  have CM := fun W va vb ha hb => minus_any [(0, 10)] [(3, 2), (9, 4)] fA fB (by decide) va vb W ha hb
  rw [ex_minus] at CM
  have CE := fun W va vb ha hb => meet_any [(0, 10)] [(3, 2), (9, 4)] fA fB (by decide) va vb W ha hb
  rw [ex_meet] at CE
  have CC : ∀ W v, RunsIn v [(3, 2), (9, 4)] W → Calls Try.prog 21 #[v] W fun e w' => e = .returned (.int .i64 6) ∧ Below W.heap.size W w' := fun W v h => by
    have := count_any [(3, 2), (9, 4)] fB (by decide) v W h
    rwa [ex_self] at this
  have CL : ∀ W v, RunsIn v [(3, 2), (9, 4)] W → Calls Try.prog 23 #[v] W fun e w' => e = .returned (.int .i64 4) ∧ Below W.heap.size W w' := fun W v h => by
    have := largest_any [(3, 2), (9, 4)] fB (by decide) v W h
    rwa [ex_self] at this
  have C1 := Lib.hid C1
  have CK := Lib.hid CK
  have CN := Lib.hid CN
  have CM := Lib.hid CM
  have CE := Lib.hid CE
  have CC := Lib.hid CC
  have CL := Lib.hid CL
  clear fA fB fC hC
  go_enter Try.func27, Try.ntmps27
  go_wp2_with fail
  refine C1.out.mono ?_; rintro e w1 ⟨v1, rfl, r1, b1⟩
  have hA := runsIn_kept hA b1
  have hB := runsIn_kept hB b1
  have hb := bnext hb0 b1
  clear b1 hb0 C1
  go_wp2_with fail
  refine (CK.out _ _ hB).mono ?_; rintro e w2 ⟨rfl, b⟩
  have hA := runsIn_kept hA b
  have hB := runsIn_kept hB b
  have r1 := row_kept r1 b
  have hb := bnext hb b
  clear b CK
  go_wp2_with fail
  refine (CN.out _ _ (lit_in [(0, 2), (2, 1)] w2 _ rfl (by decide) 2 rfl)).mono ?_; rintro e w3 ⟨rfl, b⟩
  have b := bnext (balloc1 w2 _) b
  have hA := runsIn_kept hA b
  have hB := runsIn_kept hB b
  have r1 := row_kept r1 b
  have hb := bnext hb b
  clear b CN
  go_wp2_with fail
  refine (CM.out _ _ _ hA hB).mono ?_; rintro e w4 ⟨v4, rfl, r4, b⟩
  have hA := runsIn_kept hA b
  have hB := runsIn_kept hB b
  have r1 := row_kept r1 b
  have hb := bnext hb b
  have i4 := runsIn_kept (runsAt_in r4) (balloc1 w4 (.cells #[.int .i64 0, .int .i64 3, .int .i64 5, .int .i64 4] 37))
  have S4 := Lib.hid (same_yes v4 _ _ _ i4 (lit_in [(0, 3), (5, 4)] w4 _ rfl (by decide) 2 rfl))
  clear b CM r4 i4
  go_wp2_with fail
  refine S4.out.mono ?_; rintro e w5 ⟨rfl, b⟩
  have b := bnext (balloc1 w4 _) b
  have hA := runsIn_kept hA b
  have hB := runsIn_kept hB b
  have r1 := row_kept r1 b
  have hb := bnext hb b
  clear b S4
  go_wp2_with fail
  refine (CE.out _ _ _ hA hB).mono ?_; rintro e w6 ⟨v6, rfl, r6, b⟩
  have hB := runsIn_kept hB b
  have r1 := row_kept r1 b
  have hb := bnext hb b
  have i6 := runsIn_kept (runsAt_in r6) (balloc1 w6 (.cells #[.int .i64 3, .int .i64 2, .int .i64 9, .int .i64 1] 37))
  have S6 := Lib.hid (same_yes v6 _ _ _ i6 (lit_in [(3, 2), (9, 1)] w6 _ rfl (by decide) 2 rfl))
  clear b CE r6 hA i6
  go_wp2_with fail
  refine S6.out.mono ?_; rintro e w7 ⟨rfl, b⟩
  have b := bnext (balloc1 w6 _) b
  have hB := runsIn_kept hB b
  have r1 := row_kept r1 b
  have hb := bnext hb b
  clear b S6
  obtain ⟨ad1, cap1, rfl, p1, p2, p3⟩ := shape_of r1
  obtain ⟨g1, rfl, _, _⟩ := p3 (by decide)
  have e0 := int_cell r1 0 (by decide)
  have e1 := int_cell r1 1 (by decide)
  simp only [List.getElem_cons_zero, List.getElem_cons_succ] at e0 e1
  clear r1 p1 p2 p3
  go_wp2_with fail
  refine (CC.out _ _ hB).mono ?_; rintro e w8 ⟨rfl, b⟩
  have hB := runsIn_kept hB b
  have hb := bnext hb b
  clear b CC e0 e1
  go_wp2_with fail
  refine (CL.out _ _ hB).mono ?_; rintro e w9 ⟨rfl, b⟩
  have hb := bnext hb b
  clear b CL hB
  go_wp2
  go_ret
  exact ⟨rfl, hb⟩
end Go.Proofs.Ytmdkekbhondkbaa
