/- alive: the chapter's examples. -/
import Derived.Test.YtddbceecamenhaaBRef
namespace Go.Proofs.Ytddbceecamenhaa
set_option linter.unusedVariables false
open Go.RowKit

/-- the chapter's text -/
abbrev ex : ByteArray := ⟨#[13, 128]⟩
theorem ex_first : fitV (runs (bitAt ex) (firstV ex 16)) 1 15 = some 1 := by decide +kernel
theorem ex_fit : fitV (runs (bitAt ex) (firstV ex 16)) 2 14 = some 4 := by decide +kernel
theorem ex_no : fitV (runs (bitAt ex) (firstV ex 16)) 12 0 = none := by decide +kernel
theorem ex_count : cnt (bitAt ex) (firstV ex 16) = 4 := by decide +kernel
theorem ex_free : runs (bitAt ex) (firstV ex 5) = [(1, 1), (4, 1)] := by decide +kernel
theorem ex_has : hasV ex 2 = true ∧ hasV ex 1 = false := by decide +kernel
theorem ex_with : withV ex 1 true = ⟨#[15, 128]⟩ := text_ext _ _ (by decide +kernel) (fun m => by
  rw [show withV ex 1 true = withS ex (1 : Nat) true from withV_yes (s := ex) (k := 1) (by decide)]
  rw [byte_with ex 1 true (by decide)]
  match m with
  | 0 => decide +kernel
  | 1 => decide +kernel
  | m + 2 => rfl)

theorem block_kept {w w' : World} {b : Nat} {o : Obj} (h : w.heap[b]? = some o) (hb : Below w.heap.size w w') : w'.heap[b]? = some o := (hb.block b (lt_of_block h)).trans h
theorem block_past {w : World} {b : Nat} {o p : Obj} (h : w.heap[b]? = some o) : (w.alloc p).heap[b]? = some o := (heap_alloc_old _ _ (lt_of_block h)).trans h

theorem bnext {w a b : World} (h : Below w.heap.size w a) (h2 : Below a.heap.size a b) : Below w.heap.size w b := h.trans (h2.mono h.size)
theorem balloc {w a : World} (h : Below w.heap.size w a) (o : Obj) : Below w.heap.size w (a.alloc o) := h.alloc h.size o

set_option maxHeartbeats 4000000 in
theorem alive_any (w : World) : Calls Try.prog 14 #[] w fun e w' => e = .returned (.bool true) ∧ Below w.heap.size w w' := by
  have hs : ex.size ≤ 2000 := by decide
  have C1 := ffirst_any ex hs 16 15 (by decide)
  rw [ex_first] at C1
  have C2 := fit_any ex hs 16 2 14 (by decide)
  rw [ex_fit] at C2
  have C3 := fit_any ex hs 16 12 0 (by decide)
  rw [ex_no] at C3
  have C4 := has_any ex hs 2
  rw [ex_has.1] at C4
  have C5 := has_any ex hs 1
  rw [ex_has.2] at C5
  have C6 := count_any ex hs 16
  rw [ex_count] at C6
  have C7 := free_any ex hs 5
  rw [ex_free] at C7
  have C8 := with_any ex hs 1 true
  rw [ex_with] at C8
  have C1 := Lib.hid C1
  have C2 := Lib.hid C2
  have C3 := Lib.hid C3
  have C4 := Lib.hid C4
  have C5 := Lib.hid C5
  have C6 := Lib.hid C6
  have C7 := Lib.hid C7
  have C8 := Lib.hid C8
  clear hs
  go_enter Try.func14, Try.ntmps14
  go_wp2_with fail
  refine (C1.out _).mono ?_; rintro e w1 ⟨rfl, b1⟩
  go_wp2_with fail
  refine (C2.out _).mono ?_; rintro e w2 ⟨rfl, b2⟩
  unfold fitRes fitLen
  go_wp2_with fail
  refine (C3.out _).mono ?_; rintro e w3 ⟨rfl, b3⟩
  unfold fitRes fitLen
  go_wp2_with fail
  refine (C4.out _).mono ?_; rintro e w' ⟨rfl, rfl⟩
  go_wp2_with fail
  refine (C5.out _).mono ?_; rintro e w' ⟨rfl, rfl⟩
  go_wp2_with fail
  refine (C6.out _).mono ?_; rintro e w' ⟨rfl, rfl⟩
  go_wp2_with fail
  refine (C7.out _).mono ?_; rintro e w4 ⟨v, rfl, hr, b4⟩
  obtain ⟨ad, cap, rfl, had⟩ := shape_of hr
  go_wp2_with fail
  have hlit : RunsAt 0 (.slice (some ⟨w4.heap.size, 0, none⟩) 2 2) [(1, 1), (4, 1)] (w4.alloc (.cells #[.int .i64 1, .int .i64 1, .int .i64 4, .int .i64 1] 31)) :=
    World.ownsRow_lit (e := 31) (size := 2) (base := 0) w4 #[.int .i64 1, .int .i64 1, .int .i64 4, .int .i64 1] 2 (Nat.zero_le _) (by unfold maxLen; omega) rfl
  have C9 := same_any _ _ _ _ [(1, 1), (4, 1)] [(1, 1), (4, 1)] (by decide) (by decide) _ (hr.alloc (.cells #[.int .i64 1, .int .i64 1, .int .i64 4, .int .i64 1] 31)) hlit
  rw [show decide ([((1 : Nat), (1 : Nat)), (4, 1)] = [(1, 1), (4, 1)]) = true from by decide] at C9
  refine C9.mono ?_; rintro e w5 ⟨rfl, b5⟩
  have hx := block_kept (block_past (p := .cells #[.int .i64 1, .int .i64 1, .int .i64 4, .int .i64 1] 31) (block_kept (block_past (p := .cells #[.int .i64 0, .int .i64 0] 31) (block_kept (heap_alloc_new w2 (.cells #[.int .i64 4, .int .i64 2] 31)) b3)) b4)) b5
  obtain ⟨c1, c2, _, _⟩ := cell_two hx
  have rh := run_held
  have hb := bnext (balloc (bnext (balloc (bnext (balloc (bnext b1 b2) _) b3) _) b4) _) b5
  clear C9 hlit hr had b1 b2 b3 b4 b5
  go_wp2_with fail
  refine (C8.out _).mono ?_; rintro e w6 ⟨rfl, b6⟩
  go_wp2
  go_ret
  exact ⟨rfl, bnext hb b6⟩
end Go.Proofs.Ytddbceecamenhaa
