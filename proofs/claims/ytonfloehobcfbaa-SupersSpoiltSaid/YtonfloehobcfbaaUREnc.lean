/- The document's Encode. -/
import Derived.Test.YtonfloehobcfbaaUEnc
namespace Go.Proofs.Ytonfloehobcfbaa
set_option linter.unusedVariables false
open Go.RowKit

def headL (s : Sup) (i : Nat) : List UInt8 := supHead ++ numsB ((fld s).take i)
def headS (s : Sup) (i : Nat) : ByteArray := bs (headL s i)
theorem head_size (s : Sup) {i : Nat} (hi : i ≤ 10) : (headS s i).size = 8 + 4 * i := by
  unfold headS headL
  rw [bs_size, List.length_append, take_length s hi]; rfl
theorem head_zero (s : Sup) : (⟨#[103, 108, 105, 115, 115, 97, 100, 101]⟩ : ByteArray) = headS s 0 := rfl
theorem head_more (s : Sup) {i : Nat} (hi : i < 10) : headS s i ++ bs (leB 4 (fldAt s i).toNat) = headS s (i + 1) := by
  unfold headS
  rw [bs_append]
  unfold headL
  rw [take_snoc s hi]; simp
theorem head_end (s : Sup) : headS s 10 ++ bs (zeroL 80) = sup s := by
  unfold headS; rw [bs_append]
  unfold headL sup supL supTail zeroL
  rw [List.append_assoc]; rfl
theorem int_at {B : Nat} {s : Sup} {w : World} (h : Blk B (supC s) 3 w) (j : Nat) (hj : j < 10) : w.cell? ⟨B, j, none⟩ = some (.int .i64 (fldAt s j)) := by
  rw [h.cell j]
  match j, hj with
  | 0, _ => rfl | 1, _ => rfl | 2, _ => rfl | 3, _ => rfl | 4, _ => rfl | 5, _ => rfl | 6, _ => rfl | 7, _ => rfl | 8, _ => rfl | 9, _ => rfl
theorem rnum_any (n : Int) (h0 : 0 ≤ n) (h1 : n ≤ 4096) (w : World) :
    Calls Try.prog 24 #[.string ⟨#[0, 0, 0, 0]⟩, .int .i64 0, .int .i64 4, .int .i64 n] w fun e w' => e = .returned (.tuple #[.string (bs (leB 4 n.toNat)), .bool (putIntOk 4 0 4 n)]) ∧ Below w.heap.size w w' := by
  have := rputInt_any (bs (zeroL 4)) (by rw [bs_size, zeroL_length]; unfold maxLen; omega) 0 4 n (by omega) w
  have e : putIntV (bs (zeroL 4)) 0 4 n = bs (leB 4 n.toNat) := by
    unfold putIntV
    rw [if_pos h0]
    exact put_zero 4 n.toNat (by omega) (by omega)
  rw [e, bs_size, zeroL_length] at this
  exact this
theorem urenc_no (s : Sup) (h : ¬ SupOk s) (w : World) :
    Calls Try.prog 11 #[supV s] w fun e w' => e = supBad ∧ Below w.heap.size w w' := by
  have C := fun w => rcheck_any s w
  rw [decide_eq_false h] at C
  have C := Lib.hid C
  have hB0 := balloc1 w (.cells (supC s) 23)
  clear h
  go_enter Try.func11, Try.ntmps11
  go_wp2_with fail
  refine (C.out _).mono ?_; rintro e w1 ⟨rfl, b1⟩
  go_wp2
  go_ret2
  exact ⟨rfl, bnext hB0 b1⟩
set_option maxRecDepth 100000 in
set_option maxHeartbeats 4000000 in
theorem urenc_yes (s : Sup) (h : SupOk s) (w : World) :
    Calls Try.prog 11 #[supV s] w fun e w' => e = supRet (sup s) ∧ Below w.heap.size w w' := by
  have C := fun w => rcheck_any s w
  rw [decide_eq_true h] at C
  have C := Lib.hid C
  have HN : Hid (∀ j, j < 10 → ∀ w, Calls Try.prog 24 #[.string ⟨#[0, 0, 0, 0]⟩, .int .i64 0, .int .i64 4, .int .i64 (fldAt s j)] w fun e w' => e = .returned (.tuple #[.string (bs (leB 4 (fldAt s j).toNat)), .bool (putIntOk 4 0 4 (fldAt s j))]) ∧ Below w.heap.size w w') := Lib.hid fun j hj w =>
    rnum_any _ (ok_at h j hj).1 (ok_at h j hj).2 w
  have HM := Lib.hid (fun j (hj : j < 10) => head_more s (i := j) hj)
  have HZ := Lib.hid (fun j (hj : j ≤ 10) => head_size s (i := j) hj)
  have H0 := Lib.hid (head_zero s)
  have HE := Lib.hid (head_end s)
  have z80 : (bs (zeroL 80)).size = 80 := by rw [bs_size, zeroL_length]
  have hS0 : SupAt w.heap.size s (w.alloc (.cells (supC s) 23)) := Blk.new _ _ _
  have hB0 := balloc1 w (.cells (supC s) 23)
  rw [← HE.out]
  generalize headS s = PS at *
  clear h
  go_enter Try.func11, Try.ntmps11
  go_wp2_with fail
  refine (C.out _).mono ?_; rintro e w1 ⟨rfl, b1⟩
  have hS1 := hS0.kept1 b1
  have hB1 := bnext hB0 b1
  obtain ⟨c0, c1, c2, c3, c4, c5, c6, c7, c8, c9⟩ := SupAt.cells hS1
  have hI1 : Blk w1.heap.size (supC s) 3 (w1.alloc (.cells (supC s) 3)) := Blk.new _ _ _
  have hB2 := balloc hB1 (.cells (supC s) 3)
  clear hS0 hB0 b1 C hS1 hB1
  go_wp2
  go_loopw [4, 6] (fun bv q wr => ∃ k : Nat, q = .int .i64 k ∧ bv = .string (PS k) ∧ k ≤ 10 ∧ Blk w1.heap.size (supC s) 3 wr ∧ Below w.heap.size w wr) (fun _ q _ => 10 - (intOf q).toNat)
  case atStart => exact ⟨0, rfl, congrArg Value.string H0.out, by omega, hI1, hB2⟩
  case round =>
    clear hI1 hB2 c0 c1 c2 c3 c4 c5 c6 c7 c8 c9
    obtain ⟨k, rfl, rfl, hk, hI, hB⟩ := hrel
    by_cases hlt : k < 10
    · have q1 := int_at hI k hlt
      have z1 := HZ.out k hk
      have z2 : (bs (leB 4 (fldAt s k).toNat)).size = 4 := by rw [bs_size, leB_length]
      go_wp2_with fail
      refine (HN.out k hlt _).mono ?_; rintro e w2 ⟨rfl, b2⟩
      have hI2 := hI.kept1 b2
      have hB2 := bnext hB b2
      have m1 := HM.out k hlt
      clear hI hB b2 q1
      go_wp2
      exact ⟨⟨k + 1, by go_num, rfl, by omega, hI2, hB2⟩, by simp [intOf]; omega⟩
    · obtain rfl : k = 10 := by omega
      have z1 := HZ.out 10 (by omega)
      have hm : (Instr.makeSlice 53 (.int .i64 80) (.int .i64 80)).run Try.prog wr = .ok (.slice (some ⟨wr.heap.size, 0, none⟩) 80 80) (wr.alloc (.cells (madeCells #[.int .u8 0] 80) 5)) := kz_made 80 (by omega) wr
      have hbk := kz_back wr 80
      have hB2 := balloc hB (.cells (madeCells #[.int .u8 0] 80) 5)
      generalize (wr.alloc (.cells (madeCells #[.int .u8 0] 80) 5)) = w2 at *
      clear hI
      go_wp2
      go_ret2
      exact ⟨rfl, hB2⟩
end Go.Proofs.Ytonfloehobcfbaa
