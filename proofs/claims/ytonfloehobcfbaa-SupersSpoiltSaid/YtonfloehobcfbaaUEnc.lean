/- Encode. -/
import Derived.Test.YtonfloehobcfbaaUNums
import Derived.Test.YtonfloehobcfbaaWPutI
import Derived.Test.YtonfloehobcfbaaKZero
namespace Go.Proofs.Ytonfloehobcfbaa
set_option linter.unusedVariables false
open Go.RowKit

theorem ptr_at {B g : Nat} {w : World} (h : Blk B (ptrC g) 59 w) (j : Nat) (hj : j < 10) : w.cell? ⟨B, j, none⟩ = some (.pointer (some ⟨g, j, none⟩)) := by
  rw [h.cell j]
  match j, hj with
  | 0, _ => rfl | 1, _ => rfl | 2, _ => rfl | 3, _ => rfl | 4, _ => rfl | 5, _ => rfl | 6, _ => rfl | 7, _ => rfl | 8, _ => rfl | 9, _ => rfl
/-- the block, its first i numbers put -/
def partL (s : Sup) (i : Nat) : List UInt8 := supHead ++ (numsB ((fld s).take i) ++ zeroL (120 - 4 * i))
def partS (s : Sup) (i : Nat) : ByteArray := bs (partL s i)
theorem take_length (s : Sup) {i : Nat} (hi : i ≤ 10) : (numsB ((fld s).take i)).length = 4 * i := by
  rw [numsB_length, List.length_take, fld_length, Nat.min_eq_left hi]
theorem partL_length (s : Sup) {i : Nat} (hi : i ≤ 10) : (partL s i).length = 128 := by
  unfold partL
  rw [List.length_append, List.length_append, take_length s hi, zeroL_length]
  have : supHead.length = 8 := rfl
  omega
theorem part_size (s : Sup) {i : Nat} (hi : i ≤ 10) : (partS s i).size = 128 := by unfold partS; rw [bs_size, partL_length s hi]
theorem part_zero (s : Sup) : (⟨#[103, 108, 105, 115, 115, 97, 100, 101]⟩ : ByteArray) ++ bs (zeroL 120) = partS s 0 := bs_append supHead (zeroL 120)
theorem part_end (s : Sup) : partS s 10 = sup s := rfl
theorem take_snoc (s : Sup) {i : Nat} (hi : i < 10) : numsB ((fld s).take (i + 1)) = numsB ((fld s).take i) ++ leB 4 (fldAt s i).toNat := by
  have hl : i < (fld s).length := by rw [fld_length]; exact hi
  rw [List.take_succ_eq_append_getElem hl, numsB_snoc]
  congr 3
  unfold fldAt; rw [List.getElem?_eq_getElem hl]; rfl
theorem part_put {s : Sup} (h : SupOk s) {i : Nat} (hi : i < 10) : putIntV (partS s i) (8 + 4 * (i : Int)) 4 (fldAt s i) = partS s (i + 1) := by
  have hf := ok_at h i hi
  have h128 := partL_length s (show i ≤ 10 by omega)
  unfold putIntV
  rw [if_pos hf.1]
  have e : (8 + 4 * (i : Int)) = ((8 + 4 * i : Nat) : Int) := by omega
  have e4 : (4 : Int) = ((4 : Nat) : Int) := rfl
  rw [e, e4, putV_yes (by unfold putOk fieldOk; rw [part_size s (by omega)]; simp; omega)]
  unfold putS putL partS
  rw [bs_list]
  unfold bs
  congr 2
  have e1 : partL s i = (supHead ++ numsB ((fld s).take i)) ++ zeroL (120 - 4 * i) := by unfold partL; simp
  have e2 := pre_length s i hi
  rw [e1, List.take_left' e2, show 8 + 4 * i + 4 = (supHead ++ numsB ((fld s).take i)).length + 4 by rw [e2], List.drop_append]
  unfold partL
  rw [take_snoc s hi]
  have e3 : (zeroL (120 - 4 * i)).drop 4 = zeroL (120 - 4 * (i + 1)) := by unfold zeroL; rw [List.drop_replicate]; congr 1
  rw [List.drop_of_length_le (by omega), Nat.add_sub_cancel_left, e3]
  simp
abbrev supRet (b : ByteArray) : Ending := .returned (.tuple #[.string b, .int .i64 0])
abbrev supBad : Ending := .returned (.tuple #[.string ⟨#[]⟩, .int .i64 2])
theorem uenc_no (s : Sup) (h : ¬ SupOk s) (w : World) :
    Calls Try.prog 10 #[supV s] w fun e w' => e = supBad ∧ Below w.heap.size w w' := by
  have C := fun w => check_any s w
  rw [decide_eq_false h] at C
  have C := Lib.hid C
  have hB0 := balloc1 w (.cells (supC s) 23)
  clear h
  go_enter Try.func10, Try.ntmps10
  go_wp2_with fail
  refine (C.out _).mono ?_; rintro e w1 ⟨rfl, b1⟩
  go_wp2
  go_ret2
  exact ⟨rfl, bnext hB0 b1⟩
set_option maxRecDepth 100000 in
set_option maxHeartbeats 4000000 in
theorem uenc_yes (s : Sup) (h : SupOk s) (w : World) :
    Calls Try.prog 10 #[supV s] w fun e w' => e = supRet (sup s) ∧ Below w.heap.size w w' := by
  have mixed : Try.prog.follows .mixedOrders = true := by kernel_rfl
  have C := fun w => check_any s w
  rw [decide_eq_true h] at C
  have C := Lib.hid C
  have RP := Lib.hid (fun w => repeat_any 120 (by omega) w)
  have z0 : (bs (zeroL 120)).size = 120 := by rw [bs_size, zeroL_length]
  have HZ := Lib.hid (part_zero s)
  obtain ⟨F, hF⟩ : ∃ F : Nat → Bool, ∀ j, F j = putIntOk (partS s j).size (8 + 4 * (j : Int)) 4 (fldAt s j) := ⟨_, fun _ => rfl⟩
  have HP : Hid (∀ j, j < 10 → ∀ w, Calls Try.prog 22 #[.string (partS s j), .int .i64 (8 + 4 * (j : Int)), .int .i64 4, .int .i64 (fldAt s j)] w fun e w' => e = .returned (.tuple #[.string (partS s (j + 1)), .bool (F j)]) ∧ Below w.heap.size w w') := Lib.hid fun j hj w => by
    have := putInt_any (partS s j) (by rw [part_size s (by omega)]; unfold maxLen; omega) (8 + 4 * (j : Int)) 4 (fldAt s j) (by have := ok_at h j hj; omega) w
    rw [part_put h hj, ← hF] at this; exact this
  have NA := Lib.hid fun (j : Nat) (hj : j < 10) w => (numberAt_any j (by omega) w).mono fun e w' ⟨he, hw⟩ => (⟨he, hw ▸ Below.refl _ _⟩ : e = Ending.returned (.int .i64 (8 + 4 * (j : Int))) ∧ Below w.heap.size w w')
  have hS0 : SupAt w.heap.size s (w.alloc (.cells (supC s) 23)) := Blk.new _ _ _
  have hB0 := balloc1 w (.cells (supC s) 23)
  rw [← part_end s]
  generalize partS s = PS at *
  clear h hF
  go_enter Try.func10, Try.ntmps10
  go_wp2_with fail
  refine (C.out _).mono ?_; rintro e w1 ⟨rfl, b1⟩
  have hS1 := hS0.kept1 b1
  have hB1 := bnext hB0 b1
  clear hS0 hB0 b1 C
  go_wp2_with fail
  refine (RP.out _).mono ?_; rintro e w2 ⟨rfl, b2⟩
  have hS2 := hS1.kept1 b2
  have hB2 := bnext hB1 b2
  clear hS1 hB1 b2 RP
  go_wp2_with fail
  refine (numbers_any w.heap.size w2 hS2.lt).mono ?_; rintro e w3 ⟨B, rfl, hBB, hP3, b3⟩
  have hS3 := hS2.kept1 b3
  have hB3 := bnext hB2 b3
  rw [HZ.out]
  clear hS2 hB2 b3 hBB z0
  go_wp2
  go_loopw [4, 14] (fun bv q wr => ∃ k : Nat, q = .int .i64 k ∧ bv = .string (PS k) ∧ k ≤ 10 ∧ SupAt w.heap.size s wr ∧ Blk B (ptrC w.heap.size) 59 wr ∧ Below w.heap.size w wr) (fun _ q _ => 10 - (intOf q).toNat)
  case atStart => exact ⟨0, rfl, rfl, by omega, hS3, hP3, hB3⟩
  case round =>
    clear hS3 hP3 hB3
    obtain ⟨k, rfl, rfl, hk, hS, hP, hB⟩ := hrel
    by_cases hlt : k < 10
    · have q1 := ptr_at hP k hlt
      have HC : ∀ p : BelowP wr, p.to.cell? ⟨w.heap.size, k, none⟩ = some (.int .i64 (fldAt s k)) := fun p => SupAt.at (hS.kept1 p.h) k hlt
      have HSH := Lib.hid hS
      have HPH := Lib.hid hP
      clear hS hP
      go_wp2
      refine wp_region_quiet_below mixed (by kernel_rfl) ?_
      repeat (go_big_quiet_step (first | (go_at_call 23; refine calls_below (NA.out k hlt _)) | (go_at_call 22; refine calls_below (HP.out k hlt _))))
      refine wpQuiet_nil ?_
      intro w0q hw'
      obtain ⟨⟨wq, bq⟩, hw''⟩ := hw'
      have hw2 : wq = w0q := hw''.symm
      clear hw''
      subst hw2
      have hS2 := HSH.out.kept1 bq
      have hP2 := HPH.out.kept1 bq
      have hB2 := bnext hB bq
      clear HSH HPH hB bq HC q1
      go_wp2
      exact ⟨⟨k + 1, by go_num, rfl, by omega, hS2, hP2, hB2⟩, by simp [intOf]; omega⟩
    · obtain rfl : k = 10 := by omega
      go_wp2
      go_ret2
      exact ⟨rfl, hB⟩
end Go.Proofs.Ytonfloehobcfbaa
