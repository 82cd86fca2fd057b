/- The document's put and Encode. -/
import Derived.Test.YtfgjogaoogiddaaKMay
import Derived.Test.YtfgjogaoogiddaaKEnc
namespace Go.Proofs.Ytfgjogaoogiddaa
set_option linter.unusedVariables false
open Go.RowKit

theorem kz_info : (Try.prog.info? 5).map (fun i => (i.zero, i.size, i.bytes)) = some (some (.int .u8 0), 1, 1) := by kernel_rfl
theorem kz_made (n : Nat) (hn : n ≤ 4096) (w : World) :
    (Instr.makeSlice 52 (.int .i64 n) (.int .i64 n)).run Try.prog w = .ok (.slice (some ⟨w.heap.size, 0, none⟩) n n) (w.alloc (.cells (madeCells #[.int .u8 0] n) 5)) := by
  obtain ⟨i, hi, hz, hs, hb⟩ := info_parts kz_info
  have h := run_make (P := Try.prog) w 52 5 i (.int .u8 0) Try.underlying52 hi hz .i64 .i64 n n (by omega) (Int.le_refl _) (by rw [hb]; omega) (by omega)
  simpa [hs, Value.cells] using h
theorem kz_cell (z : Value) (n j : Nat) (h : j < n) : (madeCells #[z] n)[j]? = some z := by
  have e : (madeCells #[z] n)[j]? = (madeCells #[z] n).toList[j]? := by simp
  rw [e, toList_madeCells_one]; simp [h]
theorem kz_back (w : World) (n : Nat) :
    (convert 52 9 (.slice (some ⟨w.heap.size, 0, none⟩) n n)).run Try.prog (w.alloc (.cells (madeCells #[.int .u8 0] n) 5)) = .ok (.string (bs (zeroL n))) (w.alloc (.cells (madeCells #[.int .u8 0] n) 5)) := by
  have h := run_convert_bytes_back (P := Try.prog) (w.alloc (.cells (madeCells #[.int .u8 0] n) 5)) 52 9 5 ⟨w.heap.size, 0, none⟩ n (zeroL n) Try.underlying52 Try.underlying5 Try.underlying9 fun j hj => by
    have hj : j < n := by rw [zeroL_length] at hj; exact hj
    rw [add_at, Nat.zero_add, World.cell?_alloc_mark, kz_cell _ _ _ hj]
    have e : (zeroL n)[j]'(by rw [zeroL_length]; exact hj) = 0 := by unfold zeroL; exact List.getElem_replicate _
    rw [e]; rfl
  rw [zeroL_length] at h
  exact h

set_option maxHeartbeats 2000000 in
theorem rput_at (a : List UInt8) (ha : a.length ≤ 4096) (k n : Nat) (hk : k = 1 ∨ k = 2 ∨ k = 4 ∨ k = 8) (hn : n < 256 ^ k) (w : World) :
    Calls Try.prog 27 #[.string (bs a), .int .i64 (k : Int), .int .u64 (n : Int)] w fun e w' => e = .returned (.string (bs (a ++ leB k n))) ∧ Below w.heap.size w w' := by
  have hn64 : n < 18446744073709551616 := by
    have h3 : (256 : Nat) ^ k ≤ 256 ^ 8 := Nat.pow_le_pow_right (by decide) (by omega)
    have h4 : (256 : Nat) ^ 8 = 18446744073709551616 := by decide
    omega
  have hm := kz_made k (by omega) w
  have hc := kz_back w k
  have hb0 := balloc1 w (.cells (madeCells #[.int .u8 0] k) 5)
  have P := fun w => rput_any (bs (zeroL k)) (by rw [bs_size, zeroL_length]; unfold maxLen; omega) 0 (k : Int) n hn64 w
  rw [show putV (bs (zeroL k)) 0 (k : Int) n = bs (leB k n) from put_zero k n hk hn] at P
  have P := Lib.hid P
  have s1 : (bs a).size = a.length := bs_size a
  have s2 : (bs (leB k n)).size = k := by rw [bs_size, leB_length]
  have HE := Lib.hid (bs_append a (leB k n))
  have hk8 : k ≤ 8 := by omega
  generalize putOk (bs (zeroL k)).size 0 (k : Int) n = ok at *
  generalize bs (leB k n) = S at *
  generalize bs (zeroL k) = Z at *
  generalize w.alloc (.cells (madeCells #[.int .u8 0] k) 5) = w0 at *
  clear hk hn
  go_enter Try.func27, Try.ntmps27
  go_wp2_with fail
  refine (P.out _).mono ?_; rintro e w2 ⟨rfl, hb2⟩
  have hbb := bnext hb0 hb2
  go_wp2
  go_ret
  exact ⟨congrArg (fun x => Ending.returned (.string x)) HE.out, hbb⟩

set_option maxHeartbeats 4000000 in
theorem renc_no (r : Rec) (h : ¬ RecOk r) (f : Fits r) (vh vm : Value) (w : World) (hr : RecIn r vh vm w) :
    Calls Try.prog 11 #[recV r vh vm] w fun e w' => e = badRet ∧ Below w.heap.size w w' := by
  have gh : Try.prog.stoodInHeld 27 = false := by kernel_rfl
  have hb0 := balloc1 w (.cells (recC r vh vm) 27)
  have V := may_any r f vh vm _ (hr.kept hb0)
  rw [decide_eq_false h] at V
  have V := Lib.hid V
  obtain ⟨kind, seq, pos, homes, masked, sum⟩ := r
  clear h f hr
  go_enter Try.func11, Try.ntmps11
  go_wp2_with fail
  refine V.out.mono ?_; rintro e w1 ⟨rfl, hb⟩
  have hbb := below_boxed hb
  go_wp2
  go_ret2
  exact ⟨rfl, hbb⟩
end Go.Proofs.Ytfgjogaoogiddaa
