/- Repeat of a zero byte; number, flag, fields. -/
import Derived.Test.YtonfloehobcfbaaKValid
import Derived.Test.YtonfloehobcfbaaKShelf
namespace Go.Proofs
open Go.Shelf
theorem Try.repeatX : Builder.Extra Try.prog Try.repeatS_ren where
  sizeBuilder := by kernel_rfl
  liesBuilder := by kernel_rfl
  t5 := Try.repeatS.t5
  a5 := Try.repeatS.a5
  z5 := Try.repeatS.z5
  v5 := Try.repeatS.v5
  infoByte := by kernel_rfl
  cellsByte := by kernel_rfl
  sizeByte := by kernel_rfl
  neB5 := by decide
end Go.Proofs
namespace Go.Proofs.Ytonfloehobcfbaa
set_option linter.unusedVariables false
open Go.RowKit

def zeroL (n : Nat) : List UInt8 := List.replicate n 0
theorem zeroL_length (n : Nat) : (zeroL n).length = n := by unfold zeroL; simp
theorem repeatL_zero (n : Nat) : Lib.repeatL [0] n = zeroL n := by
  have := Lib.repeatL_replicate (0 : UInt8) 1 n
  rw [Nat.mul_one] at this
  exact this
theorem repeat_any (n : Nat) (hn : n ≤ 4096) (w : World) :
    Calls Try.prog 20 #[.string ⟨#[0]⟩, .int .i64 (n : Int)] w fun e w' => e = .returned (.string (bs (zeroL n))) ∧ Below w.heap.size w w' := by
  have h := Any.strings_Repeat Try.repeatS Try.repeatX ⟨#[0]⟩ n w (by omega) (by show 1 * n ≤ _; omega)
  rw [show Try.repeatS_ren.f 105 = 20 by kernel_rfl] at h
  refine h.mono fun e w' ⟨he, hw⟩ => ⟨?_, hw⟩
  rw [he, ← repeatL_zero]; rfl

theorem put_zero (k n : Nat) (hk : k = 1 ∨ k = 2 ∨ k = 4 ∨ k = 8) (hn : n < 256 ^ k) : putV (bs (zeroL k)) ((0 : Nat) : Int) (k : Int) n = bs (leB k n) := by
  have hs : (bs (zeroL k)).size = k := by rw [bs_size, zeroL_length]
  rw [putV_yes (by unfold putOk fieldOk; rw [hs]; simp; exact ⟨by omega, hn⟩)]
  unfold putS putL
  rw [bs_list]
  unfold bs
  congr 2
  rw [List.drop_eq_nil_of_le (by rw [zeroL_length]; omega)]; simp
set_option maxHeartbeats 2000000 in
theorem number_any (k n : Nat) (hk : k = 1 ∨ k = 2 ∨ k = 4 ∨ k = 8) (hn : n < 256 ^ k) (w : World) :
    Calls Try.prog 49 #[.int .i64 (k : Int), .int .u64 (n : Int)] w fun e w' => e = .returned (.string (bs (leB k n))) ∧ Below w.heap.size w w' := by
  have hn64 : n < 18446744073709551616 := by
    have h3 : (256 : Nat) ^ k ≤ 256 ^ 8 := Nat.pow_le_pow_right (by decide) (by omega)
    have h4 : (256 : Nat) ^ 8 = 18446744073709551616 := by decide
    omega
  have R := Lib.hid (fun w => repeat_any k (by omega) w)
  have P := fun w => put_any (bs (zeroL k)) (by rw [bs_size, zeroL_length]; unfold maxLen; omega) 0 (k : Int) n hn64 w
  rw [show putV (bs (zeroL k)) 0 (k : Int) n = bs (leB k n) from put_zero k n hk hn] at P
  have P := Lib.hid P
  generalize putOk (bs (zeroL k)).size 0 (k : Int) n = ok at *
  generalize bs (leB k n) = S at *
  generalize bs (zeroL k) = Z at *
  clear hk hn
  go_enter Try.func49, Try.ntmps49
  go_wp2_with fail
  refine (R.out _).mono ?_; rintro e w1 ⟨rfl, hb⟩
  go_wp2_with fail
  refine (P.out _).mono ?_; rintro e w2 ⟨rfl, hb2⟩
  have hbb := bnext hb hb2
  go_wp2
  go_ret
  exact ⟨rfl, hbb⟩
theorem flag_one (b : Bool) : bs (leB 1 (if b then 1 else 0)) = bs [flagB b] := by cases b <;> rfl
theorem flag_any (b : Bool) (w : World) :
    Calls Try.prog 62 #[.bool b] w fun e w' => e = .returned (.string (bs [flagB b])) ∧ Below w.heap.size w w' := by
  cases b
  · have N := number_any 1 0 (by omega) (by decide) w
    rw [show bs (leB 1 0) = bs [flagB false] from rfl] at N
    have N := Lib.hid N
    go_enter Try.func62, Try.ntmps62
    go_wp2_with fail
    refine N.out.mono ?_; rintro e w1 ⟨rfl, hb⟩
    go_wp2
    go_ret
    exact ⟨rfl, hb⟩
  · have N := number_any 1 1 (by omega) (by decide) w
    rw [show bs (leB 1 1) = bs [flagB true] from rfl] at N
    have N := Lib.hid N
    go_enter Try.func62, Try.ntmps62
    go_wp2_with fail
    refine N.out.mono ?_; rintro e w1 ⟨rfl, hb⟩
    go_wp2
    go_ret
    exact ⟨rfl, hb⟩
end Go.Proofs.Ytonfloehobcfbaa
