/- Repeat of a zero byte; a number put into zero bytes. -/
import Derived.Test.YtogdogadejjmeaaBase
import Derived.Test.YtogdogadejjmeaaKMath
import Derived.Test.YtogdogadejjmeaaWPut
import Derived.Test.YtogdogadejjmeaaKShelf
namespace Go.Proofs
open Go.Shelf
theorem Try.repeatX : Builder.Extra Try.prog Try.repeatS_ren where
  sizeBuilder := by kernel_rfl
  liesBuilder := by kernel_rfl
  t5 := Try.repeatS.t5
  a5 := Try.repeatS.a5
  z5 := Try.repeatS.z5
  v5 := Try.repeatS.v5
  infoByte := by kernel_rfl
  cellsByte := by kernel_rfl
  sizeByte := by kernel_rfl
  neB5 := by decide
end Go.Proofs
namespace Go.Proofs.Ytogdogadejjmeaa
set_option linter.unusedVariables false
open Go.RowKit

def zeroL (n : Nat) : List UInt8 := List.replicate n 0
theorem zeroL_length (n : Nat) : (zeroL n).length = n := by unfold zeroL; simp
theorem repeatL_zero (n : Nat) : Lib.repeatL [0] n = zeroL n := by
  have := Lib.repeatL_replicate (0 : UInt8) 1 n
  rw [Nat.mul_one] at this
  exact this
theorem repeat_any (n : Nat) (hn : n ≤ 4096) (w : World) :
    Calls Try.prog 26 #[.string ⟨#[0]⟩, .int .i64 (n : Int)] w fun e w' => e = .returned (.string (bs (zeroL n))) ∧ Below w.heap.size w w' := by
  have h := Any.strings_Repeat Try.repeatS Try.repeatX ⟨#[0]⟩ n w (by omega) (by show 1 * n ≤ _; omega)
  rw [show Try.repeatS_ren.f 105 = 26 by kernel_rfl] at h
  refine h.mono fun e w' ⟨he, hw⟩ => ⟨?_, hw⟩
  rw [he, ← repeatL_zero]; rfl

theorem put_zero (k n : Nat) (hk : k = 1 ∨ k = 2 ∨ k = 4 ∨ k = 8) (hn : n < 256 ^ k) : putV (bs (zeroL k)) ((0 : Nat) : Int) (k : Int) n = bs (leB k n) := by
  have hs : (bs (zeroL k)).size = k := by rw [bs_size, zeroL_length]
  rw [putV_yes (by unfold putOk fieldOk; rw [hs]; simp; exact ⟨by omega, hn⟩)]
  unfold putS putL
  rw [bs_list]
  unfold bs
  congr 2
  rw [List.drop_eq_nil_of_le (by rw [zeroL_length]; omega)]; simp
end Go.Proofs.Ytogdogadejjmeaa
