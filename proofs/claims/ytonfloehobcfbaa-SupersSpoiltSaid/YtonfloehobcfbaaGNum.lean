/- The numbers of a layout: no program is named here. -/
import Derived.Test.YtonfloehobcfbaaBase
namespace Go.Proofs.Ytonfloehobcfbaa
set_option linter.unusedVariables false
/-- P5.1: a layout's three numbers, and how many blocks the bitmap and the inodes have -/
def okN (b l i m t : Nat) : Prop := 256 ≤ b ∧ b ≤ 4096 ∧ 128 ≤ l ∧ l ≤ 512 ∧ 8 ≤ i ∧ i ≤ 512 ∧ i = 2 * t ∧ b ≤ m * 1024 ∧ m * 1024 < b + 1024 ∧ 17 + l + m + t ≤ b
/-- the same without the room for data -/
def fitN (b l i m t : Nat) : Prop := 256 ≤ b ∧ b ≤ 4096 ∧ 128 ≤ l ∧ l ≤ 512 ∧ 8 ≤ i ∧ i ≤ 512 ∧ i = 2 * t ∧ b ≤ m * 1024 ∧ m * 1024 < b + 1024
def okG (b l i : Int) : Prop := 256 ≤ b ∧ b ≤ 4096 ∧ 128 ≤ l ∧ l ≤ 512 ∧ 8 ≤ i ∧ i ≤ 512 ∧ i % 2 = 0 ∧ 17 + l + (b + 1023) / 1024 + i / 2 ≤ b
instance (b l i : Int) : Decidable (okG b l i) := by unfold okG; infer_instance
theorem okG_yes {b l i : Int} (h : okG b l i) : ∃ b' l' i' m t : Nat, b = b' ∧ l = l' ∧ i = i' ∧ okN b' l' i' m t := by
  obtain ⟨h1, h2, h3, h4, h5, h6, h7, h8⟩ := h
  refine ⟨b.toNat, l.toNat, i.toNat, ((b + 1023) / 1024).toNat, (i / 2).toNat, by omega, by omega, by omega, ?_⟩
  unfold okN; omega
theorem okG_of {b l i m t : Nat} (h : okN b l i m t) : okG b l i := by
  unfold okN at h; unfold okG; omega
end Go.Proofs.Ytonfloehobcfbaa
