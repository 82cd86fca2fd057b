/- Has. -/
import Derived.Test.YtgcbfiecgiijkaaRSort
namespace Go.Proofs.Ytgcbfiecgiijkaa
set_option linter.unusedVariables false
open Go.RowKit Go.Shelf

/-- runs of ints -/
abbrev R64 : Type := { r : Int × Int // I64 r.1 ∧ I64 r.2 }
instance : Inhabited R64 := ⟨⟨(0, 0), by decide⟩⟩
def enc64 (x : R64) : List Value := [.int .i64 x.1.1, .int .i64 x.1.2]
def to64 (l : List (Int × Int)) (hf : ∀ r ∈ l, I64 r.1 ∧ I64 r.2) : List R64 := l.pmap (fun r h => ⟨r, h⟩) hf
theorem to64_len (l : List (Int × Int)) (hf : ∀ r ∈ l, I64 r.1 ∧ I64 r.2) : (to64 l hf).length = l.length := by unfold to64; simp
theorem to64_at (l : List (Int × Int)) (hf : ∀ r ∈ l, I64 r.1 ∧ I64 r.2) (j : Nat) (h : j < l.length) : ((to64 l hf)[j]!).1 = l[j] := by
  rw [getElem!_pos _ j (by rw [to64_len]; exact h)]; unfold to64; simp
theorem to64_any (i : Int) : ∀ (l : List (Int × Int)) (hf : ∀ r ∈ l, I64 r.1 ∧ I64 r.2), (to64 l hf).any (fun x => decide (inR x.1 i)) = decide (elemR l i)
  | [], hf => by simp [to64, elemR]
  | r :: l, hf => by
    have ih := to64_any i l (fun q hq => hf q (List.mem_cons_of_mem _ hq))
    show (decide (inR r i) || (to64 l _).any _) = _
    rw [ih, Bool.eq_iff_iff]; simp only [Bool.or_eq_true, decide_eq_true_eq]; exact (elemR_cons _ _ _).symm

end Go.Proofs.Ytgcbfiecgiijkaa
