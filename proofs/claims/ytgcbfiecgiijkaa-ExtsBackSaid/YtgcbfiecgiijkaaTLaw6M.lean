/- The walk of ExtsBack. -/
import Derived.Test.YtgcbfiecgiijkaaTLaw5M
namespace Go.Proofs.Ytgcbfiecgiijkaa
set_option linter.unusedVariables false
set_option linter.unusedSimpArgs false
open Go.RowKit Go.Shelf

theorem tmod_bounds (k n : Int) (hn : 0 < n) : -n < k.tmod n ∧ k.tmod n < n := by
  rcases Int.le_total 0 k with h | h
  · rw [Int.tmod_eq_emod_of_nonneg h]
    have := Int.emod_nonneg k (by omega : n ≠ 0); have := Int.emod_lt_of_pos k hn; omega
  · obtain ⟨m, rfl⟩ : ∃ m, k = -m := ⟨-k, by omega⟩
    rw [Int.neg_tmod, Int.tmod_eq_emod_of_nonneg (by omega)]
    have := Int.emod_nonneg m (by omega : n ≠ 0); have := Int.emod_lt_of_pos m hn; omega
theorem tmod_nat (i k n : Nat) : ((i : Int) + (k : Int)).tmod (n : Int) = (((i + k) % n : Nat) : Int) := by
  rw [Int.tmod_eq_emod_of_nonneg (by omega), Int.natCast_emod, Int.natCast_add]
theorem back_rise {l : List Ent} (h : Rise 0 l) {k : Nat} (hk : k < l.length) : ∀ i, i ≤ l.length → Rise 0 (backX l k i)
  | 0, _ => by rw [back_zero]; trivial
  | i + 1, hi => by
    rw [← back_step h hk (by omega)]
    exact put_rise (back_rise h hk i (by omega)) (rise_at h (Nat.mod_lt _ (by omega)))
theorem back_len (l : List Ent) (k i : Nat) : (backX l k i).length ≤ l.length + l.length := by
  unfold backX
  split
  · simp only [List.length_take, List.length_drop]; omega
  · simp only [List.length_append, List.length_take, List.length_drop]; omega
theorem count_take {l : List Ent} {i : Nat} (h : i < l.length) : countX (l.take (i + 1)) = countX (l.take i) + (eat l i).len := by
  rw [List.take_succ_eq_append_getElem h, countX_append, eat_eq h]
  show _ + (_ + 0) = _; omega
theorem count_bounds {l : List Ent} (h : Rise 0 l) : ∀ i, i ≤ l.length → 0 ≤ countX (l.take i) ∧ countX (l.take i) ≤ 2048 * i
  | 0, _ => by rw [List.take_zero]; exact ⟨Int.le_refl _, by simp [countX]⟩
  | i + 1, hi => by
    have := count_bounds h i (by omega)
    have hx := (entT _).1 (rise_at h (show i < l.length by omega))
    rw [count_take (by omega)]; omega
theorem put_back (l m : List Ent) (hr : Rise 0 l) (hl : l.length ≤ 1000) (x : Ent) (hx : EntOk true x) (hm : putX l x = m) (v : Value) (w : World) (hv : EntsIn v l w) :
    Calls Try.prog 25 #[v, entV x] w fun e w' => ∃ ado cpo adf nf cpf, e = .returned (.tuple #[.slice ado m.length cpo, .slice adf nf cpf, .int .i64 0]) ∧ EntsIn (.slice ado m.length cpo) m w' ∧ Below w.heap.size w w' :=
  (put_calls l m hr hl x hx hm v w hv).mono fun e w' ⟨ado, cpo, adf, cpf, he, ro, hb⟩ => ⟨ado, cpo, adf, _, cpf, he, ro, hb⟩
theorem put_self {l : List Ent} (hr : Rise 0 l) (hl : l.length ≤ 1000) {i : Nat} (hi : i < l.length) (v : Value) (w : World) (hv : EntsIn v l w) :
    Calls Try.prog 25 #[v, entV (eat l i)] w fun e w' => ∃ ado cpo adf cpf, e = .returned (.tuple #[.slice ado l.length cpo, .slice adf 0 cpf, .int .i64 0]) ∧ EntsIn (.slice ado l.length cpo) l w' ∧ Below w.heap.size w w' := by
  have := put_calls l l hr hl (eat l i) (rise_at hr hi) (back_self hr hi) v w hv
  rw [freed_self] at this
  exact this
theorem find_self {l : List Ent} (hf : fitE l) (hr : Rise 0 l) (hl : l.length ≤ 1000) {i : Nat} (hi : i < l.length) (v : Value) (w : World) (hv : EntsIn v l w) :
    Calls Try.prog 12 #[v, .int .i64 (eat l i).log] w fun e w' => e = .returned (.tuple #[.int .i64 (eat l i).phys, .int .i64 (eat l i).len, .bool true]) ∧ Below w.heap.size w w' := by
  have hx := (entT _).1 (rise_at hr hi)
  have := xfind_any l hf (by omega) (eat l i).log (by omega) v w hv
  have hfe : fE l (eat l i).log = some (eat l i) := by
    unfold fE
    rw [if_pos ((row_rise l).2 hr)]
    exact find_at hr (by rw [eat_eq hi]; exact List.getElem_mem _) ⟨Int.le_refl _, by omega⟩
  unfold foundV fP fL fB at this
  rw [hfe] at this
  dsimp only [Option.isSome] at this
  rw [show (eat l i).phys + (eat l i).log - (eat l i).log = (eat l i).phys by omega, show (eat l i).log + (eat l i).len - (eat l i).log = (eat l i).len by omega] at this
  exact this
end Go.Proofs.Ytgcbfiecgiijkaa
