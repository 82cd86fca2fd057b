/- Rows of numbers that a call makes, one appended behind the other; lists of those that are marked. -/
import Derived.Test.YtehjobjjlldckaaGreatDMade
namespace Go.Proofs.YtehjobjjlldckaaGreat
set_option linter.unusedVariables false
open Go.RowKit

theorem int_info : (Tryz.prog.info? 3).map (fun i => (i.zero, i.size, i.bytes)) = some (some (.int .i64 0), 1, 8) := by kernel_rfl
/-- v holds the numbers, in a row of the call's own, at B or behind -/
def natV (k : Nat) : Value := .int .i64 (k : Int)
abbrev NatsAt (B : Nat) (v : Value) (L : List Nat) (w : World) : Prop := w.ownsRow B 3 1 v L.length (L.map natV)
theorem new_one (w : World) (u : Value) (t : TypeId) : ∀ j v, [u][j]? = some v → (w.alloc (.cells #[u] t)).cell? ((⟨w.heap.size, 0, none⟩ : Addr).add j) = some v := fun j v hj => by
  rw [add_at, Nat.zero_add, World.cell?_alloc_mark]
  simpa using hj
theorem wpList_app1 {ops : Array Oper} {rest : List Oper} {o : Oper} {a : Act} {Q : Exit → Act → World → Prop} {w : World} (hgd : o.guard = none) (s x : Operand)
    (ho : o.op = .call { callee := .builtin .append, args := #[s, x], argTypes := #[45, 45] })
    (base : Nat) (v : Value) (L : List Nat) (k : Nat) (hs : a.eval s = v) (hown : NatsAt base v L w) (W : World) (hW : w = W.alloc (.cells #[.int .i64 (k : Int)] 3)) (hx : a.eval x = .slice (some ⟨W.heap.size, 0, none⟩) 1 1)
    (hlen : L.length ≤ 4000000) (hbase : base ≤ w.heap.size)
    (h : ∀ v' w', NatsAt base v' (L ++ [k]) w' → Below base w w' → wpList Tryz.prog ops Q rest (a.put o.dst v') w') : wpList Tryz.prog ops Q (o :: rest) a w := by
  obtain ⟨i0, hi, hz0, hz1, hz2⟩ := info_parts int_info
  subst hW
  refine wpList_append_own (w := W.alloc (.cells #[.int .i64 (k : Int)] 3)) hgd s x 45 ho base 3 i0 (.int .i64 0) 1 8 Tryz.underlying45 hi hz0 hz1 hz2 rfl (by decide) v _ _ hs hown ⟨W.heap.size, 0, none⟩ 1 1 [.int .i64 (k : Int)] hx rfl (new_one W _ _) (fun u hu => by simp at hu; subst hu; rfl) (by unfold maxLen; omega) (by omega) hbase ?_
  intro v' w' h1 h2 _
  refine h v' w' ?_ (below_of_row hown h2 hbase)
  show w'.ownsRow _ _ _ _ (L ++ [k]).length ((L ++ [k]).map _)
  rw [List.length_append, List.map_append]; exact h1
theorem pendL_len (p : Nat → Bool) (n : Nat) : (pendL p n).length ≤ n := by rw [pendL_length]; exact cntT_le p n
theorem pendL_yes {p : Nat → Bool} {n : Nat} (h : p n = true) : pendL p (n + 1) = pendL p n ++ [n] := by show (if p n then _ else _) = _; rw [if_pos h]
theorem pendL_no {p : Nat → Bool} {n : Nat} (h : p n = false) : pendL p (n + 1) = pendL p n := by show (if p n then _ else _) = _; rw [if_neg (by rw [h]; exact Bool.false_ne_true)]
end Go.Proofs.YtehjobjjlldckaaGreat
