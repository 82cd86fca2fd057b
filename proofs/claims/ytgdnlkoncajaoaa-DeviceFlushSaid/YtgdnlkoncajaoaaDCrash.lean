/- Pending, Crash, Kept. -/
import Derived.Test.YtgdnlkoncajaoaaDMade
namespace Go.Proofs.Ytgdnlkoncajaoaa
set_option linter.unusedVariables false
open Go.RowKit

theorem int_info : (Try.prog.info? 3).map (fun i => (i.zero, i.size, i.bytes)) = some (some (.int .i64 0), 1, 8) := by kernel_rfl
/-- v holds the numbers, in a row of the call's own, at B or behind -/
def natV (k : Nat) : Value := .int .i64 (k : Int)
abbrev NatsAt (B : Nat) (v : Value) (L : List Nat) (w : World) : Prop := w.ownsRow B 3 1 v L.length (L.map natV)
theorem new_one (w : World) (u : Value) (t : TypeId) : ∀ j v, [u][j]? = some v → (w.alloc (.cells #[u] t)).cell? ((⟨w.heap.size, 0, none⟩ : Addr).add j) = some v := fun j v hj => by
  rw [add_at, Nat.zero_add, World.cell?_alloc_mark]
  simpa using hj
theorem wpList_app1 {ops : Array Oper} {rest : List Oper} {o : Oper} {a : Act} {Q : Exit → Act → World → Prop} {w : World} (hgd : o.guard = none) (s x : Operand)
    (ho : o.op = .call { callee := .builtin .append, args := #[s, x], argTypes := #[41, 41] })
    (base : Nat) (v : Value) (L : List Nat) (k : Nat) (hs : a.eval s = v) (hown : NatsAt base v L w) (W : World) (hW : w = W.alloc (.cells #[.int .i64 (k : Int)] 3)) (hx : a.eval x = .slice (some ⟨W.heap.size, 0, none⟩) 1 1)
    (hlen : L.length ≤ 4000000) (hbase : base ≤ w.heap.size)
    (h : ∀ v' w', NatsAt base v' (L ++ [k]) w' → Below base w w' → wpList Try.prog ops Q rest (a.put o.dst v') w') : wpList Try.prog ops Q (o :: rest) a w := by
  obtain ⟨i0, hi, hz0, hz1, hz2⟩ := info_parts int_info
  subst hW
  refine wpList_append_own (w := W.alloc (.cells #[.int .i64 (k : Int)] 3)) hgd s x 41 ho base 3 i0 (.int .i64 0) 1 8 Try.underlying41 hi hz0 hz1 hz2 rfl (by decide) v _ _ hs hown ⟨W.heap.size, 0, none⟩ 1 1 [.int .i64 (k : Int)] hx rfl (new_one W _ _) (fun u hu => by simp at hu; subst hu; rfl) (by unfold maxLen; omega) (by omega) hbase ?_
  intro v' w' h1 h2 _
  refine h v' w' ?_ (below_of_row hown h2 hbase)
  show w'.ownsRow _ _ _ _ (L ++ [k]).length ((L ++ [k]).map _)
  rw [List.length_append, List.map_append]; exact h1
theorem pendL_len (p : Nat → Bool) (n : Nat) : (pendL p n).length ≤ n := by rw [pendL_length]; exact cntT_le p n
theorem pendL_yes {p : Nat → Bool} {n : Nat} (h : p n = true) : pendL p (n + 1) = pendL p n ++ [n] := by show (if p n then _ else _) = _; rw [if_pos h]
theorem pendL_no {p : Nat → Bool} {n : Nat} (h : p n = false) : pendL p (n + 1) = pendL p n := by show (if p n then _ else _) = _; rw [if_neg (by rw [h]; exact Bool.false_ne_true)]
set_option maxHeartbeats 1000000 in
theorem pending_any {d lo hi : Nat} {S : St} (w : World) (h : DevAt d lo hi S w) :
    Calls Try.prog 23 #[.pointer (some ⟨d, 0, none⟩)] w fun e w' => ∃ v, e = .returned v ∧ NatsAt w.heap.size v (pends S) w' ∧ Below w.heap.size w w' := by
  obtain ⟨gn, gk, gp, cn, ck, l, h⟩ := h
  obtain ⟨c0, _, _, c3, _, _⟩ := h.cells
  have M := Lib.hid (missing_no d w c0)
  have hn := h.ok.hi
  have HP := Lib.hid h.pend
  have hgp : gp < w.heap.size := h.pend.1
  unfold pends
  clear h
  generalize S.n = n at *
  generalize S.pend = p at *
  go_enter Try.func23, Try.ntmps23
  go_wp2_with fail
  refine M.out.mono ?_; rintro e w' ⟨rfl, rfl⟩
  clear M
  go_wp2
  go_loopw [3, 13] (fun v q wr => ∃ k : Nat, q = .int .i64 k ∧ k ≤ n ∧ NatsAt w.heap.size v (pendL p k) wr ∧ Below w.heap.size w wr) (fun _ q _ => n - (intOf q).toNat)
  case atStart => exact ⟨0, rfl, Nat.zero_le _, World.ownsRow_nil _ _ _ _, Below.refl _ _⟩
  case round =>
    obtain ⟨k, rfl, hk, hown, hb⟩ := hrel
    by_cases hlt : k < n
    · have q1 : wr.cell? ⟨gp, k, none⟩ = some (.bool (p k)) := (hb.cell (p := ⟨gp, k, none⟩) hgp).trans (HP.out.2 k hlt).1
      have hlen := pendL_len p k
      cases hp : p k with
      | true =>
        rw [hp] at q1
        have HY := Lib.hid (pendL_yes hp)
        clear hp c0 c3
        have hs := hb.size
        go_wp2_with (at_builtin; refine wpList_app1 rfl _ _ rfl w.heap.size _ _ k rfl (hown.alloc _) wr rfl rfl (by omega) (by rw [size_alloc]; omega) ?_)
        intro v' w2 h2 b2
        have hb3 := (hb.alloc hs (.cells #[.int .i64 (k : Int)] 3)).trans b2
        rw [← HY.out] at h2
        clear hown hb b2 q1
        go_wp2
        exact ⟨⟨k + 1, by go_num, by omega, h2, hb3⟩, by simp [intOf]; omega⟩
      | false =>
        rw [hp] at q1
        rw [← pendL_no hp] at hown
        clear hp c0 c3
        go_wp2
        exact ⟨⟨k + 1, by go_num, by omega, hown, hb⟩, by simp [intOf]; omega⟩
    · obtain rfl : k = n := by omega
      go_wp2
      go_ret
      exact ⟨_, rfl, hown, hb⟩
end Go.Proofs.Ytgdnlkoncajaoaa
