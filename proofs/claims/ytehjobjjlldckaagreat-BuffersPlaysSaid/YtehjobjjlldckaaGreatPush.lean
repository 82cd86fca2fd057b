/- append of one element to a row in a field, one way or the other: where it lay, or in a new block. For whatever program. -/
import Derived.Test.YtehjobjjlldckaaGreatBase
namespace Go.Proofs.YtehjobjjlldckaaGreat
set_option linter.unusedVariables false
open Go.RowKit

/-- where an appended row lies: where it lay, or in a block that is new -/
def Stays (v v' : Value) (B : Nat) : Prop := v'.ownBlock = v.ownBlock ∨ ∀ k, v'.ownBlock = some k → B ≤ k
theorem push_run (w : World) (base : Nat) (T e : TypeId) (ty : TypeId) (z : Value) (bytes : Nat) (ht : Tryz.prog.underlying T = some (.slice e)) (hi : (Tryz.prog.info? e).map (fun i => (i.zero, i.size, i.bytes)) = some (some z, 1, bytes)) (hzs : z.cells.size = 1) (hby : bytes ≤ 16)
    (v : Value) (n : Nat) (xs : List Value) (hn : n ≤ 4096) (hown : w.ownsRow base e 1 v n xs) (W : World) (u : Value) (hW : w = W.alloc (.cells #[u] e)) (hu : u.oneCell' = true) (hbase : base ≤ w.heap.size) :
    ∃ v' w', (Builtin.append_ #[T, T] ty #[v, .slice (some ⟨W.heap.size, 0, none⟩) 1 1]).run Tryz.prog w = .ok v' w' ∧ w'.ownsRow base e 1 v' (n + 1) (xs ++ [u]) ∧ w.grownBy w' v.ownBlock ∧ Stays v v' w.heap.size := by
  obtain ⟨i, hi0, hz0, hs0, hb0⟩ := info_parts hi
  have hnews : ∀ j x, [u][j]? = some x → w.cell? ((⟨W.heap.size, 0, none⟩ : Addr).add j) = some x := by
    subst hW
    intro j x hj
    rw [add_at, Nat.zero_add, World.cell?_alloc_mark]
    simpa using hj
  have h1 : ∀ x ∈ [u], x.oneCell' = true := fun x hx => by rw [List.mem_singleton] at hx; subst hx; exact hu
  have hbyt : (n + 1) * bytes ≤ 140737488355328 := by
    have : (n + 1) * bytes ≤ 4097 * 16 := Nat.mul_le_mul (by omega) hby
    omega
  have R := fun b (hb : b ≤ w.heap.size) (ho : w.ownsRow b e 1 v n xs) => run_append_own (P := Tryz.prog) w b T ty e i z 1 bytes ht hi0 hz0 hs0 hb0 hzs (by decide) v n xs ho ⟨W.heap.size, 0, none⟩ 1 1 [u] rfl hnews h1 (by unfold maxLen; omega) hbyt hb
  obtain ⟨v', w', hr, h2, h3, _⟩ := R base hbase hown
  refine ⟨v', w', hr, h2, h3, ?_⟩
  rcases hown.2 with ⟨rfl, rfl⟩ | ⟨g, cap, cur, rfl, hbg, hg, hnc, hcm, hcs, htake⟩
  · have hx : xs = [] := List.eq_nil_of_length_eq_zero (by simpa using hown.1)
    subst hx
    obtain ⟨v2, w2, hr2, k2, _, _⟩ := R w.heap.size (Nat.le_refl _) (World.ownsRow_nil _ _ _ _)
    rw [hr] at hr2
    obtain ⟨rfl, rfl⟩ : v' = v2 ∧ w' = w2 := by injection hr2 with a b; exact ⟨a, b⟩
    exact .inr fun k hk => (k2.lt k hk).1
  · by_cases hroom : n + 1 ≤ cap
    · obtain ⟨w2, hr2, _, _⟩ := run_append_fits (P := Tryz.prog) w base T ty e i 1 ht hi0 hs0 g n cap xs hown ⟨W.heap.size, 0, none⟩ 1 1 [u] rfl hnews h1 hroom
      rw [hr] at hr2
      injection hr2 with a b
      subst a
      exact .inl rfl
    · have hr2 := run_append_grow (P := Tryz.prog) w T ty e i z ht hi0 hz0 ⟨g, 0, none⟩ n cap xs (by rw [hs0]; exact hown.1) (hown.cells (g := g) rfl) ⟨W.heap.size, 0, none⟩ 1 1 [u] (by rw [hs0]; rfl) hnews (by omega) (by omega) (growslice_fits (by omega) (by rw [hb0]; exact hbyt))
      rw [hr] at hr2
      injection hr2 with a b
      subst a
      exact .inr fun k hk => by
        have : some w.heap.size = some k := hk
        injection this with h; omega
theorem wpList_push {ops : Array Oper} {rest : List Oper} {o : Oper} {a : Act} {Q : Exit → Act → World → Prop} {w : World} (hgd : o.guard = none) (s x : Operand) (T e : TypeId)
    (ho : o.op = .call { callee := .builtin .append, args := #[s, x], argTypes := #[T, T] })
    (base : Nat) (z : Value) (bytes : Nat) (ht : Tryz.prog.underlying T = some (.slice e)) (hi : (Tryz.prog.info? e).map (fun i => (i.zero, i.size, i.bytes)) = some (some z, 1, bytes)) (hzs : z.cells.size = 1) (hby : bytes ≤ 16)
    (v : Value) (n : Nat) (xs : List Value) (hs : a.eval s = v) (hn : n ≤ 4096) (hown : w.ownsRow base e 1 v n xs) (W : World) (u : Value) (hW : w = W.alloc (.cells #[u] e)) (hh : Nat) (hhe : Hid (W.heap.size = hh)) (hx : a.eval x = .slice (some ⟨hh, 0, none⟩) 1 1) (hu : u.oneCell' = true) (hbase : base ≤ w.heap.size) (B : Nat) (hB : Hid (w.heap.size = B))
    (h : ∀ v' w', w'.ownsRow base e 1 v' (n + 1) (xs ++ [u]) → w.grownBy w' v.ownBlock → Stays v v' B → wpList Tryz.prog ops Q rest (a.put o.dst v') w') : wpList Tryz.prog ops Q (o :: rest) a w := by
  refine wpList_plain hgd fun K hK => ?_
  have hhe := hhe.out
  subst hhe
  obtain ⟨v', w', hr, h2, h3, h4⟩ := push_run w base T e o.type z bytes ht hi hzs hby v n xs hn hown W u hW hu hbase
  unfold Oper.wp execOp
  simp only [ho, resolve, invoke, builtin, Sem.run_bind, Sem.run_pure, Result.andThen_ok, List.map_toArray, List.map_cons, List.map_nil, hs, hx, hr]
  have hB := hB.out
  subst hB
  exact hK _ _ (h v' w' h2 h3 h4)

end Go.Proofs.YtehjobjjlldckaaGreat
