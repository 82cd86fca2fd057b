/- A row that is copied, and entries laid behind: the runs of both appends, in whichever order memory is made. -/
import Derived.Test.YtfepjjjoikcljaaIAlive
import Derived.Test.YtfepjjjoikcljaaIRead
import Derived.Laws.AppendOwnNone
namespace Go.Proofs.Ytfepjjjoikcljaa
set_option linter.unusedVariables false
open Go.RowKit

/-- append of whatever row to a row of one's own -/
theorem appE_run (W : World) (base : Nat) (v : Value) (L : List Ent) (hown : EntsAt base v L W) (u : Value) (M : List Ent) (hu : EntsIn u M W) (hl : L.length + M.length ≤ 4000) (hbase : base ≤ W.heap.size) :
    ∃ v' w', (Builtin.append_ #[22, 22] 22 #[v, u]).run Try.prog W = .ok v' w' ∧ EntsAt base v' (L ++ M) w' ∧ W.grownBy w' v.ownBlock := by
  obtain ⟨i0, hi, hz0, hz1, hz2⟩ := info_parts entry_info
  obtain ⟨h0, ad, cap, rfl, a1, a2, a3, a4⟩ := hu
  cases ad with
  | none =>
    have hc := a4 rfl
    subst hc
    have hm : M = [] := List.eq_nil_of_length_eq_zero (by omega)
    subst hm
    refine ⟨v, W, ?_, by rw [List.append_nil]; exact hown, ⟨rfl, rfl, rfl, Nat.le_refl _, fun _ _ _ => rfl⟩⟩
    exact run_append_owned_none (P := Try.prog) (w := W) base 22 22 26 i0 3 Try.underlying22 hi v L.length (cellsE L) hown
  | some ad =>
    have hnews : ∀ j x, (cellsE M)[j]? = some x → W.cell? (ad.add j) = some x := by
      intro j x hj
      have hlt := (List.getElem?_eq_some_iff.1 hj).1
      obtain ⟨g, o, e, _, hc⟩ := a3 (by omega)
      cases e
      rw [add_at]; exact hc j x hj
    have h1 : ∀ x ∈ cellsE M, x.oneCell' = true := by
      intro x hx
      clear hnews a3 a4 h0 a1 hl
      induction M with
      | nil => cases hx
      | cons e M ih =>
        rw [cellsE, List.mem_cons, List.mem_cons, List.mem_cons] at hx
        rcases hx with rfl | rfl | rfl | hx
        · rfl
        · rfl
        · rfl
        · exact ih hx
    obtain ⟨v', w', hr, k1, k2, _⟩ := run_append_own (P := Try.prog) W base 22 22 26 i0 _ 3 24 Try.underlying22 hi hz0 hz1 hz2 rfl (by decide) v L.length (cellsE L) hown ad M.length cap (cellsE M) (cellsE_length M) hnews h1 (by unfold maxLen; omega) (by omega) hbase
    refine ⟨v', w', hr, ?_, k2⟩
    show w'.ownsRow _ _ _ _ (L ++ M).length (cellsE (L ++ M))
    rw [List.length_append, cellsE_append]; exact k1
theorem in_grownE {z n : Nat} {g o c : Nat} {cs : List Value} {w w' : World} {b : Option Nat} (h : RowIn z (.slice (some ⟨g, o, none⟩) n c) n cs w) (hp : 0 < cs.length) (hg : w.grownBy w' b) (hb : b ≠ some g) : RowIn z (.slice (some ⟨g, o, none⟩) n c) n cs w' := by
  obtain ⟨h0, ad, cap, e, h1, h2, h3, h4⟩ := h
  cases e
  refine ⟨h0, _, _, rfl, h1, h2, fun hp => ?_, fun h => by cases h⟩
  obtain ⟨g', o', e, hlt, hc⟩ := h3 hp
  cases e
  exact ⟨g, o, rfl, Nat.lt_of_lt_of_le hlt hg.size, fun k u hk => (World.cell?_of_block (a := ⟨g, o + k, none⟩) (hg.block g hlt (fun e => hb e.symm))).trans (hc k u hk)⟩
abbrev appRun (v u : Value) (W : World) (v' : Value) (w' : World) : Prop := (Builtin.append_ #[22, 22] 22 #[v, u]).run Try.prog W = .ok v' w'
/-- the end: the copy, and what lies behind it, in memory of its own; all older is as it was -/
abbrev TwinFin (W0 : World) (v : Value) (R : List Ent) (w : World) : Prop := EntsAt W0.heap.size v R w ∧ Below W0.heap.size W0 w
theorem three_runs (W0 : World) (O1 O2 : Obj) (c m : Nat) (L M : List Ent) (u : Value) (hu : EntsIn u L W0) (hm : M.length = m) (hm0 : 0 < m) (hl : L.length + M.length ≤ 4000)
    (h1 : ∀ W : World, EntsAt W.heap.size (.slice (some ⟨W.heap.size, 0, none⟩) 0 c) [] (W.alloc O1))
    (h2 : ∀ W : World, RowIn 3 (.slice (some ⟨W.heap.size, 0, none⟩) m m) m (cellsE M) (W.alloc O2)) :
    (∃ v w v' w', appRun (.slice (some ⟨W0.heap.size, 0, none⟩) 0 c) u (W0.alloc O1) v w ∧ appRun v (.slice (some ⟨w.heap.size, 0, none⟩) m m) (w.alloc O2) v' w' ∧ Below W0.heap.size W0 w ∧ TwinFin W0 v' (L ++ M) w') ∧
    (∃ v w v' w', appRun (.slice (some ⟨W0.heap.size, 0, none⟩) 0 c) u ((W0.alloc O1).alloc O2) v w ∧ appRun v (.slice (some ⟨W0.heap.size + 1, 0, none⟩) m m) w v' w' ∧ Below W0.heap.size W0 w ∧ TwinFin W0 v' (L ++ M) w') ∧
    (∃ v w v' w', appRun (.slice (some ⟨W0.heap.size + 1, 0, none⟩) 0 c) u ((W0.alloc O2).alloc O1) v w ∧ appRun v (.slice (some ⟨W0.heap.size, 0, none⟩) m m) w v' w' ∧ Below W0.heap.size W0 w ∧ TwinFin W0 v' (L ++ M) w') := by
  have z1 := size_alloc W0 O1
  have z2 := size_alloc W0 O2
  have z12 : ((W0.alloc O1).alloc O2).heap.size = W0.heap.size + 2 := by rw [size_alloc, z1]
  have z21 : ((W0.alloc O2).alloc O1).heap.size = W0.heap.size + 2 := by rw [size_alloc, z2]
  have i2 : ∀ (W : World) (q : Nat), W.heap.size = q → EntsIn (.slice (some ⟨q, 0, none⟩) m m) M (W.alloc O2) := fun W q e => by
    have := h2 W
    rw [e] at this
    show RowIn 3 _ M.length (cellsE M) _
    rw [hm]; exact this
  have hp : 0 < (cellsE M).length := by rw [cellsE_length]; omega
  refine ⟨?_, ?_, ?_⟩
  · obtain ⟨v, w, r1, k1, g1⟩ := appE_run (W0.alloc O1) W0.heap.size _ [] (h1 W0) u L (hu.kept (balloc1 _ _)) (by simp; omega) (by omega)
    have b1 := (balloc1 W0 O1).trans (below_of_row (h1 W0) g1 (by omega))
    have hs := b1.size
    obtain ⟨v', w', r2, k2, g2⟩ := appE_run (w.alloc O2) W0.heap.size v L (k1.alloc O2) _ M (i2 w _ rfl) (by omega) (by rw [size_alloc]; omega)
    exact ⟨v, w, v', w', r1, r2, b1, k2, (balloc b1 O2).trans (below_of_row (k1.alloc O2) g2 (by rw [size_alloc]; omega))⟩
  · have o1 : EntsAt W0.heap.size (.slice (some ⟨W0.heap.size, 0, none⟩) 0 c) [] ((W0.alloc O1).alloc O2) := (h1 W0).alloc O2
    have bb := balloc (balloc1 W0 O1) O2
    obtain ⟨v, w, r1, k1, g1⟩ := appE_run ((W0.alloc O1).alloc O2) W0.heap.size _ [] o1 u L (hu.kept bb) (by simp; omega) (by omega)
    have b1 := bb.trans (below_of_row o1 g1 (by omega))
    have hs := b1.size
    have j2 : RowIn 3 (.slice (some ⟨W0.heap.size + 1, 0, none⟩) m m) m (cellsE M) ((W0.alloc O1).alloc O2) := by
      have := i2 (W0.alloc O1) _ z1
      unfold EntsIn at this
      rw [hm] at this; exact this
    have j3 := in_grownE j2 hp g1 (fun e => by have e2 : W0.heap.size = W0.heap.size + 1 := Option.some.inj e; omega)
    obtain ⟨v', w', r2, k2, g2⟩ := appE_run w W0.heap.size v L k1 (.slice (some ⟨W0.heap.size + 1, 0, none⟩) m m) M (by unfold EntsIn; rw [hm]; exact j3) (by omega) hs
    exact ⟨v, w, v', w', r1, r2, b1, k2, b1.trans (below_of_row k1 g2 hs)⟩
  · have o1 : EntsAt W0.heap.size (.slice (some ⟨W0.heap.size + 1, 0, none⟩) 0 c) [] ((W0.alloc O2).alloc O1) := by
      have := row_down (show W0.heap.size ≤ (W0.alloc O2).heap.size by omega) (h1 (W0.alloc O2))
      rw [z2] at this; exact this
    have bb := balloc (balloc1 W0 O2) O1
    obtain ⟨v, w, r1, k1, g1⟩ := appE_run ((W0.alloc O2).alloc O1) W0.heap.size _ [] o1 u L (hu.kept bb) (by simp; omega) (by omega)
    have b1 := bb.trans (below_of_row o1 g1 (by omega))
    have hs := b1.size
    have j2 : RowIn 3 (.slice (some ⟨W0.heap.size, 0, none⟩) m m) m (cellsE M) ((W0.alloc O2).alloc O1) := (h2 W0).kept (balloc1 _ _)
    have j3 := in_grownE j2 hp g1 (fun e => by have e2 : W0.heap.size + 1 = W0.heap.size := Option.some.inj e; omega)
    obtain ⟨v', w', r2, k2, g2⟩ := appE_run w W0.heap.size v L k1 (.slice (some ⟨W0.heap.size, 0, none⟩) m m) M (by unfold EntsIn; rw [hm]; exact j3) (by omega) hs
    exact ⟨v, w, v', w', r1, r2, b1, k2, b1.trans (below_of_row k1 g2 hs)⟩
theorem room_ents (n : Nat) (hn : n ≤ 4000) (W : World) : (Instr.makeSlice 22 (.int .i64 0) (.int .i64 (n : Int))).run Try.prog W = .ok (.slice (some ⟨W.heap.size, 0, none⟩) 0 n) (W.alloc (.cells (madeCells #[.int .i64 0, .int .i64 0, .int .i64 0] (n * 3)) 26)) ∧
    EntsAt W.heap.size (.slice (some ⟨W.heap.size, 0, none⟩) 0 n) [] (W.alloc (.cells (madeCells #[.int .i64 0, .int .i64 0, .int .i64 0] (n * 3)) 26)) := by
  obtain ⟨i, hi, hz, hs, hb⟩ := info_parts entry_info
  obtain ⟨w', hr, ho, hg⟩ := run_make_own (P := Try.prog) (w := W) W.heap.size 22 26 i _ 3 Try.underlying22 hi hz hs .i64 .i64 n (by rw [hb]; omega) (by unfold maxLen; omega) (Nat.le_refl _)
  have h := run_make (P := Try.prog) W 22 26 i _ Try.underlying22 hi hz .i64 .i64 0 n (by omega) (by omega) (by rw [hb]; omega) (by omega)
  have h2 := hr.symm.trans h
  injection h2 with _ e
  subst e
  refine ⟨by simpa [hs, Value.cells] using h, ?_⟩
  simp [hs, Value.cells] at ho
  exact ho
/-- entries side by side in a block that was just made -/
theorem lit_row (W : World) (M : List Ent) (m : Nat) (cs : Array Value) (hm : M.length = m) (hl : m ≤ 4000) (hc : cs.toList = cellsE M) : RowIn 3 (.slice (some ⟨W.heap.size, 0, none⟩) m m) m (cellsE M) (W.alloc (.cells cs 26)) := by
  subst hm
  exact lit_in W M cs hl hc
/-- a copy with two of its own behind: its first part, and the two -/
theorem twin_inE {B : Nat} {ad : Option Addr} {cp n : Nat} {L : List Ent} {x y : Ent} {w : World} (hn : L.length = n) (h : w.ownsRow B 26 3 (.slice ad (n + 2) cp) (L ++ [x, y]).length (cellsE (L ++ [x, y]))) : EntsIn (.slice ad n cp) L w := by
  have hl : (L ++ [x, y]).length = n + 2 := by simp [hn]
  rw [hl] at h
  obtain ⟨ad', cp', e1, h1, h2, h3⟩ := shape_of h
  cases e1
  obtain ⟨g, rfl, hB, hg⟩ := h3 (by omega)
  refine ⟨cellsE_length L, _, _, by rw [hn], by omega, h2, fun _ => ⟨g, 0, rfl, hg, fun k u hk => ?_⟩, fun h => by cases h⟩
  have hl := (List.getElem?_eq_some_iff.1 hk).1
  rw [cellsE_length] at hl
  rw [Nat.zero_add, h.cellAt k (by omega), ← hk, cellsE_append, List.getElem?_append_left (by rw [cellsE_length]; exact hl)]
theorem twin_endsE {B : Nat} {ad : Option Addr} {cp n : Nat} {L : List Ent} {x y : Ent} {w : World} (hn : L.length = n) (h : w.ownsRow B 26 3 (.slice ad (n + 2) cp) (L ++ [x, y]).length (cellsE (L ++ [x, y]))) :
    ∃ g, ad = some ⟨g, 0, none⟩ ∧ g < w.heap.size ∧ n + 2 ≤ cp ∧ cp ≤ 9223372036854775807 ∧ w.cell? ⟨g, n * 3 + 2, none⟩ = some (.int .i64 x.len) ∧ w.cell? ⟨g, (n + 1) * 3 + 2, none⟩ = some (.int .i64 y.len) := by
  have hl : (L ++ [x, y]).length = n + 2 := by simp [hn]
  rw [hl] at h
  obtain ⟨ad', cp', e1, h1, h2, h3⟩ := shape_of h
  cases e1
  obtain ⟨g, rfl, hB, hg⟩ := h3 (by omega)
  have a := (cellsE_at (L ++ [x, y]) n (by rw [hl]; omega)).2.2
  have b := (cellsE_at (L ++ [x, y]) (n + 1) (by rw [hl]; omega)).2.2
  have ea : eat (L ++ [x, y]) n = x := by unfold eat; rw [List.getElem?_append_right (by omega), hn, Nat.sub_self]; rfl
  have eb : eat (L ++ [x, y]) (n + 1) = y := by unfold eat; rw [List.getElem?_append_right (by omega), hn, Nat.add_sub_cancel_left]; rfl
  rw [ea] at a
  rw [eb] at b
  exact ⟨g, rfl, hg, h1, h2, (h.cellAt _ (by omega)).trans a, (h.cellAt _ (by omega)).trans b⟩
end Go.Proofs.Ytfepjjjoikcljaa
