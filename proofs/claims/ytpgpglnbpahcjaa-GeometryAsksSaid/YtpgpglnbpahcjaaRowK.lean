/- Rows of runs in memory, read and owned; SameRuns (for any seat that has both). -/
import Derived.Test.YtpgpglnbpahcjaaGMath
import Derived.Sort.Grow
import Derived.Deep.DrawnRows
namespace Go.Proofs.Ytpgpglnbpahcjaa
set_option linter.unusedVariables false
open Go.RowKit

/-- every number is one that an int may be -/
def fitR (l : List (Int × Int)) : Prop := ∀ r ∈ l, I64 r.1 ∧ I64 r.2
theorem fit_at {l : List (Int × Int)} (h : fitR l) (k : Nat) (hk : k < l.length) : I64 l[k].1 ∧ I64 l[k].2 := h _ (List.getElem_mem hk)

/-- the cells of a list of runs -/
def cellsR : List (Int × Int) → List Value
  | [] => []
  | r :: l => .int .i64 r.1 :: .int .i64 r.2 :: cellsR l
theorem cellsR_length : ∀ l, (cellsR l).length = l.length * 2
  | [] => rfl
  | r :: l => by rw [cellsR, List.length_cons, List.length_cons, cellsR_length l, List.length_cons]; omega
theorem cellsR_append : ∀ a b, cellsR (a ++ b) = cellsR a ++ cellsR b
  | [], b => rfl
  | r :: a, b => by rw [List.cons_append, cellsR, cellsR, cellsR_append a b]; rfl
theorem cellsR_at : ∀ (l : List (Int × Int)) (k : Nat) (h : k < l.length), (cellsR l)[k * 2]? = some (.int .i64 l[k].1) ∧ (cellsR l)[k * 2 + 1]? = some (.int .i64 l[k].2)
  | r :: l, 0, _ => ⟨rfl, rfl⟩
  | r :: l, k + 1, h => by
    have := cellsR_at l k (by simpa using h)
    rw [show (k + 1) * 2 = k * 2 + 1 + 1 by omega, cellsR]
    exact this
theorem cellsR_last (l : List (Int × Int)) (q q' : Int × Int) : ((cellsR (l ++ [q])).set (l.length * 2) (.int .i64 q'.1)).set (l.length * 2 + 1) (.int .i64 q'.2) = cellsR (l ++ [q']) := by
  rw [cellsR_append, cellsR_append, List.set_append_right _ _ (by rw [cellsR_length]; omega), cellsR_length, List.set_append_right _ _ (by rw [cellsR_length]; omega), cellsR_length]
  rw [show l.length * 2 - l.length * 2 = 0 by omega, show l.length * 2 + 1 - l.length * 2 = 1 by omega]; rfl

/-- v is a slice of the runs, wherever they lie -/
def RunsIn (v : Value) (l : List (Int × Int)) (w : World) : Prop :=
  ∃ (ad : Option Addr) (cap : Nat), v = .slice ad l.length cap ∧ l.length ≤ cap ∧ cap ≤ maxLen ∧ (0 < l.length → ∃ g o, ad = some ⟨g, o, none⟩ ∧ g < w.heap.size ∧
    ∀ k (h : k < l.length), w.cell? ⟨g, o + k * 2, none⟩ = some (.int .i64 l[k].1) ∧ w.cell? ⟨g, o + k * 2 + 1, none⟩ = some (.int .i64 l[k].2)) ∧ (ad = none → cap = 0)
theorem runsIn_kept {v : Value} {l : List (Int × Int)} {w w' : World} (h : RunsIn v l w) (hb : Below w.heap.size w w') : RunsIn v l w' := by
  obtain ⟨ad, cap, rfl, h1, h2, h3, h4⟩ := h
  refine ⟨ad, cap, rfl, h1, h2, fun hp => ?_, h4⟩
  obtain ⟨g, o, rfl, hg, hc⟩ := h3 hp
  refine ⟨g, o, rfl, Nat.lt_of_lt_of_le hg hb.size, fun k hk => ?_⟩
  obtain ⟨c1, c2⟩ := hc k hk
  exact ⟨(hb.cell (p := ⟨g, o + k * 2, none⟩) hg).trans c1, (hb.cell (p := ⟨g, o + k * 2 + 1, none⟩) hg).trans c2⟩
theorem runsIn_nil (w : World) : RunsIn (.slice none 0 0) [] w := ⟨none, 0, rfl, Nat.le_refl _, by unfold maxLen; omega, fun h => by simp at h, fun _ => rfl⟩

/-- v holds the runs, in a row of the call's own, at B or behind -/
abbrev RunsAt (B : Nat) (v : Value) (l : List (Int × Int)) (w : World) : Prop := w.ownsRow B 36 2 v l.length (cellsR l)
theorem shape_of {w : World} {B n : Nat} {v : Value} {e : TypeId} {z : Nat} {xs : List Value} (h : w.ownsRow B e z v n xs) : ∃ ad cap, v = .slice ad n cap ∧ n ≤ cap ∧ cap ≤ maxLen ∧ (0 < n → ∃ g, ad = some ⟨g, 0, none⟩ ∧ B ≤ g ∧ g < w.heap.size) := by
  rcases h.2 with ⟨rfl, rfl⟩ | ⟨g, cap, cur, rfl, hb, hcur, hr⟩
  · exact ⟨_, _, rfl, Nat.le_refl _, by unfold maxLen; omega, fun h => by omega⟩
  · exact ⟨_, _, rfl, hr.1, hr.2.1, fun _ => ⟨g, rfl, hb, lt_of_block hcur⟩⟩
theorem info_run : (Try.prog.info? 36).map (fun i => (i.zero, i.size, i.bytes)) = some (some (.agg #[.int .i64 0, .int .i64 0]), 2, 16) := by kernel_rfl
theorem run_cells {B g cap : Nat} {l : List (Int × Int)} {w : World} {n : Nat} (h : w.ownsRow B 36 2 (.slice (some ⟨g, 0, none⟩) n cap) n (cellsR l)) (k : Nat) (hk : k < l.length) :
    w.cell? ⟨g, k * 2, none⟩ = some (.int .i64 l[k].1) ∧ w.cell? ⟨g, k * 2 + 1, none⟩ = some (.int .i64 l[k].2) := by
  have e : n * 2 = l.length * 2 := by rw [← cellsR_length, ← h.1]
  obtain ⟨h1, h2⟩ := cellsR_at l k hk
  exact ⟨(h.cellAt _ (by omega)).trans h1, (h.cellAt _ (by omega)).trans h2⟩
theorem runsAt_in {B : Nat} {v : Value} {l : List (Int × Int)} {w : World} (h : RunsAt B v l w) : RunsIn v l w := by
  have hn : ∀ ad cap, v = .slice ad l.length cap → ad = none → cap = 0 := by
    rintro ad cap rfl rfl
    rcases h.2 with ⟨h0, _⟩ | ⟨g, cap', cur, h0, _⟩
    · simp only [Value.slice.injEq] at h0; exact h0.2.2
    · simp only [Value.slice.injEq] at h0; cases h0.1
  obtain ⟨ad, cap, rfl, h1, h2, h3⟩ := shape_of h
  refine ⟨ad, cap, rfl, h1, h2, fun hp => ?_, hn _ _ rfl⟩
  obtain ⟨g, rfl, hb, hg⟩ := h3 hp
  refine ⟨g, 0, rfl, hg, fun k hk => ?_⟩
  rw [Nat.zero_add]
  exact run_cells h k hk
theorem row_kept {B n : Nat} {v : Value} {e : TypeId} {z : Nat} {xs : List Value} {w w' : World} (h : w.ownsRow B e z v n xs) (hb : Below w.heap.size w w') : w'.ownsRow B e z v n xs :=
  ⟨h.1, h.2.imp id fun ⟨g, cap, cur, a, b, c, r⟩ => ⟨g, cap, cur, a, b, (hb.block g (lt_of_block c)).trans c, r⟩⟩
theorem row_down {B B' n : Nat} {v : Value} {e : TypeId} {z : Nat} {xs : List Value} {w : World} (hb : B' ≤ B) (h : w.ownsRow B e z v n xs) : w.ownsRow B' e z v n xs :=
  ⟨h.1, h.2.imp id fun ⟨g, cap, cur, a, b, r⟩ => ⟨g, cap, cur, a, Nat.le_trans hb b, r⟩⟩
theorem bgrow {w a : World} (h : Below w.heap.size w a) (os : Array Obj) : Below w.heap.size w (Sort.grow a os) :=
  ⟨h.os, h.tape, h.output, by show _ ≤ (a.heap ++ os).size; rw [Array.size_append]; exact Nat.le_trans h.size (Nat.le_add_right _ _),
    fun k hk => by
      show (a.heap ++ os)[k]? = _
      rw [Array.getElem?_append_left (Nat.lt_of_lt_of_le hk h.size)]; exact h.block k hk⟩

/-- a run that is new in memory -/
theorem new_cells (w : World) (a b : Int) : ∀ (j : Nat) (u : Value), [Value.int .i64 a, Value.int .i64 b][j]? = some u → (w.alloc (.cells #[.int .i64 a, .int .i64 b] 36)).cell? ((⟨w.heap.size, 0, none⟩ : Addr).add j) = some u := by
  intro j u hj
  have hadd : (⟨w.heap.size, 0, none⟩ : Addr).add j = ⟨w.heap.size, j, none⟩ := by unfold Addr.add; split <;> simp_all
  rw [hadd, World.cell?_alloc_mark]
  simpa using hj
theorem one_cells (a b : Int) : ∀ u ∈ [Value.int .i64 a, Value.int .i64 b], u.oneCell' = true := by
  intro u hu; simp at hu; rcases hu with rfl | rfl <;> rfl
theorem runs_snoc {B m : Nat} {a b : Int} {v : Value} {l : List (Int × Int)} {w : World} (hm : l.length = m) (h : w.ownsRow B 36 2 v (m + 1) (cellsR l ++ [.int .i64 a, .int .i64 b])) : RunsAt B v (l ++ [(a, b)]) w := by
  subst hm
  show w.ownsRow _ _ _ _ (l ++ [(a, b)]).length (cellsR (l ++ [(a, b)]))
  rw [cellsR_append, List.length_append]; exact h

theorem run_held : Try.prog.stoodInHeld 36 = false := by kernel_rfl
theorem same_upto {l m : List (Int × Int)} (h : l.length = m.length) (he : ∀ j < l.length, l[j]? = m[j]?) : l = m := by
  apply List.ext_getElem?
  intro j
  by_cases hj : j < l.length
  · exact he j hj
  · rw [List.getElem?_eq_none (by omega), List.getElem?_eq_none (by omega)]

set_option maxHeartbeats 4000000 in
theorem same_any (va vb : Value) (l m : List (Int × Int)) (w : World) (ha : RunsIn va l w) (hb : RunsIn vb m w) :
    Calls Try.prog 17 #[va, vb] w fun e w' => e = .returned (.bool (decide (l = m))) ∧ Below w.heap.size w w' := by
  obtain ⟨ada, capa, rfl, a1, a2, hada, -⟩ := id ha
  obtain ⟨adb, capb, rfl, b1, b2, hadb, -⟩ := id hb
  have a2 : capa ≤ 9223372036854775807 := a2
  have b2 : capb ≤ 9223372036854775807 := b2
  by_cases hlen : l.length = m.length
  · have ht : ((l.length : Int) != (m.length : Int)) = false := by rw [hlen]; simp
    go_enter Try.func17, Try.ntmps17
    go_wp2
    go_loopw [5] (fun p wr => ∃ k : Nat, p = .int .i64 k ∧ k ≤ l.length ∧ Hid (∀ j < k, l[j]? = m[j]?) ∧ Below w.heap.size w wr) (fun p _ => l.length - (intOf p).toNat)
    case atStart => exact ⟨0, rfl, Nat.zero_le _, Lib.hid (fun j h => by omega), Below.refl _ _⟩
    case round =>
      obtain ⟨k, rfl, hk, HK, hbr⟩ := hrel
      by_cases hlt : k < l.length
      · obtain ⟨ga, oa, rfl, hga, hca⟩ := hada (by omega)
        obtain ⟨gb, ob, rfl, hgb, hcb⟩ := hadb (by omega)
        have hlt2 : k < m.length := by omega
        obtain ⟨q1, q2⟩ := hca k hlt
        obtain ⟨q3, q4⟩ := hcb k hlt2
        have q1 := (hbr.cell (p := ⟨ga, oa + k * 2, none⟩) hga).trans q1
        have q2 := (hbr.cell (p := ⟨ga, oa + k * 2 + 1, none⟩) hga).trans q2
        have q3 := (hbr.cell (p := ⟨gb, ob + k * 2, none⟩) hgb).trans q3
        have q4 := (hbr.cell (p := ⟨gb, ob + k * 2 + 1, none⟩) hgb).trans q4
        have HE : Hid (l[k].1 = m[k].1 → l[k].2 = m[k].2 → ∀ j < k + 1, l[j]? = m[j]?) := Lib.hid fun e1 e2 j hj => by
          by_cases e : j = k
          · subst e
            rw [List.getElem?_eq_getElem hlt, List.getElem?_eq_getElem hlt2]
            exact congrArg some (Prod.ext e1 e2)
          · exact HK.out j (by omega)
        have HD : Hid (¬ (l[k].1 = m[k].1 ∧ l[k].2 = m[k].2) → decide (l = m) = false) := Lib.hid fun h => by
          rw [decide_eq_false_iff_not]; rintro rfl; exact h ⟨rfl, rfl⟩
        generalize l[k].1 = a at *
        generalize l[k].2 = c at *
        generalize m[k].1 = a' at *
        generalize m[k].2 = c' at *
        have d1 : ∀ q, (wr.drewN q).cell? ⟨ga, oa + k * 2, none⟩ = some (.int .i64 (a : Int)) := fun _ => q1
        have d2 : ∀ q, (wr.drewN q).cell? ⟨ga, oa + k * 2 + 1, none⟩ = some (.int .i64 (c : Int)) := fun _ => q2
        have d3 : ∀ q, (wr.drewN q).cell? ⟨gb, ob + k * 2, none⟩ = some (.int .i64 (a' : Int)) := fun _ => q3
        have d4 : ∀ q, (wr.drewN q).cell? ⟨gb, ob + k * 2 + 1, none⟩ = some (.int .i64 (c' : Int)) := fun _ => q4
        clear ha hb hada hadb hca hcb
        have rh := run_held
        by_cases h1 : a = a'
        · by_cases h2 : c = c'
          · have HN := Lib.hid (HE.out h1 h2)
            go_wp2
            go_quiet (fail)
            go_wp2
            exact ⟨⟨k + 1, by go_num, by omega, HN, below_drewN hbr _⟩, by simp [intOf]; omega⟩
          · have HN := Lib.hid (HD.out (fun h => h2 h.2))
            go_wp2
            go_quiet (fail)
            go_wp2
            go_ret
            exact ⟨ret_bool (by rw [HN.out]), below_drewN hbr _⟩
        · have HN := Lib.hid (HD.out (fun h => h1 h.1))
          go_wp2
          go_quiet (fail)
          go_wp2
          go_ret
          exact ⟨ret_bool (by rw [HN.out]), below_drewN hbr _⟩
      · obtain rfl : k = l.length := by omega
        have HN : Hid (decide (l = m) = true) := Lib.hid (decide_eq_true (same_upto hlen HK.out))
        clear ha hb hada hadb
        go_wp2
        go_ret
        exact ⟨ret_bool (by rw [HN.out]), hbr⟩
  · have ht : ((l.length : Int) != (m.length : Int)) = true := by rw [bne_iff_ne]; omega
    have hd : decide (l = m) = false := by rw [decide_eq_false_iff_not]; rintro rfl; exact hlen rfl
    rw [hd]
    clear hlen hada hadb ha hb
    go_enter Try.func17, Try.ntmps17
    go_wp2
    go_ret
    exact ⟨rfl, Below.refl _ _⟩
theorem same_yes (va vb : Value) (l : List (Int × Int)) (w : World) (ha : RunsIn va l w) (hb : RunsIn vb l w) :
    Calls Try.prog 17 #[va, vb] w fun e w' => e = .returned (.bool true) ∧ Below w.heap.size w w' :=
  (same_any va vb l l w ha hb).mono fun e w' ⟨he, h⟩ => ⟨by rw [he, decide_eq_true rfl], h⟩

/-- a literal list -/
theorem lit_in (l : List (Int × Int)) (w : World) (cs : Array Value) (h : cs = (cellsR l).toArray) (hl : l.length ≤ 1000) (n : Nat) (hn : l.length = n) : RunsIn (.slice (some ⟨w.heap.size, 0, none⟩) n n) l (w.alloc (.cells cs 36)) := by
  subst h
  subst hn
  have h := World.ownsRow_lit (e := 36) (size := 2) (base := 0) w (cellsR l).toArray l.length (Nat.zero_le _) (by unfold maxLen; omega) (by simp [cellsR_length])
  exact runsAt_in (B := 0) (by simpa using h)

theorem fit_ex {l : List (Int × Int)} (h : ∀ r ∈ l, -1000 ≤ r.1 ∧ r.1 ≤ 1000 ∧ -1000 ≤ r.2 ∧ r.2 ≤ 1000) : fitR l := fun r hr => by
  obtain ⟨a, b, c, d⟩ := h r hr
  exact ⟨⟨by omega, by omega⟩, by omega, by omega⟩
end Go.Proofs.Ytpgpglnbpahcjaa
