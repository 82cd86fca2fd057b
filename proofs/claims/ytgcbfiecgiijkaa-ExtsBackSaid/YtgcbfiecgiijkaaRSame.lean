/- SameRuns; the chapter's examples (alive). -/
import Derived.Test.YtgcbfiecgiijkaaRNorm
namespace Go.Proofs.Ytgcbfiecgiijkaa
set_option linter.unusedVariables false
open Go.RowKit Go.Shelf

theorem run_held : Try.prog.stoodInHeld 32 = false := by kernel_rfl
theorem same_upto {l m : List (Int × Int)} (h : l.length = m.length) (he : ∀ j < l.length, l[j]? = m[j]?) : l = m := by
  apply List.ext_getElem?
  intro j
  by_cases hj : j < l.length
  · exact he j hj
  · rw [List.getElem?_eq_none (by omega), List.getElem?_eq_none (by omega)]

set_option maxHeartbeats 4000000 in
theorem same_any (va vb : Value) (l m : List (Int × Int)) (w : World) (ha : RunsIn va l w) (hb : RunsIn vb m w) :
    Calls Try.prog 18 #[va, vb] w fun e w' => e = .returned (.bool (decide (l = m))) ∧ Below w.heap.size w w' := by
  obtain ⟨ada, capa, rfl, a1, a2, hada, -⟩ := id ha
  obtain ⟨adb, capb, rfl, b1, b2, hadb, -⟩ := id hb
  have a2 : capa ≤ 9223372036854775807 := a2
  have b2 : capb ≤ 9223372036854775807 := b2
  by_cases hlen : l.length = m.length
  · have ht : ((l.length : Int) != (m.length : Int)) = false := by rw [hlen]; simp
    go_enter Try.func18, Try.ntmps18
    go_wp2
    go_loopw [5] (fun p wr => ∃ k : Nat, p = .int .i64 k ∧ k ≤ l.length ∧ Hid (∀ j < k, l[j]? = m[j]?) ∧ Below w.heap.size w wr) (fun p _ => l.length - (intOf p).toNat)
    case atStart => exact ⟨0, rfl, Nat.zero_le _, Lib.hid (fun j h => by omega), Below.refl _ _⟩
    case round =>
      obtain ⟨k, rfl, hk, HK, hbr⟩ := hrel
      by_cases hlt : k < l.length
      · obtain ⟨ga, oa, rfl, hga, hca⟩ := hada (by omega)
        obtain ⟨gb, ob, rfl, hgb, hcb⟩ := hadb (by omega)
        have hlt2 : k < m.length := by omega
        obtain ⟨q1, q2⟩ := hca k hlt
        obtain ⟨q3, q4⟩ := hcb k hlt2
        have q1 := (hbr.cell (p := ⟨ga, oa + k * 2, none⟩) hga).trans q1
        have q2 := (hbr.cell (p := ⟨ga, oa + k * 2 + 1, none⟩) hga).trans q2
        have q3 := (hbr.cell (p := ⟨gb, ob + k * 2, none⟩) hgb).trans q3
        have q4 := (hbr.cell (p := ⟨gb, ob + k * 2 + 1, none⟩) hgb).trans q4
        have HE : Hid (l[k].1 = m[k].1 → l[k].2 = m[k].2 → ∀ j < k + 1, l[j]? = m[j]?) := Lib.hid fun e1 e2 j hj => by
          by_cases e : j = k
          · subst e
            rw [List.getElem?_eq_getElem hlt, List.getElem?_eq_getElem hlt2]
            exact congrArg some (Prod.ext e1 e2)
          · exact HK.out j (by omega)
        have HD : Hid (¬ (l[k].1 = m[k].1 ∧ l[k].2 = m[k].2) → decide (l = m) = false) := Lib.hid fun h => by
          rw [decide_eq_false_iff_not]; rintro rfl; exact h ⟨rfl, rfl⟩
        generalize l[k].1 = a at *
        generalize l[k].2 = c at *
        generalize m[k].1 = a' at *
        generalize m[k].2 = c' at *
        have d1 : ∀ q, (wr.drewN q).cell? ⟨ga, oa + k * 2, none⟩ = some (.int .i64 (a : Int)) := fun _ => q1
        have d2 : ∀ q, (wr.drewN q).cell? ⟨ga, oa + k * 2 + 1, none⟩ = some (.int .i64 (c : Int)) := fun _ => q2
        have d3 : ∀ q, (wr.drewN q).cell? ⟨gb, ob + k * 2, none⟩ = some (.int .i64 (a' : Int)) := fun _ => q3
        have d4 : ∀ q, (wr.drewN q).cell? ⟨gb, ob + k * 2 + 1, none⟩ = some (.int .i64 (c' : Int)) := fun _ => q4
        clear ha hb hada hadb hca hcb
        have rh := run_held
        by_cases h1 : a = a'
        · by_cases h2 : c = c'
          · have HN := Lib.hid (HE.out h1 h2)
            go_wp2
            go_quiet (fail)
            go_wp2
            exact ⟨⟨k + 1, by go_num, by omega, HN, below_drewN hbr _⟩, by simp [intOf]; omega⟩
          · have HN := Lib.hid (HD.out (fun h => h2 h.2))
            go_wp2
            go_quiet (fail)
            go_wp2
            go_ret
            exact ⟨ret_bool (by rw [HN.out]), below_drewN hbr _⟩
        · have HN := Lib.hid (HD.out (fun h => h1 h.1))
          go_wp2
          go_quiet (fail)
          go_wp2
          go_ret
          exact ⟨ret_bool (by rw [HN.out]), below_drewN hbr _⟩
      · obtain rfl : k = l.length := by omega
        have HN : Hid (decide (l = m) = true) := Lib.hid (decide_eq_true (same_upto hlen HK.out))
        clear ha hb hada hadb
        go_wp2
        go_ret
        exact ⟨ret_bool (by rw [HN.out]), hbr⟩
  · have ht : ((l.length : Int) != (m.length : Int)) = true := by rw [bne_iff_ne]; omega
    have hd : decide (l = m) = false := by rw [decide_eq_false_iff_not]; rintro rfl; exact hlen rfl
    rw [hd]
    clear hlen hada hadb ha hb
    go_enter Try.func18, Try.ntmps18
    go_wp2
    go_ret
    exact ⟨rfl, Below.refl _ _⟩
theorem same_yes (va vb : Value) (l : List (Int × Int)) (w : World) (ha : RunsIn va l w) (hb : RunsIn vb l w) :
    Calls Try.prog 18 #[va, vb] w fun e w' => e = .returned (.bool true) ∧ Below w.heap.size w w' :=
  (same_any va vb l l w ha hb).mono fun e w' ⟨he, h⟩ => ⟨by rw [he, decide_eq_true rfl], h⟩

/-- a literal list -/
theorem lit_in (l : List (Int × Int)) (w : World) (cs : Array Value) (h : cs = (cellsR l).toArray) (hl : l.length ≤ 1000) (n : Nat) (hn : l.length = n) : RunsIn (.slice (some ⟨w.heap.size, 0, none⟩) n n) l (w.alloc (.cells cs 32)) := by
  subst h
  subst hn
  have h := World.ownsRow_lit (e := 32) (size := 2) (base := 0) w (cellsR l).toArray l.length (Nat.zero_le _) (by unfold maxLen; omega) (by simp [cellsR_length])
  exact runsAt_in (B := 0) (by simpa using h)

theorem ex_ok : Norm (-1) [((3 : Int), (2 : Int)), (9, 4)] := .cons (by decide) (by decide) (.cons (by decide) (by decide) (.nil _))
theorem ex_no : ¬ Norm (-1) [((0 : Int), (2 : Int)), (2, 1)] := fun h => by
  cases h with
  | cons a b c => cases c with
    | cons a' b' c' => exact absurd a' (by decide)
theorem ex_minus : minusR [(0, 10)] [(3, 2), (9, 4)] = [(0, 3), (5, 4)] := by decide +kernel
theorem ex_meet : meetR [(0, 10)] [(3, 2), (9, 4)] = [(3, 2), (9, 1)] := by decide +kernel
theorem ex_norm : normR [(5, 2), (0, 1), (6, 3)] = [(0, 1), (5, 4)] := by decide +kernel
theorem ex_self : normR [(3, 2), (9, 4)] = [(3, 2), (9, 4)] := by decide +kernel
theorem fit_ex {l : List (Int × Int)} (h : ∀ r ∈ l, -1000 ≤ r.1 ∧ r.1 ≤ 1000 ∧ -1000 ≤ r.2 ∧ r.2 ≤ 1000) : fitR l := fun r hr => by
  obtain ⟨a, b, c, d⟩ := h r hr
  exact ⟨⟨by omega, by omega⟩, by omega, by omega⟩
end Go.Proofs.Ytgcbfiecgiijkaa
