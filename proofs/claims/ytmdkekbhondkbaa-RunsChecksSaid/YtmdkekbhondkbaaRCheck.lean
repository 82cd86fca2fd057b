/- Check. -/
import Derived.Test.YtmdkekbhondkbaaRRow
namespace Go.Proofs.Ytmdkekbhondkbaa
set_option linter.unusedVariables false
open Go.RowKit

theorem cell_gr {w : World} {a : Addr} {v : Value} (hb : a.block < w.heap.size) (h : w.cell? a = some v) : ∀ (n : Nat) (os : Array Obj), (Sort.grow (w.drewN n) os).cell? a = some v := fun n os => cell_grown hb h n os
theorem cell_old {w : World} {a : Addr} {v : Value} (hb : a.block < w.heap.size) (h : w.cell? a = some v) (o : Obj) : (w.alloc o).cell? a = some v := (World.cell?_of_block (heap_alloc_old _ _ hb)).trans h
/-- the cells of a block that was just made, in every world that comes of it -/
theorem two_gr (w : World) (a b : Int) : (∀ (n : Nat) (os : Array Obj), (Sort.grow ((w.alloc (.cells #[.int .i64 a, .int .i64 b] 37)).drewN n) os).cell? ⟨w.heap.size, 0, none⟩ = some (.int .i64 a)) ∧
    ∀ (n : Nat) (os : Array Obj), (Sort.grow ((w.alloc (.cells #[.int .i64 a, .int .i64 b] 37)).drewN n) os).cell? ⟨w.heap.size, 1, none⟩ = some (.int .i64 b) := by
  have hs : w.heap.size < (w.alloc (.cells #[.int .i64 a, .int .i64 b] 37)).heap.size := by show _ < (w.heap.push _).size; simp
  refine ⟨cell_gr hs ?_, cell_gr hs ?_⟩ <;> rw [World.cell?_alloc_mark] <;> rfl
theorem valid_gr (a b : Int) (ha : I64 a) (hb : I64 b) (W : World) :
    Calls Try.prog 36 #[.agg #[.int .i64 a, .int .i64 b]] W fun e w' => e = .returned (.bool (decide (okR (a, b)))) ∧ ∃ q os', w' = Sort.grow (W.drewN q) os' :=
  (valid_any a b ha hb W).mono fun e w' ⟨he, hw⟩ => ⟨he, 0, _, hw.trans (Sort.alloc_eq_grow _ _)⟩
theorem end_gr (a b : Int) (h : I64 (a + b)) (W : World) :
    Calls Try.prog 40 #[.agg #[.int .i64 a, .int .i64 b]] W fun e w' => e = .returned (.int .i64 (a + b)) ∧ ∃ q os', w' = Sort.grow (W.drewN q) os' :=
  (end_any a b h W).mono fun e w' ⟨he, hw⟩ => ⟨he, 0, _, hw.trans (Sort.alloc_eq_grow _ _)⟩

set_option maxHeartbeats 2000000 in
theorem check_any (l : List (Int × Int)) (hf : fitR l) (v : Value) (w : World) (hv : RunsIn v l w) :
    Calls Try.prog 16 #[v] w fun e w' => e = .returned (.bool (decide (Norm (-1) l))) ∧ Below w.heap.size w w' := by
  obtain ⟨ad, cap, rfl, h1, h2, h3, -⟩ := id hv
  have h2 : cap ≤ 9223372036854775807 := h2
  have mixed : Try.prog.follows .mixedOrders = true := by kernel_rfl
  go_enter Try.func16, Try.ntmps16
  go_wp2
  go_loopw [7] (fun p wr => ∃ k : Nat, p = .int .i64 k ∧ k ≤ l.length ∧ Hid (∀ j < k, normAt l j) ∧ Below w.heap.size w wr) (fun p _ => l.length - (intOf p).toNat)
  case atStart => exact ⟨0, rfl, Nat.zero_le _, Lib.hid (fun j h => by omega), Below.refl _ _⟩
  case round =>
    obtain ⟨k, rfl, hk, HK, hb⟩ := hrel
    by_cases hlt : k < l.length
    · obtain ⟨g, o, rfl, hg, hc⟩ := h3 (by omega)
      have hg2 : g < wr.heap.size := Nat.lt_of_lt_of_le hg hb.size
      obtain ⟨c1, c2⟩ := hc k hlt
      have c1 : wr.cell? ⟨g, o + k * 2, none⟩ = _ := (hb.cell (p := ⟨g, o + k * 2, none⟩) hg).trans c1
      have c2 : wr.cell? ⟨g, o + k * 2 + 1, none⟩ = _ := (hb.cell (p := ⟨g, o + k * 2 + 1, none⟩) hg).trans c2
      have hfk := fit_at hf k hlt
      have HN : Hid (normAt l k → ∀ j < k + 1, normAt l j) := Lib.hid fun h j hj => by
        by_cases e : j = k
        · subst e; exact h
        · exact HK.out j (by omega)
      have HD : Hid (¬ normAt l k → decide (Norm (-1) l) = false) := Lib.hid fun h => by
        rw [decide_eq_false_iff_not, norm_iff]; exact fun hn => h (hn k)
      obtain ⟨y1, y2⟩ := two_gr wr l[k].1 l[k].2
      have V := valid_gr l[k].1 l[k].2 hfk.1 hfk.2
      have hbq := balloc hb (.cells #[.int .i64 l[k].1, .int .i64 l[k].2] 37)
      by_cases hok : okR l[k]
      · rw [show decide (okR (l[k].1, l[k].2)) = true from decide_eq_true hok] at V
        rcases Nat.eq_zero_or_pos k with h0 | h0
        · have HE := Lib.hid (HN.out fun h => ⟨hok, fun h => by omega⟩)
          generalize l[k].1 = a at *
          generalize l[k].2 = b at *
          have V := Lib.hid V
          have d0 : decide (0 < k) = false := decide_eq_false (by omega)
          clear h0
          clear hc h3 hv HD HN hok
          go_wp2
          generalize wr.alloc (.cells #[.int .i64 a, .int .i64 b] 37) = wq at *
          refine wp_region_quiet_grown mixed (by kernel_rfl) ?_
          repeat (go_big_quiet_step (first | (go_at_call 36; refine Calls.grown_of (V.out _))))
          refine wpQuiet_nil ?_
          intro _ hw'
          obtain ⟨⟨nq, osq⟩, hw''⟩ := hw'
          subst hw''
          go_wp2
          exact ⟨⟨k + 1, by go_num, by omega, HE, bgrow (below_drewN hbq _) _⟩, by simp [intOf]; omega⟩
        · obtain ⟨j, rfl⟩ : ∃ j, k = j + 1 := ⟨k - 1, by omega⟩
          obtain ⟨c3, c4⟩ := hc j (by omega)
          have c3 : wr.cell? ⟨g, o + j * 2, none⟩ = _ := (hb.cell (p := ⟨g, o + j * 2, none⟩) hg).trans c3
          have c4 : wr.cell? ⟨g, o + j * 2 + 1, none⟩ = _ := (hb.cell (p := ⟨g, o + j * 2 + 1, none⟩) hg).trans c4
          have hgq : g < (wr.alloc (.cells #[.int .i64 l[j+1].1, .int .i64 l[j+1].2] 37)).heap.size := by show _ < (wr.heap.push _).size; simp; omega
          have z3 := cell_gr (a := ⟨g, o + j * 2, none⟩) hgq (cell_old hg2 c3 (.cells #[.int .i64 l[j+1].1, .int .i64 l[j+1].2] 37))
          have z4 := cell_gr (a := ⟨g, o + j * 2 + 1, none⟩) hgq (cell_old hg2 c4 (.cells #[.int .i64 l[j+1].1, .int .i64 l[j+1].2] 37))
          have hj := okR_fit ((HK.out j (by omega)) (by omega)).1
          have hj2 : I64 (l[j].1 + l[j].2) := by
            have h := ((HK.out j (by omega)) (by omega)).1
            have := h.1; have := h.2.1; have := h.2.2
            exact ⟨by omega, by omega⟩
          have E := end_gr l[j].1 l[j].2 hj2
          have HN1 : Hid (l[j].1 + l[j].2 < l[j+1].1 → ∀ m < j + 1 + 1, normAt l m) := Lib.hid fun h => HN.out fun h2 => ⟨hok, fun _ => h⟩
          have HD1 : Hid (¬ l[j].1 + l[j].2 < l[j+1].1 → decide (Norm (-1) l) = false) := Lib.hid fun h => HD.out fun h2 => h ((h2 hlt).2 (by omega))
          generalize l[j+1].1 = a at *
          generalize l[j+1].2 = b at *
          generalize l[j].1 = a' at *
          generalize l[j].2 = b' at *
          have V := Lib.hid V
          have E := Lib.hid E
          clear hc h3 hv HD HN hok c3 c4
          by_cases ht : a' + b' < a
          · have HE := Lib.hid (HN1.out ht)
            have d1 : decide (a ≤ a' + b') = false := decide_eq_false (by omega)
            clear ht HN1 HD1
            go_wp2
            generalize wr.alloc (.cells #[.int .i64 a, .int .i64 b] 37) = wq at *
            refine wp_region_quiet_grown mixed (by kernel_rfl) ?_
            repeat (go_big_quiet_step (first | (go_at_call 36; refine Calls.grown_of (V.out _)) | (go_at_call 40; refine Calls.grown_of (E.out _))))
            refine wpQuiet_nil ?_
            intro _ hw'
            obtain ⟨⟨nq, osq⟩, hw''⟩ := hw'
            subst hw''
            go_wp2
            exact ⟨⟨j + 1 + 1, by go_num, by omega, HE, bgrow (below_drewN hbq _) _⟩, by simp [intOf]; omega⟩
          · have HE := Lib.hid (HD1.out ht)
            have d1 : decide (a ≤ a' + b') = true := decide_eq_true (by omega)
            clear ht HN1 HD1
            go_wp2
            generalize wr.alloc (.cells #[.int .i64 a, .int .i64 b] 37) = wq at *
            refine wp_region_quiet_grown mixed (by kernel_rfl) ?_
            repeat (go_big_quiet_step (first | (go_at_call 36; refine Calls.grown_of (V.out _)) | (go_at_call 40; refine Calls.grown_of (E.out _))))
            refine wpQuiet_nil ?_
            intro _ hw'
            obtain ⟨⟨nq, osq⟩, hw''⟩ := hw'
            subst hw''
            go_wp2
            go_ret
            exact ⟨ret_bool (by rw [HE.out]), bgrow (below_drewN hbq _) _⟩
      · rw [show decide (okR (l[k].1, l[k].2)) = false from decide_eq_false hok] at V
        have HE := Lib.hid (HD.out fun h => hok (h hlt).1)
        generalize l[k].1 = a at *
        generalize l[k].2 = b at *
        have V := Lib.hid V
        clear hc h3 hv HD HN hok
        go_wp2
        generalize wr.alloc (.cells #[.int .i64 a, .int .i64 b] 37) = wq at *
        refine wp_region_quiet_grown mixed (by kernel_rfl) ?_
        repeat (go_big_quiet_step (first | (go_at_call 36; refine Calls.grown_of (V.out _))))
        refine wpQuiet_nil ?_
        intro _ hw'
        obtain ⟨⟨nq, osq⟩, hw''⟩ := hw'
        subst hw''
        go_wp2
        go_ret
        exact ⟨ret_bool (by rw [HE.out]), bgrow (below_drewN hbq _) _⟩
    · obtain rfl : k = l.length := by omega
      have HE : Hid (decide (Norm (-1) l) = true) := Lib.hid (decide_eq_true ((norm_iff l).2 fun j => by
        by_cases hj : j < l.length
        · exact HK.out j hj
        · exact fun h => absurd h hj))
      clear h3 hv
      go_wp2
      go_ret
      exact ⟨ret_bool (by rw [HE.out]), hb⟩
end Go.Proofs.Ytmdkekbhondkbaa
