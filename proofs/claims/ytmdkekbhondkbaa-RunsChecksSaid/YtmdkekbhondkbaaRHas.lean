/- Has. -/
import Derived.Test.YtmdkekbhondkbaaRSort
namespace Go.Proofs.Ytmdkekbhondkbaa
set_option linter.unusedVariables false
open Go.RowKit Go.Shelf

set_option maxHeartbeats 2000000 in
theorem has_clo (i a b : Int) (ha : I64 a) (hb : I64 b) (B : Nat) (W : World) (hB : B < W.heap.size) (hc : W.cell? ⟨B, 0, none⟩ = some (.int .i64 i)) :
    Calls Try.prog 46 #[.agg #[.int .i64 a, .int .i64 b], .pointer (some ⟨B, 0, none⟩)] W fun e w' => e = .returned (.bool (decide (inR (a, b) i))) ∧ Below W.heap.size W w' := by
  have mixed : Try.prog.follows .mixedOrders = true := by kernel_rfl
  obtain ⟨y1, y2⟩ := two_gr W a b
  have hBq : B < (W.alloc (.cells #[.int .i64 a, .int .i64 b] 37)).heap.size := by rw [size_alloc]; omega
  have z := cell_gr (a := ⟨B, 0, none⟩) hBq (cell_old hB hc (.cells #[.int .i64 a, .int .i64 b] 37))
  have hbq := balloc (Below.refl W.heap.size W) (.cells #[.int .i64 a, .int .i64 b] 37)
  have V := valid_gr a b ha hb
  by_cases hok : okR (a, b)
  · rw [decide_eq_true hok] at V
    have hiE : I64 (a + b) := by
      have h1 : 0 ≤ a := hok.1; have h2 : 1 ≤ b := hok.2.1; have h3 : a + b ≤ 9223372036854775807 := hok.2.2
      exact ⟨by omega, by omega⟩
    have E := Lib.hid (end_gr a b hiE)
    have HD : Hid (decide (inR (a, b) i) = (decide (a ≤ i) && decide (i < a + b))) := Lib.hid (by
      rw [Bool.eq_iff_iff]; simp only [Bool.and_eq_true, decide_eq_true_eq]; unfold inR
      exact ⟨fun h => h.2, fun h => ⟨hok, h⟩⟩)
    have V := Lib.hid V
    clear hok hiE
    by_cases h1 : a ≤ i
    · have d1 : decide (a ≤ i) = true := decide_eq_true h1
      clear h1
      go_enter Try.func46, Try.ntmps46
      go_wp2
      generalize W.alloc (.cells #[.int .i64 a, .int .i64 b] 37) = wq at *
      refine wp_region_quiet_grown mixed (by kernel_rfl) ?_
      repeat (go_big_quiet_step (first | (go_at_call 36; refine Calls.grown_of (V.out _)) | (go_at_call 40; refine Calls.grown_of (E.out _))))
      refine wpQuiet_nil ?_
      intro _ hw'
      obtain ⟨⟨nq, osq⟩, hw''⟩ := hw'
      subst hw''
      go_wp2
      go_ret
      exact ⟨ret_bool (by rw [HD.out, d1]; simp), bgrow (below_drewN hbq _) _⟩
    · have d1 : decide (a ≤ i) = false := decide_eq_false h1
      clear h1
      go_enter Try.func46, Try.ntmps46
      go_wp2
      generalize W.alloc (.cells #[.int .i64 a, .int .i64 b] 37) = wq at *
      refine wp_region_quiet_grown mixed (by kernel_rfl) ?_
      repeat (go_big_quiet_step (first | (go_at_call 36; refine Calls.grown_of (V.out _)) | (go_at_call 40; refine Calls.grown_of (E.out _))))
      refine wpQuiet_nil ?_
      intro _ hw'
      obtain ⟨⟨nq, osq⟩, hw''⟩ := hw'
      subst hw''
      go_wp2
      go_ret
      exact ⟨ret_bool (by rw [HD.out, d1]; simp), bgrow (below_drewN hbq _) _⟩
  · rw [decide_eq_false hok] at V
    have HD : Hid (decide (inR (a, b) i) = false) := Lib.hid (decide_eq_false fun h => hok h.1)
    have V := Lib.hid V
    clear hok
    go_enter Try.func46, Try.ntmps46
    go_wp2
    generalize W.alloc (.cells #[.int .i64 a, .int .i64 b] 37) = wq at *
    refine wp_region_quiet_grown mixed (by kernel_rfl) ?_
    repeat (go_big_quiet_step (first | (go_at_call 36; refine Calls.grown_of (V.out _))))
    refine wpQuiet_nil ?_
    intro _ hw'
    obtain ⟨⟨nq, osq⟩, hw''⟩ := hw'
    subst hw''
    go_wp2
    go_ret
    exact ⟨ret_bool (by rw [HD.out]), bgrow (below_drewN hbq _) _⟩

/-- runs of ints -/
abbrev R64 : Type := { r : Int × Int // I64 r.1 ∧ I64 r.2 }
instance : Inhabited R64 := ⟨⟨(0, 0), by decide⟩⟩
def enc64 (x : R64) : List Value := [.int .i64 x.1.1, .int .i64 x.1.2]
def to64 (l : List (Int × Int)) (hf : ∀ r ∈ l, I64 r.1 ∧ I64 r.2) : List R64 := l.pmap (fun r h => ⟨r, h⟩) hf
theorem to64_len (l : List (Int × Int)) (hf : ∀ r ∈ l, I64 r.1 ∧ I64 r.2) : (to64 l hf).length = l.length := by unfold to64; simp
theorem to64_at (l : List (Int × Int)) (hf : ∀ r ∈ l, I64 r.1 ∧ I64 r.2) (j : Nat) (h : j < l.length) : ((to64 l hf)[j]!).1 = l[j] := by
  rw [getElem!_pos _ j (by rw [to64_len]; exact h)]; unfold to64; simp
theorem to64_any (i : Int) : ∀ (l : List (Int × Int)) (hf : ∀ r ∈ l, I64 r.1 ∧ I64 r.2), (to64 l hf).any (fun x => decide (inR x.1 i)) = decide (elemR l i)
  | [], hf => by simp [to64, elemR]
  | r :: l, hf => by
    have ih := to64_any i l (fun q hq => hf q (List.mem_cons_of_mem _ hq))
    show (decide (inR r i) || (to64 l _).any _) = _
    rw [ih, Bool.eq_iff_iff]; simp only [Bool.or_eq_true, decide_eq_true_eq]; exact (elemR_cons _ _ _).symm

set_option maxHeartbeats 2000000 in
theorem contains_some (l : List (Int × Int)) (hf : ∀ r ∈ l, I64 r.1 ∧ I64 r.2) (i : Int) (B : Nat) (g o cap : Nat) (w : World) (hB : B < w.heap.size) (hcB : w.cell? ⟨B, 0, none⟩ = some (.int .i64 i)) (hg : g < w.heap.size) (hlen : l.length ≤ 9223372036854775807)
    (hc : ∀ k (h : k < l.length), w.cell? ⟨g, o + k * 2, none⟩ = some (.int .i64 l[k].1) ∧ w.cell? ⟨g, o + k * 2 + 1, none⟩ = some (.int .i64 l[k].2)) :
    Calls Try.prog 45 #[.slice (some ⟨g, o, none⟩) l.length cap, .func (.func 46) #[] #[.pointer (some ⟨B, 0, none⟩)]] w fun e w' => e = .returned (.bool (decide (elemR l i))) ∧ Below w.heap.size w w' := by
  have eg : ∀ args w, (callFunc 46 args).run Try.prog w = .ok (.enter 46 args) w := enters_of Try.func46 (by kernel_rfl) rfl
  have hp : PredBelow Try.prog 46 #[.pointer (some ⟨B, 0, none⟩)] (fun x => .agg (enc64 x).toArray) (fun x => decide (inR x.1 i)) w := fun W x hb =>
    (has_clo i x.1.1 x.1.2 x.2.1 x.2.2 B W (Nat.lt_of_lt_of_le hB hb.size) ((hb.cell (p := ⟨B, 0, none⟩) hB).trans hcB)).mono fun e w' ⟨he, h2⟩ => ⟨he, hb.trans (h2.mono hb.size)⟩
  have hcon := AnyQ.slices_ContainsFunc Try.contRun 2 Try.isAgg37 Try.sizeOf37 enc64 (fun _ => rfl) (fun x => decide (inR x.1 i)) 46 #[.pointer (some ⟨B, 0, none⟩)] eg g o l.length cap (to64 l hf) w hp
    (by rw [to64_len]; exact Nat.le_refl _) hlen hg (fun j hj m u hm => by
      have hj : j < l.length := by rw [to64_len] at hj; exact hj
      obtain ⟨h1, h2⟩ := hc j hj
      have e := to64_at l hf j hj
      unfold enc64 at hm
      rw [e] at hm
      match m, hm with
      | 0, hm => simp at hm; rw [← hm]; exact h1
      | 1, hm => simp at hm; rw [← hm]; exact h2
      | m + 2, hm => simp at hm)
  have ht : (to64 l hf).take l.length = to64 l hf := List.take_of_length_le (by rw [to64_len]; exact Nat.le_refl _)
  rw [ht, to64_any] at hcon
  exact hcon

set_option maxHeartbeats 2000000 in
theorem index_none (ad : Option Addr) (cap : Nat) (f : Value) (w : World) :
    Calls Try.prog 53 #[.slice ad 0 cap, f] w fun e w' => e = .returned (.int .i64 (-1)) ∧ w' = w := by
  go_enter Try.func53, Try.ntmps53
  go_wp2
  refine wp_loop_rounds 1 ?_
  rw [rounds_succ]
  go_wp2
  go_ret
  exact ⟨rfl, rfl⟩
theorem contains_none (ad : Option Addr) (cap : Nat) (f : Value) (w : World) :
    Calls Try.prog 45 #[.slice ad 0 cap, f] w fun e w' => e = .returned (.bool false) ∧ w' = w := by
  have C := Lib.hid (index_none ad cap f)
  go_enter Try.func45, Try.ntmps45
  go_wp2_with fail
  refine (C.out _).mono ?_; rintro e w' ⟨rfl, rfl⟩
  go_wp2
  go_ret
  exact ⟨rfl, rfl⟩

set_option maxHeartbeats 2000000 in
theorem has_any (l : List (Int × Int)) (hf : fitR l) (v : Value) (i : Int) (w : World) (hv : RunsIn v l w) :
    Calls Try.prog 19 #[v, .int .i64 i] w fun e w' => e = .returned (.bool (decide (elemR l i))) ∧ Below w.heap.size w w' := by
  obtain ⟨ad, cap, rfl, h1, h2, h3, -⟩ := id hv
  have h2 : cap ≤ 9223372036854775807 := h2
  have hmf : ∀ (fn : Fn) (first cap : Array Value) (w : World), (Instr.makeFunc fn first cap).run Try.prog w = .ok (.func fn first cap) w := fun _ _ _ _ => rfl
  have hb0 := balloc (Below.refl w.heap.size w) (.cells #[.int .i64 i] 3)
  have C : Hid (Calls Try.prog 45 #[.slice ad l.length cap, .func (.func 46) #[] #[.pointer (some ⟨w.heap.size, 0, none⟩)]] (w.alloc (.cells #[.int .i64 i] 3)) fun e w' => e = .returned (.bool (decide (elemR l i))) ∧ Below w.heap.size w w') := by
    show Calls _ _ _ _ _
    by_cases hl : l.length = 0
    · have hnil : l = [] := List.length_eq_zero_iff.1 hl
      subst hnil
      refine (contains_none ad cap _ _).mono ?_
      rintro e w' ⟨rfl, rfl⟩
      exact ⟨ret_bool (by simp [elemR]), hb0⟩
    · obtain ⟨g, o, rfl, hg, hc⟩ := h3 (by omega)
      refine (contains_some l hf i w.heap.size g o cap _ (by rw [size_alloc]; omega) ?_ (by rw [size_alloc]; omega) (by omega) fun k hk => ?_).mono ?_
      · rw [World.cell?_alloc_mark]; rfl
      · obtain ⟨c1, c2⟩ := hc k hk
        exact ⟨cell_old (a := ⟨g, o + k * 2, none⟩) hg c1 _, cell_old (a := ⟨g, o + k * 2 + 1, none⟩) hg c2 _⟩
      · rintro e w' ⟨rfl, h⟩
        exact ⟨rfl, bnext hb0 h⟩
  generalize decide (elemR l i) = r at *
  clear h3 hv hb0
  go_enter Try.func19, Try.ntmps19
  go_wp2_with fail
  refine C.out.mono ?_; rintro e w' ⟨rfl, hb⟩
  go_wp2
  go_ret
  exact ⟨rfl, hb⟩
end Go.Proofs.Ytmdkekbhondkbaa
