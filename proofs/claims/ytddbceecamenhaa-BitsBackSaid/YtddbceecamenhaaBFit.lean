/- Fit and First. -/
import Derived.Test.YtddbceecamenhaaBEach
import Derived.Laws.ResultCell
namespace Go.Proofs.Ytddbceecamenhaa
set_option linter.unusedVariables false
open Go.RowKit

/-- is there room for so many from there on? is there room at all? -/
def roomAt (size «from» : Int) (r : Nat × Nat) : Bool := decide (size ≤ (r.1 : Int) + (r.2 : Int) - max (r.1 : Int) «from»)
def roomIn (size : Int) (r : Nat × Nat) : Bool := decide (size ≤ (r.2 : Int))
/-- P3.3: where a run of that size is found -/
def fitV (l : List (Nat × Nat)) (size «from» : Int) : Option Int :=
  if size < 1 then none else
    match l.find? (roomAt size «from») with
    | some r => some (max (r.1 : Int) «from»)
    | none => (l.find? (roomIn size)).map fun r => (r.1 : Int)
def fitLen (o : Option Int) (size : Int) : Int := if o.isSome then size else 0
def fitRes (o : Option Int) (size : Int) : Value := .tuple #[.agg #[.int .i64 (o.getD 0), .int .i64 (fitLen o size)], .bool o.isSome]

/-- what Fit's own memory holds: B: size; B + 1: from; B + 2: the result; B + 3: fit; B + 4: found -/
structure FitMem (w0 : World) (size «from» a b : Int) (f : Bool) (w : World) : Prop where
  m0 : w.heap[w0.heap.size]? = some (.cells #[.int .i64 size] 3 (0, 0))
  m1 : w.heap[w0.heap.size + 1]? = some (.cells #[.int .i64 «from»] 3 (0, 0))
  m2 : w.heap[w0.heap.size + 2]? = some (.cells #[.int .i64 0, .int .i64 0] 31 (0, 0))
  m3 : w.heap[w0.heap.size + 3]? = some (.cells #[.int .i64 a, .int .i64 b] 31 (0, 0))
  m4 : w.heap[w0.heap.size + 4]? = some (.cells #[.bool f] 4 (0, 0))
  be : Below w0.heap.size w0 w
theorem FitMem.box {w0 : World} {size «from» a b : Int} {f : Bool} {w : World} (h : FitMem w0 size «from» a b f w) (o : Obj) : FitMem w0 size «from» a b f (w.alloc o) :=
  ⟨(heap_alloc_old _ _ (lt_of_block h.m0)).trans h.m0, (heap_alloc_old _ _ (lt_of_block h.m1)).trans h.m1, (heap_alloc_old _ _ (lt_of_block h.m2)).trans h.m2, (heap_alloc_old _ _ (lt_of_block h.m3)).trans h.m3, (heap_alloc_old _ _ (lt_of_block h.m4)).trans h.m4, h.be.alloc h.be.size _⟩
theorem cell_two {w : World} {b : Nat} {u v : Value} {t : TypeId} (h : w.heap[b]? = some (.cells #[u, v] t (0, 0))) : w.cell? ⟨b, 0, none⟩ = some u ∧ w.cell? ⟨b, 1, none⟩ = some v ∧ w.frozen? ⟨b, 0, none⟩ = false ∧ w.frozen? ⟨b, 1, none⟩ = false := by
  simp [World.cell?, World.frozen?, h]

theorem fit_skip (w0 : World) (size «from» x y : Int) (f : Bool) (a c : Nat) (ha : a ≤ 16000) (hc : c ≤ 16000) (h1 : (c : Int) < size) (w : World) (h : FitMem w0 size «from» x y f w) :
    Calls Try.prog 30 #[.agg #[.int .i64 (a : Int), .int .i64 (c : Int)], .pointer (some ⟨w0.heap.size, 0, none⟩), .pointer (some ⟨w0.heap.size + 4, 0, none⟩), .pointer (some ⟨w0.heap.size + 3, 0, none⟩), .pointer (some ⟨w0.heap.size + 1, 0, none⟩)] w fun e w2 => e = .returned (.bool true) ∧ FitMem w0 size «from» x y f w2 := by
  have hb := h.box (.cells #[.int .i64 (a : Int), .int .i64 (c : Int)] 31)
  have c0 := cell_of_one hb.m0
  go_enter Try.func30, Try.ntmps30
  go_wp2
  go_ret
  exact ⟨rfl, hb⟩

theorem FitMem.laid {w0 : World} {size «from» x y : Int} {f : Bool} {w : World} (h : FitMem w0 size «from» x y f w) (a : Int) :
    FitMem w0 size «from» a size true (((w.setCell ⟨w0.heap.size + 3, 0, none⟩ (.int .i64 a)).setCell ⟨w0.heap.size + 3, 1, none⟩ (.int .i64 size)).setCell ⟨w0.heap.size + 4, 0, none⟩ (.bool true)) := by
  have e3 := heap_setCell_same _ _ 1 _ _ (.int .i64 size) (heap_setCell_same _ _ 0 _ _ (.int .i64 a) h.m3)
  refine ⟨?_, ?_, ?_, ?_, ?_, ((h.be.setCell (Nat.le_add_right _ _) _).setCell (Nat.le_add_right _ _) _).setCell (Nat.le_add_right _ _) _⟩
  · rw [Below.heap_setCell _ _ _ _ (by show w0.heap.size ≠ w0.heap.size + 4; omega), Below.heap_setCell _ _ _ _ (by show w0.heap.size ≠ w0.heap.size + 3; omega), Below.heap_setCell _ _ _ _ (by show w0.heap.size ≠ w0.heap.size + 3; omega)]; exact h.m0
  · rw [Below.heap_setCell _ _ _ _ (by show w0.heap.size + 1 ≠ w0.heap.size + 4; omega), Below.heap_setCell _ _ _ _ (by show w0.heap.size + 1 ≠ w0.heap.size + 3; omega), Below.heap_setCell _ _ _ _ (by show w0.heap.size + 1 ≠ w0.heap.size + 3; omega)]; exact h.m1
  · rw [Below.heap_setCell _ _ _ _ (by show w0.heap.size + 2 ≠ w0.heap.size + 4; omega), Below.heap_setCell _ _ _ _ (by show w0.heap.size + 2 ≠ w0.heap.size + 3; omega), Below.heap_setCell _ _ _ _ (by show w0.heap.size + 2 ≠ w0.heap.size + 3; omega)]; exact h.m2
  · rw [Below.heap_setCell _ _ _ _ (by show w0.heap.size + 3 ≠ w0.heap.size + 4; omega)]; exact e3
  · refine one_setCell (v := .bool f) ?_
    rw [Below.heap_setCell _ _ _ _ (by show w0.heap.size + 4 ≠ w0.heap.size + 3; omega), Below.heap_setCell _ _ _ _ (by show w0.heap.size + 4 ≠ w0.heap.size + 3; omega)]; exact h.m4
theorem FitMem.turned {w0 : World} {size «from» x y : Int} {f : Bool} {w : World} (h : FitMem w0 size «from» x y f w) (a : Int) :
    FitMem w0 size «from» a y f (w.setCell ⟨w0.heap.size + 3, 0, none⟩ (.int .i64 a)) := by
  have e3 := heap_setCell_same _ _ 0 _ _ (.int .i64 a) h.m3
  refine ⟨?_, ?_, ?_, e3, ?_, h.be.setCell (Nat.le_add_right _ _) _⟩
  · rw [Below.heap_setCell _ _ _ _ (by show w0.heap.size ≠ w0.heap.size + 3; omega)]; exact h.m0
  · rw [Below.heap_setCell _ _ _ _ (by show w0.heap.size + 1 ≠ w0.heap.size + 3; omega)]; exact h.m1
  · rw [Below.heap_setCell _ _ _ _ (by show w0.heap.size + 2 ≠ w0.heap.size + 3; omega)]; exact h.m2
  · rw [Below.heap_setCell _ _ _ _ (by show w0.heap.size + 4 ≠ w0.heap.size + 3; omega)]; exact h.m4

theorem roomAt_is (size «from» : Int) (a c : Nat) (m : Int) (hm : max (a : Int) «from» = m) (d : Bool) (hd : decide (size ≤ (a : Int) + (c : Int) - m) = d) : roomAt size «from» (a, c) = d := by
  rw [← hd, ← hm]; rfl

set_option maxHeartbeats 1000000 in
theorem fit_first_no (w0 : World) (size «from» x y m : Int) (a c : Nat) (ha : a ≤ 16000) (hc : c ≤ 16000) (h1 : size ≤ (c : Int)) (hs : 1 ≤ size) (hf : «from» ≤ 9223372036854775807) (hm : max (a : Int) «from» = m) (hr : (a : Int) + (c : Int) - m < size) (w : World) (h : FitMem w0 size «from» x y false w) :
    Calls Try.prog 30 #[.agg #[.int .i64 (a : Int), .int .i64 (c : Int)], .pointer (some ⟨w0.heap.size, 0, none⟩), .pointer (some ⟨w0.heap.size + 4, 0, none⟩), .pointer (some ⟨w0.heap.size + 3, 0, none⟩), .pointer (some ⟨w0.heap.size + 1, 0, none⟩)] w fun e w2 => e = .returned (.bool true) ∧ FitMem w0 size «from» a size true w2 := by
  have hb := h.box (.cells #[.int .i64 (a : Int), .int .i64 (c : Int)] 31)
  have c0 := cell_of_one hb.m0
  have c1 := cell_of_one hb.m1
  obtain ⟨c3, c4, f3, f4⟩ := cell_two hb.m3
  have c5 := cell_of_one hb.m4
  have f5 := free_of_one hb.m4
  have hlt := lt_of_block h.m4
  have n3 : w0.heap.size + 3 ≠ w.heap.size := by omega
  have n4 : w0.heap.size + 4 ≠ w.heap.size := by omega
  rcases (show ((a : Int) < «from» ∧ m = «from») ∨ («from» ≤ (a : Int) ∧ m = a) by omega) with ⟨g1, rfl⟩ | ⟨g1, rfl⟩
  all_goals try (exfalso; omega)
  all_goals
    clear hm
    go_enter Try.func30, Try.ntmps30
    go_wp2
    go_ret
    exact ⟨rfl, hb.laid _⟩

set_option maxHeartbeats 1000000 in
theorem fit_first_yes (w0 : World) (size «from» x y m : Int) (a c : Nat) (ha : a ≤ 16000) (hc : c ≤ 16000) (h1 : size ≤ (c : Int)) (hs : 1 ≤ size) (hf : «from» ≤ 9223372036854775807) (hm : max (a : Int) «from» = m) (hr :  size ≤ (a : Int) + (c : Int) - m) (w : World) (h : FitMem w0 size «from» x y false w) :
    Calls Try.prog 30 #[.agg #[.int .i64 (a : Int), .int .i64 (c : Int)], .pointer (some ⟨w0.heap.size, 0, none⟩), .pointer (some ⟨w0.heap.size + 4, 0, none⟩), .pointer (some ⟨w0.heap.size + 3, 0, none⟩), .pointer (some ⟨w0.heap.size + 1, 0, none⟩)] w fun e w2 => e = .returned (.bool false) ∧ FitMem w0 size «from» m size true w2 := by
  have hb := h.box (.cells #[.int .i64 (a : Int), .int .i64 (c : Int)] 31)
  have c0 := cell_of_one hb.m0
  have c1 := cell_of_one hb.m1
  obtain ⟨c3, c4, f3, f4⟩ := cell_two hb.m3
  have c5 := cell_of_one hb.m4
  have f5 := free_of_one hb.m4
  have hlt := lt_of_block h.m4
  have n3 : w0.heap.size + 3 ≠ w.heap.size := by omega
  have n4 : w0.heap.size + 4 ≠ w.heap.size := by omega
  rcases (show ((a : Int) < «from» ∧ m = «from») ∨ («from» ≤ (a : Int) ∧ m = a) by omega) with ⟨g1, rfl⟩ | ⟨g1, rfl⟩
  all_goals try (exfalso; omega)
  all_goals
    clear hm
    go_enter Try.func30, Try.ntmps30
    go_wp2
    go_ret
    exact ⟨rfl, (hb.laid _).turned _⟩

set_option maxHeartbeats 1000000 in
theorem fit_next_no (w0 : World) (size «from» x y m : Int) (a c : Nat) (ha : a ≤ 16000) (hc : c ≤ 16000) (h1 : size ≤ (c : Int)) (hs : 1 ≤ size) (hf : «from» ≤ 9223372036854775807) (hm : max (a : Int) «from» = m) (hr : (a : Int) + (c : Int) - m < size) (w : World) (h : FitMem w0 size «from» x size true w) :
    Calls Try.prog 30 #[.agg #[.int .i64 (a : Int), .int .i64 (c : Int)], .pointer (some ⟨w0.heap.size, 0, none⟩), .pointer (some ⟨w0.heap.size + 4, 0, none⟩), .pointer (some ⟨w0.heap.size + 3, 0, none⟩), .pointer (some ⟨w0.heap.size + 1, 0, none⟩)] w fun e w2 => e = .returned (.bool true) ∧ FitMem w0 size «from» x size true w2 := by
  have hb := h.box (.cells #[.int .i64 (a : Int), .int .i64 (c : Int)] 31)
  have c0 := cell_of_one hb.m0
  have c1 := cell_of_one hb.m1
  obtain ⟨c3, c4, f3, f4⟩ := cell_two hb.m3
  have c5 := cell_of_one hb.m4
  have f5 := free_of_one hb.m4
  have hlt := lt_of_block h.m4
  have n3 : w0.heap.size + 3 ≠ w.heap.size := by omega
  have n4 : w0.heap.size + 4 ≠ w.heap.size := by omega
  rcases (show ((a : Int) < «from» ∧ m = «from») ∨ («from» ≤ (a : Int) ∧ m = a) by omega) with ⟨g1, rfl⟩ | ⟨g1, rfl⟩
  all_goals try (exfalso; omega)
  all_goals
    clear hm
    go_enter Try.func30, Try.ntmps30
    go_wp2
    go_ret
    exact ⟨rfl, hb⟩

set_option maxHeartbeats 1000000 in
theorem fit_next_yes (w0 : World) (size «from» x y m : Int) (a c : Nat) (ha : a ≤ 16000) (hc : c ≤ 16000) (h1 : size ≤ (c : Int)) (hs : 1 ≤ size) (hf : «from» ≤ 9223372036854775807) (hm : max (a : Int) «from» = m) (hr :  size ≤ (a : Int) + (c : Int) - m) (w : World) (h : FitMem w0 size «from» x size true w) :
    Calls Try.prog 30 #[.agg #[.int .i64 (a : Int), .int .i64 (c : Int)], .pointer (some ⟨w0.heap.size, 0, none⟩), .pointer (some ⟨w0.heap.size + 4, 0, none⟩), .pointer (some ⟨w0.heap.size + 3, 0, none⟩), .pointer (some ⟨w0.heap.size + 1, 0, none⟩)] w fun e w2 => e = .returned (.bool false) ∧ FitMem w0 size «from» m size true w2 := by
  have hb := h.box (.cells #[.int .i64 (a : Int), .int .i64 (c : Int)] 31)
  have c0 := cell_of_one hb.m0
  have c1 := cell_of_one hb.m1
  obtain ⟨c3, c4, f3, f4⟩ := cell_two hb.m3
  have c5 := cell_of_one hb.m4
  have f5 := free_of_one hb.m4
  have hlt := lt_of_block h.m4
  have n3 : w0.heap.size + 3 ≠ w.heap.size := by omega
  have n4 : w0.heap.size + 4 ≠ w.heap.size := by omega
  rcases (show ((a : Int) < «from» ∧ m = «from») ∨ («from» ≤ (a : Int) ∧ m = a) by omega) with ⟨g1, rfl⟩ | ⟨g1, rfl⟩
  all_goals try (exfalso; omega)
  all_goals
    clear hm
    go_enter Try.func30, Try.ntmps30
    go_wp2
    go_ret
    exact ⟨rfl, hb.turned _⟩

/-- what the closure knows behind the runs of l, all too short behind from -/
def FitInv (w0 : World) (size «from» : Int) (l : List (Nat × Nat)) (w : World) : Prop :=
  l.find? (roomAt size «from») = none ∧
    match l.find? (roomIn size) with
    | some r => FitMem w0 size «from» r.1 size true w
    | none => FitMem w0 size «from» 0 0 false w
def FitEnd (w0 : World) (size «from» : Int) (L : List (Nat × Nat)) (w : World) : Prop :=
  ∃ r, L.find? (roomAt size «from») = some r ∧ FitMem w0 size «from» (max (r.1 : Int) «from») size true w

theorem find_prefix {p : Nat × Nat → Bool} {l L : List (Nat × Nat)} {r : Nat × Nat} (hp : l ++ [r] <+: L) (h : l.find? p = none) (hr : p r = true) : L.find? p = some r := by
  obtain ⟨t, rfl⟩ := hp
  rw [List.find?_append, List.find?_append, h]
  simp [hr]
theorem roomAt_in {size «from» : Int} {r : Nat × Nat} (h : roomAt size «from» r = true) : roomIn size r = true := by
  unfold roomAt at h
  unfold roomIn
  rw [decide_eq_true_eq] at h ⊢
  omega

theorem fit_clo (w0 : World) (size «from» : Int) (L l : List (Nat × Nat)) (a c : Nat) (ha : a ≤ 16000) (hc : c ≤ 16000) (hs : 1 ≤ size) (hf : «from» ≤ 9223372036854775807) (hp : l ++ [(a, c)] <+: L) (w : World) (h : FitInv w0 size «from» l w) :
    Calls Try.prog 30 #[.agg #[.int .i64 (a : Int), .int .i64 (c : Int)], .pointer (some ⟨w0.heap.size, 0, none⟩), .pointer (some ⟨w0.heap.size + 4, 0, none⟩), .pointer (some ⟨w0.heap.size + 3, 0, none⟩), .pointer (some ⟨w0.heap.size + 1, 0, none⟩)] w fun e w2 => ∃ b, e = .returned (.bool b) ∧ (b = true → FitInv w0 size «from» (l ++ [(a, c)]) w2) ∧ (b = false → FitEnd w0 size «from» L w2) := by
  obtain ⟨h0, h⟩ := h
  by_cases h1 : size ≤ (c : Int)
  · have hin : roomIn size (a, c) = true := by unfold roomIn; exact decide_eq_true h1
    by_cases hr : size ≤ (a : Int) + (c : Int) - max (a : Int) «from»
    · have hat : roomAt size «from» (a, c) = true := by unfold roomAt; exact decide_eq_true hr
      have hend := find_prefix hp h0 hat
      cases hq : l.find? (roomIn size) with
      | none =>
        rw [hq] at h
        exact (fit_first_yes w0 size «from» 0 0 _ a c ha hc h1 hs hf rfl hr w h).mono fun e w2 ⟨he, hm⟩ => ⟨false, he, fun k => (by cases k), fun _ => ⟨_, hend, hm⟩⟩
      | some q =>
        rw [hq] at h
        exact (fit_next_yes w0 size «from» q.1 size _ a c ha hc h1 hs hf rfl hr w h).mono fun e w2 ⟨he, hm⟩ => ⟨false, he, fun k => (by cases k), fun _ => ⟨_, hend, hm⟩⟩
    · have hat : roomAt size «from» (a, c) = false := by unfold roomAt; exact decide_eq_false hr
      have hnone : (l ++ [(a, c)]).find? (roomAt size «from») = none := by rw [List.find?_append, h0]; simp [hat]
      cases hq : l.find? (roomIn size) with
      | none =>
        rw [hq] at h
        have hs2 : (l ++ [(a, c)]).find? (roomIn size) = some (a, c) := by rw [List.find?_append, hq]; simp [hin]
        exact (fit_first_no w0 size «from» 0 0 _ a c ha hc h1 hs hf rfl (by omega) w h).mono fun e w2 ⟨he, hm⟩ => ⟨true, he, fun _ => ⟨hnone, by rw [hs2]; exact hm⟩, fun k => by cases k⟩
      | some q =>
        rw [hq] at h
        have hs2 : (l ++ [(a, c)]).find? (roomIn size) = some q := by rw [List.find?_append, hq]; rfl
        exact (fit_next_no w0 size «from» q.1 size _ a c ha hc h1 hs hf rfl (by omega) w h).mono fun e w2 ⟨he, hm⟩ => ⟨true, he, fun _ => ⟨hnone, by rw [hs2]; exact hm⟩, fun k => by cases k⟩
  · have hin : roomIn size (a, c) = false := by unfold roomIn; exact decide_eq_false h1
    have hat : roomAt size «from» (a, c) = false := by
      cases k : roomAt size «from» (a, c) with
      | false => rfl
      | true => rw [roomAt_in k] at hin; cases hin
    have hnone : (l ++ [(a, c)]).find? (roomAt size «from») = none := by rw [List.find?_append, h0]; simp [hat]
    cases hq : l.find? (roomIn size) with
    | none =>
      rw [hq] at h
      have hs2 : (l ++ [(a, c)]).find? (roomIn size) = none := by rw [List.find?_append, hq]; simp [hin]
      exact (fit_skip w0 size «from» 0 0 _ a c ha hc (by omega) w h).mono fun e w2 ⟨he, hm⟩ => ⟨true, he, fun _ => ⟨hnone, by rw [hs2]; exact hm⟩, fun k => by cases k⟩
    | some q =>
      rw [hq] at h
      have hs2 : (l ++ [(a, c)]).find? (roomIn size) = some q := by rw [List.find?_append, hq]; rfl
      exact (fit_skip w0 size «from» q.1 size _ a c ha hc (by omega) w h).mono fun e w2 ⟨he, hm⟩ => ⟨true, he, fun _ => ⟨hnone, by rw [hs2]; exact hm⟩, fun k => by cases k⟩

theorem runs_mem (f : Nat → Bool) (n : Nat) (r : Nat × Nat) (h : r ∈ runs f n) : 1 ≤ r.2 ∧ r.1 + r.2 ≤ n := ((rising_runs f n).mem r h).2

set_option maxHeartbeats 2000000 in
theorem fit_zero (s : ByteArray) (n size «from» : Int) (hsz : size < 1) (w : World) :
    Calls Try.prog 22 #[.string s, .int .i64 n, .int .i64 size, .int .i64 «from»] w fun e w' => e = .returned (fitRes none size) ∧ Below w.heap.size w w' := by
  go_enter Try.func22, Try.ntmps22
  go_wp2
  (try simp only [Exit.inBlock, Exit.then])
  refine bodyPost_ret (v := .tuple #[.agg #[.int .i64 0, .int .i64 0], .bool false]) ?_ rfl ⟨rfl, ?_⟩
  · rw [results_cell_tmp rfl]
    go_simp
  · exact (((Below.refl _ _).alloc (Nat.le_refl _) _).alloc (by show _ ≤ (w.heap.push _).size; simp) _).alloc (by show _ ≤ ((w.heap.push _).push _).size; simp; omega) _

theorem fit_start (w : World) (size «from» : Int) : FitMem w size «from» 0 0 false (((((w.alloc (.cells #[.int .i64 size] 3)).alloc (.cells #[.int .i64 «from»] 3)).alloc (.cells #[.int .i64 0, .int .i64 0] 31)).alloc (.cells #[.int .i64 0, .int .i64 0] 31)).alloc (.cells #[.bool false] 4)) := by
  have s1 : ∀ (u : World) (o : Obj), (u.alloc o).heap.size = u.heap.size + 1 := fun u o => by show (u.heap.push _).size = _; simp
  refine ⟨?_, ?_, ?_, ?_, ?_, ?_⟩
  · rw [heap_alloc_old _ _ (by simp only [s1]; omega), heap_alloc_old _ _ (by simp only [s1]; omega), heap_alloc_old _ _ (by simp only [s1]; omega), heap_alloc_old _ _ (by simp only [s1]; omega)]; exact heap_alloc_new _ _
  · rw [heap_alloc_old _ _ (by simp only [s1]; omega), heap_alloc_old _ _ (by simp only [s1]; omega), heap_alloc_old _ _ (by simp only [s1]; omega)]
    have := heap_alloc_new (w.alloc (.cells #[.int .i64 size] 3)) (.cells #[.int .i64 «from»] 3)
    rwa [s1] at this
  · rw [heap_alloc_old _ _ (by simp only [s1]; omega), heap_alloc_old _ _ (by simp only [s1]; omega)]
    have := heap_alloc_new ((w.alloc (.cells #[.int .i64 size] 3)).alloc (.cells #[.int .i64 «from»] 3)) (.cells #[.int .i64 0, .int .i64 0] 31)
    rwa [s1, s1] at this
  · rw [heap_alloc_old _ _ (by simp only [s1]; omega)]
    have := heap_alloc_new (((w.alloc (.cells #[.int .i64 size] 3)).alloc (.cells #[.int .i64 «from»] 3)).alloc (.cells #[.int .i64 0, .int .i64 0] 31)) (.cells #[.int .i64 0, .int .i64 0] 31)
    rwa [s1, s1, s1] at this
  · have := heap_alloc_new ((((w.alloc (.cells #[.int .i64 size] 3)).alloc (.cells #[.int .i64 «from»] 3)).alloc (.cells #[.int .i64 0, .int .i64 0] 31)).alloc (.cells #[.int .i64 0, .int .i64 0] 31)) (.cells #[.bool false] 4)
    rwa [s1, s1, s1, s1] at this
  · refine ((((((Below.refl _ _).alloc (Nat.le_refl _) _).alloc ?_ _).alloc ?_ _).alloc ?_ _).alloc ?_ _)
    all_goals (simp only [s1]; omega)

set_option maxHeartbeats 2000000 in
theorem fit_some (s : ByteArray) (hs : s.size ≤ 2000) (n size «from» : Int) (hsz : 1 ≤ size) (hf : «from» ≤ 9223372036854775807) (w : World) :
    Calls Try.prog 22 #[.string s, .int .i64 n, .int .i64 size, .int .i64 «from»] w fun e w' => e = .returned (fitRes (fitV (runs (bitAt s) (firstV s n)) size «from») size) ∧ Below w.heap.size w w' := by
  have hN := firstV_le s n
  have E := Lib.hid (each_any s hs n 30 #[.pointer (some ⟨w.heap.size, 0, none⟩), .pointer (some ⟨w.heap.size + 4, 0, none⟩), .pointer (some ⟨w.heap.size + 3, 0, none⟩), .pointer (some ⟨w.heap.size + 1, 0, none⟩)] (FitInv w size «from») (FitEnd w size «from» (runs (bitAt s) (firstV s n))) (fun _ _ => rfl) (fun l a c w' hp hi => by
    obtain ⟨h1, h2⟩ := runs_mem (bitAt s) (firstV s n) (a, c) (hp.subset (by simp))
    exact fit_clo w size «from» _ l a c (by have : a + c ≤ _ := h2; omega) (by have : a + c ≤ _ := h2; omega) hsz hf hp w' hi) _ ⟨rfl, fit_start w size «from»⟩)
  have hmf : ∀ (fn : Fn) (first cap : Array Value) (w : World), (Instr.makeFunc fn first cap).run Try.prog w = .ok (.func fn first cap) w := fun _ _ _ _ => rfl
  obtain ⟨o, ho⟩ : ∃ o, fitV (runs (bitAt s) (firstV s n)) size «from» = o := ⟨_, rfl⟩
  have HV := Lib.hid ho
  rw [ho]
  have key : ∀ w2, (FitInv w size «from» (runs (bitAt s) (firstV s n)) w2 ∨ FitEnd w size «from» (runs (bitAt s) (firstV s n)) w2) → FitMem w size «from» (o.getD 0) (fitLen o size) o.isSome w2 := by
    intro w2 h
    rw [← ho]
    unfold fitV
    rw [if_neg (by omega)]
    rcases h with ⟨h0, h⟩ | ⟨r, h0, h⟩
    · rw [h0]
      cases hq : (runs (bitAt s) (firstV s n)).find? (roomIn size) with
      | none => rw [hq] at h; exact h
      | some q => rw [hq] at h; exact h
    · rw [h0]; exact h
  have KEY := Lib.hid key
  clear key ho hN
  go_enter Try.func22, Try.ntmps22
  go_wp2_with fail
  refine E.out.mono ?_; rintro e w2 ⟨rfl, h⟩
  have hm := KEY.out _ h
  obtain ⟨c3, c4, f3, f4⟩ := cell_two hm.m3
  obtain ⟨c6, c7, f6, f7⟩ := cell_two hm.m2
  have c5 := cell_of_one hm.m4
  clear h KEY HV
  go_wp2
  go_region
  go_wp2
  (try simp only [Exit.inBlock, Exit.then])
  refine bodyPost_ret (v := fitRes o size) ?_ rfl ⟨rfl, ?_⟩
  · rw [results_cell_tmp rfl]
    unfold fitRes
    go_simp
  · exact ((hm.be.setCell (Nat.le_add_right _ 2) _).setCell (Nat.le_add_right _ 2) _).drew

theorem fit_any (s : ByteArray) (hs : s.size ≤ 2000) (n size «from» : Int) (hf : «from» ≤ 9223372036854775807) (w : World) :
    Calls Try.prog 22 #[.string s, .int .i64 n, .int .i64 size, .int .i64 «from»] w fun e w' => e = .returned (fitRes (fitV (runs (bitAt s) (firstV s n)) size «from») size) ∧ Below w.heap.size w w' := by
  by_cases h : size < 1
  · have e : fitV (runs (bitAt s) (firstV s n)) size «from» = none := by unfold fitV; rw [if_pos h]
    rw [e]; exact fit_zero s n size «from» h w
  · exact fit_some s hs n size «from» (by omega) hf w

set_option maxHeartbeats 1000000 in
theorem ffirst_any (s : ByteArray) (hs : s.size ≤ 2000) (n «from» : Int) (hf : «from» ≤ 9223372036854775807) (w : World) :
    Calls Try.prog 20 #[.string s, .int .i64 n, .int .i64 «from»] w fun e w' => e = .returned (.tuple #[.int .i64 ((fitV (runs (bitAt s) (firstV s n)) 1 «from»).getD 0), .bool (fitV (runs (bitAt s) (firstV s n)) 1 «from»).isSome]) ∧ Below w.heap.size w w' := by
  have F := Lib.hid (fit_any s hs n 1 «from» hf)
  generalize fitV (runs (bitAt s) (firstV s n)) 1 «from» = o at *
  unfold fitRes at F
  go_enter Try.func20, Try.ntmps20
  go_wp2_with fail
  refine (F.out _).mono ?_; rintro e w2 ⟨rfl, hb⟩
  go_wp2
  go_ret2
  exact ⟨rfl, hb.alloc hb.size _⟩

end Go.Proofs.Ytddbceecamenhaa
