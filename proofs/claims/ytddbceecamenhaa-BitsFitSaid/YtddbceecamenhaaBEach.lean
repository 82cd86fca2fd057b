/- eachFree, whatever it hands the runs to; Free. -/
import Derived.Test.YtddbceecamenhaaBRow
namespace Go.Proofs.Ytddbceecamenhaa
set_option linter.unusedVariables false
open Go.RowKit

theorem closed_le (f : Nat → Bool) (m : Nat) : ∀ k, closed f m <+: closed f (m + k)
  | 0 => List.prefix_rfl
  | k + 1 => by
    have h := closed_le f m k
    rw [show m + (k + 1) = (m + k) + 1 from rfl]
    cases hf : f (m + k) with
    | true => rw [closed_one hf]; exact h.trans (List.prefix_append _ _)
    | false => rw [closed_more hf]; exact h
theorem runs_le (f : Nat → Bool) (m n : Nat) (h : m ≤ n) (he : m = n ∨ f m = true) : runs f m <+: runs f n := by
  rcases he with rfl | he
  · exact List.prefix_rfl
  · by_cases e : m = n
    · subst e; exact List.prefix_rfl
    · have h1 := closed_le f (m + 1) (n - (m + 1))
      rw [show m + 1 + (n - (m + 1)) = n by omega, closed_one he] at h1
      exact h1.trans (List.prefix_append _ _)
/-- from one search to the next -/
theorem each_step (f : Nat → Bool) (k st en n : Nat) (hk : k = 0 ∨ k = n ∨ f k = true) (h1 : k ≤ st) (h2 : ∀ m, k ≤ m → m < st → f m = true) (h3 : f st = false) (h4 : st < n) (h5 : st ≤ en) (h6 : ∀ m, st ≤ m → m < en → f m = false) (h7 : en = n ∨ f en = true) (h8 : en ≤ n) :
    st < en ∧ runs f en = runs f k ++ [(st, en - st)] ∧ runs f en <+: runs f n := by
  have hlt : st < en := by
    rcases h7 with h7 | h7
    · omega
    · by_cases e : st = en
      · subst e; rw [h3] at h7; cases h7
      · omega
  refine ⟨hlt, ?_, runs_le f en n h8 h7⟩
  have hp : pend f st = 0 := by
    apply pend_zero
    by_cases e : st = k
    · subst e
      rcases hk with hk | hk | hk
      · exact .inl hk
      · omega
      · rw [h3] at hk; cases hk
    · exact .inr (h2 _ (by omega) (by omega))
  have hr := (runs_zeros hp (en - st - 1) (fun m a b => h6 m a (by omega))).1
  rw [show st + (en - st - 1 + 1) = en by omega, show en - st - 1 + 1 = en - st by omega] at hr
  have ho := runs_ones (e := k) (st - k) (fun m a b => h2 m a (by omega))
  rw [show k + (st - k) = st by omega] at ho
  rw [hr, ho]
theorem each_end (f : Nat → Bool) (k n : Nat) (h1 : k ≤ n) (h2 : ∀ m, k ≤ m → m < n → f m = true) : runs f n = runs f k := by
  have ho := runs_ones (e := k) (n - k) (fun m a b => h2 m a (by omega))
  rwa [show k + (n - k) = n by omega] at ho

set_option maxHeartbeats 2000000 in
theorem each_any (s : ByteArray) (hs : s.size ≤ 2000) (n : Int) (fn : Nat) (caps : Array Value) (Inv : List (Nat × Nat) → World → Prop) (End : World → Prop)
    (hent : ∀ args w, (callFunc fn args).run Try.prog w = .ok (.enter fn args) w)
    (hc : ∀ l a c w', l ++ [(a, c)] <+: runs (bitAt s) (firstV s n) → Inv l w' → Calls Try.prog fn (#[.agg #[.int .i64 (a : Int), .int .i64 (c : Int)]] ++ caps) w' fun e w2 => ∃ b, e = .returned (.bool b) ∧ (b = true → Inv (l ++ [(a, c)]) w2) ∧ (b = false → End w2))
    (w : World) (h0 : Inv [] w) :
    Calls Try.prog 25 #[.string s, .int .i64 n, .func (.func fn) #[] caps] w fun e w' => e = .returned (.tuple #[]) ∧ (Inv (runs (bitAt s) (firstV s n)) w' ∨ End w') := by
  have F := Lib.hid (first_any s hs n)
  have hN := firstV_le s n
  have HC := Lib.hid hc
  clear hc
  generalize firstV s n = N at *
  have NF := Lib.hid (next_false s hs)
  have NT := Lib.hid (next_true s hs)
  go_enter Try.func25, Try.ntmps25
  go_wp2_with fail
  refine (F.out _).mono ?_; rintro e w' ⟨rfl, rfl⟩
  go_wp2
  go_loopw [6] (fun p wr => ∃ k : Nat, p = .int .i64 k ∧ k ≤ N ∧ Hid (k = 0 ∨ k = N ∨ bitAt s k = true) ∧ Hid (Inv (runs (bitAt s) k) wr)) (fun p _ => N - (intOf p).toNat)
  case atStart => exact ⟨0, rfl, Nat.zero_le _, Lib.hid (.inl rfl), Lib.hid h0⟩
  case round =>
    obtain ⟨k, rfl, hk, HK, HI⟩ := hrel
    have N1 := NF.out k N hk hN
    obtain ⟨b1, b2, b3, b4⟩ := nxt_fact (bitAt s) false (N - k) k
    generalize nxt (bitAt s) false k (N - k) = st at *
    have N1 := Lib.hid N1
    have B3 := Lib.hid b3
    have B4 := Lib.hid b4
    clear NF b3 b4
    by_cases hst : st = N
    · subst hst
      have HE := Lib.hid (each_end (bitAt s) k st hk (fun m a c => B3.out m a c))
      have ht : ((st : Int) == (st : Int)) = true := by simp
      clear NT
      go_wp2_with fail
      refine (N1.out _).mono ?_; rintro e w' ⟨rfl, rfl⟩
      go_wp2
      ((try simp only [Exit.inBlock, Exit.then]); refine bodyPost_ret (results_none rfl _ _ _) rfl ?_)
      exact ⟨rfl, .inl (by rw [HE.out]; exact HI.out)⟩
    · have ht : ((st : Int) == (N : Int)) = false := by rw [beq_eq_false_iff_ne]; omega
      have N2 := NT.out st N (by omega) hN
      obtain ⟨c1, c2, c3, c4⟩ := nxt_fact (bitAt s) true (N - st) st
      generalize nxt (bitAt s) true st (N - st) = en at *
      obtain ⟨hlt, hr, hpre⟩ := each_step (bitAt s) k st en N HK.out b1 (fun m a c => B3.out m a c) (B4.out.elim (fun h => by omega) id) (by omega) c1 (fun m a c => by simpa using c3 m a c) (c4.imp (fun h => by omega) id) (by omega)
      have N2 := Lib.hid N2
      obtain ⟨len, hl⟩ : ∃ len : Nat, en - st = len := ⟨_, rfl⟩
      rw [hl] at hr
      have hl2 : (en : Int) - (st : Int) = (len : Int) := by omega
      have C := Lib.hid (HC.out (runs (bitAt s) k) st len wr (by rw [← hr]; exact hpre) HI.out)
      have HR := Lib.hid hr
      have HC4 : Hid (en = 0 ∨ en = N ∨ bitAt s en = true) := Lib.hid (c4.elim (fun h => .inr (.inl (by omega))) (fun h => .inr (.inr h)))
      clear NT hst c3 c4 hr hpre HC h0 hl
      go_wp2_with fail
      refine (N1.out _).mono ?_; rintro e w' ⟨rfl, rfl⟩
      go_wp2_with fail
      refine (N2.out _).mono ?_; rintro e w' ⟨rfl, rfl⟩
      go_wp2_with fail
      refine C.out.mono ?_; rintro e w2 ⟨b, rfl, hb1, hb2⟩
      cases b
      · go_wp2
        ((try simp only [Exit.inBlock, Exit.then]); refine bodyPost_ret (results_none rfl _ _ _) rfl ?_)
        exact ⟨rfl, .inr (hb2 (by simp))⟩
      · go_wp2
        exact ⟨⟨en, rfl, by omega, HC4, Lib.hid (by rw [HR.out]; exact hb1 (by simp))⟩, by simp [intOf]; omega⟩

/-- a run that is new in memory, behind another new block -/
theorem new_cells' (w : World) (o : Obj) (a b : Int) : ∀ (j : Nat) (u : Value), [Value.int .i64 a, Value.int .i64 b][j]? = some u → ((w.alloc o).alloc (.cells #[.int .i64 a, .int .i64 b] 31)).cell? ((⟨w.heap.size + 1, 0, none⟩ : Addr).add j) = some u := by
  have h := new_cells (w.alloc o) a b
  rwa [show (w.alloc o).heap.size = w.heap.size + 1 by show (w.heap.push _).size = _; simp] at h

theorem runs_down {B B' : Nat} {v : Value} {l : List (Nat × Nat)} {w : World} (hb : B' ≤ B) (h : RunsAt B v l w) : RunsAt B' v l w :=
  ⟨h.1, h.2.imp id fun ⟨g, cap, cur, a, b, r⟩ => ⟨g, cap, cur, a, Nat.le_trans hb b, r⟩⟩

/-- what Free's own memory holds -/
def FreeInv (w0 : World) (l : List (Nat × Nat)) (w : World) : Prop :=
  ∃ v, w.heap[w0.heap.size]? = some (.cells #[v] 26 (0, 0)) ∧ RunsAt (w0.heap.size + 1) v l w ∧ Below w0.heap.size w0 w

set_option maxHeartbeats 2000000 in
theorem free_clo (w0 : World) (l : List (Nat × Nat)) (a c : Nat) (hl : l.length ≤ 16000) (w : World) (h : FreeInv w0 l w) :
    Calls Try.prog 26 #[.agg #[.int .i64 (a : Int), .int .i64 (c : Int)], .pointer (some ⟨w0.heap.size, 0, none⟩)] w fun e w2 => e = .returned (.bool true) ∧ FreeInv w0 (l ++ [(a, c)]) w2 := by
  obtain ⟨v, hv, hown, hb⟩ := h
  obtain ⟨i0, hi, hz0, hz1, hz2⟩ := info_parts info_run
  have hlt := lt_of_block hv
  have c1 : (w.alloc (.cells #[.int .i64 (a : Int), .int .i64 (c : Int)] 31)).cell? ⟨w0.heap.size, 0, none⟩ = some v := (World.cell?_alloc_past _ _ _ hlt).trans (cell_of_one hv)
  go_enter Try.func26, Try.ntmps26
  go_wp2_with (at_builtin; refine wpList_append_own _ rfl _ _ 26 rfl (w0.heap.size + 1) 31 i0 (.agg #[.int .i64 0, .int .i64 0]) 2 16 Try.underlying26 hi hz0 hz1 hz2 rfl (by decide) _ _ _ rfl ((hown.alloc _).alloc _) ⟨w.heap.size + 1, 0, none⟩ 1 1 [.int .i64 (a : Int), .int .i64 (c : Int)] rfl rfl (new_cells' _ _ _ _) (one_cells _ _) (by unfold maxLen; omega) (by omega) (by show _ ≤ ((w.heap.push _).push _).size; simp; omega) ?_)
  intro v' w1 hown' hgrow _
  have hne : some w0.heap.size ≠ v.ownBlock := fun h => by have := (hown.lt _ h.symm).1; omega
  have hv1 : w1.heap[w0.heap.size]? = some (.cells #[v] 26 (0, 0)) :=
    (hgrow.block w0.heap.size (by show _ < ((w.heap.push _).push _).size; simp; omega) hne).trans ((heap_alloc_old _ _ (by show _ < (w.heap.push _).size; simp; omega)).trans ((heap_alloc_old _ _ hlt).trans hv))
  have c2 := cell_of_one hv1
  have f2 := free_of_one hv1
  have hr : w1.ownsRow (w0.heap.size + 1) 31 2 v' (l.length + 1) (cellsR (l ++ [(a, c)])) := by rw [cellsR_append]; exact hown'
  have hb3 : Below w0.heap.size w0 w1 := ((hb.alloc (by exact hb.size) _).alloc (by have := hb.size; show _ ≤ (w.heap.push _).size; simp; omega) _).grown hgrow (by have := hb.size; show _ ≤ ((w.heap.push _).push _).size; simp; omega) (fun x hx => by have := (hown.lt x hx).1; omega)
  clear hown' hgrow hown hv
  obtain ⟨ad', cap', rfl, _⟩ := shape_of hr
  go_wp2
  go_ret
  exact ⟨rfl, _, one_setCell hv1, (by show World.ownsRow _ _ _ _ _ (l ++ [(a, c)]).length _; rw [List.length_append]; exact ownsRow_setCell_below hr (a := ⟨w0.heap.size, 0, none⟩) (Nat.lt_succ_self w0.heap.size) _), hb3.setCell (Nat.le_refl _) _⟩

set_option maxHeartbeats 2000000 in
theorem free_any (s : ByteArray) (hs : s.size ≤ 2000) (n : Int) (w : World) :
    Calls Try.prog 15 #[.string s, .int .i64 n] w fun e w' => ∃ v, e = .returned v ∧ RunsAt w.heap.size v (runs (bitAt s) (firstV s n)) w' ∧ Below w.heap.size w w' := by
  have hN := firstV_le s n
  have hlen := runs_len (bitAt s) (firstV s n)
  have h0 : FreeInv w [] (w.alloc (.cells #[.slice none 0 0] 26)) :=
    ⟨_, heap_alloc_new _ _, World.ownsRow_nil _ _ _ _, (Below.refl _ _).alloc (Nat.le_refl _) _⟩
  have E := Lib.hid (each_any s hs n 26 #[.pointer (some ⟨w.heap.size, 0, none⟩)] (FreeInv w) (fun _ => False) (fun _ _ => rfl) (fun l a c w' hp hi => by
    have h1 := hp.length_le
    rw [List.length_append] at h1
    exact (free_clo w l a c (by omega) w' hi).mono fun e w2 ⟨he, h2⟩ => ⟨true, he, fun _ => h2, fun h => by cases h⟩) _ h0)
  have hmf : ∀ (fn : Fn) (first cap : Array Value) (w : World), (Instr.makeFunc fn first cap).run Try.prog w = .ok (.func fn first cap) w := fun _ _ _ _ => rfl
  clear h0
  go_enter Try.func15, Try.ntmps15
  go_wp2_with fail
  refine E.out.mono ?_; rintro e w2 ⟨rfl, h⟩
  obtain ⟨v, hv, hr, hb⟩ := h.resolve_right id
  have c1 := cell_of_one hv
  clear h
  go_wp2
  go_ret
  exact ⟨_, rfl, runs_down (Nat.le_succ _) hr, hb⟩

end Go.Proofs.Ytddbceecamenhaa
