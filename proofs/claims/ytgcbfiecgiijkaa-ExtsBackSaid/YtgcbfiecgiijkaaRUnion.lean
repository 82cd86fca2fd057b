/- Union: slices.Grow, slices.Concat. -/
import Derived.Test.YtgcbfiecgiijkaaRHas
import Derived.Lib.AppendZeros
namespace Go.Proofs.Ytgcbfiecgiijkaa
set_option linter.unusedVariables false
open Go.RowKit Go.Shelf

set_option maxRecDepth 100000 in
set_option maxHeartbeats 2000000 in
theorem grow_any (n : Nat) (hn : n ≤ 4000000) (w : World) :
    Calls Try.prog 64 #[.slice none 0 0, .int .i64 n] w fun e w' => ∃ v, e = .returned v ∧ RunsAt w.heap.size v [] w' ∧ Below w.heap.size w w' := by
  obtain ⟨i0, hi, hz0, hz1, hz2⟩ := info_parts info_run
  by_cases h0 : n = 0
  · subst h0
    go_enter Try.func64, Try.ntmps64
    go_wp2
    go_ret
    exact ⟨_, rfl, World.ownsRow_nil _ _ _ _, Below.refl _ _⟩
  · have h1 : (0 : Int) < (n : Int) := by omega
    have hr := Lib.run_append_nil_zeros (P := Try.prog) w 26 3 26 32 i0 (.agg #[.int .i64 0, .int .i64 0]) .i64 .i64 Try.underlying26 Try.underlying3 hi hz0 n (by omega) (by rw [hz1]; decide) (by omega) (by rw [hz2]; omega)
    have hge := grownCap_ge w n 0 32
    have hle := grownCap_le_maxLen w n 0 32 (by unfold maxLen; omega)
    have hown : RunsAt w.heap.size (.slice (some ⟨w.heap.size, 0, none⟩) 0 (grownCap w n 0 32)) [] (w.drew.alloc (.cells (Builtin.zeroCells (Value.agg #[.int .i64 0, .int .i64 0]).cells n ++ Builtin.zeroCells (Value.agg #[.int .i64 0, .int .i64 0]).cells (grownCap w n 0 32 - n)) 32)) :=
      ⟨rfl, .inr ⟨w.heap.size, _, _, rfl, Nat.le_refl _, heap_alloc_new w.drew _, Nat.zero_le _, hle, by
        rw [Array.size_append, size_zeroCells, size_zeroCells]
        show n * 2 + (_ - n) * 2 = _
        omega, rfl⟩⟩
    have hb : Below w.heap.size w (w.drew.alloc (.cells (Builtin.zeroCells (Value.agg #[.int .i64 0, .int .i64 0]).cells n ++ Builtin.zeroCells (Value.agg #[.int .i64 0, .int .i64 0]).cells (grownCap w n 0 32 - n)) 32)) := (Below.refl _ w).drew.alloc (Nat.le_refl _) _
    have hle : grownCap w n 0 32 ≤ 9223372036854775807 := hle
    generalize hw1 : w.drew.alloc (.cells (Builtin.zeroCells (Value.agg #[.int .i64 0, .int .i64 0]).cells n ++ Builtin.zeroCells (Value.agg #[.int .i64 0, .int .i64 0]).cells (grownCap w n 0 32 - n)) 32) = w1 at *
    generalize grownCap w n 0 32 = c at *
    have HR := Lib.hid hr
    clear hr hi hz0 hz1 hz2
    go_enter Try.func64, Try.ntmps64
    go_wp2_with (at_builtin; refine Lib.wpList_append_run _ rfl _ _ _ _ rfl _ _ rfl rfl _ _ HR.out ?_)
    go_wp2
    go_ret
    exact ⟨_, rfl, hown, hb⟩
theorem cells_of_two {w : World} {g o : Nat} {l : List (Int × Int)} (hc : ∀ k (h : k < l.length), w.cell? ⟨g, o + k * 2, none⟩ = some (.int .i64 l[k].1) ∧ w.cell? ⟨g, o + k * 2 + 1, none⟩ = some (.int .i64 l[k].2)) :
    ∀ j u, (cellsR l)[j]? = some u → w.cell? ((⟨g, o, none⟩ : Addr).add j) = some u := by
  intro j u hj
  have hjl : j < l.length * 2 := by
    have := (List.getElem?_eq_some_iff.1 hj).1; rwa [cellsR_length] at this
  have hadd : (⟨g, o, none⟩ : Addr).add j = ⟨g, o + j, none⟩ := by unfold Addr.add; split <;> simp_all
  have hk : j / 2 < l.length := by omega
  obtain ⟨h1, h2⟩ := hc (j / 2) hk
  obtain ⟨d1, d2⟩ := cellsR_at l (j / 2) hk
  rw [hadd, ← hj]
  rcases Nat.mod_two_eq_zero_or_one j with e | e
  · have : j / 2 * 2 = j := by omega
    rw [this] at h1 d1; rw [h1, d1]
  · have : j / 2 * 2 + 1 = j := by omega
    rw [show o + j / 2 * 2 + 1 = o + (j / 2 * 2 + 1) by omega, this] at h2; rw [this] at d2; rw [h2, d2]
theorem wpList_appv {ops : Array Oper} {rest : List Oper} {o : Oper} {a : Act} {Q : Exit → Act → World → Prop} {w : World} (hgd : o.guard = none) (s x : Operand)
    (ho : o.op = .call { callee := .builtin .append, args := #[s, x], argTypes := #[26, 26] })
    (base : Nat) (v : Value) (l : List (Int × Int)) (hs : a.eval s = v) (hown : RunsAt base v l w) (u : Value) (news : List (Int × Int)) (hx : a.eval x = u) (hu : RunsIn u news w)
    (hlen : l.length + news.length ≤ 4000000) (hbase : base ≤ w.heap.size)
    (h : ∀ v' w', RunsAt base v' (l ++ news) w' → Below base w w' → wpList Try.prog ops Q rest (a.put o.dst v') w') : wpList Try.prog ops Q (o :: rest) a w := by
  obtain ⟨ad, cap, rfl, h1, h2, h3, h4⟩ := hu
  cases ad with
  | none =>
    have hc := h4 rfl
    subst hc
    have hnil : news = [] := List.length_eq_zero_iff.1 (by omega)
    subst hnil
    obtain ⟨i0, hi, hz0, hz1, hz2⟩ := info_parts info_run
    refine wpList_append_own_none hgd s x 26 ho base 32 i0 2 Try.underlying26 hi v _ _ hs hown hx (h v w ?_ (Below.refl _ _))
    rw [List.append_nil]; exact hown
  | some ad =>
    refine wpList_app hgd s x ho base v l hs hown ad news.length cap news rfl hx ?_ hlen hbase h
    by_cases hl : news.length = 0
    · have hnil : news = [] := List.length_eq_zero_iff.1 hl
      subst hnil
      intro j u hj; simp [cellsR] at hj
    · obtain ⟨g, o, e, _, hc⟩ := h3 (by omega)
      cases e
      exact cells_of_two hc

set_option maxRecDepth 100000 in
set_option maxHeartbeats 4000000 in
theorem concat_any (a b : List (Int × Int)) (hl : a.length + b.length ≤ 2000000) (va vb : Value) (g : Nat) (w : World) (hg : g < w.heap.size) (c0 : w.cell? ⟨g, 0, none⟩ = some va) (c1 : w.cell? ⟨g, 1, none⟩ = some vb) (ha : RunsIn va a w) (hb : RunsIn vb b w) :
    Calls Try.prog 49 #[.slice (some ⟨g, 0, none⟩) 2 2] w fun e w' => ∃ v, e = .returned v ∧ RunsAt w.heap.size v (a ++ b) w' ∧ Below w.heap.size w w' := by
  obtain ⟨ada, capa, rfl, -⟩ := id ha
  obtain ⟨adb, capb, rfl, -⟩ := id hb
  have G := grow_any (a.length + b.length) (by omega) w
  rw [Int.natCast_add] at G
  have G := Lib.hid G
  have hl2 : (a.length : Int) + (b.length : Int) ≤ 2000000 := by omega
  go_enter Try.func49, Try.ntmps49
  go_wp2
  go_loopw [3, 11] (fun sz p wr => wr = w ∧ ((p = .int .i64 0 ∧ sz = .int .i64 0) ∨ (p = .int .i64 1 ∧ sz = .int .i64 a.length) ∨ (p = .int .i64 2 ∧ sz = .int .i64 ((a.length : Int) + (b.length : Int))))) (fun _ p _ => 2 - (intOf p).toNat)
  case atStart => exact ⟨rfl, .inl ⟨rfl, rfl⟩⟩
  case round =>
    obtain ⟨hw, hrel⟩ := hrel
    have hw := hw.symm
    subst hw
    rcases hrel with ⟨rfl, rfl⟩ | ⟨rfl, rfl⟩ | ⟨rfl, rfl⟩
    · go_wp2
      exact ⟨⟨trivial, .inr (.inl ⟨rfl, rfl⟩)⟩, by simp [intOf]⟩
    · go_wp2
      exact ⟨⟨trivial, .inr (.inr ⟨rfl, rfl⟩)⟩, by simp [intOf]⟩
    · have HA := Lib.hid ha
      have HB := Lib.hid hb
      clear ha hb
      go_wp2_with fail
      refine G.out.mono ?_; rintro e w1 ⟨v, rfl, hown, hb1⟩
      have c0' := (hb1.cell (p := ⟨g, 0, none⟩) hg).trans c0
      have c1' := (hb1.cell (p := ⟨g, 1, none⟩) hg).trans c1
      clear G
      go_wp2
      go_loopw [6, 27] (fun vn p wr => Below w.heap.size w wr ∧ ((p = .int .i64 0 ∧ RunsAt w.heap.size vn [] wr) ∨ (p = .int .i64 1 ∧ RunsAt w.heap.size vn a wr) ∨ (p = .int .i64 2 ∧ RunsAt w.heap.size vn (a ++ b) wr))) (fun _ p _ => 2 - (intOf p).toNat)
      case atStart => exact ⟨hb1, .inl ⟨rfl, hown⟩⟩
      case round =>
        obtain ⟨hbq, ⟨rfl, ho⟩ | ⟨rfl, ho⟩ | ⟨rfl, ho⟩⟩ := hrel
        · have e0 := (hbq.cell (p := ⟨g, 0, none⟩) hg).trans c0
          have hA := runsIn_kept HA.out hbq
          have hsq := hbq.size
          clear c0 c1 c0' c1' hown hb1
          go_wp2_with (at_builtin; refine wpList_appv rfl _ _ rfl w.heap.size _ [] rfl ho _ a rfl hA (by simp; omega) hsq ?_)
          intro v' w3 h3 h4
          have h5 := hbq.trans h4
          clear ho hA h4 hbq
          go_wp2
          exact ⟨⟨h5, .inr (.inl ⟨rfl, h3⟩)⟩, by simp [intOf]⟩
        · have e0 := (hbq.cell (p := ⟨g, 1, none⟩) hg).trans c1
          have hB := runsIn_kept HB.out hbq
          have hsq := hbq.size
          clear c0 c1 c0' c1' hown hb1
          go_wp2_with (at_builtin; refine wpList_appv rfl _ _ rfl w.heap.size _ a rfl ho _ b rfl hB (by omega) hsq ?_)
          intro v' w3 h3 h4
          have h5 := hbq.trans h4
          clear ho hB h4 hbq
          go_wp2
          exact ⟨⟨h5, .inr (.inr ⟨rfl, h3⟩)⟩, by simp [intOf]⟩
        · clear c0 c1 c0' c1' hown hb1
          go_wp2
          go_ret
          exact ⟨_, rfl, ho, hbq⟩
end Go.Proofs.Ytgcbfiecgiijkaa
