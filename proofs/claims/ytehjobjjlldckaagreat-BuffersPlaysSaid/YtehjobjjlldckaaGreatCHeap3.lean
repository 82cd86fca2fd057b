/- container/heap: down, up. -/
import Derived.Test.YtehjobjjlldckaaGreatCHeap2
namespace Go.Proofs.YtehjobjjlldckaaGreat
set_option linter.unusedVariables false
open Go.RowKit

abbrev hV (c : Nat) : Value := .iface 94 (.pointer (some ⟨c, 6, none⟩))
/-- what a way down, or up, leaves -/
structure Ways (gq n m : Nat) (A B : Nat → Nat) (w w' : World) : Prop where
  same : sameTo A B m
  tail : ∀ k, m ≤ k → B k = A k
  turn : Turn (QSet gq n A) w w'
theorem Ways.refl (gq n m : Nat) (A : Nat → Nat) (w : World) : Ways gq n m A A w w := ⟨same_refl A m, fun _ _ => rfl, Turn.refl _ _⟩
theorem same_more {A B : Nat → Nat} {m n : Nat} (h : sameTo A B m) (t : ∀ k, m ≤ k → B k = A k) (hm : m ≤ n) : sameTo A B n := by
  obtain ⟨p, q, h1, h2⟩ := h
  refine ⟨fun k => if k < m then p k else k, fun k => if k < m then q k else k, fun k hk => ?_, fun k hk => ?_⟩
  · by_cases e : k < m
    · obtain ⟨a, b, c, d⟩ := h1 k e
      dsimp only
      rw [if_pos e, if_pos e, if_pos a, if_pos b]
      exact ⟨by omega, by omega, c, d⟩
    · dsimp only
      rw [if_neg e, if_neg e]
      try rw [if_neg e]
      exact ⟨hk, hk, rfl, rfl⟩
  · by_cases e : k < m
    · dsimp only; rw [if_pos e]; exact h2 k e
    · dsimp only; rw [if_neg e]; exact t k (by omega)
theorem Ways.swap {gq n m : Nat} {A B : Nat → Nat} {w w1 w2 : World} (h : Ways gq n m A B w w1) {i j : Nat} (hi : i < m) (hj : j < m) (hm : m ≤ n) (t : Turn (QSet gq n B) w1 w2) : Ways gq n m A (swapF B i j) w w2 :=
  ⟨same_trans h.same (same_swap B hi hj), fun k hk => by rw [swapF_o B (by omega) (by omega)]; exact h.tail k hk, h.turn.then t fun k _ hk => QSet.same (same_more h.same h.tail hm) hk⟩
theorem Ways.next {gq n m : Nat} {A B : Nat → Nat} {w w1 w2 : World} (h : Ways gq n m A B w w1) (b : Below w1.heap.size w1 w2) : Ways gq n m A B w w2 := ⟨h.same, h.tail, h.turn.next b⟩
theorem key_le {V : Nat → Rec} {a b : Nat} (h : ¬ keyR (V b) < keyR (V a)) : keyR (V a) ≤ keyR (V b) := by omega
abbrev kV (V : Nat → Rec) : Nat → Int := fun g => keyR (V g)

set_option maxHeartbeats 4000000 in
theorem up_any {c : Nat} {K : Value → Array Value} {gq cap n : Nat} {A : Nat → Nat} {V : Nat → Rec} (m j : Nat) (hj : j < m) (hm : m ≤ n) (w : World) (h : QAt c K gq cap n A V w) (hu : upAt (kV V) A m j) :
    Calls Tryz.prog 79 #[hV c, .int .i64 (j : Int)] w fun e w' => e = .returned (.tuple #[]) ∧ ∃ B, QAt c K gq cap n B V w' ∧ heapTo (kV V) B m ∧ Ways gq n m A B w w' := by
  have nl := q_nil "Less" _ _ less_m c
  have ns := q_nil "Swap" _ _ swap_m c
  have sm := h.small
  go_enter Tryz.func79, Tryz.ntmps79
  go_wp2
  go_loopw [1] (fun q wr => ∃ (i : Nat) (B : Nat → Nat), q = .int .i64 (i : Int) ∧ i < m ∧ QAt c K gq cap n B V wr ∧ upAt (kV V) B m i ∧ Ways gq n m A B w wr) (fun q _ => (intOf q).toNat)
  case atStart => exact ⟨j, A, rfl, hj, h, hu, Ways.refl _ _ _ _ _⟩
  case round =>
    obtain ⟨i, B, rfl, hi, hq, hup, hw⟩ := hrel
    have HQ := Lib.hid hq
    have HU := Lib.hid hup
    have HW := Lib.hid hw
    have hvar := hq.var
    have hle := hq.le
    have hcap := hq.hi
    clear hq hup hw h hu
    by_cases h0 : i = 0
    · subst h0
      go_wp2
      go_end0
      exact ⟨rfl, B, HQ.out, up_done HU.out (.inl rfl), HW.out⟩
    · obtain ⟨k, rfl⟩ : ∃ k, i = k + 1 := ⟨i - 1, by omega⟩
      have hp : par (k + 1) = k / 2 := by unfold par; omega
      have hk2 : k / 2 < m := by omega
      have hne : k / 2 ≠ k + 1 := by omega
      have m1 := fun fuel => q_method "Less" _ less_m c _ wr hvar fuel
      have c1 : ((k + 1 : Nat) : Int) = (k : Int) + 1 := by omega
      have c2 : ((k / 2 : Nat) : Int) = (k : Int) / 2 := by omega
      have t1 : ((k : Int) / 2 == (k : Int) + 1) = false := by rw [beq_eq_false_iff_ne]; omega
      have L := less_any (k + 1) (k / 2) (by omega) (by omega) wr HQ.out
      have S := fun w1 h1 => swap_any (V := V) (A := B) (c := c) (K := K) (gq := gq) (cap := cap) (n := n) (k / 2) (k + 1) (by omega) (by omega) hne w1 h1
      rw [c1, c2] at L
      simp only [c1, c2] at S
      have S := Lib.hid S
      clear c1 c2
      by_cases hl : keyR (V (B (k + 1))) < keyR (V (B (k / 2)))
      · rw [decide_eq_true hl] at L
        have L := Lib.hid L
        have HU2 : Hid (upAt (kV V) (swapF B (k / 2) (k + 1)) m (k / 2)) := Lib.hid (by
          have := up_step HU.out (by omega) hi (by rw [hp]; exact hl)
          rwa [hp] at this)
        clear HU hl
        go_wp2_with fail
        refine L.out.mono ?_; rintro e w1 ⟨rfl, b⟩
        have hq1 := HQ.out.kept1 b
        have HW1 := Lib.hid (HW.out.next b)
        have m2 := fun fuel => q_method "Swap" _ swap_m c _ w1 hq1.var fuel
        have S1 := Lib.hid (S.out w1 hq1)
        clear hq1 b L m1 HQ HW S hvar
        go_wp2_with fail
        refine S1.out.mono ?_; rintro e w2 ⟨rfl, hq2, t⟩
        have HQ2 := Lib.hid hq2
        have HW2 := Lib.hid (HW1.out.swap hk2 hi hm t)
        clear S1 hq2 t HW1 m2
        go_wp2
        exact ⟨⟨k / 2, _, by go_num, hk2, HQ2.out, HU2.out, HW2.out⟩, by simp [intOf]; omega⟩
      · rw [decide_eq_false hl] at L
        have L := Lib.hid L
        have HU2 : Hid (heapTo (kV V) B m) := Lib.hid (up_done HU.out (.inr (by rw [hp]; exact key_le hl)))
        clear HU hl S
        go_wp2_with fail
        refine L.out.mono ?_; rintro e w1 ⟨rfl, b⟩
        have HQ1 := Lib.hid (HQ.out.kept1 b)
        have HW1 := Lib.hid (HW.out.next b)
        clear b L m1 HQ HW hvar
        go_wp2
        go_end0
        exact ⟨rfl, B, HQ1.out, HU2.out, HW1.out⟩
end Go.Proofs.YtehjobjjlldckaaGreat
