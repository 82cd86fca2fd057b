/- container/heap: down. -/
import Derived.Test.YtehjobjjlldckaaGreatCHeap3
namespace Go.Proofs.YtehjobjjlldckaaGreat
set_option linter.unusedVariables false
open Go.RowKit

/-- where a way down stands -/
structure DownTo (gq n m : Nat) (A B : Nat → Nat) (V : Nat → Rec) (i0 i : Nat) (w w' : World) : Prop where
  at' : downAt (kV V) B i0 i m
  ways : Ways gq n m A B w w'
  place : i = i0 ∨ i0 ≤ par i
  keep : ∀ k, k ≠ i0 → par k < i0 → B k = A k
  top : (i = i0 ∧ B = A) ∨ (i0 < i ∧ ∃ k, 0 < k ∧ k < m ∧ par k = i0 ∧ B i0 = A k)
theorem DownTo.next {gq n m : Nat} {A B : Nat → Nat} {V : Nat → Rec} {i0 i : Nat} {w w1 w2 : World} (h : DownTo gq n m A B V i0 i w w1) (b : Below w1.heap.size w1 w2) : DownTo gq n m A B V i0 i w w2 :=
  ⟨h.at', h.ways.next b, h.place, h.keep, h.top⟩
theorem DownTo.step {gq n m : Nat} {A B : Nat → Nat} {V : Nat → Rec} {i0 i c : Nat} {w w1 w2 : World} (h : DownTo gq n m A B V i0 i w w1) (hm : m ≤ n) (hc : par c = i) (hci : i < c) (hcm : c < m)
    (hl : keyR (V (B c)) < keyR (V (B i))) (hmin : ∀ k, 0 < k → k < m → par k = i → keyR (V (B c)) ≤ keyR (V (B k))) (t : Turn (QSet gq n B) w1 w2) : DownTo gq n m A (swapF B i c) V i0 c w w2 := by
  have hlo := h.at'.lo
  refine ⟨down_step h.at' (by omega) hcm hc hl hmin, h.ways.swap (by omega) hcm hm t, .inr (by rw [hc]; exact hlo), keep_swap h.keep h.place hc hci hlo, .inr ⟨by omega, ?_⟩⟩
  rcases h.top with ⟨e, eB⟩ | ⟨h1, k, h2, h3, h4, h5⟩
  · subst e; subst eB
    exact ⟨c, by omega, hcm, hc, by rw [swapF_l]⟩
  · exact ⟨k, h2, h3, h4, by rw [swapF_o B (by omega) (by omega)]; exact h5⟩
theorem DownTo.done {gq n m : Nat} {A B : Nat → Nat} {V : Nat → Rec} {i0 i : Nat} {w w1 : World} (h : DownTo gq n m A B V i0 i w w1) (hk : ∀ k, 0 < k → k < m → par k = i → keyR (V (B i)) ≤ keyR (V (B k))) : heapFrom (kV V) B i0 m := down_done h.at' hk
theorem par_child {k i : Nat} (h0 : 0 < k) (h : par k = i) : k = 2 * i + 1 ∨ k = 2 * i + 2 := by unfold par at h; omega
/-- what it answers -/
def DownRet (c : Nat) (K : Value → Array Value) (gq cap n m : Nat) (A : Nat → Nat) (V : Nat → Rec) (i0 : Nat) (w : World) (e : Ending) (w' : World) : Prop := ∃ (r : Bool) (B : Nat → Nat), e = .returned (.bool r) ∧ QAt c K gq cap n B V w' ∧ heapFrom (kV V) B i0 m ∧ Ways gq n m A B w w' ∧
      (∀ k, k ≠ i0 → par k < i0 → B k = A k) ∧ (r = false → B = A) ∧ (r = true → ∃ k, 0 < k ∧ k < m ∧ par k = i0 ∧ B i0 = A k)
theorem DownTo.ret {c : Nat} {K : Value → Array Value} {gq cap n m : Nat} {A B : Nat → Nat} {V : Nat → Rec} {i0 i : Nat} {w w1 : World} (h : DownTo gq n m A B V i0 i w w1) (hq : QAt c K gq cap n B V w1) (hf : heapFrom (kV V) B i0 m) :
    DownRet c K gq cap n m A V i0 w (.returned (.bool (decide (i0 < i)))) w1 := by
  refine ⟨_, B, rfl, hq, hf, h.ways, h.keep, fun hr => ?_, fun hr => ?_⟩
  · rcases h.top with ⟨_, e⟩ | ⟨h1, _⟩
    · exact e
    · exact absurd h1 (of_decide_eq_false hr)
  · rcases h.top with ⟨e, _⟩ | ⟨_, h2⟩
    · exact absurd (of_decide_eq_true hr) (by omega)
    · exact h2
set_option maxRecDepth 100000 in
set_option maxHeartbeats 8000000 in
theorem down_any {c : Nat} {K : Value → Array Value} {gq cap n : Nat} {A : Nat → Nat} {V : Nat → Rec} (i0 m : Nat) (hi0 : i0 ≤ 256) (hm : m ≤ n) (w : World) (h : QAt c K gq cap n A V w) (hd : downAt (kV V) A i0 i0 m) :
    Calls Tryz.prog 78 #[hV c, .int .i64 (i0 : Int), .int .i64 (m : Int)] w (DownRet c K gq cap n m A V i0 w) := by
  have nl := q_nil "Less" _ _ less_m c
  have ns := q_nil "Swap" _ _ swap_m c
  have sm := h.small
  go_enter Tryz.func78, Tryz.ntmps78
  go_wp2
  go_loopw [7] (fun q wr => ∃ (i : Nat) (B : Nat → Nat), q = .int .i64 (i : Int) ∧ i ≤ 256 ∧ QAt c K gq cap n B V wr ∧ DownTo gq n m A B V i0 i w wr) (fun q _ => 256 - (intOf q).toNat)
  case atStart => exact ⟨i0, A, rfl, hi0, h, hd, Ways.refl _ _ _ _ _, .inl rfl, fun _ _ _ => rfl, .inl ⟨rfl, rfl⟩⟩
  case round =>
    obtain ⟨i, B, rfl, hi, hq, hdn⟩ := hrel
    have HQ := Lib.hid hq
    have HD := Lib.hid hdn
    have hvar := hq.var
    have hle := hq.le
    have hcap := hq.hi
    have hlo := hdn.at'.lo
    clear hq hdn h hd
    by_cases h1 : m ≤ 2 * i + 1
    · have HE : Hid (heapFrom (kV V) B i0 m) := Lib.hid (HD.out.done fun k h0 hk hp => by have := par_child h0 hp; omega)
      go_wp2
      go_ret
      exact HD.out.ret HQ.out HE.out
    · have d1 : 2 * i + 1 < m := by omega
      have c1 : ((2 * i + 1 : Nat) : Int) = 2 * (i : Int) + 1 := by omega
      have c2 : ((2 * i + 2 : Nat) : Int) = 2 * (i : Int) + 1 + 1 := by omega
      by_cases h2 : m ≤ 2 * i + 2
      · have d2 : 2 * i + 1 < m := d1
        have HM : Hid (∀ k, 0 < k → k < m → par k = i → keyR (V (B (2 * i + 1))) ≤ keyR (V (B k))) := Lib.hid (fun k h0 hk hp => by
          rcases par_child h0 hp with e | e
          · rw [e]; exact Int.le_refl _
          · omega)
        have m2 := fun fuel => q_method "Less" _ less_m c _ wr hvar fuel
        have L2 := less_any (2 * i + 1) i (by omega) (by omega) wr HQ.out
        rw [c1] at L2
        by_cases hl : keyR (V (B (2 * i + 1))) < keyR (V (B i))
        · rw [decide_eq_true hl] at L2
          have L2 := Lib.hid L2
          have S := fun w1 h1 => swap_any (V := V) (A := B) (c := c) (K := K) (gq := gq) (cap := cap) (n := n) i (2 * i + 1) (by omega) (by omega) (by omega) w1 h1
          simp only [c1] at S
          have S := Lib.hid S
          have HL := Lib.hid hl
          clear hl
          go_wp2_with fail
          refine L2.out.mono ?_; rintro e w2 ⟨rfl, b⟩
          have hq2 := HQ.out.kept1 b
          have HD2 := Lib.hid (HD.out.next b)
          have m3 := fun fuel => q_method "Swap" _ swap_m c _ w2 hq2.var fuel
          have S1 := Lib.hid (S.out w2 hq2)
          clear hq2 b L2 m2 HQ HD S hvar
          go_wp2_with fail
          refine S1.out.mono ?_; rintro e w3 ⟨rfl, hq3, t⟩
          have HQ3 := Lib.hid hq3
          have HD3 : Hid (DownTo gq n m A (swapF B i (2 * i + 1)) V i0 (2 * i + 1) w w3) := Lib.hid (HD2.out.step hm (by unfold par; omega) (by omega) d2 HL.out HM.out t)
          clear S1 hq3 t HD2 m3 HL HM
          go_wp2
          exact ⟨⟨2 * i + 1, _, by go_num, by omega, HQ3.out, HD3.out⟩, by simp [intOf]; omega⟩
        · rw [decide_eq_false hl] at L2
          have L2 := Lib.hid L2
          have HE : Hid (heapFrom (kV V) B i0 m) := Lib.hid (HD.out.done fun k h0 hk hp => by have := HM.out k h0 hk hp; omega)
          clear hl HM
          go_wp2_with fail
          refine L2.out.mono ?_; rintro e w2 ⟨rfl, b⟩
          have HQ2 := Lib.hid (HQ.out.kept1 b)
          have HD2 := Lib.hid (HD.out.next b)
          clear b L2 m2 HQ HD hvar
          go_wp2
          go_ret
          exact HD2.out.ret HQ2.out HE.out
      · have d3 : 2 * i + 2 < m := by omega
        have m1 := fun fuel => q_method "Less" _ less_m c _ wr hvar fuel
        have L := less_any (2 * i + 2) (2 * i + 1) (by omega) (by omega) wr HQ.out
        rw [c1, c2] at L
        by_cases h3 : keyR (V (B (2 * i + 2))) < keyR (V (B (2 * i + 1)))
        · rw [decide_eq_true h3] at L
          have L := Lib.hid L
          have HM : Hid (∀ k, 0 < k → k < m → par k = i → keyR (V (B (2 * i + 2))) ≤ keyR (V (B k))) := Lib.hid (fun k h0 hk hp => by
            rcases par_child h0 hp with e | e
            · rw [e]; omega
            · rw [e]; exact Int.le_refl _)
          clear h3
          go_wp2_with fail
          refine L.out.mono ?_; rintro e w1 ⟨rfl, b⟩
          have hq1 := HQ.out.kept1 b
          have hd1 := HD.out.next b
          clear HQ HD hvar L m1 b
          have HQ := Lib.hid hq1
          have HD := Lib.hid hd1
          have hvar := hq1.var
          have d2 : 2 * i + 2 < m := d3
          clear hq1 hd1
          have m2 := fun fuel => q_method "Less" _ less_m c _ w1 hvar fuel
          have L2 := less_any (2 * i + 2) i (by omega) (by omega) w1 HQ.out
          rw [c2] at L2
          by_cases hl : keyR (V (B (2 * i + 2))) < keyR (V (B i))
          · rw [decide_eq_true hl] at L2
            have L2 := Lib.hid L2
            have S := fun w1 h1 => swap_any (V := V) (A := B) (c := c) (K := K) (gq := gq) (cap := cap) (n := n) i (2 * i + 2) (by omega) (by omega) (by omega) w1 h1
            simp only [c2] at S
            have S := Lib.hid S
            have HL := Lib.hid hl
            clear hl
            go_wp2_with fail
            refine L2.out.mono ?_; rintro e w2 ⟨rfl, b⟩
            have hq2 := HQ.out.kept1 b
            have HD2 := Lib.hid (HD.out.next b)
            have m3 := fun fuel => q_method "Swap" _ swap_m c _ w2 hq2.var fuel
            have S1 := Lib.hid (S.out w2 hq2)
            clear hq2 b L2 m2 HQ HD S hvar
            go_wp2_with fail
            refine S1.out.mono ?_; rintro e w3 ⟨rfl, hq3, t⟩
            have HQ3 := Lib.hid hq3
            have HD3 : Hid (DownTo gq n m A (swapF B i (2 * i + 2)) V i0 (2 * i + 2) w w3) := Lib.hid (HD2.out.step hm (by unfold par; omega) (by omega) d2 HL.out HM.out t)
            clear S1 hq3 t HD2 m3 HL HM
            go_wp2
            exact ⟨⟨2 * i + 2, _, by go_num, by omega, HQ3.out, HD3.out⟩, by simp [intOf]; omega⟩
          · rw [decide_eq_false hl] at L2
            have L2 := Lib.hid L2
            have HE : Hid (heapFrom (kV V) B i0 m) := Lib.hid (HD.out.done fun k h0 hk hp => by have := HM.out k h0 hk hp; omega)
            clear hl HM
            go_wp2_with fail
            refine L2.out.mono ?_; rintro e w2 ⟨rfl, b⟩
            have HQ2 := Lib.hid (HQ.out.kept1 b)
            have HD2 := Lib.hid (HD.out.next b)
            clear b L2 m2 HQ HD hvar
            go_wp2
            go_ret
            exact HD2.out.ret HQ2.out HE.out
        · rw [decide_eq_false h3] at L
          have L := Lib.hid L
          have HM : Hid (∀ k, 0 < k → k < m → par k = i → keyR (V (B (2 * i + 1))) ≤ keyR (V (B k))) := Lib.hid (fun k h0 hk hp => by
            rcases par_child h0 hp with e | e
            · rw [e]; exact Int.le_refl _
            · rw [e]; omega)
          clear h3
          go_wp2_with fail
          refine L.out.mono ?_; rintro e w1 ⟨rfl, b⟩
          have hq1 := HQ.out.kept1 b
          have hd1 := HD.out.next b
          clear HQ HD hvar L m1 b
          have HQ := Lib.hid hq1
          have HD := Lib.hid hd1
          have hvar := hq1.var
          have d2 : 2 * i + 1 < m := d1
          clear hq1 hd1
          have m2 := fun fuel => q_method "Less" _ less_m c _ w1 hvar fuel
          have L2 := less_any (2 * i + 1) i (by omega) (by omega) w1 HQ.out
          rw [c1] at L2
          by_cases hl : keyR (V (B (2 * i + 1))) < keyR (V (B i))
          · rw [decide_eq_true hl] at L2
            have L2 := Lib.hid L2
            have S := fun w1 h1 => swap_any (V := V) (A := B) (c := c) (K := K) (gq := gq) (cap := cap) (n := n) i (2 * i + 1) (by omega) (by omega) (by omega) w1 h1
            simp only [c1] at S
            have S := Lib.hid S
            have HL := Lib.hid hl
            clear hl
            go_wp2_with fail
            refine L2.out.mono ?_; rintro e w2 ⟨rfl, b⟩
            have hq2 := HQ.out.kept1 b
            have HD2 := Lib.hid (HD.out.next b)
            have m3 := fun fuel => q_method "Swap" _ swap_m c _ w2 hq2.var fuel
            have S1 := Lib.hid (S.out w2 hq2)
            clear hq2 b L2 m2 HQ HD S hvar
            go_wp2_with fail
            refine S1.out.mono ?_; rintro e w3 ⟨rfl, hq3, t⟩
            have HQ3 := Lib.hid hq3
            have HD3 : Hid (DownTo gq n m A (swapF B i (2 * i + 1)) V i0 (2 * i + 1) w w3) := Lib.hid (HD2.out.step hm (by unfold par; omega) (by omega) d2 HL.out HM.out t)
            clear S1 hq3 t HD2 m3 HL HM
            go_wp2
            exact ⟨⟨2 * i + 1, _, by go_num, by omega, HQ3.out, HD3.out⟩, by simp [intOf]; omega⟩
          · rw [decide_eq_false hl] at L2
            have L2 := Lib.hid L2
            have HE : Hid (heapFrom (kV V) B i0 m) := Lib.hid (HD.out.done fun k h0 hk hp => by have := HM.out k h0 hk hp; omega)
            clear hl HM
            go_wp2_with fail
            refine L2.out.mono ?_; rintro e w2 ⟨rfl, b⟩
            have HQ2 := Lib.hid (HQ.out.kept1 b)
            have HD2 := Lib.hid (HD.out.next b)
            clear b L2 m2 HQ HD hvar
            go_wp2
            go_ret
            exact HD2.out.ret HQ2.out HE.out
end Go.Proofs.YtehjobjjlldckaaGreat
