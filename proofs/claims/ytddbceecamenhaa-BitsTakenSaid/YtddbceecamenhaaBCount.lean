/- The walk of BitsCount. -/
import Derived.Test.YtddbceecamenhaaBLaws
namespace Go.Proofs.Ytddbceecamenhaa
set_option linter.unusedVariables false
open Go.RowKit

set_option maxHeartbeats 4000000 in
theorem count_walk (s : ByteArray) (hm : s.size ≤ maxLen) (n : Int) (hn : n ≤ 9223372036854775807) (w : World) :
    Calls Try.prog 4 #[.string s, .int .i64 n] w fun e w' => e = .returned (.bool true) ∧ Below w.heap.size w w' := by
  unfold maxLen at hm
  by_cases hs : s.size ≤ 600
  · have hs2 : s.size ≤ 2000 := by omega
    have C1 := Lib.hid (free_any s hs2 n)
    have C2 := Lib.hid (rfree_any s hs2 n hn)
    have C3 := Lib.hid (count_any s hs2 n)
    have C4 := Lib.hid (rcount_any s hs2 n hn)
    have AL := Lib.hid alive_any
    have hlen := runs_len (bitAt s) (firstV s n)
    have hN := firstV_le s n
    have hl16 : (runs (bitAt s) (firstV s n)).length ≤ 16000 := by omega
    generalize runs (bitAt s) (firstV s n) = l at *
    generalize cnt (bitAt s) (firstV s n) = c at *
    have C5 := Lib.hid (fun Ba Bb va vb w ha hb => by
      have h := same_any Ba Bb va vb l l hl16 hl16 w ha hb
      rw [show decide (l = l) = true from by simp] at h
      exact h)
    have d1 : ((c : Int) != (c : Int)) = false := by simp
    clear hlen hN
    go_enter Try.func4, Try.ntmps4
    go_wp2_with fail
    refine (C1.out _).mono ?_; rintro e w1 ⟨v1, rfl, r1, b1⟩
    go_wp2_with fail
    refine (C2.out _).mono ?_; rintro e w2 ⟨v2, rfl, r2, b2⟩
    have r1' := row_kept r1 b2
    go_wp2_with fail
    refine (C3.out _).mono ?_; rintro e w' ⟨rfl, rfl⟩
    go_wp2_with fail
    refine (C4.out _).mono ?_; rintro e w' ⟨rfl, rfl⟩
    go_wp2_with fail
    refine (C5.out _ _ _ _ _ r1' r2).mono ?_; rintro e w3 ⟨rfl, b3⟩
    have q1 := row_kept r1' b3
    have q2 := row_kept r2 b3
    have hb := bnext (bnext b1 b2) b3
    have hne : ∀ g, v1.ownBlock = some g → v2.ownBlock ≠ some g := fun g h h2 => by
      have := (r1.lt g h).2
      have := (r2.lt g h2).1
      omega
    obtain ⟨ad, cap, rfl, had⟩ := shape_of q1
    obtain ⟨ad2, cap2, rfl, had2⟩ := shape_of q2
    clear r1 r2 r1' b1 b2 b3 had2
    go_wp2
    go_loopw [7] (fun p wr => ∃ k : Nat, p = .int .i64 k ∧ k ≤ l.length ∧ (∃ xs, wr.ownsRow w.heap.size 31 2 (.slice ad l.length cap) l.length xs) ∧ RunsAt w1.heap.size (.slice ad2 l.length cap2) l wr ∧ Below w.heap.size w wr) (fun p _ => l.length - (intOf p).toNat)
    case atStart => exact ⟨0, rfl, Nat.zero_le _, ⟨_, q1⟩, q2, hb⟩
    case round =>
      obtain ⟨k, rfl, hk, ⟨xs, hx⟩, hw2, hbr⟩ := hrel
      by_cases hlt : k < l.length
      · obtain ⟨g, rfl, hg⟩ := had (by omega)
        have hxl := hx.1
        have e1 : wr.cell? ⟨g, k * 2, none⟩ = some (xs[k * 2]'(by omega)) := (hx.cellAt _ (by omega)).trans (List.getElem?_eq_getElem _)
        have e2 : wr.cell? ⟨g, k * 2 + 1, none⟩ = some (xs[k * 2 + 1]'(by omega)) := (hx.cellAt _ (by omega)).trans (List.getElem?_eq_getElem _)
        have f1 := hx.frozenAt (k * 2)
        have f2 := hx.frozenAt (k * 2 + 1)
        have s1 := (hx.stored (k * 2) (.int .i64 (-1))).1
        have s2 := (s1.stored (k * 2 + 1) (.int .i64 0)).1
        have t1 := ownsRow_setCell_other (ownsRow_setCell_other hw2 (a := ⟨g, k * 2, none⟩) (hne g rfl) (.int .i64 (-1))) (a := ⟨g, k * 2 + 1, none⟩) (hne g rfl) (.int .i64 0)
        have u1 := (hbr.setCell (p := ⟨g, k * 2, none⟩) hg (.int .i64 (-1))).setCell (p := ⟨g, k * 2 + 1, none⟩) hg (.int .i64 0)
        generalize xs[k * 2]'(by omega) = x1 at *
        generalize xs[k * 2 + 1]'(by omega) = x2 at *
        clear q1 q2 hb hne had hx hw2 hbr s1 C1 C2 C3 C4 C5 AL
        go_wp2
        exact ⟨⟨k + 1, by go_num, by omega, ⟨_, s2⟩, t1, u1⟩, by simp [intOf]; omega⟩
      · obtain rfl : k = l.length := by omega
        clear hx q1 q2 hb hne had
        go_wp2_with fail
        refine (C1.out _).mono ?_; rintro e w4 ⟨v4, rfl, r4, b4⟩
        go_wp2_with fail
        refine (C5.out _ _ _ _ _ r4 (row_kept hw2 b4)).mono ?_; rintro e w5 ⟨rfl, b5⟩
        go_wp2_with fail
        refine (AL.out _).mono ?_; rintro e w6 ⟨rfl, b6⟩
        go_wp2
        go_ret
        exact ⟨rfl, bnext (bnext (bnext hbr b4) b5) b6⟩
  · have hs : 600 < s.size := by omega
    go_enter Try.func4, Try.ntmps4
    go_wp2
    go_ret
    exact ⟨rfl, Below.refl _ _⟩
end Go.Proofs.Ytddbceecamenhaa
