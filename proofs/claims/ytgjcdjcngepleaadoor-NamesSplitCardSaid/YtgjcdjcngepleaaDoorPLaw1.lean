/- The walk of NamesSplit. -/
import Derived.Test.YtgjcdjcngepleaaDoorPAlive
namespace Go.Proofs.YtgjcdjcngepleaaDoor
set_option linter.unusedVariables false
open Go.RowKit

set_option maxRecDepth 100000 in
set_option maxHeartbeats 4000000 in
theorem psplit_walk (s : ByteArray) (hs : s.size ≤ maxLen) (w : World) :
    Calls Tryd.prog 3 #[.string s] w fun e w' => e = .returned (.bool true) ∧ Below w.heap.size w w' := by
  have hs : s.size ≤ 9223372036854775807 := hs
  by_cases hbig : 5000 < s.size
  · have t1 : decide ((5000 : Int) < (s.size : Int)) = true := decide_eq_true (by omega)
    clear hbig
    go_enter Tryd.func3, Tryd.ntmps3
    go_wp2
    go_ret
    exact ⟨rfl, Below.refl _ _⟩
  · have t1 : decide ((5000 : Int) < (s.size : Int)) = false := decide_eq_false (by omega)
    have S1 := Lib.hid (split_any s hs)
    have S2 := Lib.hid (rsplit_any s hs)
    have C1 := Lib.hid (check_any s hs)
    have C2 := Lib.hid (rcheck_any s hs)
    have AL := Lib.hid palive_any
    generalize splitE s = E at *
    generalize splitV s = L at *
    generalize nameE s = F at *
    have SM : Hid (∀ v u w, StrsIn v L w → StrsIn u L w → Calls Tryd.prog 13 #[v, u] w fun e w' => e = .returned (.bool true) ∧ Below w.heap.size w w') := Lib.hid fun v u w h1 h2 => by
      have := tsame_any L L v u w h1 h2
      rwa [decide_eq_true rfl] at this
    have q1 : (F == F) = true := by simp
    have q2 : (E == E) = true := by simp
    have q3 : (F != F) = false := by simp
    have q4 : (E != E) = false := by simp
    clear hbig
    go_enter Tryd.func3, Tryd.ntmps3
    go_wp2_with fail
    refine (S1.out _).mono ?_; rintro e w1 ⟨v1, rfl, hv1, b1⟩
    obtain ⟨ad, cap, rfl, -⟩ := shape_of hv1
    go_wp2_with fail
    refine (S2.out _).mono ?_; rintro e w2 ⟨v2, rfl, hv2, b2⟩
    obtain ⟨ad2, cap2, rfl, -⟩ := shape_of hv2
    have hne : ∀ g, (Value.slice ad L.length cap).ownBlock = some g → (Value.slice ad2 L.length cap2).ownBlock ≠ some g := fun g h h2 => by
      have := (hv1.lt g h).2
      have := (hv2.lt g h2).1
      omega
    have hv1 := row_kept hv1 b2
    have hb2 := bnext b1 b2
    have hv2 := row_down (show w.heap.size ≤ w1.heap.size from b1.size) hv2
    clear b1 b2 S2
    go_wp2_with fail
    refine (C1.out _).mono ?_; rintro e w3 ⟨rfl, b3⟩
    have hv1 := row_kept hv1 b3
    have hv2 := row_kept hv2 b3
    have hb3 := bnext hb2 b3
    clear b3 hb2 C1
    go_wp2_with fail
    refine (C2.out _).mono ?_; rintro e w4 ⟨rfl, b4⟩
    have hv1 := row_kept hv1 b4
    have hv2 := row_kept hv2 b4
    have hb4 := bnext hb3 b4
    clear b4 hb3 C2
    go_wp2_with fail
    refine (SM.out _ _ _ (strsAt_in hv1) (strsAt_in hv2)).mono ?_; rintro e w5 ⟨rfl, b5⟩
    have hv1 := row_kept hv1 b5
    have hv2 := row_kept hv2 b5
    have hb5 := bnext hb4 b5
    obtain ⟨_, _, e0, h1, h2, had⟩ := shape_of hv1
    cases e0
    have h2 : cap ≤ 9223372036854775807 := h2
    have had := Lib.hid had
    clear b5 hb4
    go_wp2
    go_loopw [7] (fun p wr => ∃ (k : Nat) (xs : List Value), p = .int .i64 k ∧ k ≤ L.length ∧ wr.ownsRow w.heap.size 9 1 (.slice ad L.length cap) L.length xs ∧ StrsAt w.heap.size (.slice ad2 L.length cap2) L wr ∧ Below w.heap.size w wr) (fun p _ => L.length - (intOf p).toNat)
    case atStart => exact ⟨0, _, rfl, Nat.zero_le _, hv1, hv2, hb5⟩
    case round =>
      obtain ⟨k, xs, rfl, hk, hx, hw2, hbr⟩ := hrel
      by_cases hlt : k < L.length
      · obtain ⟨g, rfl, hg, -⟩ := had.out (by omega)
        have hxl := hx.1
        have e1 : wr.cell? ⟨g, k, none⟩ = some (xs[k]'(by omega)) := (hx.cellAt _ (by omega)).trans (List.getElem?_eq_getElem _)
        have f1 := hx.frozenAt k
        have s1 := (hx.stored k (.string ⟨#[47, 47]⟩)).1
        have t1 := ownsRow_setCell_other hw2 (a := ⟨g, k, none⟩) (hne g rfl) (.string ⟨#[47, 47]⟩)
        have u1 := hbr.setCell (p := ⟨g, k, none⟩) hg (.string ⟨#[47, 47]⟩)
        generalize xs[k]'(by omega) = x1 at *
        clear hv1 hv2 hb5 hne had hx hw2 hbr S1 SM AL
        go_wp2
        exact ⟨⟨k + 1, _, by go_num, by omega, s1, t1, u1⟩, by simp [intOf]; omega⟩
      · obtain rfl : k = L.length := by omega
        clear hx hv1 hv2 hb5 hne had
        go_wp2_with fail
        refine (S1.out _).mono ?_; rintro e w6 ⟨v6, rfl, hv6, b6⟩
        obtain ⟨ad6, cap6, rfl, -⟩ := shape_of hv6
        have hw2 := row_kept hw2 b6
        have hb6 := bnext hbr b6
        clear b6 hbr S1
        go_wp2_with fail
        refine (SM.out _ _ _ (strsAt_in hv6) (strsAt_in hw2)).mono ?_; rintro e w7 ⟨rfl, b7⟩
        have hb7 := bnext hb6 b7
        clear b7 hb6 SM hw2 hv6
        go_wp2_with fail
        refine (AL.out _).mono ?_; rintro e w8 ⟨rfl, b8⟩
        go_wp2
        go_ret
        exact ⟨rfl, bnext hb7 b8⟩
end Go.Proofs.YtgjcdjcngepleaaDoor
