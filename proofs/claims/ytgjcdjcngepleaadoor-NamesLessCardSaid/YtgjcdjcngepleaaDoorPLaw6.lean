/- NamesLess: the walks put together. -/
import Derived.Test.YtgjcdjcngepleaaDoorPLess
namespace Go.Proofs.YtgjcdjcngepleaaDoor
set_option linter.unusedVariables false
open Go.RowKit

theorem nameE_zero {s : ByteArray} (h : nameE s = 0) : NameOk s := by
  unfold nameE at h
  by_cases k : NameOk s ∧ s ≠ dotB ∧ s ≠ dotsB
  · exact k.1
  · rw [if_neg k] at h; exact absurd h (by decide)
theorem split_size {s : ByteArray} (h : splitE s = 0) : s.size ≤ 256 := by
  unfold splitE at h
  by_cases k : 256 < s.size
  · rw [if_pos k] at h; exact absurd h (by decide)
  · omega
theorem split_path2 {l : List ByteArray} (h : JoinOk l) (hn : l ≠ []) : splitE (pathB l) = 0 ∧ splitV (pathB l) = l := by
  have := split_path h
  rwa [pathOf_ne hn] at this
theorem split_long2 {l : List ByteArray} (h : Comps l) (hn : l ≠ []) (hb : 256 < (pathB l).size ∨ 16 < l.length) : splitE (pathB l) = 3 ∧ splitV (pathB l) = [] := by
  have e := splitE_path h hn
  have e2 : splitE (pathB l) = 3 := by
    rw [e]
    by_cases k : 256 < (pathB l).size
    · rw [if_pos k]
    · rw [if_neg k, if_pos (hb.resolve_left k)]
  exact ⟨e2, split_none (by rw [e2]; decide)⟩
theorem same_yes (l : List ByteArray) (v u : Value) (w : World) (h1 : StrsIn v l w) (h2 : StrsIn u l w) :
    Calls Tryd.prog 13 #[v, u] w fun e w' => e = .returned (.bool true) ∧ Below w.heap.size w w' := by
  have := tsame_any l l v u w h1 h2
  rwa [decide_eq_true rfl] at this
set_option maxRecDepth 100000 in
set_option maxHeartbeats 4000000 in
theorem pless_walk (s part : ByteArray) (hs0 : s.size ≤ maxLen) (hp0 : part.size ≤ maxLen) (w : World) :
    Calls Tryd.prog 6 #[.string s, .string part] w fun e w' => e = .returned (.bool true) ∧ Below w.heap.size w w' := by
  have hs : s.size ≤ 9223372036854775807 := hs0
  have hp : part.size ≤ 9223372036854775807 := hp0
  have AL := Lib.hid palive_any
  by_cases big1 : 5000 < s.size
  · have t1 : decide ((5000 : Int) < (s.size : Int)) = true := decide_eq_true (by omega)
    clear big1
    go_enter Tryd.func6, Tryd.ntmps6
    go_wp2
    go_ret
    exact ⟨rfl, Below.refl _ _⟩
  have t1 : decide ((5000 : Int) < (s.size : Int)) = false := decide_eq_false (by omega)
  by_cases big2 : 5000 < part.size
  · have t2 : decide ((5000 : Int) < (part.size : Int)) = true := decide_eq_true (by omega)
    clear big1 big2
    go_enter Tryd.func6, Tryd.ntmps6
    go_wp2
    go_ret
    exact ⟨rfl, Below.refl _ _⟩
  have t2 : decide ((5000 : Int) < (part.size : Int)) = false := decide_eq_false (by omega)
  have S1 := split_any s hs
  by_cases hE : splitE s = 0
  · rw [hE] at S1
    obtain ⟨hj, hpth⟩ := join_split hE
    have hz := split_size hE
    have C1 := check_any part hp
    have qs := slash_eq s
    rw [t_slash] at qs
    by_cases hL : splitV s = []
    · rw [hL] at S1 hj hpth
      have hsl : s = slashB := hpth.symm
      have S1 := Lib.hid S1
      have ts : (s.toList == [47]) = true := by rw [qs]; exact decide_eq_true hsl
      by_cases hN : nameE part = 0
      · have hok := nameE_zero hN
        rw [hN] at C1
        have h32 := hok.1.2
        have hP : s ++ part = pathB ([] ++ [part]) := by rw [List.nil_append, pathB_one, hsl]
        have hJ : JoinOk ([] ++ [part]) := (one_ok hok).1
        obtain ⟨p1, p2⟩ := split_path2 hJ (by simp)
        have hz3 : (s ++ part).size ≤ 256 := by rw [hP]; exact hJ.2.2
        have S7 := split_any (s ++ part) (by omega)
        rw [hP, p1, p2, ← hP] at S7
        exact less_root_fits s part w hz (by omega) t1 t2 AL S1 (Lib.hid C1) (s ++ slashB) (s ++ slashB ++ part)
          (fun w => run_string_add_sum _ _ _ (by show s.size + 1 ≤ _; omega)) (fun w => run_string_add_sum _ _ _ (by rw [ByteArray.size_append]; show s.size + 1 + _ ≤ _; omega))
          (s ++ part) (fun w => run_string_add_sum _ _ _ (by omega)) ts (decide_eq_false (by omega)) (Lib.hid S7) (Lib.hid (same_yes _))
      · exact less_root_bad s part w hz (by omega) t1 t2 AL S1 (nameE part) (by rw [bne_iff_ne]; exact hN) (Lib.hid C1)
    · have S1 := Lib.hid S1
      rw [pathOf_ne hL] at hpth
      have hbig := path_big hj.1 hL
      have ts : (s.toList == [47]) = false := by
        rw [qs]; refine decide_eq_false fun e => ?_
        rw [hpth, e] at hbig
        exact absurd hbig (by decide)
      obtain ⟨L, hLe⟩ : ∃ L, splitV s = L := ⟨_, rfl⟩
      rw [hLe] at S1 hj hpth hL hbig
      obtain ⟨M, p, hMp⟩ : ∃ (M : List ByteArray) (p : ByteArray), L = M ++ [p] := ⟨L.dropLast, L.getLast hL, (List.dropLast_concat_getLast hL).symm⟩
      have hlen : L.length = M.length + 1 := by rw [hMp, List.length_append]; rfl
      have hpm : sat L M.length = p := by unfold sat; rw [hMp, List.getElem?_append_right (Nat.le_refl _), Nat.sub_self]; rfl
      have hT : L.take M.length = M := by rw [hMp]; exact List.take_left' rfl
      rw [hMp] at hj
      obtain ⟨k1, k2, k3⟩ := less_path hj
      rw [← hMp, hpth] at k2 k3
      rw [← hMp] at hj
      have hpz : p.size ≤ 32 := (hj.1 p (by rw [hMp]; simp)).1.2
      have hq : (s.size : Int) - 1 - (p.size : Int) = (((pathB M).size : Nat) : Int) := by omega
      have l16 := hj.2.1
      have hd1 := fun w => run_string_add_sum (P := Tryd.prog) w s ⟨#[47]⟩ (by show s.size + 1 ≤ _; omega)
      have hd2 := fun w => run_string_add_sum (P := Tryd.prog) w (s ++ slashB) part (by rw [ByteArray.size_append]; show s.size + 1 + _ ≤ _; omega)
      have hmore : s ++ slashB ++ part = pathB (L ++ [part]) := by rw [pathB_snoc, hpth, ByteArray.append_assoc]
      have hms : (s ++ slashB ++ part).size = s.size + 1 + part.size := by rw [ByteArray.size_append, ByteArray.size_append]; rfl
      have hne : L ++ [part] ≠ [] := by simp
      have S7 := split_any (s ++ slashB ++ part) (by omega)
      have S5 := split_any (s.extract 0 (pathB M).size) (by rw [ByteArray.size_extract]; omega)
      by_cases hM : M = []
      · subst hM
        have hq0 : (pathB []).size = 0 := rfl
        have S5 : Hid (∀ w, Calls Tryd.prog 9 #[.string (s.extract 0 (pathB []).size)] w fun e w' => ∃ v, e = .returned (.tuple #[v, .int .i64 130]) ∧ StrsAt w.heap.size v [] w' ∧ Below w.heap.size w w') := Lib.hid (by
          obtain ⟨a, b⟩ := split_empty (s := s.extract 0 (pathB []).size) (by rw [ByteArray.size_extract, hq0]; omega)
          rwa [a, b] at S5)
        have S6 : Hid (∀ w, Calls Tryd.prog 9 #[.string ⟨#[47]⟩] w fun e w' => ∃ v, e = .returned (.tuple #[v, .int .i64 0]) ∧ StrsAt w.heap.size v [] w' ∧ Below w.heap.size w w') := Lib.hid fun w => by
          have := split_any slashB (by decide) w
          rwa [exR_is.1, exR_is.2] at this
        by_cases hN : nameE part = 0
        · have hok := nameE_zero hN
          rw [hN] at C1
          have hcc : Comps (L ++ [part]) := (comps_snoc _ _).2 ⟨hj.1, hok⟩
          by_cases c1 : 256 < (s ++ slashB ++ part).size
          · obtain ⟨a, b⟩ := split_long2 hcc hne (.inl (by rw [← hmore]; exact c1))
            rw [hmore, a, b, ← hmore] at S7
            exact less_one_long s part w hz (by omega) t1 t2 AL L 0 (pathB []).size p hlen (by omega) hpz (Lib.hid hpm) hq (by omega) (by omega) S1 rfl (Lib.hid hT) S5 S6 (Lib.hid (same_yes _)) (Lib.hid C1) _ _ hd1 hd2 ts (decide_eq_true (by omega)) (Lib.hid S7)
          · have hJ := more_path hj hok (by rw [hpth, ← hms]; omega) (by rw [hlen]; simp)
            obtain ⟨a, b⟩ := split_path2 hJ hne
            rw [hmore, a, b, ← hmore] at S7
            exact less_one_fits s part w hz (by omega) t1 t2 AL L 0 (pathB []).size p hlen (by omega) hpz (Lib.hid hpm) hq (by omega) (by omega) S1 rfl (Lib.hid hT) S5 S6 (Lib.hid (same_yes _)) (Lib.hid C1) _ _ hd1 hd2 ts (decide_eq_false (by omega)) (by decide) (Lib.hid S7) (Lib.hid (same_yes _))
        · exact less_one_bad s part w hz (by omega) t1 t2 AL L 0 (pathB []).size p hlen (by omega) hpz (Lib.hid hpm) hq (by omega) (by omega) S1 rfl (Lib.hid hT) S5 S6 (Lib.hid (same_yes _)) (nameE part) (by rw [bne_iff_ne]; exact hN) (Lib.hid C1)
      · have hqp : (pathB M).size ≠ 0 := fun e => hM (pathB_empty.1 e)
        have tq : (((pathB M).size : Int) == 0) = false := by rw [beq_eq_false_iff_ne]; omega
        have S5 : Hid (∀ w, Calls Tryd.prog 9 #[.string (s.extract 0 (pathB M).size)] w fun e w' => ∃ v, e = .returned (.tuple #[v, .int .i64 0]) ∧ StrsAt w.heap.size v M w' ∧ Below w.heap.size w w') := Lib.hid (by
          obtain ⟨a, b⟩ := split_path2 k1 hM
          rw [k3] at a b
          rwa [a, b] at S5)
        by_cases hN : nameE part = 0
        · have hok := nameE_zero hN
          rw [hN] at C1
          have hcc : Comps (L ++ [part]) := (comps_snoc _ _).2 ⟨hj.1, hok⟩
          by_cases c1 : 256 < (s ++ slashB ++ part).size
          · obtain ⟨a, b⟩ := split_long2 hcc hne (.inl (by rw [← hmore]; exact c1))
            rw [hmore, a, b, ← hmore] at S7
            exact less_many_long s part w hz (by omega) t1 t2 AL L M.length (pathB M).size p hlen (by omega) hpz (Lib.hid hpm) hq (by omega) (by omega) S1 M tq (Lib.hid hT) rfl S5 (Lib.hid (same_yes _)) (Lib.hid C1) _ _ hd1 hd2 ts (decide_eq_true (by omega)) (Lib.hid S7)
          · by_cases c2 : M.length + 1 = 16
            · obtain ⟨a, b⟩ := split_long2 hcc hne (.inr (by rw [List.length_append, hlen, c2]; show 16 < 16 + 1; omega))
              rw [hmore, a, b, ← hmore] at S7
              exact less_many_many s part w hz (by omega) t1 t2 AL L M.length (pathB M).size p hlen (by omega) hpz (Lib.hid hpm) hq (by omega) (by omega) S1 M tq (Lib.hid hT) rfl S5 (Lib.hid (same_yes _)) (Lib.hid C1) _ _ hd1 hd2 ts (decide_eq_false (by omega)) (by rw [beq_iff_eq]; omega) (Lib.hid S7)
            · have hJ := more_path hj hok (by rw [hpth, ← hms]; omega) (by omega)
              obtain ⟨a, b⟩ := split_path2 hJ hne
              rw [hmore, a, b, ← hmore] at S7
              exact less_many_fits s part w hz (by omega) t1 t2 AL L M.length (pathB M).size p hlen (by omega) hpz (Lib.hid hpm) hq (by omega) (by omega) S1 M tq (Lib.hid hT) rfl S5 (Lib.hid (same_yes _)) (Lib.hid C1) _ _ hd1 hd2 ts (decide_eq_false (by omega)) (by rw [beq_eq_false_iff_ne]; omega) (Lib.hid S7) (Lib.hid (same_yes _))
        · exact less_many_bad s part w hz (by omega) t1 t2 AL L M.length (pathB M).size p hlen (by omega) hpz (Lib.hid hpm) hq (by omega) (by omega) S1 M tq (Lib.hid hT) rfl S5 (Lib.hid (same_yes _)) (nameE part) (by rw [bne_iff_ne]; exact hN) (Lib.hid C1)
  · have t3 : (splitE s != 0) = true := by rw [bne_iff_ne]; exact hE
    have S1 := Lib.hid S1
    generalize splitE s = E at *
    generalize splitV s = L at *
    clear hE big1 big2
    go_enter Tryd.func6, Tryd.ntmps6
    go_wp2_with fail
    refine (S1.out _).mono ?_; rintro e w1 ⟨v1, rfl, hv1, b1⟩
    obtain ⟨ad1, cap1, ev1, -⟩ := shape_of hv1
    subst ev1
    go_wp2_with fail
    refine (AL.out _).mono ?_; rintro e w9 ⟨rfl, b9⟩
    go_wp2
    go_ret
    exact ⟨rfl, bnext b1 b9⟩
end Go.Proofs.YtgjcdjcngepleaaDoor
