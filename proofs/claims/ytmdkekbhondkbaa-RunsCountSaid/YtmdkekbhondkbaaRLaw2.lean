/- The walk of RunsLaws. -/
import Derived.Test.YtmdkekbhondkbaaRLaw1
namespace Go.Proofs.Ytmdkekbhondkbaa
set_option linter.unusedVariables false
open Go.RowKit Go.Shelf

theorem union_len (a b : List (Int × Int)) : (unionR a b).length ≤ a.length + b.length := by
  have := norm_len (a ++ b); rw [List.length_append] at this; exact this
theorem meet_len (a b : List (Int × Int)) : (meetR a b).length ≤ a.length + b.length := by
  rw [← meet_go]
  have h1 := meet_go_len _ (Nat.le_refl ((normR a).length + (normR b).length))
  have := norm_len a; have := norm_len b; omega
theorem minus_len (a b : List (Int × Int)) : (minusR a b).length ≤ a.length + b.length + 1 := by
  rw [← minus_meet]
  have h1 := meet_len a (complR b 9223372036854775807)
  have h2 := compl_len b (Int.le_refl 9223372036854775807)
  omega
theorem fit_union (a b : List (Int × Int)) : fitR (unionR a b) := (norm_norm _).fit
theorem fit_meet (a b : List (Int × Int)) : fitR (meetR a b) := (minus_norm _ _).fit
theorem fit_minus (a b : List (Int × Int)) : fitR (minusR a b) := (minus_norm _ _).fit
theorem law1 (a b : List (Int × Int)) : unionR b a = unionR a b := norm_one (norm_norm _) (norm_norm _) fun i => by
  show elemR (unionR b a) i ↔ elemR (unionR a b) i
  rw [union_elem, union_elem]; exact Or.comm
theorem law2 (a b : List (Int × Int)) : meetR b a = meetR a b := norm_one (minus_norm _ _) (minus_norm _ _) fun i => by
  show elemR (meetR b a) i ↔ elemR (meetR a b) i
  rw [meet_elem, meet_elem]; exact And.comm
theorem law3 (a b c : List (Int × Int)) : unionR (unionR a b) c = unionR a (unionR b c) := norm_one (norm_norm _) (norm_norm _) fun i => by
  show elemR (unionR (unionR a b) c) i ↔ elemR (unionR a (unionR b c)) i
  rw [union_elem, union_elem, union_elem, union_elem]; exact or_assoc
theorem law4 (a b c : List (Int × Int)) : unionR (meetR a b) (meetR a c) = meetR a (unionR b c) := norm_one (norm_norm _) (minus_norm _ _) fun i => by
  show elemR (unionR (meetR a b) (meetR a c)) i ↔ elemR (meetR a (unionR b c)) i
  rw [union_elem, meet_elem, meet_elem, meet_elem, union_elem]; exact and_or_left.symm
theorem law5 (a b c : List (Int × Int)) : unionR (minusR a c) (minusR b c) = minusR (unionR a b) c := norm_one (norm_norm _) (minus_norm _ _) fun i => by
  show elemR (unionR (minusR a c) (minusR b c)) i ↔ elemR (minusR (unionR a b) c) i
  rw [union_elem, minus_elem, minus_elem, minus_elem, union_elem]; exact or_and_right.symm
theorem law6 (a b c : List (Int × Int)) : minusR a (unionR b c) = minusR (minusR a b) c := norm_one (minus_norm _ _) (minus_norm _ _) fun i => by
  show elemR (minusR a (unionR b c)) i ↔ elemR (minusR (minusR a b) c) i
  rw [minus_elem, minus_elem, minus_elem, union_elem]
  exact ⟨fun ⟨h, k⟩ => ⟨⟨h, fun m => k (.inl m)⟩, fun m => k (.inr m)⟩, fun ⟨⟨h, k⟩, m⟩ => ⟨h, fun n => n.elim k m⟩⟩
theorem same_eq (va vb : Value) (l m : List (Int × Int)) (h : m = l) (w : World) (ha : RunsIn va l w) (hb : RunsIn vb m w) :
    Calls Try.prog 18 #[va, vb] w fun e w' => e = .returned (.bool true) ∧ Below w.heap.size w w' := by subst h; exact same_yes va vb m w ha hb

set_option maxHeartbeats 16000000 in
theorem laws_walk (a b c : List (Int × Int)) (fa : fitR a) (fb : fitR b) (fc : fitR c) (va vb vc : Value) (w : World) (ha : RunsIn va a w) (hb0 : RunsIn vb b w) (hc : RunsIn vc c w) :
    Calls Try.prog 8 #[va, vb, vc] w fun e w' => e = .returned (.bool true) ∧ Below w.heap.size w w' := by
  obtain ⟨ada, capa, rfl, -⟩ := id ha
  obtain ⟨adb, capb, rfl, -⟩ := id hb0
  obtain ⟨adc, capc, rfl, -⟩ := id hc
  have hb := Below.refl w.heap.size w
  by_cases hla : a.length ≤ 60
  · by_cases hlb : b.length ≤ 60
    · by_cases hlc : c.length ≤ 60
      · have AL := Lib.hid alive_any
        have uab := union_len a b
        have uba := union_len b a
        have ubc := union_len b c
        have mab := meet_len a b
        have mac := meet_len a c
        have nac := minus_len a c
        have nbc := minus_len b c
        have nab := minus_len a b
        go_enter Try.func8, Try.ntmps8
        go_wp2_with fail
        refine (union_any a b fa fb (by omega) _ _ w ha hb0).mono ?_; rintro e w1 ⟨v1, rfl, r1, b⟩
        have ha := runsIn_kept ha b
        have hb0 := runsIn_kept hb0 b
        have hc := runsIn_kept hc b
        have h1 := runsAt_in r1
        have hb := bnext hb b
        clear b r1
        go_wp2_with fail
        refine (union_any b a fb fa (by omega) _ _ _ hb0 ha).mono ?_; rintro e w2 ⟨v2, rfl, r2, b⟩
        have ha := runsIn_kept ha b
        have hb0 := runsIn_kept hb0 b
        have hc := runsIn_kept hc b
        have h1 := runsIn_kept h1 b
        have h2 := runsAt_in r2
        have hb := bnext hb b
        clear b r2
        go_wp2_with fail
        refine (same_eq _ _ _ _ (law1 a b) _ h1 h2).mono ?_; rintro e w3 ⟨rfl, b⟩
        have ha := runsIn_kept ha b
        have hb0 := runsIn_kept hb0 b
        have hc := runsIn_kept hc b
        have hb := bnext hb b
        clear b h1 h2
        go_wp2_with fail
        refine (meet_any a b fa fb (by omega) _ _ _ ha hb0).mono ?_; rintro e w4 ⟨v1, rfl, r1, b⟩
        have ha := runsIn_kept ha b
        have hb0 := runsIn_kept hb0 b
        have hc := runsIn_kept hc b
        have h1 := runsAt_in r1
        have hb := bnext hb b
        clear b r1
        go_wp2_with fail
        refine (meet_any b a fb fa (by omega) _ _ _ hb0 ha).mono ?_; rintro e w5 ⟨v2, rfl, r2, b⟩
        have ha := runsIn_kept ha b
        have hb0 := runsIn_kept hb0 b
        have hc := runsIn_kept hc b
        have h1 := runsIn_kept h1 b
        have h2 := runsAt_in r2
        have hb := bnext hb b
        clear b r2
        go_wp2_with fail
        refine (same_eq _ _ _ _ (law2 a b) _ h1 h2).mono ?_; rintro e w6 ⟨rfl, b⟩
        have ha := runsIn_kept ha b
        have hb0 := runsIn_kept hb0 b
        have hc := runsIn_kept hc b
        have hb := bnext hb b
        clear b h1 h2
        go_wp2_with fail
        refine (union_any b c fb fc (by omega) _ _ _ hb0 hc).mono ?_; rintro e w7 ⟨v1, rfl, r1, b⟩
        have ha := runsIn_kept ha b
        have hb0 := runsIn_kept hb0 b
        have hc := runsIn_kept hc b
        have h1 := runsAt_in r1
        have hb := bnext hb b
        clear b r1
        go_wp2_with fail
        refine (union_any a (unionR b c) fa (fit_union _ _) (by omega) _ _ _ ha h1).mono ?_; rintro e w8 ⟨v2, rfl, r2, b⟩
        have ha := runsIn_kept ha b
        have hb0 := runsIn_kept hb0 b
        have hc := runsIn_kept hc b
        have h2 := runsAt_in r2
        have hb := bnext hb b
        clear b r2 h1
        go_wp2_with fail
        refine (union_any a b fa fb (by omega) _ _ _ ha hb0).mono ?_; rintro e w9 ⟨v3, rfl, r3, b⟩
        have ha := runsIn_kept ha b
        have hb0 := runsIn_kept hb0 b
        have hc := runsIn_kept hc b
        have h2 := runsIn_kept h2 b
        have h3 := runsAt_in r3
        have hb := bnext hb b
        clear b r3
        go_wp2_with fail
        refine (union_any (unionR a b) c (fit_union _ _) fc (by omega) _ _ _ h3 hc).mono ?_; rintro e w10 ⟨v4, rfl, r4, b⟩
        have ha := runsIn_kept ha b
        have hb0 := runsIn_kept hb0 b
        have hc := runsIn_kept hc b
        have h2 := runsIn_kept h2 b
        have h4 := runsAt_in r4
        have hb := bnext hb b
        clear b r4 h3
        go_wp2_with fail
        refine (same_eq _ _ _ _ (law3 a b c) _ h2 h4).mono ?_; rintro e w11 ⟨rfl, b⟩
        have ha := runsIn_kept ha b
        have hb0 := runsIn_kept hb0 b
        have hc := runsIn_kept hc b
        have hb := bnext hb b
        clear b h2 h4
        go_wp2_with fail
        refine (union_any b c fb fc (by omega) _ _ _ hb0 hc).mono ?_; rintro e w12 ⟨v1, rfl, r1, b⟩
        have ha := runsIn_kept ha b
        have hb0 := runsIn_kept hb0 b
        have hc := runsIn_kept hc b
        have h1 := runsAt_in r1
        have hb := bnext hb b
        clear b r1
        go_wp2_with fail
        refine (meet_any a (unionR b c) fa (fit_union _ _) (by omega) _ _ _ ha h1).mono ?_; rintro e w13 ⟨v2, rfl, r2, b⟩
        have ha := runsIn_kept ha b
        have hb0 := runsIn_kept hb0 b
        have hc := runsIn_kept hc b
        have h2 := runsAt_in r2
        have hb := bnext hb b
        clear b r2 h1
        go_wp2_with fail
        refine (meet_any a b fa fb (by omega) _ _ _ ha hb0).mono ?_; rintro e w14 ⟨v3, rfl, r3, b⟩
        have ha := runsIn_kept ha b
        have hb0 := runsIn_kept hb0 b
        have hc := runsIn_kept hc b
        have h2 := runsIn_kept h2 b
        have h3 := runsAt_in r3
        have hb := bnext hb b
        clear b r3
        go_wp2_with fail
        refine (meet_any a c fa fc (by omega) _ _ _ ha hc).mono ?_; rintro e w15 ⟨v4, rfl, r4, b⟩
        have ha := runsIn_kept ha b
        have hb0 := runsIn_kept hb0 b
        have hc := runsIn_kept hc b
        have h2 := runsIn_kept h2 b
        have h3 := runsIn_kept h3 b
        have h4 := runsAt_in r4
        have hb := bnext hb b
        clear b r4
        go_wp2_with fail
        refine (union_any (meetR a b) (meetR a c) (fit_meet _ _) (fit_meet _ _) (by omega) _ _ _ h3 h4).mono ?_; rintro e w16 ⟨v5, rfl, r5, b⟩
        have ha := runsIn_kept ha b
        have hb0 := runsIn_kept hb0 b
        have hc := runsIn_kept hc b
        have h2 := runsIn_kept h2 b
        have h5 := runsAt_in r5
        have hb := bnext hb b
        clear b r5 h3 h4
        go_wp2_with fail
        refine (same_eq _ _ _ _ (law4 a b c) _ h2 h5).mono ?_; rintro e w17 ⟨rfl, b⟩
        have ha := runsIn_kept ha b
        have hb0 := runsIn_kept hb0 b
        have hc := runsIn_kept hc b
        have hb := bnext hb b
        clear b h2 h5
        go_wp2_with fail
        refine (union_any a b fa fb (by omega) _ _ _ ha hb0).mono ?_; rintro e w18 ⟨v1, rfl, r1, b⟩
        have ha := runsIn_kept ha b
        have hb0 := runsIn_kept hb0 b
        have hc := runsIn_kept hc b
        have h1 := runsAt_in r1
        have hb := bnext hb b
        clear b r1
        go_wp2_with fail
        refine (minus_any (unionR a b) c (fit_union _ _) fc (by omega) _ _ _ h1 hc).mono ?_; rintro e w19 ⟨v2, rfl, r2, b⟩
        have ha := runsIn_kept ha b
        have hb0 := runsIn_kept hb0 b
        have hc := runsIn_kept hc b
        have h2 := runsAt_in r2
        have hb := bnext hb b
        clear b r2 h1
        go_wp2_with fail
        refine (minus_any a c fa fc (by omega) _ _ _ ha hc).mono ?_; rintro e w20 ⟨v3, rfl, r3, b⟩
        have ha := runsIn_kept ha b
        have hb0 := runsIn_kept hb0 b
        have hc := runsIn_kept hc b
        have h2 := runsIn_kept h2 b
        have h3 := runsAt_in r3
        have hb := bnext hb b
        clear b r3
        go_wp2_with fail
        refine (minus_any b c fb fc (by omega) _ _ _ hb0 hc).mono ?_; rintro e w21 ⟨v4, rfl, r4, b⟩
        have ha := runsIn_kept ha b
        have hb0 := runsIn_kept hb0 b
        have hc := runsIn_kept hc b
        have h2 := runsIn_kept h2 b
        have h3 := runsIn_kept h3 b
        have h4 := runsAt_in r4
        have hb := bnext hb b
        clear b r4
        go_wp2_with fail
        refine (union_any (minusR a c) (minusR b c) (fit_minus _ _) (fit_minus _ _) (by omega) _ _ _ h3 h4).mono ?_; rintro e w22 ⟨v5, rfl, r5, b⟩
        have ha := runsIn_kept ha b
        have hb0 := runsIn_kept hb0 b
        have hc := runsIn_kept hc b
        have h2 := runsIn_kept h2 b
        have h5 := runsAt_in r5
        have hb := bnext hb b
        clear b r5 h3 h4
        go_wp2_with fail
        refine (same_eq _ _ _ _ (law5 a b c) _ h2 h5).mono ?_; rintro e w23 ⟨rfl, b⟩
        have ha := runsIn_kept ha b
        have hb0 := runsIn_kept hb0 b
        have hc := runsIn_kept hc b
        have hb := bnext hb b
        clear b h2 h5
        go_wp2_with fail
        refine (minus_any a b fa fb (by omega) _ _ _ ha hb0).mono ?_; rintro e w24 ⟨v1, rfl, r1, b⟩
        have ha := runsIn_kept ha b
        have hb0 := runsIn_kept hb0 b
        have hc := runsIn_kept hc b
        have h1 := runsAt_in r1
        have hb := bnext hb b
        clear b r1
        go_wp2_with fail
        refine (minus_any (minusR a b) c (fit_minus _ _) fc (by omega) _ _ _ h1 hc).mono ?_; rintro e w25 ⟨v2, rfl, r2, b⟩
        have ha := runsIn_kept ha b
        have hb0 := runsIn_kept hb0 b
        have hc := runsIn_kept hc b
        have h2 := runsAt_in r2
        have hb := bnext hb b
        clear b r2 h1
        go_wp2_with fail
        refine (union_any b c fb fc (by omega) _ _ _ hb0 hc).mono ?_; rintro e w26 ⟨v3, rfl, r3, b⟩
        have ha := runsIn_kept ha b
        have h2 := runsIn_kept h2 b
        have h3 := runsAt_in r3
        have hb := bnext hb b
        clear b r3 hb0 hc
        go_wp2_with fail
        refine (minus_any a (unionR b c) fa (fit_union _ _) (by omega) _ _ _ ha h3).mono ?_; rintro e w27 ⟨v4, rfl, r4, b⟩
        have h2 := runsIn_kept h2 b
        have h4 := runsAt_in r4
        have hb := bnext hb b
        clear b r4 h3 ha
        go_wp2_with fail
        refine (same_eq _ _ _ _ (law6 a b c) _ h2 h4).mono ?_; rintro e w28 ⟨rfl, b⟩
        have hb := bnext hb b
        clear b h2 h4
        go_wp2_with fail
        refine (AL.out _).mono ?_; rintro e w29 ⟨rfl, b⟩
        have hb := bnext hb b
        clear b AL
        go_wp2
        go_ret
        exact ⟨rfl, hb⟩
      · have hlc : 60 < c.length := by omega
        clear ha hb0 hc hb
        go_enter Try.func8, Try.ntmps8
        go_wp2
        go_ret
        exact ⟨rfl, Below.refl _ _⟩
    · have hlb : 60 < b.length := by omega
      clear ha hb0 hc hb
      go_enter Try.func8, Try.ntmps8
      go_wp2
      go_ret
      exact ⟨rfl, Below.refl _ _⟩
  · have hla : 60 < a.length := by omega
    clear ha hb0 hc hb
    go_enter Try.func8, Try.ntmps8
    go_wp2
    go_ret
    exact ⟨rfl, Below.refl _ _⟩
end Go.Proofs.Ytmdkekbhondkbaa
