/- The walk of NamesTwo. -/
import Derived.Test.YtgjcdjcngepleaaDoorPLaw4
namespace Go.Proofs.YtgjcdjcngepleaaDoor
set_option linter.unusedVariables false
open Go.RowKit

/-- a path that has parts -/
theorem path_of {a : ByteArray} (h : splitE a = 0) (hl : splitV a ≠ []) : JoinOk (splitV a) ∧ pathB (splitV a) = a ∧ a.size ≤ 256 := by
  obtain ⟨h1, h2⟩ := join_split h
  rw [pathOf_ne hl] at h2
  exact ⟨h1, h2, by rw [← h2]; exact h1.2.2⟩
set_option maxRecDepth 100000 in
set_option maxHeartbeats 1000000 in
theorem two_main (a b : ByteArray) (L M : List ByteArray) (PB PD PS : ByteArray) (ha : a.size ≤ 9223372036854775807) (hb : b.size ≤ 9223372036854775807) (w : World)
    (AL : Hid (∀ w, Calls Tryd.prog 14 #[] w fun e w' => e = .returned (.bool true) ∧ Below w.heap.size w w'))
    (t1 : decide ((5000 : Int) < (a.size : Int)) = false) (t2 : decide ((5000 : Int) < (b.size : Int)) = false) (t3 : ((L.length : Int) == 0) = false) (t4 : ((M.length : Int) == 0) = false)
    (t5 : decide ((256 : Int) < (a.size : Int) + (b.size : Int)) = false) (t6 : decide ((16 : Int) < (L.length : Int) + (M.length : Int)) = false) (l1 : L.length ≤ 16) (l2 : M.length ≤ 16) (z1 : a.size ≤ 256) (z2 : b.size ≤ 256)
    (e1 : ∀ w, (Op.stringOp .add a b).run Tryd.prog w = .ok (.string PB) w) (e2 : ∀ w, (Op.stringOp .add a ⟨#[47]⟩).run Tryd.prog w = .ok (.string PS) w) (e3 : ∀ w, (Op.stringOp .add PS b).run Tryd.prog w = .ok (.string PD) w)
    (S1 : Hid (∀ w, Calls Tryd.prog 9 #[.string a] w fun e w' => ∃ v, e = .returned (.tuple #[v, .int .i64 0]) ∧ StrsAt w.heap.size v L w' ∧ Below w.heap.size w w'))
    (S2 : Hid (∀ w, Calls Tryd.prog 9 #[.string b] w fun e w' => ∃ v, e = .returned (.tuple #[v, .int .i64 0]) ∧ StrsAt w.heap.size v M w' ∧ Below w.heap.size w w'))
    (S3 : Hid (∀ w, Calls Tryd.prog 9 #[.string PB] w fun e w' => ∃ v, e = .returned (.tuple #[v, .int .i64 0]) ∧ StrsAt w.heap.size v (L ++ M) w' ∧ Below w.heap.size w w'))
    (SM : Hid (∀ v u w, StrsIn v (L ++ M) w → StrsIn u (L ++ M) w → Calls Tryd.prog 13 #[v, u] w fun e w' => e = .returned (.bool true) ∧ Below w.heap.size w w'))
    (S4 : Hid (∀ w, Calls Tryd.prog 9 #[.string PD] w fun e w' => ∃ v, e = .returned (.tuple #[v, .int .i64 130]) ∧ StrsAt w.heap.size v [] w' ∧ Below w.heap.size w w')) :
    Calls Tryd.prog 7 #[.string a, .string b] w fun e w' => e = .returned (.bool true) ∧ Below w.heap.size w w' := by
  go_enter Tryd.func7, Tryd.ntmps7
  go_wp2_with fail
  refine (S1.out _).mono ?_; rintro e w1 ⟨v1, rfl, hv1, b1⟩
  obtain ⟨ad1, cap1, ev1, -⟩ := shape_of hv1
  subst ev1
  go_wp2_with fail
  refine (S2.out _).mono ?_; rintro e w2 ⟨v2, rfl, hv2, b2⟩
  obtain ⟨ad2, cap2, ev2, -⟩ := shape_of hv2
  subst ev2
  have hv1 := row_kept hv1 b2
  have hbz := bnext b1 b2
  clear b1 b2 S1 S2
  go_wp2_with fail
  refine (S3.out _).mono ?_; rintro e w3 ⟨v3, rfl, hv3, b3⟩
  obtain ⟨ad3, cap3, ev3, -⟩ := shape_of hv3
  try rw [List.length_append] at ev3
  subst ev3
  have hv1 := row_kept hv1 b3
  have hv2 := row_kept hv2 b3
  have hb3 := bnext hbz b3
  clear b3 hbz S3
  go_wp2_with fail
  refine (S4.out _).mono ?_; rintro e w4 ⟨v4, rfl, hv4, b4⟩
  obtain ⟨ad4, cap4, ev4, -⟩ := shape_of hv4
  subst ev4
  have hv1 := row_kept hv1 b4
  have hv2 := row_kept hv2 b4
  have hv3 := row_kept hv3 b4
  have hbz := bnext hb3 b4
  clear b4 hb3 hv4 S4
  have g1 := Lib.hid (strsAt_in hv1)
  have g2 := Lib.hid (strsAt_in hv2)
  have g3 := Lib.hid (strsAt_in hv3)
  clear hv1 hv2 hv3
  go_wp2_with (at_builtin; refine wpList_appTMg ?hgd (.tmp 93) (.tmp 94) ?ho w4.heap.size (.slice (some ⟨w4.heap.size, 0, none⟩) 0 0) [] ?hs ?hown (.slice ad1 L.length cap1) L ?hx ?hu ?hl ?hbb ?hh)
  case ho => rfl
  case hs => rfl
  case hx => rfl
  case hown => exact strsAt_new w4 [] (by simp)
  case hu => exact g1.out.kept (balloc1 w4 _)
  case hl => (simp; omega)
  case hbb => (rw [size_alloc]; omega)
  intro v5 w5 hv5 b5
  have hv5 : StrsAt w4.heap.size v5 L w5 := hv5
  obtain ⟨ad5, cap5, ev5, -⟩ := shape_of hv5
  subst ev5
  have c5 := (balloc1 w4 (.cells #[] 9)).trans b5
  have hz5 := c5.size
  clear b5
  go_wp2_with (at_builtin; refine wpList_appTMg ?hgd2 (.tmp 95) (.tmp 96) ?ho2 w4.heap.size (.slice ad5 L.length cap5) L ?hs2 ?hown2 (.slice ad2 M.length cap2) M ?hx2 ?hu2 ?hl2 ?hbb2 ?hh2)
  case ho2 => rfl
  case hs2 => rfl
  case hx2 => rfl
  case hown2 => exact hv5
  case hu2 => exact g2.out.kept c5
  case hl2 => omega
  case hbb2 => exact hz5
  intro v6 w6 hv6 b6
  obtain ⟨ad6, cap6, ev6, -⟩ := shape_of hv6
  rw [List.length_append] at ev6
  subst ev6
  have c6 := c5.trans b6
  have g6 := Lib.hid (g3.out.kept c6)
  have hb6 := bnext hbz c6
  clear b6 c5 c6 hbz hv5 g1 g2 g3
  go_wp2_with fail
  refine (SM.out _ _ _ g6.out (strsAt_in hv6)).mono ?_; rintro e w7 ⟨rfl, b7⟩
  have hbz := bnext hb6 b7
  clear b7 hb6 hv6 g6 SM
  go_wp2_with fail
  refine (AL.out _).mono ?_; rintro e w9 ⟨rfl, b9⟩
  go_wp2
  go_ret
  exact ⟨rfl, bnext hbz b9⟩
set_option maxRecDepth 100000 in
set_option maxHeartbeats 1000000 in
theorem two_main3 (a b : ByteArray) (L M : List ByteArray) (PB PD PS : ByteArray) (ha : a.size ≤ 9223372036854775807) (hb : b.size ≤ 9223372036854775807) (w : World)
    (AL : Hid (∀ w, Calls Tryd.prog 14 #[] w fun e w' => e = .returned (.bool true) ∧ Below w.heap.size w w'))
    (t1 : decide ((5000 : Int) < (a.size : Int)) = false) (t2 : decide ((5000 : Int) < (b.size : Int)) = false) (t3 : ((L.length : Int) == 0) = false) (t4 : ((M.length : Int) == 0) = false)
    (t5 : decide ((256 : Int) < (a.size : Int) + (b.size : Int)) = false) (t6 : decide ((16 : Int) < (L.length : Int) + (M.length : Int)) = false) (l1 : L.length ≤ 16) (l2 : M.length ≤ 16) (z1 : a.size ≤ 256) (z2 : b.size ≤ 256)
    (e1 : ∀ w, (Op.stringOp .add a b).run Tryd.prog w = .ok (.string PB) w) (e2 : ∀ w, (Op.stringOp .add a ⟨#[47]⟩).run Tryd.prog w = .ok (.string PS) w) (e3 : ∀ w, (Op.stringOp .add PS b).run Tryd.prog w = .ok (.string PD) w)
    (S1 : Hid (∀ w, Calls Tryd.prog 9 #[.string a] w fun e w' => ∃ v, e = .returned (.tuple #[v, .int .i64 0]) ∧ StrsAt w.heap.size v L w' ∧ Below w.heap.size w w'))
    (S2 : Hid (∀ w, Calls Tryd.prog 9 #[.string b] w fun e w' => ∃ v, e = .returned (.tuple #[v, .int .i64 0]) ∧ StrsAt w.heap.size v M w' ∧ Below w.heap.size w w'))
    (S3 : Hid (∀ w, Calls Tryd.prog 9 #[.string PB] w fun e w' => ∃ v, e = .returned (.tuple #[v, .int .i64 0]) ∧ StrsAt w.heap.size v (L ++ M) w' ∧ Below w.heap.size w w'))
    (SM : Hid (∀ v u w, StrsIn v (L ++ M) w → StrsIn u (L ++ M) w → Calls Tryd.prog 13 #[v, u] w fun e w' => e = .returned (.bool true) ∧ Below w.heap.size w w'))
    (S4 : Hid (∀ w, Calls Tryd.prog 9 #[.string PD] w fun e w' => ∃ v, e = .returned (.tuple #[v, .int .i64 3]) ∧ StrsAt w.heap.size v [] w' ∧ Below w.heap.size w w')) (t7 : (((a.size : Int) + (b.size : Int) == 256) = true)) :
    Calls Tryd.prog 7 #[.string a, .string b] w fun e w' => e = .returned (.bool true) ∧ Below w.heap.size w w' := by
  go_enter Tryd.func7, Tryd.ntmps7
  go_wp2_with fail
  refine (S1.out _).mono ?_; rintro e w1 ⟨v1, rfl, hv1, b1⟩
  obtain ⟨ad1, cap1, ev1, -⟩ := shape_of hv1
  subst ev1
  go_wp2_with fail
  refine (S2.out _).mono ?_; rintro e w2 ⟨v2, rfl, hv2, b2⟩
  obtain ⟨ad2, cap2, ev2, -⟩ := shape_of hv2
  subst ev2
  have hv1 := row_kept hv1 b2
  have hbz := bnext b1 b2
  clear b1 b2 S1 S2
  go_wp2_with fail
  refine (S3.out _).mono ?_; rintro e w3 ⟨v3, rfl, hv3, b3⟩
  obtain ⟨ad3, cap3, ev3, -⟩ := shape_of hv3
  try rw [List.length_append] at ev3
  subst ev3
  have hv1 := row_kept hv1 b3
  have hv2 := row_kept hv2 b3
  have hb3 := bnext hbz b3
  clear b3 hbz S3
  go_wp2_with fail
  refine (S4.out _).mono ?_; rintro e w4 ⟨v4, rfl, hv4, b4⟩
  obtain ⟨ad4, cap4, ev4, -⟩ := shape_of hv4
  subst ev4
  have hv1 := row_kept hv1 b4
  have hv2 := row_kept hv2 b4
  have hv3 := row_kept hv3 b4
  have hbz := bnext hb3 b4
  clear b4 hb3 hv4 S4
  have g1 := Lib.hid (strsAt_in hv1)
  have g2 := Lib.hid (strsAt_in hv2)
  have g3 := Lib.hid (strsAt_in hv3)
  clear hv1 hv2 hv3
  go_wp2_with (at_builtin; refine wpList_appTMg ?hgd (.tmp 93) (.tmp 94) ?ho w4.heap.size (.slice (some ⟨w4.heap.size, 0, none⟩) 0 0) [] ?hs ?hown (.slice ad1 L.length cap1) L ?hx ?hu ?hl ?hbb ?hh)
  case ho => rfl
  case hs => rfl
  case hx => rfl
  case hown => exact strsAt_new w4 [] (by simp)
  case hu => exact g1.out.kept (balloc1 w4 _)
  case hl => (simp; omega)
  case hbb => (rw [size_alloc]; omega)
  intro v5 w5 hv5 b5
  have hv5 : StrsAt w4.heap.size v5 L w5 := hv5
  obtain ⟨ad5, cap5, ev5, -⟩ := shape_of hv5
  subst ev5
  have c5 := (balloc1 w4 (.cells #[] 9)).trans b5
  have hz5 := c5.size
  clear b5
  go_wp2_with (at_builtin; refine wpList_appTMg ?hgd2 (.tmp 95) (.tmp 96) ?ho2 w4.heap.size (.slice ad5 L.length cap5) L ?hs2 ?hown2 (.slice ad2 M.length cap2) M ?hx2 ?hu2 ?hl2 ?hbb2 ?hh2)
  case ho2 => rfl
  case hs2 => rfl
  case hx2 => rfl
  case hown2 => exact hv5
  case hu2 => exact g2.out.kept c5
  case hl2 => omega
  case hbb2 => exact hz5
  intro v6 w6 hv6 b6
  obtain ⟨ad6, cap6, ev6, -⟩ := shape_of hv6
  rw [List.length_append] at ev6
  subst ev6
  have c6 := c5.trans b6
  have g6 := Lib.hid (g3.out.kept c6)
  have hb6 := bnext hbz c6
  clear b6 c5 c6 hbz hv5 g1 g2 g3
  go_wp2_with fail
  refine (SM.out _ _ _ g6.out (strsAt_in hv6)).mono ?_; rintro e w7 ⟨rfl, b7⟩
  have hbz := bnext hb6 b7
  clear b7 hb6 hv6 g6 SM
  go_wp2_with fail
  refine (AL.out _).mono ?_; rintro e w9 ⟨rfl, b9⟩
  go_wp2
  go_ret
  exact ⟨rfl, bnext hbz b9⟩
set_option maxRecDepth 100000 in
set_option maxHeartbeats 8000000 in
theorem ptwo_walk (a b : ByteArray) (ha : a.size ≤ maxLen) (hb : b.size ≤ maxLen) (w : World) :
    Calls Tryd.prog 7 #[.string a, .string b] w fun e w' => e = .returned (.bool true) ∧ Below w.heap.size w w' := by
  have ha : a.size ≤ 9223372036854775807 := ha
  have hb : b.size ≤ 9223372036854775807 := hb
  have AL := Lib.hid palive_any
  by_cases big1 : 5000 < a.size
  · have t1 : decide ((5000 : Int) < (a.size : Int)) = true := decide_eq_true (by omega)
    clear big1
    go_enter Tryd.func7, Tryd.ntmps7
    go_wp2
    go_ret
    exact ⟨rfl, Below.refl _ _⟩
  have t1 : decide ((5000 : Int) < (a.size : Int)) = false := decide_eq_false (by omega)
  by_cases big2 : 5000 < b.size
  · have t2 : decide ((5000 : Int) < (b.size : Int)) = true := decide_eq_true (by omega)
    clear big1 big2
    go_enter Tryd.func7, Tryd.ntmps7
    go_wp2
    go_ret
    exact ⟨rfl, Below.refl _ _⟩
  have t2 : decide ((5000 : Int) < (b.size : Int)) = false := decide_eq_false (by omega)
  have S1 := split_any a ha
  have S2 := split_any b hb
  by_cases hE : splitE a = 0
  · by_cases hF : splitE b = 0
    · rw [hE] at S1
      rw [hF] at S2
      have S1 := Lib.hid S1
      have S2 := Lib.hid S2
      by_cases hL : splitV a = []
      · have t3 : (((splitV a).length : Int) == 0) = true := by rw [hL]; rfl
        generalize splitV a = L at *
        generalize splitV b = M at *
        clear hL hE hF big1 big2
        go_enter Tryd.func7, Tryd.ntmps7
        go_wp2_with fail
        refine (S1.out _).mono ?_; rintro e w1 ⟨v1, rfl, hv1, b1⟩
        obtain ⟨ad1, cap1, ev1, -⟩ := shape_of hv1
        subst ev1
        go_wp2_with fail
        refine (S2.out _).mono ?_; rintro e w2 ⟨v2, rfl, hv2, b2⟩
        obtain ⟨ad2, cap2, ev2, -⟩ := shape_of hv2
        subst ev2
        have hv1 := row_kept hv1 b2
        have hbz := bnext b1 b2
        clear b1 b2 S1 S2
        go_wp2_with fail
        refine (AL.out _).mono ?_; rintro e w9 ⟨rfl, b9⟩
        go_wp2
        go_ret
        exact ⟨rfl, bnext hbz b9⟩
      · have t3 : (((splitV a).length : Int) == 0) = false := by
          rw [beq_eq_false_iff_ne]; have := List.length_pos_iff.2 hL; omega
        by_cases hM : splitV b = []
        · have t4 : (((splitV b).length : Int) == 0) = true := by rw [hM]; rfl
          generalize splitV a = L at *
          generalize splitV b = M at *
          clear hL hM hE hF big1 big2
          go_enter Tryd.func7, Tryd.ntmps7
          go_wp2_with fail
          refine (S1.out _).mono ?_; rintro e w1 ⟨v1, rfl, hv1, b1⟩
          obtain ⟨ad1, cap1, ev1, -⟩ := shape_of hv1
          subst ev1
          go_wp2_with fail
          refine (S2.out _).mono ?_; rintro e w2 ⟨v2, rfl, hv2, b2⟩
          obtain ⟨ad2, cap2, ev2, -⟩ := shape_of hv2
          subst ev2
          have hv1 := row_kept hv1 b2
          have hbz := bnext b1 b2
          clear b1 b2 S1 S2
          go_wp2_with fail
          refine (AL.out _).mono ?_; rintro e w9 ⟨rfl, b9⟩
          go_wp2
          go_ret
          exact ⟨rfl, bnext hbz b9⟩
        · have t4 : (((splitV b).length : Int) == 0) = false := by
            rw [beq_eq_false_iff_ne]; have := List.length_pos_iff.2 hM; omega
          obtain ⟨j1, p1, z1⟩ := path_of hE hL
          obtain ⟨j2, p2, z2⟩ := path_of hF hM
          have hlm : splitV a ++ splitV b ≠ [] := by simp [hL]
          have hcc : Comps (splitV a ++ splitV b) := (comps_append _ _).2 ⟨j1.1, j2.1⟩
          have hab : a ++ b = pathB (splitV a ++ splitV b) := by rw [pathB_append, p1, p2]
          have hsz : (pathB (splitV a ++ splitV b)).size = a.size + b.size := by rw [← hab, ByteArray.size_append]
          have hE3 := splitE_path hcc hlm
          rw [hsz, ← hab, List.length_append] at hE3
          have hE4 := splitE_double j1.1 j2.1 hL hM
          rw [p1, p2] at hE4
          have e1 : ∀ w, (Op.stringOp .add a b).run Tryd.prog w = .ok (.string (a ++ b)) w := fun w => run_string_add_sum _ _ _ (by omega)
          have e2 : ∀ w, (Op.stringOp .add a ⟨#[47]⟩).run Tryd.prog w = .ok (.string (a ++ slashB)) w := fun w => run_string_add_sum _ _ _ (by show a.size + 1 ≤ _; omega)
          have e3 : ∀ w, (Op.stringOp .add (a ++ slashB) b).run Tryd.prog w = .ok (.string (a ++ (slashB ++ b))) w := fun w => by
            rw [← ByteArray.append_assoc]; exact run_string_add_sum _ _ _ (by rw [ByteArray.size_append]; show a.size + 1 + _ ≤ _; omega)
          have S3 := split_any (a ++ b) (by rw [ByteArray.size_append]; omega)
          have S4 := split_any (a ++ (slashB ++ b)) (by rw [ByteArray.size_append, slash_size]; omega)
          rw [hE3] at S3
          rw [hE4, split_none (by rw [hE4]; split <;> decide)] at S4
          have l1 := j1.2.1
          have l2 := j2.2.1
          have HL := Lib.hid hL
          by_cases c1 : 256 < a.size + b.size
          · rw [if_pos c1, split_none (by rw [hE3, if_pos c1]; decide)] at S3
            rw [if_pos (by omega)] at S4
            have t5 : decide ((256 : Int) < (a.size : Int) + (b.size : Int)) = true := decide_eq_true (by omega)
            have S3 := Lib.hid S3
            have S4 := Lib.hid S4
            generalize splitV a = L at *
            generalize splitV b = M at *
            generalize a ++ (slashB ++ b) = PD at *
            generalize a ++ b = PB at *
            generalize a ++ slashB = PS at *
            clear hL hM hE hF big1 big2 j1 j2 p1 p2 hcc hlm hab hsz hE3 hE4 l1 l2 HL
            go_enter Tryd.func7, Tryd.ntmps7
            go_wp2_with fail
            refine (S1.out _).mono ?_; rintro e w1 ⟨v1, rfl, hv1, b1⟩
            obtain ⟨ad1, cap1, ev1, -⟩ := shape_of hv1
            subst ev1
            go_wp2_with fail
            refine (S2.out _).mono ?_; rintro e w2 ⟨v2, rfl, hv2, b2⟩
            obtain ⟨ad2, cap2, ev2, -⟩ := shape_of hv2
            subst ev2
            have hv1 := row_kept hv1 b2
            have hbz := bnext b1 b2
            clear b1 b2 S1 S2
            go_wp2_with fail
            refine (S3.out _).mono ?_; rintro e w3 ⟨v3, rfl, hv3, b3⟩
            obtain ⟨ad3, cap3, ev3, -⟩ := shape_of hv3
            try rw [List.length_append] at ev3
            subst ev3
            have hv1 := row_kept hv1 b3
            have hv2 := row_kept hv2 b3
            have hb3 := bnext hbz b3
            clear b3 hbz S3
            go_wp2_with fail
            refine (S4.out _).mono ?_; rintro e w4 ⟨v4, rfl, hv4, b4⟩
            obtain ⟨ad4, cap4, ev4, -⟩ := shape_of hv4
            subst ev4
            have hv1 := row_kept hv1 b4
            have hv2 := row_kept hv2 b4
            have hv3 := row_kept hv3 b4
            have hbz := bnext hb3 b4
            clear b4 hb3 hv4 S4
            go_wp2_with fail
            refine (AL.out _).mono ?_; rintro e w9 ⟨rfl, b9⟩
            go_wp2
            go_ret
            exact ⟨rfl, bnext hbz b9⟩
          · have t5 : decide ((256 : Int) < (a.size : Int) + (b.size : Int)) = false := decide_eq_false (by omega)
            rw [if_neg c1] at S3 hE3
            by_cases c2 : 16 < (splitV a).length + (splitV b).length
            · have t6 : decide ((16 : Int) < ((splitV a).length : Int) + ((splitV b).length : Int)) = true := decide_eq_true (by omega)
              rw [if_pos c2, split_none (by rw [hE3, if_pos c2]; decide)] at S3
              have S3 := Lib.hid S3
              generalize (if 256 < a.size + 1 + b.size then (3 : Int) else 130) = E4 at *
              have S4 := Lib.hid S4
              generalize splitV a = L at *
              generalize splitV b = M at *
              generalize a ++ (slashB ++ b) = PD at *
              generalize a ++ b = PB at *
              generalize a ++ slashB = PS at *
              clear hL hM hE hF big1 big2 j1 j2 p1 p2 hcc hlm hab hsz hE3 hE4 HL
              go_enter Tryd.func7, Tryd.ntmps7
              go_wp2_with fail
              refine (S1.out _).mono ?_; rintro e w1 ⟨v1, rfl, hv1, b1⟩
              obtain ⟨ad1, cap1, ev1, -⟩ := shape_of hv1
              subst ev1
              go_wp2_with fail
              refine (S2.out _).mono ?_; rintro e w2 ⟨v2, rfl, hv2, b2⟩
              obtain ⟨ad2, cap2, ev2, -⟩ := shape_of hv2
              subst ev2
              have hv1 := row_kept hv1 b2
              have hbz := bnext b1 b2
              clear b1 b2 S1 S2
              go_wp2_with fail
              refine (S3.out _).mono ?_; rintro e w3 ⟨v3, rfl, hv3, b3⟩
              obtain ⟨ad3, cap3, ev3, -⟩ := shape_of hv3
              try rw [List.length_append] at ev3
              subst ev3
              have hv1 := row_kept hv1 b3
              have hv2 := row_kept hv2 b3
              have hb3 := bnext hbz b3
              clear b3 hbz S3
              go_wp2_with fail
              refine (S4.out _).mono ?_; rintro e w4 ⟨v4, rfl, hv4, b4⟩
              obtain ⟨ad4, cap4, ev4, -⟩ := shape_of hv4
              subst ev4
              have hv1 := row_kept hv1 b4
              have hv2 := row_kept hv2 b4
              have hv3 := row_kept hv3 b4
              have hbz := bnext hb3 b4
              clear b4 hb3 hv4 S4
              go_wp2_with fail
              refine (AL.out _).mono ?_; rintro e w9 ⟨rfl, b9⟩
              go_wp2
              go_ret
              exact ⟨rfl, bnext hbz b9⟩
            · have t6 : decide ((16 : Int) < ((splitV a).length : Int) + ((splitV b).length : Int)) = false := decide_eq_false (by omega)
              have hfull : JoinOk (splitV a ++ splitV b) := two_path j1 j2 (by rw [p1, p2]; omega) (by omega)
              have hv3 : splitV (a ++ b) = splitV a ++ splitV b := by
                have := (split_path hfull).2
                rwa [pathOf_ne hlm, ← hab] at this
              rw [if_neg c2, hv3] at S3
              have SM : Hid (∀ v u w, StrsIn v (splitV a ++ splitV b) w → StrsIn u (splitV a ++ splitV b) w → Calls Tryd.prog 13 #[v, u] w fun e w' => e = .returned (.bool true) ∧ Below w.heap.size w w') := Lib.hid fun v u w h1 h2 => by
                have := tsame_any _ _ v u w h1 h2
                rwa [decide_eq_true rfl] at this
              have S3 := Lib.hid S3
              have S4' : Hid (∀ w, Calls Tryd.prog 9 #[.string (a ++ (slashB ++ b))] w fun e w' => ∃ v, e = .returned (.tuple #[v, .int .i64 130]) ∧ StrsAt w.heap.size v [] w' ∧ Below w.heap.size w w') ∨ (Hid (∀ w, Calls Tryd.prog 9 #[.string (a ++ (slashB ++ b))] w fun e w' => ∃ v, e = .returned (.tuple #[v, .int .i64 3]) ∧ StrsAt w.heap.size v [] w' ∧ Below w.heap.size w w') ∧ (((a.size : Int) + (b.size : Int) == 256) = true)) := by
                by_cases c3 : 256 < a.size + 1 + b.size
                · refine .inr ⟨Lib.hid (by rwa [if_pos c3] at S4), ?_⟩
                  rw [beq_iff_eq]; omega
                · exact .inl (Lib.hid (by rwa [if_neg c3] at S4))
              generalize splitV a = L at *
              generalize splitV b = M at *
              generalize a ++ (slashB ++ b) = PD at *
              generalize a ++ b = PB at *
              generalize a ++ slashB = PS at *
              clear hL hM hE hF big1 big2 j1 j2 p1 p2 hcc hlm hab hsz hE3 hE4 HL S4 hfull hv3
              rcases S4' with S4 | ⟨S4, t7⟩
              · exact two_main a b L M PB PD PS ha hb w AL t1 t2 t3 t4 t5 t6 l1 l2 z1 z2 e1 e2 e3 S1 S2 S3 SM S4
              · exact two_main3 a b L M PB PD PS ha hb w AL t1 t2 t3 t4 t5 t6 l1 l2 z1 z2 e1 e2 e3 S1 S2 S3 SM S4 t7
    · have t3 : (splitE b != 0) = true := by rw [bne_iff_ne]; exact hF
      rw [hE] at S1
      have S1 := Lib.hid S1
      have S2 := Lib.hid S2
      generalize splitE b = F at *
      generalize splitV a = L at *
      generalize splitV b = M at *
      clear hE hF big1 big2
      go_enter Tryd.func7, Tryd.ntmps7
      go_wp2_with fail
      refine (S1.out _).mono ?_; rintro e w1 ⟨v1, rfl, hv1, b1⟩
      obtain ⟨ad1, cap1, ev1, -⟩ := shape_of hv1
      subst ev1
      go_wp2_with fail
      refine (S2.out _).mono ?_; rintro e w2 ⟨v2, rfl, hv2, b2⟩
      obtain ⟨ad2, cap2, ev2, -⟩ := shape_of hv2
      subst ev2
      have hv1 := row_kept hv1 b2
      have hbz := bnext b1 b2
      clear b1 b2 S1 S2
      go_wp2_with fail
      refine (AL.out _).mono ?_; rintro e w9 ⟨rfl, b9⟩
      go_wp2
      go_ret
      exact ⟨rfl, bnext hbz b9⟩
  · have t3 : (splitE a != 0) = true := by rw [bne_iff_ne]; exact hE
    have S1 := Lib.hid S1
    have S2 := Lib.hid S2
    generalize splitE a = E at *
    generalize splitE b = F at *
    generalize splitV a = L at *
    generalize splitV b = M at *
    clear hE big1 big2
    go_enter Tryd.func7, Tryd.ntmps7
    go_wp2_with fail
    refine (S1.out _).mono ?_; rintro e w1 ⟨v1, rfl, hv1, b1⟩
    obtain ⟨ad1, cap1, ev1, -⟩ := shape_of hv1
    subst ev1
    go_wp2_with fail
    refine (S2.out _).mono ?_; rintro e w2 ⟨v2, rfl, hv2, b2⟩
    obtain ⟨ad2, cap2, ev2, -⟩ := shape_of hv2
    subst ev2
    have hv1 := row_kept hv1 b2
    have hbz := bnext b1 b2
    clear b1 b2 S1 S2
    go_wp2_with fail
    refine (AL.out _).mono ?_; rintro e w9 ⟨rfl, b9⟩
    go_wp2
    go_ret
    exact ⟨rfl, bnext hbz b9⟩
end Go.Proofs.YtgjcdjcngepleaaDoor
