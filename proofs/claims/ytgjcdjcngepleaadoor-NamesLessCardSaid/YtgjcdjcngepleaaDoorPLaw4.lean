/- The walk of NamesOne. -/
import Derived.Test.YtgjcdjcngepleaaDoorPAlive
namespace Go.Proofs.YtgjcdjcngepleaaDoor
set_option linter.unusedVariables false
open Go.RowKit

theorem slash_size (s : ByteArray) : (slashB ++ s).size = s.size + 1 := by rw [ByteArray.size_append]; show 1 + s.size = _; omega
theorem slash_inj {a b : ByteArray} (h : slashB ++ a = slashB ++ b) : a = b := by
  have h2 := congrArg (fun x : ByteArray => x.data.toList) h
  simp only [ByteArray.data_append, Array.toList_append] at h2
  have h3 := List.append_cancel_left h2
  rw [← bs_of a, ← bs_of b, h3]
/-- one part -/
theorem one_ok {s : ByteArray} (h : NameOk s) : JoinOk [s] ∧ pathOf [s] = slashB ++ s := by
  have h2 := h.1.2
  refine ⟨⟨fun x hx => by simp at hx; exact hx ▸ h, by simp, ?_⟩, ?_⟩
  · rw [pathB_one, slash_size]; omega
  · rw [pathOf_ne (by simp), pathB_one]
/-- what is no part is not the one part of its path -/
theorem one_bad {s : ByteArray} (h : ¬ NameOk s) : splitE (slashB ++ s) ≠ 0 ∨ (splitV (slashB ++ s)).length ≠ 1 := by
  by_cases hE : splitE (slashB ++ s) = 0
  · refine .inr fun hl => h ?_
    obtain ⟨h1, h2⟩ := join_split hE
    obtain ⟨x, hx⟩ := List.length_eq_one_iff.1 hl
    rw [hx] at h1 h2
    have hx2 := h1.1 x (by simp)
    rw [pathOf_ne (by simp), pathB_one] at h2
    exact slash_inj h2 ▸ hx2
  · exact .inl hE
set_option maxRecDepth 100000 in
set_option maxHeartbeats 4000000 in
theorem pone_walk (s : ByteArray) (hs : s.size ≤ maxLen) (w : World) :
    Calls Tryd.prog 8 #[.string s] w fun e w' => e = .returned (.bool true) ∧ Below w.heap.size w w' := by
  have hs : s.size ≤ 9223372036854775807 := hs
  by_cases hbig : 2000 < s.size
  · have t1 : decide ((2000 : Int) < (s.size : Int)) = true := decide_eq_true (by omega)
    clear hbig
    go_enter Tryd.func8, Tryd.ntmps8
    go_wp2
    go_ret
    exact ⟨rfl, Below.refl _ _⟩
  · have t1 : decide ((2000 : Int) < (s.size : Int)) = false := decide_eq_false (by omega)
    have hz := slash_size s
    have S1 := split_any (slashB ++ s) (by omega)
    have J1 := join_any [s] (fun d hd => by simp at hd; subst hd; exact hs)
    have C1 := check_any s hs
    have AL := Lib.hid palive_any
    have e1 : ∀ w, (Op.stringOp .add ⟨#[47]⟩ s).run Tryd.prog w = .ok (.string (slashB ++ s)) w := fun w => run_string_add_sum _ _ _ (by show 1 + s.size ≤ _; omega)
    have HL := Lib.hid fun W => lit_inT W [s] #[.string s] (by simp) rfl
    by_cases hok : NameOk s
    · obtain ⟨k1, k2⟩ := one_ok hok
      have jE := (joinE_zero _).2 k1
      have jS : joinS [s] = slashB ++ s := by unfold joinS; rw [if_pos jE, k2]
      obtain ⟨p1, p2⟩ := split_path k1
      rw [k2] at p1 p2
      rw [p1, p2] at S1
      rw [jE, jS] at J1
      have h32 := hok.1
      have SM : Hid (∀ v u w, StrsIn v [s] w → StrsIn u [s] w → Calls Tryd.prog 13 #[v, u] w fun e w' => e = .returned (.bool true) ∧ Below w.heap.size w w') := Lib.hid fun v u w h1 h2 => by
        have := tsame_any [s] [s] v u w h1 h2
        rwa [decide_eq_true rfl] at this
      have S1 := Lib.hid S1
      have J1 := Lib.hid J1
      have hpp : ((slashB ++ s).toList == (slashB ++ s).toList) = true := by simp
      have q1 := dot_eq s
      have q2 := dots_eq s
      rw [t_dot] at q1
      rw [t_dots] at q2
      have C2 : (Hid (∀ w, Calls Tryd.prog 11 #[.string s] w fun e w' => e = .returned (.int .i64 0) ∧ Below w.heap.size w w')) ∨ ((Hid (∀ w, Calls Tryd.prog 11 #[.string s] w fun e w' => e = .returned (.int .i64 130) ∧ Below w.heap.size w w')) ∧ ((s.toList == [46]) = true ∨ ((s.toList == [46]) = false ∧ (s.toList == [46, 46]) = true))) := by
        by_cases d1 : s = dotB
        · refine .inr ⟨Lib.hid fun w => ?_, .inl (by rw [q1]; exact decide_eq_true d1)⟩
          have := C1 w
          rwa [show nameE s = 130 by unfold nameE; rw [if_neg (fun k => k.2.1 d1)]] at this
        · by_cases d2 : s = dotsB
          · refine .inr ⟨Lib.hid fun w => ?_, .inr ⟨by rw [q1]; exact decide_eq_false d1, by rw [q2]; exact decide_eq_true d2⟩⟩
            have := C1 w
            rwa [show nameE s = 130 by unfold nameE; rw [if_neg (fun k => k.2.2 d2)]] at this
          · refine .inl (Lib.hid fun w => ?_)
            have := C1 w
            rwa [show nameE s = 0 by unfold nameE; rw [if_pos ⟨hok, d1, d2⟩]] at this
      obtain ⟨h1, h32⟩ := h32
      have t3 : decide ((0 : Int) < (s.size : Int)) = true := decide_eq_true (by omega)
      have t4 : decide ((s.size : Int) ≤ (32 : Int)) = true := decide_eq_true (by omega)
      clear C1 q1 q2 k1 k2 jE jS p1 p2 hok hz hbig
      generalize slashB ++ s = PP at *
      rcases C2 with C2 | ⟨C2, hd⟩
      · go_enter Tryd.func8, Tryd.ntmps8
        go_wp2_with fail
        refine (S1.out _).mono ?_; rintro e w1 ⟨v1, rfl, hv1, b1⟩
        obtain ⟨ad1, cap1, ev1, -⟩ := shape_of hv1
        subst ev1
        go_wp2_with fail
        refine (J1.out _ _ (HL.out w1)).mono ?_; rintro e w2 ⟨rfl, b2⟩
        have hv1 := row_kept (World.ownsRow.alloc hv1 _) b2
        have hb2 := bnext (balloc b1 _) b2
        clear b1 b2 S1 J1
        go_wp2_with fail
        refine (C2.out _).mono ?_; rintro e w3 ⟨rfl, b3⟩
        have hv1 := row_kept hv1 b3
        have hb3 := bnext hb2 b3
        clear hb2 b3 C2
        go_wp2_with fail
        refine (SM.out _ _ _ (strsAt_in (World.ownsRow.alloc hv1 _)) (HL.out w3)).mono ?_; rintro e w4 ⟨rfl, b4⟩
        have hb4 := bnext (balloc hb3 _) b4
        clear hb3 b4 SM hv1
        go_wp2_with fail
        refine (AL.out _).mono ?_; rintro e w5 ⟨rfl, b5⟩
        go_wp2
        go_ret
        exact ⟨rfl, bnext hb4 b5⟩
      · clear SM hpp
        rcases hd with hd | ⟨hd, hd2⟩
        all_goals
          go_enter Tryd.func8, Tryd.ntmps8
          go_wp2_with fail
          refine (S1.out _).mono ?_; rintro e w1 ⟨v1, rfl, hv1, b1⟩
          obtain ⟨ad1, cap1, ev1, -⟩ := shape_of hv1
          subst ev1
          go_wp2_with fail
          refine (J1.out _ _ (HL.out w1)).mono ?_; rintro e w2 ⟨rfl, b2⟩
          have hb2 := bnext (balloc b1 _) b2
          clear b1 b2 S1 J1 hv1
          go_wp2_with fail
          refine (C2.out _).mono ?_; rintro e w3 ⟨rfl, b3⟩
          have hb3 := bnext hb2 b3
          clear hb2 b3 C2
          go_wp2_with fail
          refine (AL.out _).mono ?_; rintro e w5 ⟨rfl, b5⟩
          go_wp2
          go_ret
          exact ⟨rfl, bnext hb3 b5⟩
    · obtain ⟨jE, jS⟩ := join_bad (l := [s]) (fun h => hok (h s (by simp)))
      rw [jE, jS] at J1
      have C2 : Hid (∀ w, Calls Tryd.prog 11 #[.string s] w fun e w' => e = .returned (.int .i64 130) ∧ Below w.heap.size w w') := Lib.hid fun w => by
        have := C1 w
        rwa [show nameE s = 130 by unfold nameE; rw [if_neg (fun k => hok k.1)]] at this
      have hbd := one_bad hok
      have J1 := Lib.hid J1
      have S1 := Lib.hid S1
      clear C1 jE jS hok hz hbig
      generalize splitE (slashB ++ s) = E at *
      generalize splitV (slashB ++ s) = V at *
      generalize slashB ++ s = PP at *
      rcases hbd with hE | hV
      · have t2 : (E != 0) = true := by rw [bne_iff_ne]; exact hE
        have t3 : (E == 0) = false := by rw [beq_eq_false_iff_ne]; exact hE
        clear hE
        go_enter Tryd.func8, Tryd.ntmps8
        go_wp2_with fail
        refine (S1.out _).mono ?_; rintro e w1 ⟨v1, rfl, hv1, b1⟩
        obtain ⟨ad1, cap1, ev1, -⟩ := shape_of hv1
        subst ev1
        go_wp2_with fail
        refine (J1.out _ _ (HL.out w1)).mono ?_; rintro e w2 ⟨rfl, b2⟩
        have hb2 := bnext (balloc b1 _) b2
        clear b1 b2 S1 J1 hv1
        go_wp2_with fail
        refine (C2.out _).mono ?_; rintro e w3 ⟨rfl, b3⟩
        have hb3 := bnext hb2 b3
        clear hb2 b3 C2
        go_wp2_with fail
        refine (AL.out _).mono ?_; rintro e w5 ⟨rfl, b5⟩
        go_wp2
        go_ret
        exact ⟨rfl, bnext hb3 b5⟩
      · have t4 : ((V.length : Int) != 1) = true := by rw [bne_iff_ne]; omega
        have t5 : ((V.length : Int) == 1) = false := by rw [beq_eq_false_iff_ne]; omega
        clear hV
        by_cases hE : E = 0
        · subst hE
          go_enter Tryd.func8, Tryd.ntmps8
          go_wp2_with fail
          refine (S1.out _).mono ?_; rintro e w1 ⟨v1, rfl, hv1, b1⟩
          obtain ⟨ad1, cap1, ev1, -⟩ := shape_of hv1
          subst ev1
          go_wp2_with fail
          refine (J1.out _ _ (HL.out w1)).mono ?_; rintro e w2 ⟨rfl, b2⟩
          have hb2 := bnext (balloc b1 _) b2
          clear b1 b2 S1 J1 hv1
          go_wp2_with fail
          refine (C2.out _).mono ?_; rintro e w3 ⟨rfl, b3⟩
          have hb3 := bnext hb2 b3
          clear hb2 b3 C2
          go_wp2_with fail
          refine (AL.out _).mono ?_; rintro e w5 ⟨rfl, b5⟩
          go_wp2
          go_ret
          exact ⟨rfl, bnext hb3 b5⟩
        · have t2 : (E != 0) = true := by rw [bne_iff_ne]; exact hE
          have t3 : (E == 0) = false := by rw [beq_eq_false_iff_ne]; exact hE
          clear hE
          go_enter Tryd.func8, Tryd.ntmps8
          go_wp2_with fail
          refine (S1.out _).mono ?_; rintro e w1 ⟨v1, rfl, hv1, b1⟩
          obtain ⟨ad1, cap1, ev1, -⟩ := shape_of hv1
          subst ev1
          go_wp2_with fail
          refine (J1.out _ _ (HL.out w1)).mono ?_; rintro e w2 ⟨rfl, b2⟩
          have hb2 := bnext (balloc b1 _) b2
          clear b1 b2 S1 J1 hv1
          go_wp2_with fail
          refine (C2.out _).mono ?_; rintro e w3 ⟨rfl, b3⟩
          have hb3 := bnext hb2 b3
          clear hb2 b3 C2
          go_wp2_with fail
          refine (AL.out _).mono ?_; rintro e w5 ⟨rfl, b5⟩
          go_wp2
          go_ret
          exact ⟨rfl, bnext hb3 b5⟩
end Go.Proofs.YtgjcdjcngepleaaDoor
