/- The chapter's examples. -/
import Derived.Test.YtgjcdjcngepleaaDoorPProg
import Derived.Test.YtgjcdjcngepleaaDoorPSame
namespace Go.Proofs.YtgjcdjcngepleaaDoor
set_option linter.unusedVariables false
open Go.RowKit

def exP : ByteArray := ⟨#[47, 97, 47, 98, 99, 47, 46, 46]⟩
def exQ : ByteArray := ⟨#[47, 97, 47, 47, 98]⟩
def exL : List ByteArray := [⟨#[97]⟩, ⟨#[98, 99]⟩, ⟨#[46, 46]⟩]
def exM : List ByteArray := [⟨#[97]⟩, ⟨#[46]⟩]
def exJ : ByteArray := ⟨#[47, 97, 47, 46]⟩
theorem exP_is : splitE exP = 0 ∧ splitV exP = exL := by
  refine (split_iff exP exL).2 ⟨?_, ?_⟩
  · decide
  · decide
theorem exQ_is : splitE exQ = 130 := by decide
theorem exR_is : splitE slashB = 0 ∧ splitV slashB = [] := (split_iff slashB []).2 ⟨by decide, rfl⟩
theorem exM_is : joinE exM = 0 ∧ joinS exM = exJ := by
  have h : JoinOk exM := by decide
  have e := (joinE_zero exM).2 h
  refine ⟨e, ?_⟩
  unfold joinS; rw [if_pos e]; decide
theorem exN_is : joinE [] = 0 ∧ joinS [] = slashB := by
  have e : joinE [] = 0 := by decide
  exact ⟨e, by unfold joinS; rw [if_pos e]; rfl⟩
set_option maxRecDepth 100000 in
set_option maxHeartbeats 4000000 in
theorem palive_any (w : World) :
    Calls Tryd.prog 14 #[] w fun e w' => e = .returned (.bool true) ∧ Below w.heap.size w w' := by
  have S1 : Hid (∀ w, Calls Tryd.prog 9 #[.string ⟨#[47, 97, 47, 98, 99, 47, 46, 46]⟩] w fun e w' => ∃ v, e = .returned (.tuple #[v, .int .i64 0]) ∧ StrsAt w.heap.size v exL w' ∧ Below w.heap.size w w') := Lib.hid fun w => by
    have := split_any exP (by decide) w
    rwa [exP_is.1, exP_is.2] at this
  have S2 : Hid (∀ w, Calls Tryd.prog 9 #[.string ⟨#[47, 97, 47, 47, 98]⟩] w fun e w' => ∃ v, e = .returned (.tuple #[v, .int .i64 130]) ∧ StrsAt w.heap.size v [] w' ∧ Below w.heap.size w w') := Lib.hid fun w => by
    have := split_any exQ (by decide) w
    rwa [exQ_is, split_none (by rw [exQ_is]; decide)] at this
  have S3 : Hid (∀ w, Calls Tryd.prog 9 #[.string ⟨#[47]⟩] w fun e w' => ∃ v, e = .returned (.tuple #[v, .int .i64 0]) ∧ StrsAt w.heap.size v [] w' ∧ Below w.heap.size w w') := Lib.hid fun w => by
    have := split_any slashB (by decide) w
    rwa [exR_is.1, exR_is.2] at this
  have J1 : Hid (∀ v w, StrsIn v exM w → Calls Tryd.prog 16 #[v] w fun e w' => e = .returned (.tuple #[.string ⟨#[47, 97, 47, 46]⟩, .int .i64 0]) ∧ Below w.heap.size w w') := Lib.hid fun v w hv => by
    have := join_any exM (by decide) v w hv
    rwa [exM_is.1, exM_is.2] at this
  have J2 : Hid (∀ v w, StrsIn v [] w → Calls Tryd.prog 16 #[v] w fun e w' => e = .returned (.tuple #[.string ⟨#[47]⟩, .int .i64 0]) ∧ Below w.heap.size w w') := Lib.hid fun v w hv => by
    have := join_any [] (by decide) v w hv
    rwa [exN_is.1, exN_is.2] at this
  have SM : Hid (∀ v u w, StrsIn v exL w → StrsIn u exL w → Calls Tryd.prog 13 #[v, u] w fun e w' => e = .returned (.bool true) ∧ Below w.heap.size w w') := Lib.hid fun v u w h1 h2 => by
    have := tsame_any exL exL v u w h1 h2
    rwa [decide_eq_true rfl] at this
  have C1 : Hid (∀ w, Calls Tryd.prog 11 #[.string ⟨#[46, 46]⟩] w fun e w' => e = .returned (.int .i64 130) ∧ Below w.heap.size w w') := Lib.hid fun w => by
    have := check_any ⟨#[46, 46]⟩ (by decide) w
    rwa [show nameE ⟨#[46, 46]⟩ = 130 by decide] at this
  have C2 : Hid (∀ w, Calls Tryd.prog 11 #[.string ⟨#[97]⟩] w fun e w' => e = .returned (.int .i64 0) ∧ Below w.heap.size w w') := Lib.hid fun w => by
    have := check_any ⟨#[97]⟩ (by decide) w
    rwa [show nameE ⟨#[97]⟩ = 0 by decide] at this
  have hl3 : exL.length = 3 := rfl
  have hL := fun W => lit_inT W exL #[.string ⟨#[97]⟩, .string ⟨#[98, 99]⟩, .string ⟨#[46, 46]⟩] (by decide) rfl
  have hM := fun W => lit_inT W exM #[.string ⟨#[97]⟩, .string ⟨#[46]⟩] (by decide) rfl
  have hM2 : exM.length = 2 := rfl
  rw [hl3] at hL
  rw [hM2] at hM
  have HL := Lib.hid hL
  have HM := Lib.hid hM
  have H3 := Lib.hid hl3
  clear hL hM hl3 hM2
  generalize exL = L at *
  generalize exM = M at *
  go_enter Tryd.func14, Tryd.ntmps14
  go_wp2_with fail
  refine (S1.out _).mono ?_; rintro e w1 ⟨v1, rfl, hv1, b1⟩
  obtain ⟨ad1, cap1, e1, -⟩ := shape_of hv1
  rw [H3.out] at e1
  subst e1
  go_wp2_with fail
  refine (S2.out _).mono ?_; rintro e w2 ⟨v2, rfl, hv2, b2⟩
  obtain ⟨ad2, cap2, rfl, -⟩ := shape_of hv2
  have hv1 := row_kept hv1 b2
  have hb2 := bnext b1 b2
  clear b1 b2 hv2 S1 S2
  go_wp2_with fail
  refine (S3.out _).mono ?_; rintro e w3 ⟨v3, rfl, hv3, b3⟩
  obtain ⟨ad3, cap3, e3, -⟩ := shape_of hv3
  subst e3
  have hv1 := row_kept hv1 b3
  have hb3 := bnext hb2 b3
  clear b3 hb2 hv3 S3
  go_wp2_with fail
  refine (J1.out _ _ (HM.out w3)).mono ?_; rintro e w4 ⟨rfl, b4⟩
  have hv1 := row_kept (World.ownsRow.alloc hv1 _) b4
  have hb4 := bnext (balloc hb3 _) b4
  clear b4 hb3 J1 HM
  go_wp2_with fail
  refine (J2.out _ _ (strs_nil _)).mono ?_; rintro e w5 ⟨rfl, b5⟩
  have hv1 := row_kept hv1 b5
  have hb5 := bnext hb4 b5
  clear b5 hb4 J2
  go_wp2_with fail
  refine (SM.out _ _ _ (strsAt_in (World.ownsRow.alloc hv1 _)) (HL.out w5)).mono ?_; rintro e w6 ⟨rfl, b6⟩
  have hb6 := bnext (balloc hb5 _) b6
  clear b6 hb5 SM hv1
  go_wp2_with fail
  refine (C1.out _).mono ?_; rintro e w7 ⟨rfl, b7⟩
  have hb7 := bnext hb6 b7
  clear b7 hb6 C1
  go_wp2_with fail
  refine (C2.out _).mono ?_; rintro e w8 ⟨rfl, b8⟩
  have hb8 := bnext hb7 b8
  go_wp2
  go_ret
  exact ⟨rfl, hb8⟩
end Go.Proofs.YtgjcdjcngepleaaDoor
