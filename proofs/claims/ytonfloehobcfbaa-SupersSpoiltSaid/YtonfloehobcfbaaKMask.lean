/- HasPrefix, Mask, Unmask, the program's and the document's. -/
import Derived.Test.YtonfloehobcfbaaKVal
namespace Go.Proofs.Ytonfloehobcfbaa
set_option linter.unusedVariables false
open Go.RowKit

/-- does it begin with the magic? -/
def begB (s : ByteArray) : Bool := (s.extract 0 4).toList == [71, 76, 74, 119]
def Begins (s : ByteArray) : Prop := 4 ≤ s.size ∧ begB s = true
instance (s : ByteArray) : Decidable (Begins s) := by unfold Begins; infer_instance
def maskS (s : ByteArray) : ByteArray := ⟨#[0, 0, 0, 0]⟩ ++ s.extract 4 s.size
def unmaskS (s : ByteArray) : ByteArray := ⟨#[71, 76, 74, 119]⟩ ++ s.extract 4 s.size

set_option maxHeartbeats 2000000 in
theorem liteprefix_any (s : ByteArray) (hs : s.size ≤ maxLen) (w : World) :
    Calls Try.prog 51 #[.string s, .string ⟨#[71, 76, 74, 119]⟩] w fun e w' => e = .returned (.bool (decide (Begins s))) ∧ w = w' := by
  unfold maxLen at hs
  by_cases h : 4 ≤ s.size
  · by_cases hb : begB s = true
    · have HE : Hid (decide (Begins s) = true) := Lib.hid (decide_eq_true ⟨h, hb⟩)
      have hb' : ((s.extract 0 4).toList == [71, 76, 74, 119]) = true := hb
      rw [HE.out]
      clear hb
      go_enter Try.func51, Try.ntmps51
      go_wp2
      go_ret
      exact ⟨rfl, rfl⟩
    · have hb := (Bool.not_eq_true _).mp hb
      have HE : Hid (decide (Begins s) = false) := Lib.hid (decide_eq_false (fun k => by have k2 := k.2; rw [hb] at k2; exact absurd k2 (by decide)))
      have hb' : ((s.extract 0 4).toList == [71, 76, 74, 119]) = false := hb
      rw [HE.out]
      clear hb
      go_enter Try.func51, Try.ntmps51
      go_wp2
      go_ret
      exact ⟨rfl, rfl⟩
  · have HE : Hid (decide (Begins s) = false) := Lib.hid (decide_eq_false (fun k => h k.1))
    rw [HE.out]
    go_enter Try.func51, Try.ntmps51
    go_wp2
    go_ret
    exact ⟨rfl, rfl⟩
theorem prefix_any (s : ByteArray) (hs : s.size ≤ maxLen) (w : World) :
    Calls Try.prog 33 #[.string s, .string ⟨#[71, 76, 74, 119]⟩] w fun e w' => e = .returned (.bool (decide (Begins s))) ∧ w = w' := by
  have L := Lib.hid (fun w => liteprefix_any s hs w)
  generalize decide (Begins s) = b at *
  go_enter Try.func33, Try.ntmps33
  go_wp2_with fail
  refine (L.out _).mono ?_; rintro e w1 ⟨rfl, rfl⟩
  go_wp2
  go_ret
  exact ⟨rfl, rfl⟩

theorem cut_size (s : ByteArray) : (s.extract 4 s.size).size = s.size - 4 := by simp [ByteArray.size_extract]
set_option maxHeartbeats 2000000 in
theorem mask_yes (s : ByteArray) (hs : s.size ≤ maxLen) (h : Begins s) (w : World) :
    Calls Try.prog 18 #[.string s] w fun e w' => e = .returned (.tuple #[.string (maskS s), .bool true]) ∧ w = w' := by
  have L := fun w => prefix_any s hs w
  rw [decide_eq_true h] at L
  have L := Lib.hid L
  have h4 := h.1
  have hz := cut_size s
  unfold maxLen at hs
  clear h
  go_enter Try.func18, Try.ntmps18
  go_wp2_with fail
  refine (L.out _).mono ?_; rintro e w1 ⟨rfl, rfl⟩
  go_wp2
  go_ret2
  exact ⟨rfl, rfl⟩
theorem mask_no (s : ByteArray) (hs : s.size ≤ maxLen) (h : ¬ Begins s) (w : World) :
    Calls Try.prog 18 #[.string s] w fun e w' => e = .returned (.tuple #[.string s, .bool false]) ∧ w = w' := by
  have L := fun w => prefix_any s hs w
  rw [decide_eq_false h] at L
  have L := Lib.hid L
  clear h
  go_enter Try.func18, Try.ntmps18
  go_wp2_with fail
  refine (L.out _).mono ?_; rintro e w1 ⟨rfl, rfl⟩
  go_wp2
  go_ret2
  exact ⟨rfl, rfl⟩
/-- what Mask tells -/
def maskV (s : ByteArray) : ByteArray := if Begins s then maskS s else s
theorem mask_any (s : ByteArray) (hs : s.size ≤ maxLen) (w : World) :
    Calls Try.prog 18 #[.string s] w fun e w' => e = .returned (.tuple #[.string (maskV s), .bool (decide (Begins s))]) ∧ w = w' := by
  unfold maskV
  by_cases h : Begins s
  · rw [if_pos h, decide_eq_true h]; exact mask_yes s hs h w
  · rw [if_neg h, decide_eq_false h]; exact mask_no s hs h w
/-- what Unmask tells -/
def unmaskV (s : ByteArray) : ByteArray := if 4 ≤ s.size then unmaskS s else s
end Go.Proofs.Ytonfloehobcfbaa
