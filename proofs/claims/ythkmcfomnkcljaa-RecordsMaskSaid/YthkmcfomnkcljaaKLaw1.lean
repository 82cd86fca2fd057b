/- The walks of RecordsMask and RecordsNone. -/
import Derived.Test.YthkmcfomnkcljaaKAlive
namespace Go.Proofs.Ythkmcfomnkcljaa
set_option linter.unusedVariables false
open Go.RowKit

theorem mask_walk (s : ByteArray) (hs : s.size ≤ maxLen) (w : World) :
    Calls Try.prog 5 #[.string s] w fun e w' => e = .returned (.bool true) ∧ Below w.heap.size w w' := by
  have M := Lib.hid (fun w => mask_any s hs w)
  have R := Lib.hid (fun w => rmask_any s hs w)
  have U := Lib.hid (fun w => unmask_any s hs w)
  have V := Lib.hid (fun w => runmask_any s hs w)
  have AL := Lib.hid alive_any
  generalize maskV s = m at *
  generalize unmaskV s = u at *
  generalize decide (Begins s) = b at *
  go_enter Try.func5, Try.ntmps5
  go_wp2_with fail
  refine (M.out _).mono ?_; rintro e w1 ⟨rfl, rfl⟩
  go_wp2_with fail
  refine (R.out _).mono ?_; rintro e w1 ⟨rfl, rfl⟩
  go_wp2_with fail
  refine (U.out _).mono ?_; rintro e w1 ⟨rfl, rfl⟩
  go_wp2_with fail
  refine (V.out _).mono ?_; rintro e w1 ⟨rfl, rfl⟩
  go_wp2_with fail
  refine (AL.out _).mono ?_; rintro e w1 ⟨rfl, hb⟩
  go_wp2
  go_ret
  exact ⟨rfl, hb⟩
/-- what Decode tells, whatever it is, to one who asks for the error alone -/
theorem dec_either (s : ByteArray) (hs : s.size ≤ maxLen) : ∃ c : Int, (Begins s ∨ c = 80) ∧ ∀ w, Calls Try.prog 14 #[.string s] w fun e w' => ∃ (k : Int) (q : Nat) (p : Int) (ah : Option Addr) (nh ch : Nat) (am : Option Addr) (nm cm m : Nat), e = .returned (.tuple #[recA k q p (.slice ah nh ch) (.slice am nm cm) m, .int .i64 c]) ∧ Below w.heap.size w w' := by
  by_cases h : IsBlk s
  · refine ⟨0, .inl (isBlk_begins h), fun w => (dec_yes s hs h w).mono ?_⟩
    rintro e w' ⟨vh, vm, rfl, ho, b⟩
    obtain ⟨ah, ch, rfl, -⟩ := shape_of ho.1
    obtain ⟨am, cm, rfl, -⟩ := shape_of ho.2
    exact ⟨_, _, _, _, _, _, _, _, _, _, rfl, b⟩
  · exact ⟨80, .inr rfl, fun w => (dec_no s hs h w).mono fun e w' ⟨he, b⟩ => ⟨0, 0, 0, none, 0, 0, none, 0, 0, 0, he, b⟩⟩
theorem cut_same {s : ByteArray} : ((maskS s).extract 4 (maskS s).size).toList = (s.extract 4 s.size).toList := by
  have e : ∀ t : ByteArray, (t.extract 4 t.size).toList = t.data.toList.drop 4 := fun t => by
    rw [ext_list]
    apply List.take_of_length_le
    rw [List.length_drop, size_list]; exact Nat.le_refl _
  rw [e, e, mask_list]; rfl
set_option maxHeartbeats 4000000 in
theorem none_walk (s : ByteArray) (hs : s.size ≤ maxLen) (w : World) :
    Calls Try.prog 7 #[.string s] w fun e w' => e = .returned (.bool true) ∧ Below w.heap.size w w' := by
  have AL := Lib.hid alive_any
  have mixed : Try.prog.follows .mixedOrders = true := by kernel_rfl
  obtain ⟨c, hc, D⟩ := dec_either s hs
  have D := Lib.hid D
  by_cases h : Begins s
  · have hz := maskS_size h.1
    have h4 := h.1
    have hs' : (maskS s).size ≤ maxLen := by rw [hz]; exact hs
    have M := Lib.hid (fun w => mask_yes s hs h w)
    have M2 := Lib.hid (fun w => mask_no (maskS s) hs' (mask_off s) w)
    have DM := Lib.hid (fun w => dec_no (maskS s) hs' (fun k => mask_off s (isBlk_begins k)) w)
    have UM := fun w => unmask_any (maskS s) hs' w
    rw [mask_back h] at UM
    have UM := Lib.hid UM
    have hcut := cut_same (s := s)
    rw [hz] at hcut
    have hcut' : (((maskS s).extract 4 s.size).toList == (s.extract 4 s.size).toList) = true := by rw [beq_iff_eq]; exact hcut
    have hl : ((s.size : Int) != (s.size : Int)) = false := by simp
    clear hcut hc h hs'
    generalize maskS s = m at *
    unfold maxLen at hs
    have h4i : decide ((4 : Int) ≤ (s.size : Int)) = true := decide_eq_true (by omega)
    go_enter Try.func7, Try.ntmps7
    go_wp2_with fail
    refine (M.out _).mono ?_; rintro e w1 ⟨rfl, rfl⟩
    go_wp2_with fail
    refine (DM.out _).mono ?_; rintro e w1 ⟨rfl, b1⟩
    go_wp2_with fail
    refine (M2.out _).mono ?_; rintro e w2 ⟨rfl, rfl⟩
    have hb1 := balloc b1 (.cells #[.int .i64 0, .int .u64 0, .int .i64 0, .slice none 0 0, .slice none 0 0, .int .u32 0] 27)
    clear b1
    go_wp2_with fail
    refine (D.out _).mono ?_; rintro e w3 ⟨k, q, p, ah, nh, ch, am, nm, cm, sm, rfl, b3⟩
    have hb3 := balloc (bnext hb1 b3) (.cells #[.int .i64 k, .int .u64 (q : Int), .int .i64 p, .slice ah nh ch, .slice am nm cm, .int .u32 (sm : Int)] 27)
    clear hb1 b3
    go_wp2
    have hu : ∀ w, Calls Try.prog 18 #[.string m] w fun e w' => e = .returned (.string s) ∧ Below w.heap.size w w' := fun w => (UM.out w).mono fun e w' ⟨he, hw⟩ => ⟨he, hw ▸ Below.refl _ _⟩
    have HU := Lib.hid hu
    clear hu
    refine wp_region_quiet_below mixed (by kernel_rfl) ?_
    repeat (go_big_quiet_step (first | (go_at_call 18; refine calls_below (HU.out _)) | (go_at_call 13; refine calls_below (AL.out _))))
    refine wpQuiet_nil ?_
    intro w0q hw'
    obtain ⟨⟨wq, bq⟩, hw''⟩ := hw'
    have hw2 : wq = w0q := hw''.symm
    clear hw''
    subst hw2
    have hb5 := bnext hb3 bq
    clear hb3 bq
    go_wp2
    go_ret
    exact ⟨rfl, hb5⟩
  · have hc80 : c = 80 := hc.resolve_left h
    subst hc80
    have M := Lib.hid (fun w => mask_no s hs h w)
    clear hc h
    go_enter Try.func7, Try.ntmps7
    go_wp2_with fail
    refine (M.out _).mono ?_; rintro e w1 ⟨rfl, rfl⟩
    go_wp2_with fail
    refine (D.out _).mono ?_; rintro e w1 ⟨k, q, p, ah, nh, ch, am, nm, cm, sm, rfl, b1⟩
    go_wp2_with fail
    refine (M.out _).mono ?_; rintro e w2 ⟨rfl, rfl⟩
    have hb1 := balloc b1 (.cells #[.int .i64 k, .int .u64 (q : Int), .int .i64 p, .slice ah nh ch, .slice am nm cm, .int .u32 (sm : Int)] 27)
    clear b1
    go_wp2_with fail
    refine (D.out _).mono ?_; rintro e w3 ⟨k2, q2, p2, ah2, nh2, ch2, am2, nm2, cm2, sm2, rfl, b3⟩
    have hb3 := balloc (bnext hb1 b3) (.cells #[.int .i64 k2, .int .u64 (q2 : Int), .int .i64 p2, .slice ah2 nh2 ch2, .slice am2 nm2 cm2, .int .u32 (sm2 : Int)] 27)
    clear hb1 b3
    go_wp2_with fail
    refine (AL.out _).mono ?_; rintro e w5 ⟨rfl, b5⟩
    have hb5 := bnext hb3 b5
    clear hb3 b5
    go_wp2
    go_ret
    exact ⟨rfl, hb5⟩
end Go.Proofs.Ythkmcfomnkcljaa
