/- What a device that is none answers. -/
import Derived.Test.YtgdnlkoncajaoaaDDev
namespace Go.Proofs.Ytgdnlkoncajaoaa
set_option linter.unusedVariables false
open Go.RowKit

theorem arm_none (v : Value) (n : Int) (w : World) (h : NoDev v w) : Calls Try.prog 19 #[v, .int .i64 n] w fun e w' => e = .returned (.tuple #[]) ∧ w = w' := by
  have M := Lib.hid (missing_yes v w h)
  clear h
  go_enter Try.func19, Try.ntmps19
  go_wp2_with fail
  refine M.out.mono ?_; rintro e w' ⟨rfl, rfl⟩
  go_wp2
  go_end0
  exact ⟨rfl, rfl⟩
theorem read_none (v : Value) (b : Int) (w : World) (h : NoDev v w) : Calls Try.prog 21 #[v, .int .i64 b] w fun e w' => e = .returned (.tuple #[.string ⟨#[]⟩, .int .i64 1]) ∧ w = w' := by
  have M := Lib.hid (missing_yes v w h)
  clear h
  go_enter Try.func21, Try.ntmps21
  go_wp2_with fail
  refine M.out.mono ?_; rintro e w' ⟨rfl, rfl⟩
  go_wp2
  go_ret2
  exact ⟨rfl, rfl⟩
theorem write_none (v : Value) (b : Int) (s : ByteArray) (w : World) (h : NoDev v w) : Calls Try.prog 14 #[v, .int .i64 b, .string s] w fun e w' => e = .returned (.int .i64 1) ∧ w = w' := by
  have M := Lib.hid (missing_yes v w h)
  clear h
  go_enter Try.func14, Try.ntmps14
  go_wp2_with fail
  refine M.out.mono ?_; rintro e w' ⟨rfl, rfl⟩
  go_wp2
  go_ret
  exact ⟨rfl, rfl⟩
theorem flush_none (v : Value) (w : World) (h : NoDev v w) : Calls Try.prog 17 #[v] w fun e w' => e = .returned (.int .i64 1) ∧ w = w' := by
  have M := Lib.hid (missing_yes v w h)
  clear h
  go_enter Try.func17, Try.ntmps17
  go_wp2_with fail
  refine M.out.mono ?_; rintro e w' ⟨rfl, rfl⟩
  go_wp2
  go_ret
  exact ⟨rfl, rfl⟩
theorem dead_none (v : Value) (w : World) (h : NoDev v w) : Calls Try.prog 26 #[v] w fun e w' => e = .returned (.bool false) ∧ w = w' := by
  have M := Lib.hid (missing_yes v w h)
  clear h
  go_enter Try.func26, Try.ntmps26
  go_wp2_with fail
  refine M.out.mono ?_; rintro e w' ⟨rfl, rfl⟩
  go_wp2
  go_ret
  exact ⟨rfl, rfl⟩
theorem acts_none (v : Value) (w : World) (h : NoDev v w) : Calls Try.prog 28 #[v] w fun e w' => e = .returned (.int .i64 0) ∧ w = w' := by
  have M := Lib.hid (missing_yes v w h)
  clear h
  go_enter Try.func28, Try.ntmps28
  go_wp2_with fail
  refine M.out.mono ?_; rintro e w' ⟨rfl, rfl⟩
  go_wp2
  go_ret
  exact ⟨rfl, rfl⟩
theorem blocks_none (v : Value) (w : World) (h : NoDev v w) : Calls Try.prog 29 #[v] w fun e w' => e = .returned (.int .i64 0) ∧ w = w' := by
  have M := Lib.hid (missing_yes v w h)
  clear h
  go_enter Try.func29, Try.ntmps29
  go_wp2_with fail
  refine M.out.mono ?_; rintro e w' ⟨rfl, rfl⟩
  go_wp2
  go_ret
  exact ⟨rfl, rfl⟩
theorem pending_none (v : Value) (w : World) (h : NoDev v w) : Calls Try.prog 23 #[v] w fun e w' => e = .returned (.slice none 0 0) ∧ w = w' := by
  have M := Lib.hid (missing_yes v w h)
  clear h
  go_enter Try.func23, Try.ntmps23
  go_wp2_with fail
  refine M.out.mono ?_; rintro e w' ⟨rfl, rfl⟩
  go_wp2
  go_ret
  exact ⟨rfl, rfl⟩
theorem crash_nodev (v k : Value) (w : World) (h : NoDev v w) : Calls Try.prog 31 #[v, k] w fun e w' => e = .returned (.string ⟨#[]⟩) ∧ w = w' := by
  have M := Lib.hid (missing_yes v w h)
  clear h
  go_enter Try.func31, Try.ntmps31
  go_wp2_with fail
  refine M.out.mono ?_; rintro e w' ⟨rfl, rfl⟩
  go_wp2
  go_ret
  exact ⟨rfl, rfl⟩
theorem kept_none (v : Value) (w : World) (h : NoDev v w) : Calls Try.prog 33 #[v] w fun e w' => e = .returned (.string ⟨#[]⟩) ∧ w = w' := by
  have M := Lib.hid (crash_nodev v (.slice none 0 0) w h)
  clear h
  go_enter Try.func33, Try.ntmps33
  go_wp2_with fail
  refine M.out.mono ?_; rintro e w' ⟨rfl, rfl⟩
  go_wp2
  go_ret
  exact ⟨rfl, rfl⟩
end Go.Proofs.Ytgdnlkoncajaoaa
