/- PutInt, the program's and the document's. -/
import Derived.Test.YtogdogadejjmeaaWPut
import Derived.Test.YtogdogadejjmeaaWGetI
namespace Go.Proofs.Ytogdogadejjmeaa
open Go.RowKit

/-- the same for an int that is to be put -/
def putIntOk (len : Nat) (a z n : Int) : Bool := decide (0 ≤ n) && putOk len a z n.toNat
def putIntV (s : ByteArray) (a z n : Int) : ByteArray := if 0 ≤ n then putV s a z n.toNat else ⟨#[]⟩

set_option maxHeartbeats 400000 in
theorem putInt_any (s : ByteArray) (hs : s.size ≤ maxLen) (a z n : Int) (hn : n ≤ 9223372036854775807) (w : World) :
    Calls Try.prog 39 #[.string s, .int .i64 a, .int .i64 z, .int .i64 n] w fun e w' => e = .returned (.tuple #[.string (putIntV s a z n), .bool (putIntOk s.size a z n)]) ∧ Below w.heap.size w w' := by
  by_cases h0 : 0 ≤ n
  · obtain ⟨m, rfl⟩ := Int.eq_ofNat_of_zero_le h0
    have e1 : putIntV s a z m = putV s a z m := by unfold putIntV; rw [if_pos h0]; simp
    have e2 : putIntOk s.size a z m = putOk s.size a z m := by unfold putIntOk; rw [decide_eq_true h0]; simp
    rw [e1, e2]
    have HV := Lib.hid (put_any s hs a z m (by omega))
    clear e1 e2
    go_enter Try.func39, Try.ntmps39
    go_wp2_with (go_at_call 51; refine (HV.out _).mono ?_; rintro e w' ⟨rfl, hb⟩)
    go_ret2
    exact ⟨rfl, hb⟩
  · have e1 : putIntV s a z n = ⟨#[]⟩ := by unfold putIntV; rw [if_neg h0]
    have e2 : putIntOk s.size a z n = false := by unfold putIntOk; rw [decide_eq_false h0]; rfl
    rw [e1, e2]
    clear e1 e2
    go_enter Try.func39, Try.ntmps39
    go_wp2
    go_ret2
    exact ⟨rfl, Below.refl _ _⟩

set_option maxHeartbeats 400000 in
theorem rputInt_any (s : ByteArray) (hs : s.size ≤ maxLen) (a z n : Int) (hn : n ≤ 9223372036854775807) (w : World) :
    Calls Try.prog 28 #[.string s, .int .i64 a, .int .i64 z, .int .i64 n] w fun e w' => e = .returned (.tuple #[.string (putIntV s a z n), .bool (putIntOk s.size a z n)]) ∧ Below w.heap.size w w' := by
  by_cases h0 : 0 ≤ n
  · obtain ⟨m, rfl⟩ := Int.eq_ofNat_of_zero_le h0
    have e1 : putIntV s a z m = putV s a z m := by unfold putIntV; rw [if_pos h0]; simp
    have e2 : putIntOk s.size a z m = putOk s.size a z m := by unfold putIntOk; rw [decide_eq_true h0]; simp
    rw [e1, e2]
    have HV := Lib.hid (rput_any s hs a z m (by omega))
    clear e1 e2
    go_enter Try.func28, Try.ntmps28
    go_wp2_with (go_at_call 46; refine (HV.out _).mono ?_; rintro e w' ⟨rfl, hb⟩)
    go_ret2
    exact ⟨rfl, hb⟩
  · have e1 : putIntV s a z n = ⟨#[]⟩ := by unfold putIntV; rw [if_neg h0]
    have e2 : putIntOk s.size a z n = false := by unfold putIntOk; rw [decide_eq_false h0]; rfl
    rw [e1, e2]
    clear e1 e2
    go_enter Try.func28, Try.ntmps28
    go_wp2
    go_ret2
    exact ⟨rfl, Below.refl _ _⟩

end Go.Proofs.Ytogdogadejjmeaa
