/- The walks of SumsOf, SumsJoins, SumsCut, SumsNothing, SumsThree. -/
import Derived.Test.YtelnmkgilnkliaaDoorSJoin
import Derived.Below
namespace Go.Proofs.YtelnmkgilnkliaaDoor
open Go.RowKit

theorem below_same {P : Program} {f : FuncId} {args : Array Value} {w : World} {v : Ending} (h : Calls P f args w fun e w' => e = v ∧ w = w') : Calls P f args w fun e w' => e = v ∧ Below w.heap.size w w' :=
  h.mono fun _ _ ⟨he, hw⟩ => ⟨he, hw ▸ Below.refl _ _⟩

theorem ret_bool {a b : Bool} (h : a = b) : Ending.returned (.bool a) = .returned (.bool b) := by rw [h]

set_option maxHeartbeats 400000 in
theorem of_walk (s : ByteArray) (hs : s.size ≤ maxLen) (r : Nat) (hr : r < 4294967296) (w : World) (ht : Tab w) :
    Calls Tryd.prog 3 #[.string s, .int .u32 r] w fun e w' => e = .returned (.bool true) ∧ w = w' := by
  have S := Lib.hid (sum_any s hs w ht)
  have RS := Lib.hid (rsum_any s hs w)
  have M := Lib.hid (more_any r hr s hs w ht)
  have RM := Lib.hid (rmore_any r hr s hs w)
  have AL := Lib.hid (alive_any w ht)
  clear ht
  unfold maxLen at hs
  by_cases h : 20000 < s.size
  · go_enter Tryd.func3, Tryd.ntmps3
    go_wp2
    go_ret
    exact ⟨rfl, rfl⟩
  · go_enter Tryd.func3, Tryd.ntmps3
    go_wp2_with fail
    refine S.out.mono ?_; rintro e w' ⟨rfl, rfl⟩
    go_wp2_with fail
    refine RS.out.mono ?_; rintro e w' ⟨rfl, rfl⟩
    go_wp2_with fail
    refine M.out.mono ?_; rintro e w' ⟨rfl, rfl⟩
    go_wp2_with fail
    refine RM.out.mono ?_; rintro e w' ⟨rfl, rfl⟩
    go_wp2_with fail
    refine AL.out.mono ?_; rintro e w' ⟨rfl, rfl⟩
    go_wp2
    go_ret
    exact ⟨rfl, rfl⟩

set_option maxHeartbeats 400000 in
theorem joins_walk (a b : Nat) (ha : a < 4294967296) (hb : b < 4294967296) (n : Int) (w : World) (ht : Tab w) :
    Calls Tryd.prog 4 #[.int .u32 a, .int .u32 b, .int .i64 n] w fun e w' => e = .returned (.bool true) ∧ w = w' := by
  have AL := Lib.hid (alive_any w ht)
  clear ht
  by_cases h1 : n < 0 ∨ 1073741824 < n
  · have J := Lib.hid (join_no a b n h1 w)
    have RJ := Lib.hid (rjoin_no a b n h1 w)
    rcases h1 with h1 | h1
    all_goals
      go_enter Tryd.func4, Tryd.ntmps4
      go_wp2_with fail
      refine J.out.mono ?_; rintro e w' ⟨rfl, rfl⟩
      go_wp2_with fail
      refine RJ.out.mono ?_; rintro e w' ⟨rfl, rfl⟩
      go_wp2_with fail
      refine AL.out.mono ?_; rintro e w' ⟨rfl, rfl⟩
      go_wp2
      go_ret
      exact ⟨rfl, rfl⟩
  · obtain ⟨m, rfl⟩ := Int.eq_ofNat_of_zero_le (show 0 ≤ n by omega)
    have hm : m ≤ 1073741824 := by omega
    clear h1
    by_cases h2 : 20000 < m
    · go_enter Tryd.func4, Tryd.ntmps4
      go_wp2
      go_ret
      exact ⟨rfl, rfl⟩
    · have J := Lib.hid (join_yes a b m ha hb hm w)
      have RJ := Lib.hid (rjoin_yes a b m ha hb hm w)
      go_enter Tryd.func4, Tryd.ntmps4
      go_wp2_with fail
      refine J.out.mono ?_; rintro e w' ⟨rfl, rfl⟩
      go_wp2_with fail
      refine RJ.out.mono ?_; rintro e w' ⟨rfl, rfl⟩
      go_wp2_with fail
      refine AL.out.mono ?_; rintro e w' ⟨rfl, rfl⟩
      go_wp2
      go_ret
      exact ⟨rfl, rfl⟩

theorem list_append (a b : ByteArray) : (a ++ b).data.toList = a.data.toList ++ b.data.toList := by
  rw [ByteArray.data_append, Array.toList_append]

theorem ones (r : Nat) : 4294967295 ^^^ (4294967295 ^^^ r) = r := by rw [← Nat.xor_assoc, Nat.xor_self, Nat.zero_xor]
/-- the sum of a text is what its first part's sum tells of the second -/
theorem more_cut (a b : List UInt8) : moreV (moreV 0 a) b = moreV 0 (a ++ b) := by
  unfold moreV
  rw [ones, run_append]
/-- and what both parts' sums are joined to -/
theorem join_cut (a b : List UInt8) : shN (8 * b.length) (moreV 0 a) ^^^ moreV 0 b = moreV 0 (a ++ b) := by
  unfold moreV
  rw [run_append, shN_xor]
  have e1 := run_xor 0 (4294967295 ^^^ 0) b
  have e2 := run_xor 0 (run (4294967295 ^^^ 0) a) b
  rw [Nat.zero_xor] at e1 e2
  rw [e1, e2, Nat.xor_zero]
  generalize shN (8 * b.length) 4294967295 = p
  generalize shN (8 * b.length) (run 4294967295 a) = q
  generalize run 0 b = t
  have e3 : p ^^^ q ^^^ (4294967295 ^^^ (t ^^^ p)) = (p ^^^ p) ^^^ (4294967295 ^^^ (t ^^^ q)) := by ac_rfl
  rw [e3, Nat.xor_self, Nat.zero_xor]

set_option maxHeartbeats 400000 in
theorem cut_walk (a b : ByteArray) (ha : a.size ≤ maxLen) (hb : b.size ≤ maxLen) (w : World) (ht : Tab w) :
    Calls Tryd.prog 5 #[.string a, .string b] w fun e w' => e = .returned (.bool true) ∧ w = w' := by
  by_cases h : 100000 < a.size ∨ 100000 < b.size
  · unfold maxLen at ha hb
    clear ht
    by_cases h1 : 100000 < a.size
    · go_enter Tryd.func5, Tryd.ntmps5
      go_wp2
      go_ret
      exact ⟨rfl, rfl⟩
    · have h2 : 100000 < b.size := by omega
      clear h
      go_enter Tryd.func5, Tryd.ntmps5
      go_wp2
      go_ret
      exact ⟨rfl, rfl⟩
  · have h1 : a.size ≤ 100000 := by omega
    have h2 : b.size ≤ 100000 := by omega
    clear h
    have AL := Lib.hid (alive_any w ht)
    have SA := Lib.hid (sum_any a ha w ht)
    have SB := Lib.hid (sum_any b hb w ht)
    have sab := sum_any (a ++ b) (by unfold maxLen; rw [ByteArray.size_append]; omega) w ht
    have m := more_any (moreV 0 a.data.toList) (moreV_lt _ _ (by decide)) b hb w ht
    have j := join_yes (moreV 0 a.data.toList) (moreV 0 b.data.toList) b.size (moreV_lt _ _ (by decide)) (moreV_lt _ _ (by decide)) (by omega) w
    rw [show 8 * b.size = 8 * b.data.toList.length from rfl, join_cut] at j
    rw [more_cut] at m
    rw [list_append] at sab
    have M := Lib.hid m
    have J := Lib.hid j
    have SAB := Lib.hid sab
    clear m j sab ht
    unfold maxLen at ha hb
    go_enter Tryd.func5, Tryd.ntmps5
    go_wp2_with fail
    refine SA.out.mono ?_; rintro e w' ⟨rfl, rfl⟩
    go_wp2_with fail
    refine SB.out.mono ?_; rintro e w' ⟨rfl, rfl⟩
    go_wp2_with fail
    refine J.out.mono ?_; rintro e w' ⟨rfl, rfl⟩
    go_wp2_with fail
    refine SA.out.mono ?_; rintro e w' ⟨rfl, rfl⟩
    go_wp2_with fail
    refine M.out.mono ?_; rintro e w' ⟨rfl, rfl⟩
    go_wp2_with fail
    refine SAB.out.mono ?_; rintro e w' ⟨rfl, rfl⟩
    go_wp2_with fail
    refine SAB.out.mono ?_; rintro e w' ⟨rfl, rfl⟩
    go_wp2_with fail
    refine AL.out.mono ?_; rintro e w' ⟨rfl, rfl⟩
    go_wp2
    go_ret
    exact ⟨rfl, rfl⟩

theorem more_none (r : Nat) : moreV r [] = r := by unfold moreV run; exact ones r

set_option maxHeartbeats 400000 in
theorem nothing_walk (r : Nat) (hr : r < 4294967296) (s : ByteArray) (hs : s.size ≤ maxLen) (n : Int) (w : World) (ht : Tab w) :
    Calls Tryd.prog 9 #[.int .u32 r, .string s, .int .i64 n] w fun e w' => e = .returned (.bool true) ∧ w = w' := by
  have AL := Lib.hid (alive_any w ht)
  have s0 := sum_any ⟨#[]⟩ (by decide) w ht
  have m0 := more_any r hr ⟨#[]⟩ (by decide) w ht
  have M := Lib.hid (more_any 0 (by decide) s hs w ht)
  have S := Lib.hid (sum_any s hs w ht)
  have j0 := join_yes r 0 0 hr (by decide) (by decide) w
  rw [show moreV 0 (⟨#[]⟩ : ByteArray).data.toList = 0 by decide +kernel] at s0
  rw [show moreV r (⟨#[]⟩ : ByteArray).data.toList = r from more_none r] at m0
  rw [show shN (8 * 0) r ^^^ 0 = r by rw [Nat.xor_zero]; rfl] at j0
  have S0 := Lib.hid s0
  have M0 := Lib.hid m0
  have J0 := Lib.hid j0
  clear ht s0 m0 j0
  unfold maxLen at hs
  by_cases h : 20000 < s.size
  · go_enter Tryd.func9, Tryd.ntmps9
    go_wp2
    go_ret
    exact ⟨rfl, rfl⟩
  · by_cases h1 : n < 0 ∨ 1073741824 < n
    · have J := Lib.hid (join_no 0 r n h1 w)
      rcases h1 with h1 | h1
      all_goals
        go_enter Tryd.func9, Tryd.ntmps9
        go_wp2_with fail
        refine J0.out.mono ?_; rintro e w' ⟨rfl, rfl⟩
        go_wp2_with fail
        refine J.out.mono ?_; rintro e w' ⟨rfl, rfl⟩
        go_wp2_with fail
        refine S0.out.mono ?_; rintro e w' ⟨rfl, rfl⟩
        go_wp2_with fail
        refine M0.out.mono ?_; rintro e w' ⟨rfl, rfl⟩
        go_wp2_with fail
        refine M.out.mono ?_; rintro e w' ⟨rfl, rfl⟩
        go_wp2_with fail
        refine S.out.mono ?_; rintro e w' ⟨rfl, rfl⟩
        go_wp2_with fail
        refine AL.out.mono ?_; rintro e w' ⟨rfl, rfl⟩
        go_wp2
        go_ret
        first | exact ⟨rfl, rfl⟩ | exact ⟨ret_bool (by simp; omega), rfl⟩
    · obtain ⟨m, rfl⟩ := Int.eq_ofNat_of_zero_le (show 0 ≤ n by omega)
      have hm : m ≤ 1073741824 := by omega
      clear h1
      have j := join_yes 0 r m (by decide) hr hm w
      rw [shN_zero, Nat.zero_xor] at j
      have J := Lib.hid j
      clear j
      go_enter Tryd.func9, Tryd.ntmps9
      go_wp2_with fail
      refine J0.out.mono ?_; rintro e w' ⟨rfl, rfl⟩
      go_wp2_with fail
      refine J.out.mono ?_; rintro e w' ⟨rfl, rfl⟩
      go_wp2_with fail
      refine S0.out.mono ?_; rintro e w' ⟨rfl, rfl⟩
      go_wp2_with fail
      refine M0.out.mono ?_; rintro e w' ⟨rfl, rfl⟩
      go_wp2_with fail
      refine M.out.mono ?_; rintro e w' ⟨rfl, rfl⟩
      go_wp2_with fail
      refine S.out.mono ?_; rintro e w' ⟨rfl, rfl⟩
      go_wp2_with fail
      refine AL.out.mono ?_; rintro e w' ⟨rfl, rfl⟩
      go_wp2
      go_ret
      exact ⟨rfl, rfl⟩
end Go.Proofs.YtelnmkgilnkliaaDoor
