/- The contracts of sums.Sum, Join, of the document's, and of the examples. -/
import Derived.Test.YtelnmkgilnkliaaDoorSMore
namespace Go.Proofs.YtelnmkgilnkliaaDoor
open Go.RowKit

theorem ret_pair {a b c d : Value} (h1 : a = b) (h2 : c = d) : Ending.returned (.tuple #[a, c]) = .returned (.tuple #[b, d]) := by rw [h1, h2]

theorem sum_any (s : ByteArray) (hs : s.size ≤ maxLen) (w : World) (ht : Tab w) :
    Calls Tryd.prog 10 #[.string s] w fun e w' => e = .returned (.int .u32 (moreV 0 s.data.toList : Nat)) ∧ w = w' := by
  have M := Lib.hid (more_any 0 (by decide) s hs w ht)
  clear ht
  go_enter Tryd.func10, Tryd.ntmps10
  go_wp2_with fail
  refine M.out.mono ?_; rintro e w' ⟨rfl, rfl⟩
  go_wp2
  go_ret
  exact ⟨rfl, rfl⟩

theorem rsum_any (s : ByteArray) (hs : s.size ≤ maxLen) (w : World) :
    Calls Tryd.prog 11 #[.string s] w fun e w' => e = .returned (.int .u32 (moreV 0 s.data.toList : Nat)) ∧ w = w' := by
  have M := Lib.hid (rmore_any 0 (by decide) s hs w)
  go_enter Tryd.func11, Tryd.ntmps11
  go_wp2_with fail
  refine M.out.mono ?_; rintro e w' ⟨rfl, rfl⟩
  go_wp2
  go_ret
  exact ⟨rfl, rfl⟩

theorem join_lt (a b n : Nat) (ha : a < 4294967296) (hb : b < 4294967296) : shN n a ^^^ b < 4294967296 := Nat.xor_lt_two_pow (n := 32) (shN_lt _ _ ha) hb

set_option maxHeartbeats 400000 in
theorem join_yes (a b n : Nat) (ha : a < 4294967296) (hb : b < 4294967296) (hn : n ≤ 1073741824) (w : World) :
    Calls Tryd.prog 15 #[.int .u32 a, .int .u32 b, .int .i64 n] w fun e w' => e = .returned (.tuple #[.int .u32 (shN (8 * n) a ^^^ b : Nat), .bool true]) ∧ w = w' := by
  have Z := Lib.hid (zeros_any a n ha hn w)
  have HX := Lib.hid (xor32 (shN (8 * n) a) b (shN_lt _ _ ha) hb)
  go_enter Tryd.func15, Tryd.ntmps15
  go_wp2_with fail
  refine Z.out.mono ?_; rintro e w' ⟨rfl, rfl⟩
  go_wp2
  go_ret2
  exact ⟨ret_pair (val_u32 HX.out) rfl, rfl⟩

set_option maxHeartbeats 400000 in
theorem join_no (a b : Nat) (n : Int) (hn : n < 0 ∨ 1073741824 < n) (w : World) :
    Calls Tryd.prog 15 #[.int .u32 a, .int .u32 b, .int .i64 n] w fun e w' => e = .returned (.tuple #[.int .u32 0, .bool false]) ∧ w = w' := by
  rcases hn with hn | hn
  · go_enter Tryd.func15, Tryd.ntmps15
    go_wp2
    go_ret2
    exact ⟨rfl, rfl⟩
  · have h0 : 0 ≤ n := by omega
    go_enter Tryd.func15, Tryd.ntmps15
    go_wp2
    go_ret2
    exact ⟨rfl, rfl⟩

set_option maxHeartbeats 400000 in
theorem rjoin_yes (a b n : Nat) (ha : a < 4294967296) (hb : b < 4294967296) (hn : n ≤ 1073741824) (w : World) :
    Calls Tryd.prog 16 #[.int .u32 a, .int .u32 b, .int .i64 n] w fun e w' => e = .returned (.tuple #[.int .u32 (shN (8 * n) a ^^^ b : Nat), .bool true]) ∧ w = w' := by
  have ST := Lib.hid step_any
  go_enter Tryd.func16, Tryd.ntmps16
  go_wp2
  go_loop [0, 8] (fun r i => ∃ k R : Nat, k ≤ n ∧ R < 4294967296 ∧ i = .int .i64 k ∧ r = .int .u32 R ∧ Hid (shN (8 * k) a = R)) (fun _ i => n - (intOf i).toNat)
  case atStart => exact ⟨0, a, by omega, ha, rfl, rfl, Lib.hid rfl⟩
  case round =>
    obtain ⟨k, R, hk, hR, rfl, rfl, HR⟩ := hrel
    by_cases hlt : k < n
    · have s1 := ST.out R 0 hR (by decide)
      rw [Nat.xor_zero] at s1
      have S1 := Lib.hid s1
      have hl : shN 8 R < 4294967296 := shN_lt _ _ hR
      have hend : Hid (shN (8 * (k + 1)) a = shN 8 R) := by
        show _ = _
        rw [Nat.mul_succ, shN_add, HR.out]
      clear s1
      clear ST
      go_wp2_with fail
      refine (S1.out _).mono ?_; rintro e w' ⟨rfl, rfl⟩
      go_wp2
      exact ⟨⟨k + 1, _, by omega, hl, by go_num, rfl, hend⟩, by simp [intOf]; omega⟩
    · obtain rfl : k = n := by omega
      have HM := Lib.hid (xor32 R b hR hb)
      clear ST
      go_wp2
      go_ret2
      exact ⟨ret_pair (val_u32 (by rw [HR.out]; exact HM.out)) rfl, rfl⟩

set_option maxHeartbeats 400000 in
theorem rjoin_no (a b : Nat) (n : Int) (hn : n < 0 ∨ 1073741824 < n) (w : World) :
    Calls Tryd.prog 16 #[.int .u32 a, .int .u32 b, .int .i64 n] w fun e w' => e = .returned (.tuple #[.int .u32 0, .bool false]) ∧ w = w' := by
  rcases hn with hn | hn
  · go_enter Tryd.func16, Tryd.ntmps16
    go_wp2
    go_ret2
    exact ⟨rfl, rfl⟩
  · have h0 : 0 ≤ n := by omega
    go_enter Tryd.func16, Tryd.ntmps16
    go_wp2
    go_ret2
    exact ⟨rfl, rfl⟩

theorem ex1 : moreV 0 [49, 50, 51, 52] = 2615402659 := by decide +kernel
theorem ex2 : moreV 0 [53, 54, 55, 56, 57] = 320708720 := by decide +kernel
theorem ex3 : shN (8 * 5) 2615402659 ^^^ 320708720 = 3421780262 := by decide +kernel
theorem ex4 : moreV 0 [49, 50, 51, 52, 53, 54, 55, 56, 57] = 3421780262 := by decide +kernel
theorem ex5 : moreV 0 [0] = 3523407757 := by decide +kernel
theorem ex6 : moreV 2615402659 [53, 54, 55, 56, 57] = 3421780262 := by decide +kernel

set_option maxHeartbeats 400000 in
theorem alive_any (w : World) (ht : Tab w) :
    Calls Tryd.prog 14 #[] w fun e w' => e = .returned (.bool true) ∧ w = w' := by
  have s1 := sum_any ⟨#[49, 50, 51, 52]⟩ (by decide) w ht
  rw [ex1] at s1
  have s2 := sum_any ⟨#[53, 54, 55, 56, 57]⟩ (by decide) w ht
  rw [ex2] at s2
  have j1 := join_yes 2615402659 320708720 5 (by decide) (by decide) (by decide) w
  rw [ex3] at j1
  have j2 := join_no 1 2 (-1) (by decide) w
  have s3 := sum_any ⟨#[49, 50, 51, 52, 53, 54, 55, 56, 57]⟩ (by decide) w ht
  rw [ex4] at s3
  have s4 := sum_any ⟨#[0]⟩ (by decide) w ht
  rw [ex5] at s4
  have m1 := more_any 2615402659 (by decide) ⟨#[53, 54, 55, 56, 57]⟩ (by decide) w ht
  rw [ex6] at m1
  have S1 := Lib.hid s1
  have S2 := Lib.hid s2
  have S3 := Lib.hid s3
  have S4 := Lib.hid s4
  have J1 := Lib.hid j1
  have J2 := Lib.hid j2
  have M1 := Lib.hid m1
  clear s1 s2 s3 s4 j1 j2 m1 ht
  go_enter Tryd.func14, Tryd.ntmps14
  go_wp2_with fail
  refine S1.out.mono ?_; rintro e w' ⟨rfl, rfl⟩
  go_wp2_with fail
  refine S2.out.mono ?_; rintro e w' ⟨rfl, rfl⟩
  go_wp2_with fail
  refine J1.out.mono ?_; rintro e w' ⟨rfl, rfl⟩
  go_wp2_with fail
  refine J2.out.mono ?_; rintro e w' ⟨rfl, rfl⟩
  go_wp2_with fail
  refine S3.out.mono ?_; rintro e w' ⟨rfl, rfl⟩
  go_wp2_with fail
  refine S4.out.mono ?_; rintro e w' ⟨rfl, rfl⟩
  go_wp2_with fail
  refine M1.out.mono ?_; rintro e w' ⟨rfl, rfl⟩
  go_wp2
  go_ret
  exact ⟨rfl, rfl⟩
end Go.Proofs.YtelnmkgilnkliaaDoor
