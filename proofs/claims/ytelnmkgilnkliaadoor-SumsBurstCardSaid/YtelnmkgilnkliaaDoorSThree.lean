/- The walk of SumsThree. -/
import Derived.Test.YtelnmkgilnkliaaDoorSLaws
namespace Go.Proofs.YtelnmkgilnkliaaDoor
open Go.RowKit

theorem heap_pos {w : World} (h : Tab w) : 0 < w.heap.size := by
  have h0 := h 0 (by decide)
  by_cases hz : w.heap.size = 0
  · have : w.heap[0]? = none := Array.getElem?_eq_none (by omega)
    simp [World.cell?, this] at h0
  · omega
theorem tab_below {w w1 : World} (h : Tab w) (hb : Below w.heap.size w w1) : Tab w1 := fun i hi => by
  rw [hb.cell (p := ⟨0, i, none⟩) (heap_pos h)]; exact h i hi
theorem tab_alloc {w : World} (h : Tab w) (o : Obj) : Tab (w.alloc o) := tab_below h ((Below.refl _ _).alloc (Nat.le_refl _) o)

theorem three_eq (a b c n m : Nat) : shN (8 * (n + m)) a ^^^ (shN (8 * m) b ^^^ c) = shN (8 * m) (shN (8 * n) a ^^^ b) ^^^ c := by
  rw [shN_xor, ← shN_add, Nat.mul_add]; ac_rfl

set_option maxHeartbeats 400000 in
theorem three_walk (a b c : Nat) (ha : a < 4294967296) (hb : b < 4294967296) (hc : c < 4294967296) (n m : Int) (w : World) (ht : Tab w) :
    Calls Tryd.prog 6 #[.agg #[.int .u32 a, .int .u32 b, .int .u32 c], .int .i64 n, .int .i64 m] w fun e w' => e = .returned (.bool true) ∧ Below w.heap.size w w' := by
  have hbox : Below w.heap.size w (w.alloc (.cells #[.int .u32 a, .int .u32 b, .int .u32 c] 31)) := (Below.refl _ _).alloc (Nat.le_refl _) _
  have AL := Lib.hid (alive_any _ (tab_below ht hbox))
  clear ht
  by_cases h : n < 0 ∨ m < 0 ∨ 536870912 < n ∨ 536870912 < m
  · by_cases h1 : n < 0
    · go_enter Tryd.func6, Tryd.ntmps6
      go_wp2_with fail
      refine AL.out.mono ?_; rintro e w' ⟨rfl, rfl⟩
      go_wp2
      go_ret
      exact ⟨rfl, hbox⟩
    · by_cases h2 : m < 0
      · have h1' : 0 ≤ n := by omega
        clear h h1
        go_enter Tryd.func6, Tryd.ntmps6
        go_wp2_with fail
        refine AL.out.mono ?_; rintro e w' ⟨rfl, rfl⟩
        go_wp2
        go_ret
        exact ⟨rfl, hbox⟩
      · have h1' : 0 ≤ n := by omega
        have h2' : 0 ≤ m := by omega
        by_cases h3 : 536870912 < n
        · clear h h1 h2
          go_enter Tryd.func6, Tryd.ntmps6
          go_wp2_with fail
          refine AL.out.mono ?_; rintro e w' ⟨rfl, rfl⟩
          go_wp2
          go_ret
          exact ⟨rfl, hbox⟩
        · have h4 : 536870912 < m := by omega
          have h3' : n ≤ 536870912 := by omega
          clear h h1 h2 h3
          go_enter Tryd.func6, Tryd.ntmps6
          go_wp2_with fail
          refine AL.out.mono ?_; rintro e w' ⟨rfl, rfl⟩
          go_wp2
          go_ret
          exact ⟨rfl, hbox⟩
  · obtain ⟨x, rfl⟩ := Int.eq_ofNat_of_zero_le (show 0 ≤ n by omega)
    obtain ⟨y, rfl⟩ := Int.eq_ofNat_of_zero_le (show 0 ≤ m by omega)
    have hx : x ≤ 536870912 := by omega
    have hy : y ≤ 536870912 := by omega
    clear h
    have j1 := join_yes a b x ha hb (by omega) (w.alloc (.cells #[.int .u32 a, .int .u32 b, .int .u32 c] 31))
    have j3 := join_yes b c y hb hc (by omega) (w.alloc (.cells #[.int .u32 a, .int .u32 b, .int .u32 c] 31))
    have l1 := join_lt a b (8 * x) ha hb
    have l3 := join_lt b c (8 * y) hb hc
    have j4 := join_yes a (shN (8 * y) b ^^^ c) (x + y) ha l3 (by omega) (w.alloc (.cells #[.int .u32 a, .int .u32 b, .int .u32 c] 31))
    rw [three_eq, Int.natCast_add] at j4
    have j2 := join_yes (shN (8 * x) a ^^^ b) c y l1 hc (by omega) (w.alloc (.cells #[.int .u32 a, .int .u32 b, .int .u32 c] 31))
    have J1 := Lib.hid j1
    have J2 := Lib.hid j2
    have J3 := Lib.hid j3
    have J4 := Lib.hid j4
    clear j1 j2 j3 j4 l1 l3
    go_enter Tryd.func6, Tryd.ntmps6
    go_wp2_with fail
    refine J1.out.mono ?_; rintro e w' ⟨rfl, rfl⟩
    go_wp2_with fail
    refine J2.out.mono ?_; rintro e w' ⟨rfl, rfl⟩
    go_wp2_with fail
    refine J3.out.mono ?_; rintro e w' ⟨rfl, rfl⟩
    go_wp2_with fail
    refine J4.out.mono ?_; rintro e w' ⟨rfl, rfl⟩
    go_wp2_with fail
    refine AL.out.mono ?_; rintro e w' ⟨rfl, rfl⟩
    go_wp2
    go_ret
    exact ⟨rfl, hbox⟩
end Go.Proofs.YtelnmkgilnkliaaDoor
