import Derived.Test.YtfllncliiihggaaGreatDoorPa08
set_option linter.unusedVariables false
set_option linter.unusedSimpArgs false
set_option linter.constructorNameAsVariable false
/- Size; missing, refused, Room, Next. -/
namespace Go.Proofs.YtfllncliiihggaaGreatDoor
set_option linter.unusedVariables false
open Go.RowKit

/-- how many blocks a transaction takes -/
def sizeT (nc nr : Nat) : Nat := (nr + 28 - 1) / 28 + (nc + 24 - 1) / 24 + nc + 1
set_option maxRecDepth 100000 in
set_option maxHeartbeats 4000000 in
theorem size_any (ac ar : Option Addr) (nc nr cc cr : Nat) (hc : nc ≤ 1000000) (hr : nr ≤ 1000000) (w : World) :
    Calls Tryz.prog 26 #[.agg #[.slice ac nc cc, .slice ar nr cr]] w fun e w' => e = .returned (.int .i64 (sizeT nc nr : Int)) ∧ Below w.heap.size w w' := by
  have mixed : Tryz.prog.follows .mixedOrders = true := by kernel_rfl
  have G1 := fun w => jgroups_any nr 28 (by omega) (by omega) (by omega) w
  have G2 := fun w => jgroups_any nc 24 (by omega) (by omega) (by omega) w
  unfold sizeT
  have h1 : (nr + 28 - 1) / 28 ≤ nr + 28 - 1 := Nat.div_le_self _ _
  have h2 : (nc + 24 - 1) / 24 ≤ nc + 24 - 1 := Nat.div_le_self _ _
  obtain ⟨x, hx⟩ : ∃ x, (nr + 28 - 1) / 28 = x := ⟨_, rfl⟩
  obtain ⟨y, hy⟩ : ∃ y, (nc + 24 - 1) / 24 = y := ⟨_, rfl⟩
  rw [hx] at G1 h1
  rw [hy] at G2 h2
  rw [hx, hy]
  clear hx hy
  have H1 : Hid (∀ w, Calls Tryz.prog 54 #[.int .i64 (nr : Int), .int .i64 28] w fun e w' => e = .returned (.int .i64 (x : Int)) ∧ Below w.heap.size w w') := Lib.hid fun w => (G1 w).mono fun e w' q => ⟨q.1, by rw [← q.2]; exact Below.refl _ _⟩
  have H2 : Hid (∀ w, Calls Tryz.prog 54 #[.int .i64 (nc : Int), .int .i64 24] w fun e w' => e = .returned (.int .i64 (y : Int)) ∧ Below w.heap.size w w') := Lib.hid fun w => (G2 w).mono fun e w' q => ⟨q.1, by rw [← q.2]; exact Below.refl _ _⟩
  clear G1 G2
  obtain ⟨w1, hw1⟩ : ∃ w1, w.alloc (.cells #[.slice ac nc cc, .slice ar nr cr] 64) = w1 := ⟨_, rfl⟩
  have T1 : Blk w.heap.size #[.slice ac nc cc, .slice ar nr cr] 64 w1 := by rw [← hw1]; exact Blk.new _ _ _
  have hb1 : Below w.heap.size w w1 := by rw [← hw1]; exact balloc1 _ _
  have t0 : ∀ p : BelowP w1, p.to.cell? ⟨w.heap.size, 0, none⟩ = some (.slice ac nc cc) := fun p => (T1.kept1 p.h).cell 0
  have t1 : ∀ p : BelowP w1, p.to.cell? ⟨w.heap.size, 1, none⟩ = some (.slice ar nr cr) := fun p => (T1.kept1 p.h).cell 1
  have HW1 := Lib.hid hw1
  clear T1 hw1
  go_enter Tryz.func26, Tryz.ntmps26
  go_wp2
  rw [HW1.out]
  refine wp_region_quiet_below mixed (by kernel_rfl) ?_
  repeat (go_big_quiet_step (first | (go_at_call 54; first | refine calls_below (H1.out _) | refine calls_below (H2.out _))))
  refine wpQuiet_nil ?_
  intro w0q hw'
  obtain ⟨⟨wq, bq⟩, hw''⟩ := hw'
  have hw2 : wq = w0q := hw''.symm
  clear hw''
  subst hw2
  go_wp2
  go_ret
  exact ⟨by go_num, bnext hb1 bq⟩
end Go.Proofs.YtfllncliiihggaaGreatDoor
