/- made: a device of 1 to 16 blocks, and a cache of 1 to 8 buffers. -/
import Derived.Test.YticbielifcjpdaaCAlive
namespace Go.Proofs.Yticbielifcjpdaa
set_option linter.unusedVariables false
open Go.RowKit

set_option maxHeartbeats 4000000 in
theorem cmade_any (s0 s1 : Nat) (h0 : s0 < 256) (h1 : s1 < 256) (w : World) :
    Calls Try.prog 21 #[.agg #[.int .u8 (s0 : Int), .int .u8 (s1 : Int)]] w fun e w' => ∃ d hi c M, e = .returned (.tuple #[.pointer (some ⟨d, 0, none⟩), cV c]) ∧ Run c d w.heap.size hi M 0 ⟨freshSt (1 + s0 % 16) zeroB, 1 + s1 % 8, []⟩ w w' := by
  have b1 := balloc1 w (.cells #[.int .u8 (s0 : Int), .int .u8 (s1 : Int)] 50)
  have HA := Blk.new #[.int .u8 (s0 : Int), .int .u8 (s1 : Int)] 50 w
  have N := new_yes (1 + s0 % 16) (by omega) (by omega) (w.alloc (.cells #[.int .u8 (s0 : Int), .int .u8 (s1 : Int)] 50))
  have e0 : ((1 + s0 % 16 : Nat) : Int) = 1 + (s0 : Int) % 16 := by omega
  have e1 : ((1 + s1 % 8 : Nat) : Int) = 1 + (s1 : Int) % 8 := by omega
  rw [e0] at N
  have N := Lib.hid N
  have NC := fun d lo hi w1 (h : DevAt d lo hi (freshSt (1 + s0 % 16) zeroB) w1) => cnew_yes (most := 1 + s1 % 8) (by omega) (by omega) w1 h
  rw [e1] at NC
  have NC := Lib.hid NC
  have HB := Lib.hid b1
  have HK := Lib.hid HA
  clear b1 HA e0 e1
  go_enter Try.func21, Try.ntmps21
  go_wp2_with fail
  refine N.out.mono ?_; rintro e w1 ⟨d, rfl, hd, hb⟩
  have hbb := bnext HB.out hb
  have hlo : w.heap.size ≤ (w.alloc (.cells #[.int .u8 (s0 : Int), .int .u8 (s1 : Int)] 50)).heap.size := by rw [size_alloc]; omega
  have hd2 := hd.widen hlo (Nat.le_refl _) (Nat.le_refl _)
  have C := Lib.hid (NC.out d w.heap.size w1.heap.size w1 hd2)
  have hk := HK.out.kept1 hb
  have q1 : w1.cell? ⟨w.heap.size, 1, none⟩ = some (.int .u8 (s1 : Int)) := hk.cell 1
  have HBB := Lib.hid hbb
  clear N NC hd hb hd2 hk hlo hbb HB HK
  go_wp2_with fail
  refine C.out.mono ?_; rintro e w2 ⟨c, M, rfl, hc, b, hy⟩
  have HR : Hid (Run c d w.heap.size w1.heap.size M 0 ⟨freshSt (1 + s0 % 16) zeroB, 1 + s1 % 8, []⟩ w w2) := Lib.hid ⟨hc, HBB.out.trans (b.mono HBB.out.size), fun k hk => Nat.le_trans HBB.out.size (hy k hk)⟩
  clear C hc b hy q1
  go_wp2
  go_ret2
  exact ⟨d, _, c, M, rfl, HR.out⟩
end Go.Proofs.Yticbielifcjpdaa
