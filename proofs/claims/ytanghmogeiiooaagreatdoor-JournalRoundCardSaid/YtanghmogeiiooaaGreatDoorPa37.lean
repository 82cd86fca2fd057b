import Derived.Test.YtanghmogeiiooaaGreatDoorPa34
import Derived.Test.YtanghmogeiiooaaGreatDoorPa25
set_option linter.unusedVariables false
set_option linter.unusedSimpArgs false
set_option linter.constructorNameAsVariable false
/- Open; Replay without a device. -/
namespace Go.Proofs.YtanghmogeiiooaaGreatDoor
set_option linter.unusedVariables false
set_option linter.unusedSimpArgs false
open Go.RowKit

set_option maxHeartbeats 2000000 in
theorem jopen_nil (v : Value) (b l i la ma ml ta tl da : Int) (w : World) (h : NoDev v w) :
    Calls Tryz.prog 16 #[v, geo b l i la ma ml ta tl da] w fun e w' => e = .returned (.tuple #[.pointer none, .int .i64 1]) ∧ Below w.heap.size w w' := by
  have gr : Tryz.prog.stoodInHeld 87 = false := by kernel_rfl
  obtain ⟨p, rfl⟩ : ∃ p, v = .pointer p := by rcases h with rfl | ⟨d, rfl, _⟩ <;> exact ⟨_, rfl⟩
  obtain ⟨w1, hw1⟩ : ∃ w1, w.alloc (.cells (cellsG b l i la ma ml ta tl da) 33) = w1 := ⟨_, rfl⟩
  have b1 : Below w.heap.size w w1 := by rw [← hw1]; exact balloc1 _ _
  have G1 : GeoAt w.heap.size b l i la ma ml ta tl da w1 := by rw [← hw1]; exact GeoAt.new _ _ _ _ _ _ _ _ _ _
  have R := Lib.hid (ringof_nil (.pointer p) b l i la ma ml ta tl da w1 (h.kept1 b1))
  obtain ⟨c0, c1, c2, c3, c4, c5, c6, c7, c8⟩ := G1.cells
  have HW1 := Lib.hid hw1
  clear h hw1 G1
  go_enter Tryz.func16, Tryz.ntmps16
  go_wp2_with fail
  rw [HW1.out]
  refine R.out.mono ?_; rintro e w2 ⟨rfl, b2⟩
  have hb2 := bnext b1 b2
  clear R HW1 b2 c0 c1 c2 c3 c4 c5 c6 c7 c8
  go_wp2
  go_ret2
  exact ⟨rfl, balloc hb2 _⟩
set_option maxHeartbeats 2000000 in
theorem jreplay_nil (v : Value) (b l i la ma ml ta tl da : Int) (w : World) (h : NoDev v w) :
    Calls Tryz.prog 13 #[v, geo b l i la ma ml ta tl da] w fun e w' => e = .returned (.tuple #[.slice none 0 0, .int .i64 1]) ∧ Below w.heap.size w w' := by
  have gr : Tryz.prog.stoodInHeld 87 = false := by kernel_rfl
  obtain ⟨p, rfl⟩ : ∃ p, v = .pointer p := by rcases h with rfl | ⟨d, rfl, _⟩ <;> exact ⟨_, rfl⟩
  obtain ⟨w1, hw1⟩ : ∃ w1, w.alloc (.cells (cellsG b l i la ma ml ta tl da) 33) = w1 := ⟨_, rfl⟩
  have b1 : Below w.heap.size w w1 := by rw [← hw1]; exact balloc1 _ _
  have G1 : GeoAt w.heap.size b l i la ma ml ta tl da w1 := by rw [← hw1]; exact GeoAt.new _ _ _ _ _ _ _ _ _ _
  have R := Lib.hid (ringof_nil (.pointer p) b l i la ma ml ta tl da w1 (h.kept1 b1))
  obtain ⟨c0, c1, c2, c3, c4, c5, c6, c7, c8⟩ := G1.cells
  have HW1 := Lib.hid hw1
  clear h hw1 G1
  go_enter Tryz.func13, Tryz.ntmps13
  go_wp2_with fail
  rw [HW1.out]
  refine R.out.mono ?_; rintro e w2 ⟨rfl, b2⟩
  have hb2 := bnext b1 b2
  clear R HW1 b2 c0 c1 c2 c3 c4 c5 c6 c7 c8
  go_wp2
  go_ret2
  exact ⟨rfl, balloc hb2 _⟩
set_option maxRecDepth 100000 in
set_option maxHeartbeats 2000000 in
theorem jopen_none (d lo hi : Nat) (b l i m t : Nat) (hok : okN b l i m t) {S : St} (hn : S.n = b) (w : World) (h : DevAt d lo hi S w) (hk : logOf S b 1 l = none) :
    Calls Tryz.prog 16 #[.pointer (some ⟨d, 0, none⟩), lay b l i m t] w fun e w' => e = .returned (.tuple #[.pointer none, .int .i64 80]) ∧ Below w.heap.size w w' := by
  have mixed : Tryz.prog.follows .mixedOrders = true := by kernel_rfl
  have gr : Tryz.prog.stoodInHeld 87 = false := by kernel_rfl
  have gp : Tryz.prog.stoodInHeld 91 = false := by kernel_rfl
  have hl : 128 ≤ (l : Int) ∧ (l : Int) ≤ 512 := by have := hok.2.2.1; have := hok.2.2.2.1; omega
  obtain ⟨w1, hw1⟩ : ∃ w1, w.alloc (.cells (cellsG b l i 1 (1 + l) m (1 + l + m) t (1 + l + m + t)) 33) = w1 := ⟨_, rfl⟩
  have b1 : Below w.heap.size w w1 := by rw [← hw1]; exact balloc1 _ _
  have G1 : GeoAt w.heap.size b l i 1 (1 + l) m (1 + l + m) t (1 + l + m + t) w1 := by rw [← hw1]; exact GeoAt.new _ _ _ _ _ _ _ _ _ _
  have D1 := h.kept1 b1
  have R := Lib.hid (ringof_ok d lo hi b l i m t hok hn w1 D1)
  obtain ⟨c0, c1, c2, c3, c4, c5, c6, c7, c8⟩ := G1.cells
  have hdh := h.top
  have HW1 := Lib.hid hw1
  have HD1 := Lib.hid D1
  have TX := Lib.hid fun W (hW : DevAt d lo hi S W) => transactions_none d lo hi b l i 1 (1 + l) m (1 + l + m) t (1 + l + m + t) hl W hW hk
  clear h hw1 G1 D1 hok hn
  go_enter Tryz.func16, Tryz.ntmps16
  go_wp2_with fail
  rw [HW1.out]
  refine R.out.mono ?_; rintro e w2 ⟨rfl, b2⟩
  have hb2 := bnext b1 b2
  have D2 := HD1.out.kept1 b2
  obtain ⟨rb, hrb⟩ : ∃ rb, w2.heap.size = rb := ⟨_, rfl⟩
  obtain ⟨w3, hw3⟩ : ∃ w3, w2.alloc (.cells (ringC (some ⟨d, 0, none⟩) b l i 1 (1 + l) m (1 + l + m) t (1 + l + m + t)) 87) = w3 := ⟨_, rfl⟩
  have R3 : RingAt rb (some ⟨d, 0, none⟩) b l i 1 (1 + l) m (1 + l + m) t (1 + l + m + t) w3 := by rw [← hw3, ← hrb]; exact RingAt.new _ _ _ _ _ _ _ _ _ _ _
  have D3 : DevAt d lo hi S w3 := by rw [← hw3]; exact D2.kept1 (balloc1 _ _)
  have hb3 : Below w.heap.size w w3 := by rw [← hw3]; exact balloc hb2 _
  have hrbh : hi ≤ rb := by have := hb2.size; omega
  obtain ⟨c0, c1, c2, c3, c4, c5, c6, c7, c8, c9⟩ := R3.cells
  have HW3 := Lib.hid hw3
  have HRB := Lib.hid hrb
  have HR3 := Lib.hid R3
  have HD3 := Lib.hid D3
  have HB3 := Lib.hid hb3
  clear R HW1 b2 HD1 hb2 D2 hw3 hrb R3 D3 hb3 b1
  go_wp2_with fail
  rw [HW3.out]
  try rw [HRB.out]
  refine (TX.out _ HD3.out).mono ?_; rintro e w4 ⟨rfl, b4⟩
  have hb4 := bnext HB3.out b4
  clear TX HW3 HRB HR3 HD3 HB3 b4 c0 c1 c2 c3 c4 c5 c6 c7 c8 c9
  go_wp2
  go_ret2
  exact ⟨rfl, balloc hb4 _⟩
set_option maxRecDepth 100000 in
set_option maxHeartbeats 2000000 in
theorem jopen_ok (d lo hi : Nat) (b l i m t : Nat) (hok : okN b l i m t) {S : St} (hn : S.n = b) (w : World) (h : DevAt d lo hi S w) (ht : Tab w) (r : List Tx × Nat) (hk : logOf S b 1 l = some r) :
    Calls Tryz.prog 16 #[.pointer (some ⟨d, 0, none⟩), lay b l i m t] w fun e w' => ∃ g, e = .returned (.tuple #[.pointer (some ⟨g, 0, none⟩), .int .i64 0]) ∧ w.heap.size ≤ g ∧
      LogAt g d b l i 1 (1 + l) m (1 + l + m) t (1 + l + m + t) ((((readR (rText S 1)).pos.toNat + r.2) % ((l : Int) - 1).toNat : Nat) : Int) ((((l : Int) - 1).toNat - r.2 : Nat) : Int) (((readR (rText S 1)).seq + r.1.length) % 18446744073709551616) 0 w' ∧ Below w.heap.size w w' := by
  have mixed : Tryz.prog.follows .mixedOrders = true := by kernel_rfl
  have gr : Tryz.prog.stoodInHeld 87 = false := by kernel_rfl
  have gp : Tryz.prog.stoodInHeld 91 = false := by kernel_rfl
  have hl : 128 ≤ (l : Int) ∧ (l : Int) ≤ 512 := by have := hok.2.2.1; have := hok.2.2.2.1; omega
  obtain ⟨w1, hw1⟩ : ∃ w1, w.alloc (.cells (cellsG b l i 1 (1 + l) m (1 + l + m) t (1 + l + m + t)) 33) = w1 := ⟨_, rfl⟩
  have b1 : Below w.heap.size w w1 := by rw [← hw1]; exact balloc1 _ _
  have G1 : GeoAt w.heap.size b l i 1 (1 + l) m (1 + l + m) t (1 + l + m + t) w1 := by rw [← hw1]; exact GeoAt.new _ _ _ _ _ _ _ _ _ _
  have D1 := h.kept1 b1
  have R := Lib.hid (ringof_ok d lo hi b l i m t hok hn w1 D1)
  obtain ⟨c0, c1, c2, c3, c4, c5, c6, c7, c8⟩ := G1.cells
  have hdh := h.top
  have HW1 := Lib.hid hw1
  have HD1 := Lib.hid D1
  have h0 : 0 < w.heap.size := (cell_flat (ht 0 (by decide))).2
  have TX := Lib.hid fun W (hW : DevAt d lo hi S W) (hT : Tab W) => transactions_ok d lo hi b l i 1 (1 + l) m (1 + l + m) t (1 + l + m + t) hl (by omega) W hW hT r hk
  have HT := Lib.hid ht
  clear h hw1 G1 D1 hok hn
  go_enter Tryz.func16, Tryz.ntmps16
  go_wp2_with fail
  rw [HW1.out]
  refine R.out.mono ?_; rintro e w2 ⟨rfl, b2⟩
  have hb2 := bnext b1 b2
  have D2 := HD1.out.kept1 b2
  obtain ⟨rb, hrb⟩ : ∃ rb, w2.heap.size = rb := ⟨_, rfl⟩
  obtain ⟨w3, hw3⟩ : ∃ w3, w2.alloc (.cells (ringC (some ⟨d, 0, none⟩) b l i 1 (1 + l) m (1 + l + m) t (1 + l + m + t)) 87) = w3 := ⟨_, rfl⟩
  have R3 : RingAt rb (some ⟨d, 0, none⟩) b l i 1 (1 + l) m (1 + l + m) t (1 + l + m + t) w3 := by rw [← hw3, ← hrb]; exact RingAt.new _ _ _ _ _ _ _ _ _ _ _
  have D3 : DevAt d lo hi S w3 := by rw [← hw3]; exact D2.kept1 (balloc1 _ _)
  have hb3 : Below w.heap.size w w3 := by rw [← hw3]; exact balloc hb2 _
  have hrbh : hi ≤ rb := by have := hb2.size; omega
  obtain ⟨c0, c1, c2, c3, c4, c5, c6, c7, c8, c9⟩ := R3.cells
  have HT3 : Hid (Tab w3) := Lib.hid fun i hi => hb3.cell (p := ⟨0, i, none⟩) h0 |>.trans (HT.out i hi)
  have HW3 := Lib.hid hw3
  have HRB := Lib.hid hrb
  have HR3 := Lib.hid R3
  have HD3 := Lib.hid D3
  have HB3 := Lib.hid hb3
  clear R HW1 b2 HD1 hb2 D2 hw3 hrb R3 D3 hb3 b1
  go_wp2_with fail
  rw [HW3.out]
  try rw [HRB.out]
  refine (TX.out _ HD3.out HT3.out).mono ?_; rintro e w4 ⟨vt, rfl, hvt, b4⟩
  have hb4 := bnext HB3.out b4
  unfold endV
  have c := HR3.out.kept1 b4
  obtain ⟨c0, c1, c2, c3, c4, c5, c6, c7, c8, c9⟩ := c.cells
  clear TX HW3 HRB HR3 HD3 HB3 b4
  obtain ⟨ps, hps⟩ : ∃ ps, ((((readR (rText S 1)).pos.toNat + r.2) % ((l : Int) - 1).toNat : Nat) : Int) = ps := ⟨_, rfl⟩
  obtain ⟨pl, hpl⟩ : ∃ pl, ((((l : Int) - 1).toNat - r.2 : Nat) : Int) = pl := ⟨_, rfl⟩
  obtain ⟨pq, hpq⟩ : ∃ pq, (((readR (rText S 1)).seq + r.1.length) % 18446744073709551616) = pq := ⟨_, rfl⟩
  rw [hps, hpl, hpq]
  have HPS := Lib.hid hps
  have HPL := Lib.hid hpl
  have HPQ := Lib.hid hpq
  clear hps hpl hpq
  obtain ⟨w5, hw5⟩ : ∃ w5, w4.alloc (.cells (placeC ps pl pq) 91) = w5 := ⟨_, rfl⟩
  have P5 : Blk w4.heap.size (placeC ps pl pq) 91 w5 := by rw [← hw5]; exact Blk.new _ _ _
  have hb5 : Below w.heap.size w w5 := by rw [← hw5]; exact balloc hb4 _
  have hs5 : w5.heap.size = w4.heap.size + 1 := by rw [← hw5, size_alloc]
  obtain ⟨pa, hpa⟩ : ∃ pa, w4.heap.size = pa := ⟨_, rfl⟩
  rw [hpa] at P5
  have k5 : Below w4.heap.size w4 w5 := by rw [← hw5]; exact balloc1 _ _
  have HK5 := Lib.hid ((c.kept1 k5).cells)
  obtain ⟨w6, hw6⟩ : ∃ w6, w5.alloc (.cells (logC d b l i 1 (1 + l) m (1 + l + m) t (1 + l + m + t) none ps pl pq 0) 102) = w6 := ⟨_, rfl⟩
  have HW5 := Lib.hid hw5
  have HW6 := Lib.hid hw6
  have HPA := Lib.hid hpa
  have HL6 : Hid (Blk w5.heap.size (logC d b l i 1 (1 + l) m (1 + l + m) t (1 + l + m + t) none ps pl pq 0) 102 w6) := Lib.hid (by rw [← hw6]; exact Blk.new _ _ _)
  have HB6 : Hid (Below w.heap.size w w6) := Lib.hid (by rw [← hw6]; exact balloc hb5 _)
  clear c0 c1 c2 c3 c4 c5 c6 c7 c8 c9 c hw5 hw6 k5 hpa
  obtain ⟨c0, c1, c2, c3, c4, c5, c6, c7, c8, c9⟩ := HK5.out
  have p0 := P5.cell 0
  have p1 := P5.cell 1
  have p2 := P5.cell 2
  clear HK5 P5
  go_upto_region 7 with fail
  rw [HW5.out]
  try rw [HPA.out]
  go_wp2_with fail
  go_ret2
  refine ⟨w4.heap.size + 1, rfl, by have := hb4.size; omega, ?_, balloc hb5 _⟩
  rw [HPS.out, HPL.out, HPQ.out, ← hs5]
  exact Blk.new _ _ _
end Go.Proofs.YtanghmogeiiooaaGreatDoor
