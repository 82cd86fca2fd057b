import Derived.Test.YtknkjccimjfbbaaGreatDoorPa27
import Derived.Test.YtknkjccimjfbbaaGreatDoorPa31
import Derived.Deep.RegionHeld3
import Derived.Deep.RegionLaw
set_option linter.unusedVariables false
set_option linter.unusedSimpArgs false
set_option linter.constructorNameAsVariable false
/- Open; Replay without a device. -/
namespace Go.Proofs.YtknkjccimjfbbaaGreatDoor
set_option linter.unusedVariables false
set_option linter.unusedSimpArgs false
open Go.RowKit

set_option maxHeartbeats 2000000 in
theorem jopen_nil (v : Value) (b l i la ma ml ta tl da : Int) (w : World) (h : NoDev v w) :
    Calls Tryz.prog 9 #[v, geo b l i la ma ml ta tl da] w fun e w' => e = .returned (.tuple #[.pointer none, .int .i64 1]) ∧ Below w.heap.size w w' := by
  have gr : Tryz.prog.stoodInHeld 34 = false := by kernel_rfl
  obtain ⟨p, rfl⟩ : ∃ p, v = .pointer p := by rcases h with rfl | ⟨d, rfl, _⟩ <;> exact ⟨_, rfl⟩
  obtain ⟨w1, hw1⟩ : ∃ w1, w.alloc (.cells (cellsG b l i la ma ml ta tl da) 30) = w1 := ⟨_, rfl⟩
  have b1 : Below w.heap.size w w1 := by rw [← hw1]; exact balloc1 _ _
  have G1 : GeoAt w.heap.size b l i la ma ml ta tl da w1 := by rw [← hw1]; exact GeoAt.new _ _ _ _ _ _ _ _ _ _
  have R := Lib.hid (ringof_nil (.pointer p) b l i la ma ml ta tl da w1 (h.kept1 b1))
  obtain ⟨c0, c1, c2, c3, c4, c5, c6, c7, c8⟩ := G1.cells
  have HW1 := Lib.hid hw1
  clear h hw1 G1
  go_enter Tryz.func9, Tryz.ntmps9
  go_wp2_with fail
  rw [HW1.out]
  refine R.out.mono ?_; rintro e w2 ⟨rfl, b2⟩
  have hb2 := bnext b1 b2
  clear R HW1 b2 c0 c1 c2 c3 c4 c5 c6 c7 c8
  go_wp2
  go_ret2
  exact ⟨rfl, balloc hb2 _⟩
set_option maxHeartbeats 2000000 in
theorem jreplay_nil (v : Value) (b l i la ma ml ta tl da : Int) (w : World) (h : NoDev v w) :
    Calls Tryz.prog 8 #[v, geo b l i la ma ml ta tl da] w fun e w' => e = .returned (.tuple #[.slice none 0 0, .int .i64 1]) ∧ Below w.heap.size w w' := by
  have gr : Tryz.prog.stoodInHeld 34 = false := by kernel_rfl
  obtain ⟨p, rfl⟩ : ∃ p, v = .pointer p := by rcases h with rfl | ⟨d, rfl, _⟩ <;> exact ⟨_, rfl⟩
  obtain ⟨w1, hw1⟩ : ∃ w1, w.alloc (.cells (cellsG b l i la ma ml ta tl da) 30) = w1 := ⟨_, rfl⟩
  have b1 : Below w.heap.size w w1 := by rw [← hw1]; exact balloc1 _ _
  have G1 : GeoAt w.heap.size b l i la ma ml ta tl da w1 := by rw [← hw1]; exact GeoAt.new _ _ _ _ _ _ _ _ _ _
  have R := Lib.hid (ringof_nil (.pointer p) b l i la ma ml ta tl da w1 (h.kept1 b1))
  obtain ⟨c0, c1, c2, c3, c4, c5, c6, c7, c8⟩ := G1.cells
  have HW1 := Lib.hid hw1
  clear h hw1 G1
  go_enter Tryz.func8, Tryz.ntmps8
  go_wp2_with fail
  rw [HW1.out]
  refine R.out.mono ?_; rintro e w2 ⟨rfl, b2⟩
  have hb2 := bnext b1 b2
  clear R HW1 b2 c0 c1 c2 c3 c4 c5 c6 c7 c8
  go_wp2
  go_ret2
  exact ⟨rfl, balloc hb2 _⟩
set_option maxRecDepth 100000 in
set_option maxHeartbeats 2000000 in
theorem jopen_none (d lo hi : Nat) (b l i m t : Nat) (hok : okN b l i m t) {S : St} (hn : S.n = b) (w : World) (h : DevAt d lo hi S w) (hk : logOf S b 1 l = none) :
    Calls Tryz.prog 9 #[.pointer (some ⟨d, 0, none⟩), lay b l i m t] w fun e w' => e = .returned (.tuple #[.pointer none, .int .i64 80]) ∧ Below w.heap.size w w' := by
  have mixed : Tryz.prog.follows .mixedOrders = true := by kernel_rfl
  have gr : Tryz.prog.stoodInHeld 34 = false := by kernel_rfl
  have gp : Tryz.prog.stoodInHeld 37 = false := by kernel_rfl
  have hl : 128 ≤ (l : Int) ∧ (l : Int) ≤ 512 := by have := hok.2.2.1; have := hok.2.2.2.1; omega
  obtain ⟨w1, hw1⟩ : ∃ w1, w.alloc (.cells (cellsG b l i 1 (1 + l) m (1 + l + m) t (1 + l + m + t)) 30) = w1 := ⟨_, rfl⟩
  have b1 : Below w.heap.size w w1 := by rw [← hw1]; exact balloc1 _ _
  have G1 : GeoAt w.heap.size b l i 1 (1 + l) m (1 + l + m) t (1 + l + m + t) w1 := by rw [← hw1]; exact GeoAt.new _ _ _ _ _ _ _ _ _ _
  have D1 := h.kept1 b1
  have R := Lib.hid (ringof_ok d lo hi b l i m t hok hn w1 D1)
  obtain ⟨c0, c1, c2, c3, c4, c5, c6, c7, c8⟩ := G1.cells
  have hdh := h.top
  have HW1 := Lib.hid hw1
  have HD1 := Lib.hid D1
  have TX := Lib.hid fun W (hW : DevAt d lo hi S W) => transactions_none d lo hi b l i 1 (1 + l) m (1 + l + m) t (1 + l + m + t) hl W hW hk
  clear h hw1 G1 D1 hok hn
  go_enter Tryz.func9, Tryz.ntmps9
  go_wp2_with fail
  rw [HW1.out]
  refine R.out.mono ?_; rintro e w2 ⟨rfl, b2⟩
  have hb2 := bnext b1 b2
  have D2 := HD1.out.kept1 b2
  obtain ⟨rb, hrb⟩ : ∃ rb, w2.heap.size = rb := ⟨_, rfl⟩
  obtain ⟨w3, hw3⟩ : ∃ w3, w2.alloc (.cells (ringC (some ⟨d, 0, none⟩) b l i 1 (1 + l) m (1 + l + m) t (1 + l + m + t)) 34) = w3 := ⟨_, rfl⟩
  have R3 : RingAt rb (some ⟨d, 0, none⟩) b l i 1 (1 + l) m (1 + l + m) t (1 + l + m + t) w3 := by rw [← hw3, ← hrb]; exact RingAt.new _ _ _ _ _ _ _ _ _ _ _
  have D3 : DevAt d lo hi S w3 := by rw [← hw3]; exact D2.kept1 (balloc1 _ _)
  have hb3 : Below w.heap.size w w3 := by rw [← hw3]; exact balloc hb2 _
  have hrbh : hi ≤ rb := by have := hb2.size; omega
  obtain ⟨c0, c1, c2, c3, c4, c5, c6, c7, c8, c9⟩ := R3.cells
  have HW3 := Lib.hid hw3
  have HRB := Lib.hid hrb
  have HR3 := Lib.hid R3
  have HD3 := Lib.hid D3
  have HB3 := Lib.hid hb3
  clear R HW1 b2 HD1 hb2 D2 hw3 hrb R3 D3 hb3 b1
  go_wp2_with fail
  rw [HW3.out]
  try rw [HRB.out]
  refine (TX.out _ HD3.out).mono ?_; rintro e w4 ⟨rfl, b4⟩
  have hb4 := bnext HB3.out b4
  clear TX HW3 HRB HR3 HD3 HB3 b4 c0 c1 c2 c3 c4 c5 c6 c7 c8 c9
  go_wp2
  go_ret2
  exact ⟨rfl, balloc hb4 _⟩
set_option maxRecDepth 100000 in
set_option maxHeartbeats 2000000 in
theorem jopen_ok (d lo hi : Nat) (b l i m t : Nat) (hok : okN b l i m t) {S : St} (hn : S.n = b) (w : World) (h : DevAt d lo hi S w) (ht : Tab w) (r : List Tx × Nat) (hk : logOf S b 1 l = some r) :
    Calls Tryz.prog 9 #[.pointer (some ⟨d, 0, none⟩), lay b l i m t] w fun e w' => ∃ g, e = .returned (.tuple #[.pointer (some ⟨g, 0, none⟩), .int .i64 0]) ∧ w.heap.size ≤ g ∧
      LogAt g d b l i 1 (1 + l) m (1 + l + m) t (1 + l + m + t) ((((readR (rText S 1)).pos.toNat + r.2) % ((l : Int) - 1).toNat : Nat) : Int) ((((l : Int) - 1).toNat - r.2 : Nat) : Int) (((readR (rText S 1)).seq + r.1.length) % 18446744073709551616) 0 w' ∧ Below w.heap.size w w' := by
  have mixed : Tryz.prog.follows .mixedOrders = true := by kernel_rfl
  have gr : Tryz.prog.stoodInHeld 34 = false := by kernel_rfl
  have gp : Tryz.prog.stoodInHeld 37 = false := by kernel_rfl
  have hl : 128 ≤ (l : Int) ∧ (l : Int) ≤ 512 := by have := hok.2.2.1; have := hok.2.2.2.1; omega
  obtain ⟨w1, hw1⟩ : ∃ w1, w.alloc (.cells (cellsG b l i 1 (1 + l) m (1 + l + m) t (1 + l + m + t)) 30) = w1 := ⟨_, rfl⟩
  have b1 : Below w.heap.size w w1 := by rw [← hw1]; exact balloc1 _ _
  have G1 : GeoAt w.heap.size b l i 1 (1 + l) m (1 + l + m) t (1 + l + m + t) w1 := by rw [← hw1]; exact GeoAt.new _ _ _ _ _ _ _ _ _ _
  have D1 := h.kept1 b1
  have R := Lib.hid (ringof_ok d lo hi b l i m t hok hn w1 D1)
  obtain ⟨c0, c1, c2, c3, c4, c5, c6, c7, c8⟩ := G1.cells
  have hdh := h.top
  have HW1 := Lib.hid hw1
  have HD1 := Lib.hid D1
  have h0 : 0 < w.heap.size := (cell_flat (ht 0 (by decide))).2
  have TX := Lib.hid fun W (hW : DevAt d lo hi S W) (hT : Tab W) => transactions_ok d lo hi b l i 1 (1 + l) m (1 + l + m) t (1 + l + m + t) hl (by omega) W hW hT r hk
  have HT := Lib.hid ht
  clear h hw1 G1 D1 hok hn
  go_enter Tryz.func9, Tryz.ntmps9
  go_wp2_with fail
  rw [HW1.out]
  refine R.out.mono ?_; rintro e w2 ⟨rfl, b2⟩
  have hb2 := bnext b1 b2
  have D2 := HD1.out.kept1 b2
  obtain ⟨rb, hrb⟩ : ∃ rb, w2.heap.size = rb := ⟨_, rfl⟩
  obtain ⟨w3, hw3⟩ : ∃ w3, w2.alloc (.cells (ringC (some ⟨d, 0, none⟩) b l i 1 (1 + l) m (1 + l + m) t (1 + l + m + t)) 34) = w3 := ⟨_, rfl⟩
  have R3 : RingAt rb (some ⟨d, 0, none⟩) b l i 1 (1 + l) m (1 + l + m) t (1 + l + m + t) w3 := by rw [← hw3, ← hrb]; exact RingAt.new _ _ _ _ _ _ _ _ _ _ _
  have D3 : DevAt d lo hi S w3 := by rw [← hw3]; exact D2.kept1 (balloc1 _ _)
  have hb3 : Below w.heap.size w w3 := by rw [← hw3]; exact balloc hb2 _
  have hrbh : hi ≤ rb := by have := hb2.size; omega
  obtain ⟨c0, c1, c2, c3, c4, c5, c6, c7, c8, c9⟩ := R3.cells
  have HT3 : Hid (Tab w3) := Lib.hid fun i hi => hb3.cell (p := ⟨0, i, none⟩) h0 |>.trans (HT.out i hi)
  have HW3 := Lib.hid hw3
  have HRB := Lib.hid hrb
  have HR3 := Lib.hid R3
  have HD3 := Lib.hid D3
  have HB3 := Lib.hid hb3
  clear R HW1 b2 HD1 hb2 D2 hw3 hrb R3 D3 hb3 b1
  go_wp2_with fail
  rw [HW3.out]
  try rw [HRB.out]
  refine (TX.out _ HD3.out HT3.out).mono ?_; rintro e w4 ⟨vt, rfl, hvt, b4⟩
  have hb4 := bnext HB3.out b4
  unfold endV
  have c := HR3.out.kept1 b4
  obtain ⟨c0, c1, c2, c3, c4, c5, c6, c7, c8, c9⟩ := c.cells
  clear TX HW3 HRB HR3 HD3 HB3 b4
  obtain ⟨ps, hps⟩ : ∃ ps, ((((readR (rText S 1)).pos.toNat + r.2) % ((l : Int) - 1).toNat : Nat) : Int) = ps := ⟨_, rfl⟩
  obtain ⟨pl, hpl⟩ : ∃ pl, ((((l : Int) - 1).toNat - r.2 : Nat) : Int) = pl := ⟨_, rfl⟩
  obtain ⟨pq, hpq⟩ : ∃ pq, (((readR (rText S 1)).seq + r.1.length) % 18446744073709551616) = pq := ⟨_, rfl⟩
  rw [hps, hpl, hpq]
  have HPS := Lib.hid hps
  have HPL := Lib.hid hpl
  have HPQ := Lib.hid hpq
  clear hps hpl hpq
  obtain ⟨w5, hw5⟩ : ∃ w5, w4.alloc (.cells (placeC ps pl pq) 37) = w5 := ⟨_, rfl⟩
  have P5 : Blk w4.heap.size (placeC ps pl pq) 37 w5 := by rw [← hw5]; exact Blk.new _ _ _
  have hb5 : Below w.heap.size w w5 := by rw [← hw5]; exact balloc hb4 _
  have hs5 : w5.heap.size = w4.heap.size + 1 := by rw [← hw5, size_alloc]
  obtain ⟨pa, hpa⟩ : ∃ pa, w4.heap.size = pa := ⟨_, rfl⟩
  rw [hpa] at P5
  have k5 : Below w4.heap.size w4 w5 := by rw [← hw5]; exact balloc1 _ _
  have HK5 := Lib.hid ((c.kept1 k5).cells)
  obtain ⟨w6, hw6⟩ : ∃ w6, w5.alloc (.cells (logC d b l i 1 (1 + l) m (1 + l + m) t (1 + l + m + t) none ps pl pq 0) 40) = w6 := ⟨_, rfl⟩
  have HW5 := Lib.hid hw5
  have HW6 := Lib.hid hw6
  have HPA := Lib.hid hpa
  have HL6 : Hid (Blk w5.heap.size (logC d b l i 1 (1 + l) m (1 + l + m) t (1 + l + m + t) none ps pl pq 0) 40 w6) := Lib.hid (by rw [← hw6]; exact Blk.new _ _ _)
  have HB6 : Hid (Below w.heap.size w w6) := Lib.hid (by rw [← hw6]; exact balloc hb5 _)
  clear c0 c1 c2 c3 c4 c5 c6 c7 c8 c9 c hw5 hw6 k5 hpa
  obtain ⟨c0, c1, c2, c3, c4, c5, c6, c7, c8, c9⟩ := HK5.out
  have p0 := P5.cell 0
  have p1 := P5.cell 1
  have p2 := P5.cell 2
  clear HK5 P5
  go_upto_region 7 with fail
  rw [HW5.out]
  try rw [HPA.out]
  go_wp2_with fail
  go_ret2
  refine ⟨w4.heap.size + 1, rfl, by have := hb4.size; omega, ?_, balloc hb5 _⟩
  rw [HPS.out, HPL.out, HPQ.out, ← hs5]
  exact Blk.new _ _ _
end Go.Proofs.YtknkjccimjfbbaaGreatDoor

/- validChanges: may these changes be committed? -/
namespace Go.Proofs.YtknkjccimjfbbaaGreatDoor
set_option linter.unusedVariables false
set_option linter.unusedSimpArgs false
open Go.RowKit

/-- blocks of 128 bytes, whose numbers rise and are homes -/
def chgsOk (hm : Int → Bool) (L : List (Int × ByteArray)) : Bool := (L.all fun c => decide (c.2.size = 128)) && decide (riseTo hm (L.map Prod.fst) (L.map Prod.fst).length)
theorem chgsOk_no {hm : Int → Bool} {L : List (Int × ByteArray)} {k : Nat} (hk : k < L.length) (h : L[k].2.size ≠ 128) : chgsOk hm L = false := by
  unfold chgsOk
  rw [Bool.and_eq_false_iff]
  refine .inl (Bool.eq_false_iff.2 fun q => ?_)
  rw [List.all_eq_true] at q
  exact h (of_decide_eq_true (q _ (List.getElem_mem hk)))
theorem chgsOk_yes {hm : Int → Bool} {L : List (Int × ByteArray)} (h : ∀ j (hj : j < L.length), j < L.length → L[j].2.size = 128) : decide (riseTo hm (L.map Prod.fst) (L.map Prod.fst).length) = chgsOk hm L := by
  unfold chgsOk
  rw [List.all_eq_true.2 fun c hc => by obtain ⟨j, hj, rfl⟩ := List.getElem_of_mem hc; exact decide_eq_true (h j hj hj), Bool.true_and]
set_option maxRecDepth 100000 in
set_option maxHeartbeats 8000000 in
theorem validChanges_any (d : Option Addr) (b l i la ma ml ta tl da : Int) (hl : 128 ≤ l ∧ l ≤ 512) (hla : 0 ≤ la ∧ la ≤ 4096) (L : List (Int × ByteArray)) (hL : L.length ≤ 4000) (v : Value) (w : World) (hv : ChgsIn v L w) :
    Calls Tryz.prog 32 #[ringV d b l i la ma ml ta tl da, v] w fun e w' => e = .returned (.bool (chgsOk (hmB b la l) L)) ∧ Below w.heap.size w w' := by
  have mixed : Tryz.prog.follows .mixedOrders = true := by kernel_rfl
  have hvk := fun w' (hb : Below w.heap.size w w') => RowIn.kept hv hb
  obtain ⟨ad, cap, rfl, h1, h2, h3⟩ := hv.open
  have H3 := Lib.hid h3
  have CHG := Lib.hid (fun w' (hb : Below w.heap.size w w') => changed_any L hL (.slice ad L.length cap) w' (hvk w' hb))
  have RI := Lib.hid (fun v' w' h => rising_any d b l i la ma ml ta tl da hl hla (L.map Prod.fst) v' w' h)
  have hb0 := balloc1 w (.cells (ringC d b l i la ma ml ta tl da) 34)
  have R0 := RingAt.new d b l i la ma ml ta tl da w
  have HNO := Lib.hid (fun k hk h => chgsOk_no (hm := hmB b la l) (L := L) (k := k) hk h)
  have HYES := Lib.hid (fun h => chgsOk_yes (hm := hmB b la l) (L := L) h)
  obtain ⟨OK, hOK⟩ : ∃ OK, chgsOk (hmB b la l) L = OK := ⟨_, rfl⟩
  obtain ⟨RZ, hRZ⟩ : ∃ RZ, decide (riseTo (hmB b la l) (L.map Prod.fst) (L.map Prod.fst).length) = RZ := ⟨_, rfl⟩
  rw [hOK] at HNO HYES ⊢
  rw [hRZ] at RI HYES
  clear h3 hv hvk hOK hRZ
  go_enter Tryz.func32, Tryz.ntmps32
  go_wp2
  go_loopw [9] (fun q wr => ∃ k : Nat, q = .int .i64 k ∧ k ≤ L.length ∧ Hid (∀ j (hj : j < L.length), j < k → L[j].2.size = 128) ∧ RingAt w.heap.size d b l i la ma ml ta tl da wr ∧ Below w.heap.size w wr) (fun q _ => L.length - (intOf q).toNat)
  case atStart => exact ⟨0, rfl, Nat.zero_le _, Lib.hid (fun j _ hj => by omega), R0, hb0⟩
  case round =>
    clear R0 hb0
    obtain ⟨k, rfl, hk, HU, hR, hB⟩ := hrel
    by_cases hlt : k < L.length
    · obtain ⟨g, o, rfl, hg, hc⟩ := H3.out (by omega)
      obtain ⟨c0, c1⟩ := hc k hlt
      have c0 := (hB.cell (p := ⟨g, o + k * 2, none⟩) hg).trans c0
      have c1 := (hB.cell (p := ⟨g, o + k * 2 + 1, none⟩) hg).trans c1
      have HR1 := Lib.hid fun (o : Obj) => hR.kept1 (balloc1 wr o)
      have HB1 := Lib.hid fun (o : Obj) => balloc hB o
      by_cases hz : L[k].2.size = 128
      · have HN : Hid (∀ j (hj : j < L.length), j < k + 1 → L[j].2.size = 128) := Lib.hid fun j hj h => by
          by_cases e : j = k
          · subst e; exact hz
          · exact HU.out j hj (by omega)
        have t1 : ((L[k].2.size : Int) != 128) = false := by rw [bne_eq_false_iff_eq]; omega
        clear hc hR hB H3 hz
        generalize L[k] = c at *
        obtain ⟨cx, cs⟩ := c
        dsimp only at *
        go_wp2
        exact ⟨⟨k + 1, by go_num, by omega, HN, HR1.out _, HB1.out _⟩, by simp [intOf]; omega⟩
      · have HE := Lib.hid (HNO.out k hlt hz)
        have t1 : ((L[k].2.size : Int) != 128) = true := by rw [bne_iff_ne]; omega
        clear hc hR hB H3 hz
        generalize L[k] = c at *
        obtain ⟨cx, cs⟩ := c
        dsimp only at *
        go_wp2
        go_ret
        exact ⟨ret_bool HE.out.symm, HB1.out _⟩
    · obtain rfl : k = L.length := by omega
      have HE : Hid (RZ = OK) := Lib.hid (HYES.out HU.out)
      have hBd := hB.drew
      have hRd : RingAt w.heap.size d b l i la ma ml ta tl da wr.drew := hR
      obtain ⟨c0, c1, c2, c3, c4, c5, c6, c7, c8, c9⟩ := hR.cells
      clear H3 HU hB hR
      go_upto_region 7 with fail
      refine wp_region_held_drew (S := fun _ => True) mixed trivial (fun hHeld => ?_)
      clear hHeld
      refine wpAnyH_take (i := 1) (oi := _) (v := ?v91) rfl (by kernel_rfl) (by kernel_rfl) (by kernel_rfl) (fun _ _ _ h => h) (Or.inl ⟨by kernel_rfl, ?hy91⟩) trivial ?rest91
      case hy91 => (intro w9 hSw; clear hSw; go_simp; try with_reducible rfl)
      try simp only [Act.put, List.setIfInBounds_toArray, List.set_cons_zero, List.set_cons_succ]
      refine wpAnyH_ready (rs := [0, 2]) (by kernel_rfl) (by simp) ?_
      refine AllReadyH.cons (o := _) rfl (fun K hK => ?_) ?_
      · go_simp
        refine hK.out _ _ trivial (fun hHeld => ?_)
        clear hK K hHeld
        try simp only [Act.put, List.setIfInBounds_toArray, List.set_cons_zero, List.set_cons_succ]
        refine wpAnyH_ready (rs := [2]) (by kernel_rfl) (by simp) ?_
        refine AllReadyH.cons (o := _) rfl (fun K hK => ?_) ?_
        · go_simp
          refine (CHG.out _ hBd).mono ?_; rintro e wz ⟨vb, rfl, hvb, bz⟩
          dsimp only
          have HVB := Lib.hid (own_in hvb)
          have HB2 := Lib.hid (bnext hBd bz)
          clear hvb
          obtain ⟨z0, z1, z2, z3, z4, z5, z6, z7, z8, z9⟩ := (hRd.kept1 bz).cells
          clear bz
          refine hK.out _ _ trivial (fun hHeld => ?_)
          clear hK K hHeld
          try simp only [Act.put, List.setIfInBounds_toArray, List.set_cons_zero, List.set_cons_succ]
          refine wpAnyH_ready (rs := [3]) (by kernel_rfl) (by simp) ?_
          refine AllReadyH.cons (o := _) rfl (fun K hK => ?_) ?_
          · go_simp
            refine (RI.out _ _ HVB.out).mono ?_; rintro e wy ⟨rfl, bz⟩
            dsimp only
            have HB3 := Lib.hid (bnext HB2.out bz)
            clear bz
            refine hK.out _ _ trivial (fun hHeld => ?_)
            clear hK K hHeld
            try simp only [Act.put, List.setIfInBounds_toArray, List.set_cons_zero, List.set_cons_succ]
            refine wpAnyH_ready (rs := [4]) (by kernel_rfl) (by simp) ?_
            refine AllReadyH.cons (o := _) rfl (fun K hK => ?_) ?_
            · go_simp
              refine hK.out _ _ trivial (fun hHeld => ?_)
              clear hK K hHeld
              try simp only [Act.put, List.setIfInBounds_toArray, List.set_cons_zero, List.set_cons_succ]
              refine ⟨by kernel_rfl, ?_⟩
              go_wp2
              go_ret
              exact ⟨ret_bool HE.out, HB3.out⟩
            exact AllReadyH.nil
          exact AllReadyH.nil
        exact AllReadyH.nil
      refine AllReadyH.cons (o := _) rfl (fun K hK => ?_) ?_
      · go_simp
        refine (CHG.out _ hBd).mono ?_; rintro e wz ⟨vb, rfl, hvb, bz⟩
        dsimp only
        have HVB := Lib.hid (own_in hvb)
        have HB2 := Lib.hid (bnext hBd bz)
        clear hvb
        obtain ⟨z0, z1, z2, z3, z4, z5, z6, z7, z8, z9⟩ := (hRd.kept1 bz).cells
        clear bz
        refine hK.out _ _ trivial (fun hHeld => ?_)
        clear hK K hHeld
        try simp only [Act.put, List.setIfInBounds_toArray, List.set_cons_zero, List.set_cons_succ]
        refine wpAnyH_ready (rs := [0]) (by kernel_rfl) (by simp) ?_
        refine AllReadyH.cons (o := _) rfl (fun K hK => ?_) ?_
        · go_simp
          refine hK.out _ _ trivial (fun hHeld => ?_)
          clear hK K hHeld
          try simp only [Act.put, List.setIfInBounds_toArray, List.set_cons_zero, List.set_cons_succ]
          refine wpAnyH_ready (rs := [3]) (by kernel_rfl) (by simp) ?_
          refine AllReadyH.cons (o := _) rfl (fun K hK => ?_) ?_
          · go_simp
            refine (RI.out _ _ HVB.out).mono ?_; rintro e wy ⟨rfl, bz⟩
            dsimp only
            have HB3 := Lib.hid (bnext HB2.out bz)
            clear bz
            refine hK.out _ _ trivial (fun hHeld => ?_)
            clear hK K hHeld
            try simp only [Act.put, List.setIfInBounds_toArray, List.set_cons_zero, List.set_cons_succ]
            refine wpAnyH_ready (rs := [4]) (by kernel_rfl) (by simp) ?_
            refine AllReadyH.cons (o := _) rfl (fun K hK => ?_) ?_
            · go_simp
              refine hK.out _ _ trivial (fun hHeld => ?_)
              clear hK K hHeld
              try simp only [Act.put, List.setIfInBounds_toArray, List.set_cons_zero, List.set_cons_succ]
              refine ⟨by kernel_rfl, ?_⟩
              go_wp2
              go_ret
              exact ⟨ret_bool HE.out, HB3.out⟩
            exact AllReadyH.nil
          exact AllReadyH.nil
        exact AllReadyH.nil
      exact AllReadyH.nil
end Go.Proofs.YtknkjccimjfbbaaGreatDoor
