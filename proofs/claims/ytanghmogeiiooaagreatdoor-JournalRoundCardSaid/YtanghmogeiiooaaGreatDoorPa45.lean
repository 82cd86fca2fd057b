import Derived.Test.YtanghmogeiiooaaGreatDoorPa36
import Derived.Test.YtanghmogeiiooaaGreatDoorPa37
import Derived.Test.YtanghmogeiiooaaGreatDoorPa20
import Derived.Test.YtanghmogeiiooaaGreatDoorPa41
import Derived.Test.YtanghmogeiiooaaGreatDoorPa43
import Derived.Test.YtanghmogeiiooaaGreatDoorPa22
set_option linter.unusedVariables false
set_option linter.unusedSimpArgs false
set_option linter.constructorNameAsVariable false
/- Replay. -/
namespace Go.Proofs.YtanghmogeiiooaaGreatDoor
set_option linter.unusedVariables false
set_option linter.unusedSimpArgs false
open Go.RowKit

theorem Zone.half {lo hi B : Nat} {w w' : World} (h : Zone lo hi w w') (hB : hi ≤ B) :
    ∃ w1 : World, w1.heap.size = w.heap.size ∧ (∀ j, B ≤ j → w1.heap[j]? = w.heap[j]?) ∧ Below w1.heap.size w1 w' := by
  have hs := h.size
  have e : (w'.heap.extract 0 w.heap.size).size = w.heap.size := by simp; omega
  refine ⟨{ w with heap := w'.heap.extract 0 w.heap.size }, e, fun j hj => ?_, ⟨h.os, h.tape, h.output, by show (w'.heap.extract 0 w.heap.size).size ≤ _; omega, fun j hj => ?_⟩⟩
  · show (w'.heap.extract 0 w.heap.size)[j]? = _
    by_cases hjs : j < w.heap.size
    · rw [← h.block j hjs (.inr (by omega))]
      rw [Array.getElem?_extract, if_pos (by omega), Nat.zero_add]
    · rw [Array.getElem?_eq_none (by omega), Array.getElem?_eq_none (by omega)]
  · have hj2 : j < w.heap.size := by have : j < (w'.heap.extract 0 w.heap.size).size := hj; omega
    show w'.heap[j]? = (w'.heap.extract 0 w.heap.size)[j]?
    rw [Array.getElem?_extract, if_pos (by omega), Nat.zero_add]
theorem TxnsOwn.zone {lo hi B : Nat} {v : Value} {ts : List Tx} {w w' : World} (h : TxnsOwn B v ts w) (hB : hi ≤ B) (z : Zone lo hi w w') : TxnsOwn B v ts w' := by
  obtain ⟨w1, h1, h2, h3⟩ := z.half hB
  exact (h.same h2).kept h3
set_option maxRecDepth 100000 in
set_option maxHeartbeats 2000000 in
theorem jreplay_none (d lo hi : Nat) (b l i m t : Nat) (hok : okN b l i m t) {S : St} (hn : S.n = b) (w : World) (h : DevAt d lo hi S w) (hk : logOf S b 1 l = none) :
    Calls Tryz.prog 13 #[.pointer (some ⟨d, 0, none⟩), lay b l i m t] w fun e w' => e = .returned (.tuple #[.slice none 0 0, .int .i64 80]) ∧ Below w.heap.size w w' := by
  have mixed : Tryz.prog.follows .mixedOrders = true := by kernel_rfl
  have gr : Tryz.prog.stoodInHeld 87 = false := by kernel_rfl
  have gp : Tryz.prog.stoodInHeld 91 = false := by kernel_rfl
  have hl : 128 ≤ (l : Int) ∧ (l : Int) ≤ 512 := by have := hok.2.2.1; have := hok.2.2.2.1; omega
  obtain ⟨w1, hw1⟩ : ∃ w1, w.alloc (.cells (cellsG b l i 1 (1 + l) m (1 + l + m) t (1 + l + m + t)) 33) = w1 := ⟨_, rfl⟩
  have b1 : Below w.heap.size w w1 := by rw [← hw1]; exact balloc1 _ _
  have G1 : GeoAt w.heap.size b l i 1 (1 + l) m (1 + l + m) t (1 + l + m + t) w1 := by rw [← hw1]; exact GeoAt.new _ _ _ _ _ _ _ _ _ _
  have D1 := h.kept1 b1
  have R := Lib.hid (ringof_ok d lo hi b l i m t hok hn w1 D1)
  obtain ⟨c0, c1, c2, c3, c4, c5, c6, c7, c8⟩ := G1.cells
  have hdh := h.top
  have HW1 := Lib.hid hw1
  have HD1 := Lib.hid D1
  have TX := Lib.hid fun W (hW : DevAt d lo hi S W) => transactions_none d lo hi b l i 1 (1 + l) m (1 + l + m) t (1 + l + m + t) hl W hW hk
  clear h hw1 G1 D1 hok hn
  go_enter Tryz.func13, Tryz.ntmps13
  go_wp2_with fail
  rw [HW1.out]
  refine R.out.mono ?_; rintro e w2 ⟨rfl, b2⟩
  have hb2 := bnext b1 b2
  have D2 := HD1.out.kept1 b2
  obtain ⟨rb, hrb⟩ : ∃ rb, w2.heap.size = rb := ⟨_, rfl⟩
  obtain ⟨w3, hw3⟩ : ∃ w3, w2.alloc (.cells (ringC (some ⟨d, 0, none⟩) b l i 1 (1 + l) m (1 + l + m) t (1 + l + m + t)) 87) = w3 := ⟨_, rfl⟩
  have R3 : RingAt rb (some ⟨d, 0, none⟩) b l i 1 (1 + l) m (1 + l + m) t (1 + l + m + t) w3 := by rw [← hw3, ← hrb]; exact RingAt.new _ _ _ _ _ _ _ _ _ _ _
  have D3 : DevAt d lo hi S w3 := by rw [← hw3]; exact D2.kept1 (balloc1 _ _)
  have hb3 : Below w.heap.size w w3 := by rw [← hw3]; exact balloc hb2 _
  have hrbh : hi ≤ rb := by have := hb2.size; omega
  obtain ⟨c0, c1, c2, c3, c4, c5, c6, c7, c8, c9⟩ := R3.cells
  have HW3 := Lib.hid hw3
  have HRB := Lib.hid hrb
  have HR3 := Lib.hid R3
  have HD3 := Lib.hid D3
  have HB3 := Lib.hid hb3
  clear R HW1 b2 HD1 hb2 D2 hw3 hrb R3 D3 hb3 b1
  go_wp2_with fail
  rw [HW3.out]
  try rw [HRB.out]
  refine (TX.out _ HD3.out).mono ?_; rintro e w4 ⟨rfl, b4⟩
  have hb4 := bnext HB3.out b4
  clear TX HW3 HRB HR3 HD3 HB3 b4 c0 c1 c2 c3 c4 c5 c6 c7 c8 c9
  go_wp2
  go_ret2
  exact ⟨rfl, balloc hb4 _⟩
set_option maxRecDepth 100000 in
set_option maxHeartbeats 2000000 in
theorem jreplay_empty (d lo hi : Nat) (b l i m t : Nat) (hok : okN b l i m t) {S : St} (hn : S.n = b) (w : World) (h : DevAt d lo hi S w) (ht : Tab w) (r : List Tx × Nat) (hk : logOf S b 1 l = some r) (h0r : r.1 = []) :
    Calls Tryz.prog 13 #[.pointer (some ⟨d, 0, none⟩), lay b l i m t] w fun e w' => e = .returned (.tuple #[.slice none 0 0, .int .i64 0]) ∧ Below w.heap.size w w' := by
  have mixed : Tryz.prog.follows .mixedOrders = true := by kernel_rfl
  have gr : Tryz.prog.stoodInHeld 87 = false := by kernel_rfl
  have gp : Tryz.prog.stoodInHeld 91 = false := by kernel_rfl
  have hl : 128 ≤ (l : Int) ∧ (l : Int) ≤ 512 := by have := hok.2.2.1; have := hok.2.2.2.1; omega
  obtain ⟨w1, hw1⟩ : ∃ w1, w.alloc (.cells (cellsG b l i 1 (1 + l) m (1 + l + m) t (1 + l + m + t)) 33) = w1 := ⟨_, rfl⟩
  have b1 : Below w.heap.size w w1 := by rw [← hw1]; exact balloc1 _ _
  have G1 : GeoAt w.heap.size b l i 1 (1 + l) m (1 + l + m) t (1 + l + m + t) w1 := by rw [← hw1]; exact GeoAt.new _ _ _ _ _ _ _ _ _ _
  have D1 := h.kept1 b1
  have R := Lib.hid (ringof_ok d lo hi b l i m t hok hn w1 D1)
  obtain ⟨c0, c1, c2, c3, c4, c5, c6, c7, c8⟩ := G1.cells
  have hdh := h.top
  have HW1 := Lib.hid hw1
  have HD1 := Lib.hid D1
  have h0 : 0 < w.heap.size := (cell_flat (ht 0 (by decide))).2
  have TX := Lib.hid fun W (hW : DevAt d lo hi S W) (hT : Tab W) => transactions_ok d lo hi b l i 1 (1 + l) m (1 + l + m) t (1 + l + m + t) hl (by omega) W hW hT r hk
  have HT := Lib.hid ht
  clear h hw1 G1 D1 hok hn
  go_enter Tryz.func13, Tryz.ntmps13
  go_wp2_with fail
  rw [HW1.out]
  refine R.out.mono ?_; rintro e w2 ⟨rfl, b2⟩
  have hb2 := bnext b1 b2
  have D2 := HD1.out.kept1 b2
  obtain ⟨rb, hrb⟩ : ∃ rb, w2.heap.size = rb := ⟨_, rfl⟩
  obtain ⟨w3, hw3⟩ : ∃ w3, w2.alloc (.cells (ringC (some ⟨d, 0, none⟩) b l i 1 (1 + l) m (1 + l + m) t (1 + l + m + t)) 87) = w3 := ⟨_, rfl⟩
  have R3 : RingAt rb (some ⟨d, 0, none⟩) b l i 1 (1 + l) m (1 + l + m) t (1 + l + m + t) w3 := by rw [← hw3, ← hrb]; exact RingAt.new _ _ _ _ _ _ _ _ _ _ _
  have D3 : DevAt d lo hi S w3 := by rw [← hw3]; exact D2.kept1 (balloc1 _ _)
  have hb3 : Below w.heap.size w w3 := by rw [← hw3]; exact balloc hb2 _
  have hrbh : hi ≤ rb := by have := hb2.size; omega
  obtain ⟨c0, c1, c2, c3, c4, c5, c6, c7, c8, c9⟩ := R3.cells
  have HT3 : Hid (Tab w3) := Lib.hid fun i hi => hb3.cell (p := ⟨0, i, none⟩) h0 |>.trans (HT.out i hi)
  have HW3 := Lib.hid hw3
  have HRB := Lib.hid hrb
  have HR3 := Lib.hid R3
  have HD3 := Lib.hid D3
  have HB3 := Lib.hid hb3
  clear R HW1 b2 HD1 hb2 D2 hw3 hrb R3 D3 hb3 b1
  go_wp2_with fail
  rw [HW3.out]
  try rw [HRB.out]
  refine (TX.out _ HD3.out HT3.out).mono ?_; rintro e w4 ⟨vt, rfl, hvt, b4⟩
  have hb4 := bnext HB3.out b4
  unfold endV
  have c := HR3.out.kept1 b4
  obtain ⟨c0, c1, c2, c3, c4, c5, c6, c7, c8, c9⟩ := c.cells
  clear TX HW3 HRB HR3 HD3 HB3 b4
  obtain ⟨ad, cap, hsh⟩ := hvt.shape
  rw [h0r] at hsh
  obtain rfl := hsh
  rw [List.length_nil]
  clear hvt c0 c1 c2 c3 c4 c5 c6 c7 c8 c9 c HT3
  go_wp2
  go_ret2
  exact ⟨rfl, balloc hb4 _⟩
set_option maxRecDepth 100000 in
set_option maxHeartbeats 2000000 in
theorem jreplay_ok (d lo hi : Nat) (b l i m t : Nat) (hok : okN b l i m t) {S : St} (hn : S.n = b) (ha : S.acts ≤ 900000) (w : World) (h : DevAt d lo hi S w) (ht : Tab w) (r : List Tx × Nat) (hk : logOf S b 1 l = some r) (h0r : r.1 ≠ []) :
    Calls Tryz.prog 13 #[.pointer (some ⟨d, 0, none⟩), lay b l i m t] w fun e w' => ∃ v, e = .returned (.tuple #[onlyOk (deeds S (replD S b l r)).1 v, .int .i64 (deeds S (replD S b l r)).1]) ∧
      TxnsOwn w.heap.size v r.1 w' ∧ DevAt d lo hi (deeds S (replD S b l r)).2 w' ∧ Zone lo hi w w' := by
  have hfa := logOf_in (by have := hok.2.2.1; omega) hk
  have mixed : Tryz.prog.follows .mixedOrders = true := by kernel_rfl
  have gr : Tryz.prog.stoodInHeld 87 = false := by kernel_rfl
  have gp : Tryz.prog.stoodInHeld 91 = false := by kernel_rfl
  have hl : 128 ≤ (l : Int) ∧ (l : Int) ≤ 512 := by have := hok.2.2.1; have := hok.2.2.2.1; omega
  obtain ⟨w1, hw1⟩ : ∃ w1, w.alloc (.cells (cellsG b l i 1 (1 + l) m (1 + l + m) t (1 + l + m + t)) 33) = w1 := ⟨_, rfl⟩
  have b1 : Below w.heap.size w w1 := by rw [← hw1]; exact balloc1 _ _
  have G1 : GeoAt w.heap.size b l i 1 (1 + l) m (1 + l + m) t (1 + l + m + t) w1 := by rw [← hw1]; exact GeoAt.new _ _ _ _ _ _ _ _ _ _
  have D1 := h.kept1 b1
  have R := Lib.hid (ringof_ok d lo hi b l i m t hok hn w1 D1)
  obtain ⟨c0, c1, c2, c3, c4, c5, c6, c7, c8⟩ := G1.cells
  have hdh := h.top
  have HW1 := Lib.hid hw1
  have HD1 := Lib.hid D1
  have h0 : 0 < w.heap.size := (cell_flat (ht 0 (by decide))).2
  have TX := Lib.hid fun W (hW : DevAt d lo hi S W) (hT : Tab W) => transactions_ok d lo hi b l i 1 (1 + l) m (1 + l + m) t (1 + l + m + t) hl (by omega) W hW hT r hk
  have HT := Lib.hid ht
  obtain ⟨f1, f2, f3, f4, f5, f6⟩ := hfa
  have NE := Lib.hid fun W v (hv : TxnsIn v r.1 W) => neteffect_any b hok.2.1 r.1 (by omega) (fun t ht => by
    have q := f6 t ht
    refine ⟨by have := q.changes; omega, by have := q.revokes; omega, fun c hc => hm_in (q.homes c hc), fun x hx => ?_⟩
    have := hm_in (q.gone x hx)
    have := hok.2.1
    exact ⟨by omega, by omega⟩) v W hv
  have WL : (homeL b (net r.1)).length ≤ 4000 := net_len (by omega) hok.2.1 (by have := hok.2.2.2.2.2.2.2.2.2; omega) f6
  have hpos : ((((readR (rText S 1)).pos.toNat + r.2) % ((l : Int) - 1).toNat : Nat) : Int) ≤ 510 := by
    have : ((readR (rText S 1)).pos.toNat + r.2) % ((l : Int) - 1).toNat < ((l : Int) - 1).toNat := Nat.mod_lt _ (by omega)
    omega
  have hsq : ((readR (rText S 1)).seq + r.1.length) % 18446744073709551616 < 18446744073709551616 := Nat.mod_lt _ (by decide)
  have h0l : ¬ ((r.1.length : Int) = 0) := by have := List.length_pos_iff.2 h0r; omega
  have HF2 : Hid (S.acts + (replD S b l r).length ≤ 1000000) := Lib.hid (by unfold replD; rw [List.length_append, List.length_map]; simp; omega)
  have HFE : Hid ([writesD (homeL b (net r.1)), [.flush], [.write 1 (blk (headR ((((readR (rText S 1)).pos.toNat + r.2) % ((l : Int) - 1).toNat : Nat) : Int).toNat (((readR (rText S 1)).seq + r.1.length) % 18446744073709551616)))], [.flush]].flatten = replD S b l r) := Lib.hid rfl
  have HWL := Lib.hid WL
  clear f1 f2 f3 f4 f5 f6 WL
  clear h hw1 G1 D1 hok hn
  go_enter Tryz.func13, Tryz.ntmps13
  go_wp2_with fail
  rw [HW1.out]
  refine R.out.mono ?_; rintro e w2 ⟨rfl, b2⟩
  have hb2 := bnext b1 b2
  have D2 := HD1.out.kept1 b2
  obtain ⟨rb, hrb⟩ : ∃ rb, w2.heap.size = rb := ⟨_, rfl⟩
  obtain ⟨w3, hw3⟩ : ∃ w3, w2.alloc (.cells (ringC (some ⟨d, 0, none⟩) b l i 1 (1 + l) m (1 + l + m) t (1 + l + m + t)) 87) = w3 := ⟨_, rfl⟩
  have R3 : RingAt rb (some ⟨d, 0, none⟩) b l i 1 (1 + l) m (1 + l + m) t (1 + l + m + t) w3 := by rw [← hw3, ← hrb]; exact RingAt.new _ _ _ _ _ _ _ _ _ _ _
  have D3 : DevAt d lo hi S w3 := by rw [← hw3]; exact D2.kept1 (balloc1 _ _)
  have hb3 : Below w.heap.size w w3 := by rw [← hw3]; exact balloc hb2 _
  have hrbh : hi ≤ rb := by have := hb2.size; omega
  obtain ⟨c0, c1, c2, c3, c4, c5, c6, c7, c8, c9⟩ := R3.cells
  have HT3 : Hid (Tab w3) := Lib.hid fun i hi => hb3.cell (p := ⟨0, i, none⟩) h0 |>.trans (HT.out i hi)
  have HW3 := Lib.hid hw3
  have HRB := Lib.hid hrb
  have HR3 := Lib.hid R3
  have HD3 := Lib.hid D3
  have HB3 := Lib.hid hb3
  clear R HW1 b2 HD1 hb2 D2 hw3 hrb R3 D3 hb3 b1
  go_wp2_with fail
  rw [HW3.out]
  try rw [HRB.out]
  refine (TX.out _ HD3.out HT3.out).mono ?_; rintro e w4 ⟨vt, rfl, hvt, b4⟩
  have hb4 := bnext HB3.out b4
  unfold endV
  have c := HR3.out.kept1 b4
  obtain ⟨c0, c1, c2, c3, c4, c5, c6, c7, c8, c9⟩ := c.cells
  have HD3' := Lib.hid HD3.out
  have HB3' := Lib.hid HB3.out.size
  have b4' := Lib.hid b4
  clear TX HW3 HRB HR3 HD3 HB3 b4
  obtain ⟨ad, cap, hsh⟩ := hvt.shape
  obtain ⟨N, hN⟩ : ∃ N, r.1.length = N := ⟨_, rfl⟩
  rw [hN] at hsh h0l
  obtain rfl := hsh
  have HVT := Lib.hid hvt
  obtain ⟨ps, hps⟩ : ∃ ps : Nat, ((readR (rText S 1)).pos.toNat + r.2) % ((l : Int) - 1).toNat = ps := ⟨_, rfl⟩
  obtain ⟨pl, hpl⟩ : ∃ pl, ((((l : Int) - 1).toNat - r.2 : Nat) : Int) = pl := ⟨_, rfl⟩
  obtain ⟨pq, hpq⟩ : ∃ pq, (((readR (rText S 1)).seq + r.1.length) % 18446744073709551616) = pq := ⟨_, rfl⟩
  rw [hps, hpl, hpq]
  rw [hps] at hpos HFE
  rw [hpq] at hsq HFE
  rw [Int.toNat_natCast] at HFE
  have BG := Lib.hid fun W (hW : hi ≤ W.heap.size) => begin_any d b l i 1 (1 + l) m (1 + l + m) t (1 + l + m + t) ps pl pq (by omega) hsq lo hi W hW
  obtain ⟨w5, hw5⟩ : ∃ w5, w4.alloc (.cells (placeC ps pl pq) 91) = w5 := ⟨_, rfl⟩
  have P5 : Blk w4.heap.size (placeC ps pl pq) 91 w5 := by rw [← hw5]; exact Blk.new _ _ _
  have hb5 : Below w.heap.size w w5 := by rw [← hw5]; exact balloc hb4 _
  have k5 : Below w4.heap.size w4 w5 := by rw [← hw5]; exact balloc1 _ _
  obtain ⟨pa, hpa⟩ : ∃ pa, w4.heap.size = pa := ⟨_, rfl⟩
  have hpah : hi ≤ pa := by have := hb4.size; omega
  rw [hpa] at P5
  have R5 := c.kept1 k5
  have HR5 := Lib.hid R5
  have HP5 := Lib.hid P5
  have HVT5 : Hid (TxnsOwn w.heap.size (.slice ad N cap) r.1 w5) := Lib.hid ((HVT.out.kept k5).down (by have := HB3'.out; omega))
  have HD5 := Lib.hid ((HD3'.out.kept1 (b4'.out)).kept1 k5)
  have HB5 := Lib.hid hb5
  have HW5 := Lib.hid hw5
  have HPA := Lib.hid hpa
  clear c0 c1 c2 c3 c4 c5 c6 c7 c8 c9 c hw5 k5 hpa HT3 HVT hvt HT hps hpl hpq hb4 P5 R5 hb5 HD3' HB3' b4'
  go_upto_region 7 with fail
  rw [HW5.out]
  try rw [HPA.out]
  have RS := Lib.hid fun W (hW : Below w5.heap.size w5 W) => (show RingAt rb (some ⟨d, 0, none⟩) b l i 1 (1 + l) m (1 + l + m) t (1 + l + m + t) W ∧ Blk pa (placeC ps pl pq) 91 W from ⟨HR5.out.kept1 hW, HP5.out.kept1 hW⟩)
  have hrbl := HR5.out.lt
  have hpal := HP5.out.lt
  have hzs := HB5.out.size
  clear HW5 HPA HR5 HP5
  refine wp_region_held_drew (S := fun W => RingAt rb (some ⟨d, 0, none⟩) b l i 1 (1 + l) m (1 + l + m) t (1 + l + m + t) W ∧ Blk pa (placeC ps pl pq) 91 W) mixed (RS.out _ (Below.refl _ _).drew) (fun hHeld => ?_)
  refine wpAnyH_take (i := 0) (oi := _) (v := ?vb0) rfl (by kernel_rfl) (by kernel_rfl) (by kernel_rfl) (fun _ _ _ h => h) (Or.inl ⟨by kernel_rfl, ?hyb0⟩) hHeld ?restb0
  case hyb0 => (intro w9 hSw; obtain ⟨c0, c1, c2, c3, c4, c5, c6, c7, c8, c9⟩ := hSw.1.cells; clear hSw; go_simp; try with_reducible rfl)
  try simp only [Act.put, List.getElem_toArray, List.getElem_cons_zero, List.getElem_cons_succ, List.setIfInBounds_toArray, List.set_cons_zero, List.set_cons_succ]
  refine wpAnyH_take (i := 1) (oi := _) (v := ?vb1) rfl (by kernel_rfl) (by kernel_rfl) (by kernel_rfl) (fun _ _ _ h => h) (Or.inl ⟨by kernel_rfl, ?hyb1⟩) hHeld ?restb1
  case hyb1 => (intro w9 hSw; clear hSw; go_simp; try with_reducible rfl)
  try simp only [Act.put, List.getElem_toArray, List.getElem_cons_zero, List.getElem_cons_succ, List.setIfInBounds_toArray, List.set_cons_zero, List.set_cons_succ]
  refine wpAnyH_take (i := 4) (oi := _) (v := ?vb4) rfl (by kernel_rfl) (by kernel_rfl) (by kernel_rfl) (fun _ _ _ h => h) (Or.inl ⟨by kernel_rfl, ?hyb4⟩) hHeld ?restb4
  case hyb4 => (intro w9 hSw; clear hSw; go_simp; try with_reducible rfl)
  try simp only [Act.put, List.getElem_toArray, List.getElem_cons_zero, List.getElem_cons_succ, List.setIfInBounds_toArray, List.set_cons_zero, List.set_cons_succ]
  refine wpAnyH_take (i := 5) (oi := _) (v := ?vb5) rfl (by kernel_rfl) (by kernel_rfl) (by kernel_rfl) (fun _ _ _ h => h) (Or.inl ⟨by kernel_rfl, ?hyb5⟩) hHeld ?restb5
  case hyb5 => (intro w9 hSw; clear hSw; go_simp; try with_reducible rfl)
  try simp only [Act.put, List.getElem_toArray, List.getElem_cons_zero, List.getElem_cons_succ, List.setIfInBounds_toArray, List.set_cons_zero, List.set_cons_succ]
  refine wpAnyH_take (i := 6) (oi := _) (v := ?vb6) rfl (by kernel_rfl) (by kernel_rfl) (by kernel_rfl) (fun _ _ _ h => h) (Or.inl ⟨by kernel_rfl, ?hyb6⟩) hHeld ?restb6
  case hyb6 => (intro w9 hSw; obtain ⟨c0, c1, c2, c3, c4, c5, c6, c7, c8, c9⟩ := hSw.1.cells; clear hSw; go_simp; try with_reducible rfl)
  try simp only [Act.put, List.getElem_toArray, List.getElem_cons_zero, List.getElem_cons_succ, List.setIfInBounds_toArray, List.set_cons_zero, List.set_cons_succ]
  refine wpAnyH_take (i := 7) (oi := _) (v := ?vb7) rfl (by kernel_rfl) (by kernel_rfl) (by kernel_rfl) (fun _ _ _ h => h) (Or.inl ⟨by kernel_rfl, ?hyb7⟩) hHeld ?restb7
  case hyb7 => (intro w9 hSw; have p0 := hSw.2.cell 0; have p1 := hSw.2.cell 1; have p2 := hSw.2.cell 2; clear hSw; go_simp; try with_reducible rfl)
  try simp only [Act.put, List.getElem_toArray, List.getElem_cons_zero, List.getElem_cons_succ, List.setIfInBounds_toArray, List.set_cons_zero, List.set_cons_succ]
  refine wpAnyH_take (i := 9) (oi := _) (v := ?vb9) rfl (by kernel_rfl) (by kernel_rfl) (by kernel_rfl) (fun _ _ _ h => h) (Or.inl ⟨by kernel_rfl, ?hyb9⟩) hHeld ?restb9
  case hyb9 => (intro w9 hSw; clear hSw; go_simp; try with_reducible rfl)
  try simp only [Act.put, List.getElem_toArray, List.getElem_cons_zero, List.getElem_cons_succ, List.setIfInBounds_toArray, List.set_cons_zero, List.set_cons_succ]
  refine wpAnyH_take (i := 10) (oi := _) (v := ?vb10) rfl (by kernel_rfl) (by kernel_rfl) (by kernel_rfl) (fun _ _ _ h => h) (Or.inl ⟨by kernel_rfl, ?hyb10⟩) hHeld ?restb10
  case hyb10 => (intro w9 hSw; clear hSw; go_simp; try with_reducible rfl)
  try simp only [Act.put, List.getElem_toArray, List.getElem_cons_zero, List.getElem_cons_succ, List.setIfInBounds_toArray, List.set_cons_zero, List.set_cons_succ]
  refine wpAnyH_ready (rs := [2]) (by kernel_rfl) (by simp) ?_
  refine AllReadyH.cons (o := _) rfl (fun K hK => ?_) ?_
  · go_simp
    have hHeldx : Below w5.heap.size w5 w5.drew := (Below.refl _ _).drew
    refine (NE.out w5.drew _ (TxnsOwn.in_ (HVT5.out.kept hHeldx))).mono ?_; rintro e wn ⟨vn, rfl, hvn, bn⟩
    dsimp only
    have hHeldn : Below w5.heap.size w5 wn := hHeldx.trans (bn.mono hHeldx.size)
    have HVN : Hid (ChgsIn vn (homeL b (net r.1)) wn) := Lib.hid (ownRow_in hvn)
    clear hvn bn NE
    refine hK.out _ _ (RS.out _ hHeldn) (fun hHeld3 => ?_)
    clear hK K hHeld
    have hHeld := hHeld3
    clear hHeld3
    try simp only [Act.put, List.getElem_toArray, List.getElem_cons_zero, List.getElem_cons_succ, List.setIfInBounds_toArray, List.set_cons_zero, List.set_cons_succ]
    refine wpAnyH_ready (rs := [3]) (by kernel_rfl) (by simp) ?_
    refine AllReadyH.cons (o := _) rfl (fun K hK => ?_) ?_
    · go_simp
      refine (jwrite_any d b l i 1 (1 + l) m (1 + l + m) t (1 + l + m + t) (homeL b (net r.1)) HWL.out vn lo hi wn (by have := hHeldn.size; omega) HVN.out).mono ?_; rintro e w6 ⟨rfl, hD6, b6⟩
      dsimp only
      have hHeld6 : Below w5.heap.size w5 w6 := hHeldn.trans (b6.mono hHeldn.size)
      have HD6 := Lib.hid (does_clo hD6)
      clear hD6 b6 HVN HWL
      refine hK.out _ _ (RS.out _ hHeld6) (fun hHeld3 => ?_)
      clear hK K hHeld
      have hHeld := hHeld3
      clear hHeld3
      try simp only [Act.put, List.getElem_toArray, List.getElem_cons_zero, List.getElem_cons_succ, List.setIfInBounds_toArray, List.set_cons_zero, List.set_cons_succ]
      refine wpAnyH_ready (rs := [8]) (by kernel_rfl) (by simp) ?_
      refine AllReadyH.cons (o := _) rfl (fun K hK => ?_) ?_
      · go_simp
        refine (BG.out _ (by have := hHeld6.size; omega)).mono ?_; rintro e w7 ⟨ab, rfl, hD7, b7⟩
        dsimp only
        have hHeld7 : Below w5.heap.size w5 w7 := hHeld6.trans (b7.mono hHeld6.size)
        have HD7 := Lib.hid (does_clo hD7)
        replace HD6 := Lib.hid (HD6.out.kept1 b7)
        clear hD7 b7 BG
        refine hK.out _ _ (RS.out _ hHeld7) (fun hHeld3 => ?_)
        clear hK K hHeld
        have hHeld := hHeld3
        clear hHeld3
        try simp only [Act.put, List.getElem_toArray, List.getElem_cons_zero, List.getElem_cons_succ, List.setIfInBounds_toArray, List.set_cons_zero, List.set_cons_succ]
        refine wpAnyH_ready (rs := [11]) (by kernel_rfl) (by simp) ?_
        refine AllReadyH.cons (o := _) rfl (fun K hK => ?_) ?_
        · go_simp
          have h6 : hi ≤ w7.heap.size := by have := hHeld7.size; omega
          have HA := Lib.hid (four_acts w7 h6 HD6.out (does_flush d lo hi w7) HD7.out (does_flush d lo hi w7))
          refine hK.out _ _ (RS.out _ (balloc hHeld7 _)) (fun hHeld3 => ?_)
          clear hK K hHeld
          have hHeld := hHeld3
          clear hHeld3
          try simp only [Act.put, List.getElem_toArray, List.getElem_cons_zero, List.getElem_cons_succ, List.setIfInBounds_toArray, List.set_cons_zero, List.set_cons_succ]
          refine wpAnyH_ready (rs := [12]) (by kernel_rfl) (by simp) ?_
          refine AllReadyH.cons (o := _) rfl (fun K hK => ?_) ?_
          · go_simp
            refine (do_any2 _ _ (HD5.out.kept1 (balloc hHeld7 _)) HA.out (by rw [HFE.out]; exact HF2.out)).mono ?_; rintro e w8 ⟨rfl, hd8, hz8⟩
            dsimp only
            rw [HFE.out] at hd8
            try rw [HFE.out]
            have hzB := (Zone.of_below (balloc hHeld7 _) lo hi).trans hz8
            have hzA := (Zone.of_below HB5.out lo hi).trans hzB
            have hVT8 := HVT5.out.zone hdh hzB
            refine hK.out _ _ (⟨(hz8.block rb hHeld.1.lt (.inr hrbh)).trans hHeld.1, (hz8.block pa hHeld.2.lt (.inr hpah)).trans hHeld.2⟩) (fun hHeld3 => ?_)
            clear hK K hHeld
            have hHeld := hHeld3
            clear hHeld3
            try simp only [Act.put, List.getElem_toArray, List.getElem_cons_zero, List.getElem_cons_succ, List.setIfInBounds_toArray, List.set_cons_zero, List.set_cons_succ]
            refine wpAnyH_ready (rs := [13]) (by kernel_rfl) (by simp) ?_
            refine AllReadyH.cons (o := _) rfl (fun K hK => ?_) ?_
            · go_simp
              refine hK.out _ _ (hHeld) (fun hHeld3 => ?_)
              clear hK K hHeld
              have hHeld := hHeld3
              clear hHeld3
              try simp only [Act.put, List.getElem_toArray, List.getElem_cons_zero, List.getElem_cons_succ, List.setIfInBounds_toArray, List.set_cons_zero, List.set_cons_succ]
              refine ⟨by kernel_rfl, ?_⟩
              obtain ⟨cq, hcq⟩ : ∃ c, (deeds S (replD S b l r)).1 = c := ⟨_, rfl⟩
              have HCQ := Lib.hid hcq
              rw [hcq]
              clear hcq
              by_cases hc0 : cq = 0
              · subst hc0
                go_wp2
                go_ret2
                refine ⟨.slice ad N cap, ?_, hVT8, hd8, hzA⟩
                rw [HCQ.out, onlyOk_yes]; rfl
              · go_wp2
                go_ret2
                refine ⟨.slice ad N cap, ?_, hVT8, hd8, hzA⟩
                rw [HCQ.out, onlyOk_no hc0]; rfl
            exact AllReadyH.nil
          exact AllReadyH.nil
        exact AllReadyH.nil
      exact AllReadyH.nil
    exact AllReadyH.nil
  exact AllReadyH.nil
end Go.Proofs.YtanghmogeiiooaaGreatDoor

/- SameChanges, Same: of lists that are the same. -/
namespace Go.Proofs.YtanghmogeiiooaaGreatDoor
set_option linter.unusedVariables false
set_option linter.unusedSimpArgs false
open Go.RowKit

theorem drewN_blow {w wr : World} (h : Below w.heap.size w wr) (q : Nat) : Below w.heap.size w (wr.drewN q) := below_drewN h q
set_option maxHeartbeats 2000000 in
theorem samech_yes (va vb : Value) (L : List (Int × ByteArray)) (hL : L.length ≤ 4000000) (w : World) (ha : ChgsIn va L w) (hb : ChgsIn vb L w) :
    Calls Tryz.prog 55 #[va, vb] w fun e w' => e = .returned (.bool true) ∧ Below w.heap.size w w' := by
  have gc : Tryz.prog.stoodInHeld 61 = false := by kernel_rfl
  obtain ⟨ada, capa, rfl, a1, a2, hada⟩ := ha.open
  obtain ⟨adb, capb, rfl, b1, b2, hadb⟩ := hb.open
  have HA := Lib.hid hada
  have HB := Lib.hid hadb
  clear ha hb hada hadb
  go_enter Tryz.func55, Tryz.ntmps55
  go_wp2
  go_loopw [5] (fun q wr => ∃ i : Nat, q = .int .i64 i ∧ i ≤ L.length ∧ Below w.heap.size w wr) (fun q _ => L.length - (intOf q).toNat)
  case atStart => exact ⟨0, rfl, Nat.zero_le _, Below.refl _ _⟩
  case round =>
    obtain ⟨i, rfl, hi, hbr⟩ := hrel
    by_cases hlt : i < L.length
    · obtain ⟨ga, oa, rfl, hga, hca⟩ := HA.out (by omega)
      obtain ⟨gb, ob, rfl, hgb, hcb⟩ := HB.out (by omega)
      have q1 := (hbr.cell (p := ⟨ga, oa + i * 2, none⟩) hga).trans (hca i hlt).1
      have q2 := (hbr.cell (p := ⟨ga, oa + i * 2 + 1, none⟩) hga).trans (hca i hlt).2
      have q3 := (hbr.cell (p := ⟨gb, ob + i * 2, none⟩) hgb).trans (hcb i hlt).1
      have q4 := (hbr.cell (p := ⟨gb, ob + i * 2 + 1, none⟩) hgb).trans (hcb i hlt).2
      generalize L[i].1 = z at *
      generalize L[i].2 = s at *
      have d1 : ∀ q, (wr.drewN q).cell? ⟨ga, oa + i * 2, none⟩ = some (.int .i64 z) := fun _ => q1
      have d2 : ∀ q, (wr.drewN q).cell? ⟨ga, oa + i * 2 + 1, none⟩ = some (.string s) := fun _ => q2
      have d3 : ∀ q, (wr.drewN q).cell? ⟨gb, ob + i * 2, none⟩ = some (.int .i64 z) := fun _ => q3
      have d4 : ∀ q, (wr.drewN q).cell? ⟨gb, ob + i * 2 + 1, none⟩ = some (.string s) := fun _ => q4
      clear HA HB hca hcb
      go_wp2
      go_quiet (fail)
      go_wp2
      exact ⟨⟨i + 1, by go_num, by omega, below_drewN hbr _⟩, by simp [intOf]; omega⟩
    · obtain rfl : i = L.length := by omega
      clear HA HB
      go_wp2
      go_ret
      exact ⟨rfl, hbr⟩
set_option maxRecDepth 100000 in
set_option maxHeartbeats 2000000 in
theorem sametx_yes (va vb : Value) (L : List Tx) (hL : L.length ≤ 4000000) (hch : ∀ t ∈ L, t.changes.length ≤ 4000000 ∧ t.revokes = []) (w : World) (ha : TxnsIn va L w) (hb : TxnsIn vb L w) :
    Calls Tryz.prog 27 #[va, vb] w fun e w' => e = .returned (.bool true) ∧ Below w.heap.size w w' := by
  have mixed : Tryz.prog.follows .mixedOrders = true := by kernel_rfl
  obtain ⟨ada, capa, rfl, a1, a2, hada⟩ := ha.open
  obtain ⟨adb, capb, rfl, b1, b2, hadb⟩ := hb.open
  have HA := Lib.hid hada
  have HB := Lib.hid hadb
  have HCH := Lib.hid hch
  clear ha hb hada hadb hch
  go_enter Tryz.func27, Tryz.ntmps27
  go_wp2
  go_loopw [5] (fun q wr => ∃ i : Nat, q = .int .i64 i ∧ i ≤ L.length ∧ Below w.heap.size w wr) (fun q _ => L.length - (intOf q).toNat)
  case atStart => exact ⟨0, rfl, Nat.zero_le _, Below.refl _ _⟩
  case round =>
    obtain ⟨i, rfl, hi, hbr⟩ := hrel
    by_cases hlt : i < L.length
    · obtain ⟨ga, oa, rfl, hga, hca⟩ := HA.out (by omega)
      obtain ⟨gb, ob, rfl, hgb, hcb⟩ := HB.out (by omega)
      obtain ⟨u1, u2, p1, p2, p3, p4⟩ := hca i hlt
      obtain ⟨v1, v2, r1, r2, r3, r4⟩ := hcb i hlt
      obtain ⟨e1, e2⟩ := HCH.out L[i] (List.getElem_mem hlt)
      rw [e2] at p4 r4
      have bb : ∀ p : BelowP wr, Below w.heap.size w p.to := fun p => hbr.trans (p.h.mono hbr.size)
      have q1 := fun p : BelowP wr => ((bb p).cell (p := ⟨ga, oa + i * 2, none⟩) hga).trans p1
      have q2 := fun p : BelowP wr => ((bb p).cell (p := ⟨ga, oa + i * 2 + 1, none⟩) hga).trans p2
      have q3 := fun p : BelowP wr => ((bb p).cell (p := ⟨gb, ob + i * 2, none⟩) hgb).trans r1
      have q4 := fun p : BelowP wr => ((bb p).cell (p := ⟨gb, ob + i * 2 + 1, none⟩) hgb).trans r2
      have SC := Lib.hid fun p : BelowP wr => samech_yes u1 v1 L[i].changes e1 p.to (RowIn.kept p3 (bb p)) (RowIn.kept r3 (bb p))
      have SI := Lib.hid fun p : BelowP wr => same_yes u2 v2 [] (by simp) p.to (RowIn.kept p4 (bb p)) (RowIn.kept r4 (bb p))
      have HBR := Lib.hid hbr
      clear HA HB hca hcb p1 p2 p3 p4 r1 r2 r3 r4 e1 e2 bb hbr
      go_wp2
      refine wp_region_quiet_below mixed (by kernel_rfl) ?_
      repeat (go_big_quiet_step (first | (go_at_call 55; refine calls_below (SC.out _)) | (go_at_call 56; refine calls_below (SI.out _))))
      refine wpQuiet_nil ?_
      intro w0q hw'
      obtain ⟨⟨wq, bq⟩, hw''⟩ := hw'
      have hw2 : wq = w0q := hw''.symm
      clear hw''
      subst hw2
      clear SC SI q1 q2 q3 q4
      go_wp2
      exact ⟨⟨i + 1, by go_num, by omega, HBR.out.trans (bq.mono HBR.out.size)⟩, by simp [intOf]; omega⟩
    · obtain rfl : i = L.length := by omega
      clear HA HB
      go_wp2
      go_ret
      exact ⟨rfl, hbr⟩
end Go.Proofs.YtanghmogeiiooaaGreatDoor
