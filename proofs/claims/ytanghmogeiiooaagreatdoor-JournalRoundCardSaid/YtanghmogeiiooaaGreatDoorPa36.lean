import Derived.Test.YtanghmogeiiooaaGreatDoorPa01
import Derived.Test.YtanghmogeiiooaaGreatDoorPa04
import Derived.Test.YtanghmogeiiooaaGreatDoorPa21
import Derived.Test.YtanghmogeiiooaaGreatDoorPa34
import Derived.Test.YtanghmogeiiooaaGreatDoorPa35
import Derived.Test.YtanghmogeiiooaaGreatDoorPa25
import Derived.Laws.StructEq
set_option linter.unusedVariables false
set_option linter.unusedSimpArgs false
set_option linter.constructorNameAsVariable false
/- A row of one's own, as one that is read. -/
namespace Go.Proofs.YtanghmogeiiooaaGreatDoor
set_option linter.unusedVariables false
open Go.RowKit

theorem ownRow_in {B n z : Nat} {v : Value} {e : TypeId} {xs : List Value} {w : World} (h : w.ownsRow B e z v n xs) : RowIn z v n xs w := by
  obtain ⟨ad, cap, rfl, h1, h2, h3⟩ := shape_of h
  refine ⟨h.1, ad, cap, rfl, h1, h2, fun hp => ?_, fun e => ?_⟩
  · have hn : 0 < n := by
      rcases Nat.eq_zero_or_pos n with h0 | h0
      · rw [h.1, h0, Nat.zero_mul] at hp; omega
      · exact h0
    obtain ⟨g, rfl, _, hg⟩ := h3 hn
    exact ⟨g, 0, rfl, hg, fun k u hk => by
      have hl := (List.getElem?_eq_some_iff.1 hk).1
      rw [Nat.zero_add, h.cellAt k (by have := h.1; omega)]; exact hk⟩
  · subst e
    rcases h.2 with ⟨h0, _⟩ | ⟨g, c, cur, hv, _⟩
    · injection h0
    · cases hv
end Go.Proofs.YtanghmogeiiooaaGreatDoor

/- Format. -/
namespace Go.Proofs.YtanghmogeiiooaaGreatDoor
set_option linter.unusedVariables false
set_option linter.unusedSimpArgs false
open Go.RowKit

theorem zeros_bs : bs (zeroL 128) = zeros := by
  unfold bs zeroL zeros
  congr 1
theorem one_text (W : World) (s : ByteArray) : TextsIn (.slice (some ⟨W.heap.size, 0, none⟩) 1 1) [s] (W.alloc (.cells #[.string s] 9)) := by
  refine ⟨rfl, some ⟨W.heap.size, 0, none⟩, 1, rfl, Nat.le_refl _, by unfold maxLen; omega, fun _ => ⟨W.heap.size, 0, rfl, by rw [size_alloc]; omega, fun k u hk => ?_⟩, fun h => by cases h⟩
  rw [Nat.zero_add, World.cell?_alloc_mark]; simpa using hk
theorem four_acts {d lo hi : Nat} {v1 v2 v3 v4 : Value} {L1 L2 L3 L4 : List Deed} (W : World) (hhi : hi ≤ W.heap.size) (h1 : DoesV d lo hi v1 L1 W) (h2 : DoesV d lo hi v2 L2 W) (h3 : DoesV d lo hi v3 L3 W) (h4 : DoesV d lo hi v4 L4 W) :
    ActsRow2 d lo hi (.slice (some ⟨W.heap.size, 0, none⟩) 4 4) [L1, L2, L3, L4] (W.alloc (.cells #[v1, v2, v3, v4] 95)) :=
  acts_lit (vs := [v1, v2, v3, v4]) W rfl rfl (by decide) hhi fun k a b => by
    match k, a, b with
    | 0, _, _ => exact h1
    | 1, _, _ => exact h2
    | 2, _, _ => exact h3
    | 3, _, _ => exact h4
/-- what Format does with a device -/
def fmtD (l : Nat) : List Deed := writesD (slotsOf 1 (l : Int) 0 (List.replicate (l - 1) zeros) (l - 1)) ++ [.flush, .write 1 (blk (headR 0 1)), .flush]
theorem fmtD_length (l : Nat) : (fmtD l).length = l - 1 + 3 := by unfold fmtD; rw [List.length_append, List.length_map, slotsOf_length]; rfl
set_option maxHeartbeats 2000000 in
theorem jformat_nil (v : Value) (b l i la ma ml ta tl da : Int) (w : World) (h : NoDev v w) :
    Calls Tryz.prog 30 #[v, geo b l i la ma ml ta tl da] w fun e w' => e = .returned (.int .i64 1) ∧ Below w.heap.size w w' := by
  have gr : Tryz.prog.stoodInHeld 87 = false := by kernel_rfl
  obtain ⟨p, rfl⟩ : ∃ p, v = .pointer p := by rcases h with rfl | ⟨d, rfl, _⟩ <;> exact ⟨_, rfl⟩
  obtain ⟨w1, hw1⟩ : ∃ w1, w.alloc (.cells (cellsG b l i la ma ml ta tl da) 33) = w1 := ⟨_, rfl⟩
  have b1 : Below w.heap.size w w1 := by rw [← hw1]; exact balloc1 _ _
  have G1 : GeoAt w.heap.size b l i la ma ml ta tl da w1 := by rw [← hw1]; exact GeoAt.new _ _ _ _ _ _ _ _ _ _
  have R := Lib.hid (ringof_nil (.pointer p) b l i la ma ml ta tl da w1 (h.kept1 b1))
  obtain ⟨c0, c1, c2, c3, c4, c5, c6, c7, c8⟩ := G1.cells
  have HW1 := Lib.hid hw1
  clear h hw1 G1
  go_enter Tryz.func30, Tryz.ntmps30
  go_wp2_with fail
  rw [HW1.out]
  refine R.out.mono ?_; rintro e w2 ⟨rfl, b2⟩
  have hb2 := bnext b1 b2
  clear R HW1 b2 c0 c1 c2 c3 c4 c5 c6 c7 c8
  go_wp2
  go_ret
  exact ⟨rfl, balloc hb2 _⟩
set_option maxRecDepth 100000 in
set_option maxHeartbeats 4000000 in
theorem jformat_ok (d lo hi : Nat) (b l i m t : Nat) (hok : okN b l i m t) {S : St} (hn : S.n = b) (ha : S.acts ≤ 900000) (w : World) (h : DevAt d lo hi S w) :
    Calls Tryz.prog 30 #[.pointer (some ⟨d, 0, none⟩), lay b l i m t] w fun e w' => e = .returned (.int .i64 (deeds S (fmtD l)).1) ∧ DevAt d lo hi (deeds S (fmtD l)).2 w' ∧ Zone lo hi w w' := by
  have mixed : Tryz.prog.follows .mixedOrders = true := by kernel_rfl
  have gr : Tryz.prog.stoodInHeld 87 = false := by kernel_rfl
  have hl : 128 ≤ (l : Int) ∧ (l : Int) ≤ 512 := by have := hok.2.2.1; have := hok.2.2.2.1; omega
  obtain ⟨w1, hw1⟩ : ∃ w1, w.alloc (.cells (cellsG b l i 1 (1 + l) m (1 + l + m) t (1 + l + m + t)) 33) = w1 := ⟨_, rfl⟩
  have b1 : Below w.heap.size w w1 := by rw [← hw1]; exact balloc1 _ _
  have G1 : GeoAt w.heap.size b l i 1 (1 + l) m (1 + l + m) t (1 + l + m + t) w1 := by rw [← hw1]; exact GeoAt.new _ _ _ _ _ _ _ _ _ _
  have D1 := h.kept1 b1
  have R := Lib.hid (ringof_ok d lo hi b l i m t hok hn w1 D1)
  obtain ⟨c0, c1, c2, c3, c4, c5, c6, c7, c8⟩ := G1.cells
  have hdh := h.top
  have HF : Hid (fmtD l = writesD (slotsOf 1 (l : Int) 0 (List.replicate (l - 1) zeros) (l - 1)) ++ [.flush, .write 1 (blk (headR 0 1)), .flush]) := Lib.hid rfl
  have HFL := Lib.hid (fmtD_length l)
  have HF2 : Hid (S.acts + (fmtD l).length ≤ 1000000) := Lib.hid (by rw [fmtD_length]; omega)
  have SL := Lib.hid (jslots_any (some ⟨d, 0, none⟩) b l i 1 (1 + l) m (1 + l + m) t (1 + l + m + t) hl)
  have BG := Lib.hid fun W (hW : hi ≤ W.heap.size) => begin_any d b l i 1 (1 + l) m (1 + l + m) t (1 + l + m + t) 0 0 1 (by omega) (by omega) lo hi W hW
  have HW1 := Lib.hid hw1
  have HD1 := Lib.hid D1
  have hl1 : ((l : Int) - 1) = ((l - 1 : Nat) : Int) := by omega
  rw [hl1] at SL
  have HIS := Lib.hid fun W v (hv : TextsIn v (List.replicate (l - 1) zeros) W) => inslots_any (some ⟨d, 0, none⟩) b l i 1 (1 + l) m (1 + l + m) t (1 + l + m + t) hl (by omega) 0 (List.replicate (l - 1) zeros) (by rw [List.length_replicate]; omega) v W hv
  rw [List.length_replicate] at HIS
  have HSL := Lib.hid (slotsOf_length 1 (l : Int) 0 (List.replicate (l - 1) zeros) (l - 1))
  have HN1 := Lib.hid (show 1 ≤ l - 1 ∧ l - 1 ≤ 4000 by omega)
  generalize slotsOf 1 (l : Int) 0 (List.replicate (l - 1) zeros) (l - 1) = C at *
  clear hl1
  generalize l - 1 = N at *
  clear h hw1 G1 D1 hok hn
  go_enter Tryz.func30, Tryz.ntmps30
  go_wp2_with fail
  rw [HW1.out]
  refine R.out.mono ?_; rintro e w2 ⟨rfl, b2⟩
  have hb2 := bnext b1 b2
  have D2 := HD1.out.kept1 b2
  obtain ⟨rb, hrb⟩ : ∃ rb, w2.heap.size = rb := ⟨_, rfl⟩
  obtain ⟨w3, hw3⟩ : ∃ w3, w2.alloc (.cells (ringC (some ⟨d, 0, none⟩) b l i 1 (1 + l) m (1 + l + m) t (1 + l + m + t)) 87) = w3 := ⟨_, rfl⟩
  have R3 : RingAt rb (some ⟨d, 0, none⟩) b l i 1 (1 + l) m (1 + l + m) t (1 + l + m + t) w3 := by rw [← hw3, ← hrb]; exact RingAt.new _ _ _ _ _ _ _ _ _ _ _
  have D3 : DevAt d lo hi S w3 := by rw [← hw3]; exact D2.kept1 (balloc1 _ _)
  have hb3 : Below w.heap.size w w3 := by rw [← hw3]; exact balloc hb2 _
  have hrbh : hi ≤ rb := by have := hb2.size; omega
  have RP := Lib.hid (repeat_any 128 (by decide) w3)
  rw [zeros_bs] at RP
  have HW3 := Lib.hid hw3
  have HRB := Lib.hid hrb
  have HR3 := Lib.hid R3
  have HD3 := Lib.hid D3
  have HB3 := Lib.hid hb3
  clear R HW1 b2 c0 c1 c2 c3 c4 c5 c6 c7 c8 HD1 hb2 D2 hw3 hrb R3 D3 hb3 b1
  go_wp2_with fail
  rw [HW3.out]
  try rw [HRB.out]
  refine RP.out.mono ?_; rintro e w4 ⟨rfl, b4⟩
  have R4 := HR3.out.kept1 b4
  have D4 := HD3.out.kept1 b4
  have hb4 := bnext HB3.out b4
  have hrl := R4.lt
  have HR4 := Lib.hid R4
  have HD4 := Lib.hid D4
  have HB4 := Lib.hid hb4
  have RK := Lib.hid fun W (hW : Below w4.heap.size w4 W) => (R4.kept1 hW).cells
  clear RP HW3 HRB HR3 HD3 HB3 b4 R4 D4 hb4
  generalize zeros = Z at *
  go_upto_region 5 with fail
  refine wp_region_held_drew (S := fun W => Below w4.heap.size w4 W) mixed ((Below.refl _ _).drew) (fun hHeld => ?_)
  refine wpAnyH_take (i := 0) (oi := _) (v := ?va0) rfl (by kernel_rfl) (by kernel_rfl) (by kernel_rfl) (fun _ _ _ h => h) (Or.inl ⟨by kernel_rfl, ?hya0⟩) hHeld ?resta0
  case hya0 => (intro w9 hSw; obtain ⟨c0, c1, c2, c3, c4, c5, c6, c7, c8, c9⟩ := RK.out w9 hSw; clear hSw; go_simp; try with_reducible rfl)
  try simp only [Act.put, List.getElem_toArray, List.getElem_cons_zero, List.getElem_cons_succ, List.setIfInBounds_toArray, List.set_cons_zero, List.set_cons_succ]
  refine wpAnyH_take (i := 1) (oi := _) (v := ?va1) rfl (by kernel_rfl) (by kernel_rfl) (by kernel_rfl) (fun _ _ _ h => h) (Or.inl ⟨by kernel_rfl, ?hya1⟩) hHeld ?resta1
  case hya1 => (intro w9 hSw; clear hSw; go_simp; try with_reducible rfl)
  try simp only [Act.put, List.getElem_toArray, List.getElem_cons_zero, List.getElem_cons_succ, List.setIfInBounds_toArray, List.set_cons_zero, List.set_cons_succ]
  refine wpAnyH_take (i := 3) (oi := _) (v := ?va3) rfl (by kernel_rfl) (by kernel_rfl) (by kernel_rfl) (fun _ _ _ h => h) (Or.inl ⟨by kernel_rfl, ?hya3⟩) hHeld ?resta3
  case hya3 => (intro w9 hSw; obtain ⟨c0, c1, c2, c3, c4, c5, c6, c7, c8, c9⟩ := RK.out w9 hSw; clear hSw; go_simp; try with_reducible rfl)
  try simp only [Act.put, List.getElem_toArray, List.getElem_cons_zero, List.getElem_cons_succ, List.setIfInBounds_toArray, List.set_cons_zero, List.set_cons_succ]
  refine wpAnyH_ready (rs := [2, 4]) (by kernel_rfl) (by simp) ?_
  refine AllReadyH.cons (o := _) rfl (fun K hK => ?_) ?_
  · go_simp
    have HT := Lib.hid (one_text w4.drew Z)
    refine hK.out _ _ ((balloc (Below.refl _ _).drew _)) (fun hHeld3 => ?_)
    clear hK K hHeld
    have hHeld := hHeld3
    clear hHeld3
    try simp only [Act.put, List.getElem_toArray, List.getElem_cons_zero, List.getElem_cons_succ, List.setIfInBounds_toArray, List.set_cons_zero, List.set_cons_succ]
    refine wpAnyH_ready (rs := [4]) (by kernel_rfl) (by simp) ?_
    refine AllReadyH.cons (o := _) rfl (fun K hK => ?_) ?_
    · go_simp
      refine (SL.out _).mono ?_; rintro e wz ⟨rfl, bz⟩
      dsimp only
      have hHeldz : Below w4.heap.size w4 wz := hHeld.trans (bz.mono hHeld.size)
      replace HT := Lib.hid (RowIn.kept HT.out bz)
      clear bz
      refine hK.out _ _ (hHeldz) (fun hHeld3 => ?_)
      clear hK K hHeld
      have hHeld := hHeld3
      clear hHeld3
      try simp only [Act.put, List.getElem_toArray, List.getElem_cons_zero, List.getElem_cons_succ, List.setIfInBounds_toArray, List.set_cons_zero, List.set_cons_succ]
      refine wpAnyH_ready (rs := [5]) (by kernel_rfl) (by simp) ?_
      refine AllReadyH.cons (o := _) rfl (fun K hK => ?_) ?_
      · go_simp
        obtain ⟨n1, n2⟩ := HN1.out
        refine (jrepeat_any Z N n1 (by omega) _ _ HT.out).mono ?_; rintro e wr ⟨vr, rfl, hvr, br⟩
        dsimp only
        have hHeldr : Below w4.heap.size w4 wr := hHeld.trans (br.mono hHeld.size)
        have HV := Lib.hid hvr
        clear hvr br HT n1 n2
        refine hK.out _ _ (hHeldr) (fun hHeld3 => ?_)
        clear hK K hHeld
        have hHeld := hHeld3
        clear hHeld3
        try simp only [Act.put, List.getElem_toArray, List.getElem_cons_zero, List.getElem_cons_succ, List.setIfInBounds_toArray, List.set_cons_zero, List.set_cons_succ]
        refine wpAnyH_ready (rs := [6]) (by kernel_rfl) (by simp) ?_
        refine AllReadyH.cons (o := _) rfl (fun K hK => ?_) ?_
        · go_simp
          refine (HIS.out _ _ HV.out).mono ?_; rintro e wi ⟨vi, rfl, hvi, bi⟩
          dsimp only
          have hHeldi : Below w4.heap.size w4 wi := hHeldr.trans (bi.mono hHeldr.size)
          have hvj : ChgsIn vi C wi := ownRow_in hvi
          have HVI := Lib.hid hvj
          clear hvi bi HV hvj
          refine hK.out _ _ (hHeldi) (fun hHeld3 => ?_)
          clear hK K hHeld
          have hHeld := hHeld3
          clear hHeld3
          try simp only [Act.put, List.getElem_toArray, List.getElem_cons_zero, List.getElem_cons_succ, List.setIfInBounds_toArray, List.set_cons_zero, List.set_cons_succ]
          refine wpAnyH_ready (rs := [7]) (by kernel_rfl) (by simp) ?_
          refine AllReadyH.cons (o := _) rfl (fun K hK => ?_) ?_
          · go_simp
            refine hK.out _ _ (hHeldi) (fun hHeld3 => ?_)
            clear hK K hHeld
            have hHeld := hHeld3
            clear hHeld3
            try simp only [Act.put, List.getElem_toArray, List.getElem_cons_zero, List.getElem_cons_succ, List.setIfInBounds_toArray, List.set_cons_zero, List.set_cons_succ]
            refine ⟨by kernel_rfl, ?_⟩
            have RS := Lib.hid fun W (hW : Below wi.heap.size wi W) => (HR4.out.kept1 hHeldi).kept1 hW
            have HHi := Lib.hid hHeldi
            have HWR := Lib.hid fun W (hW : Below wi.heap.size wi W) => jwrite_any d b l i 1 (1 + l) m (1 + l + m) t (1 + l + m + t) C (by rw [HSL.out]; have := HN1.out; omega) vi lo hi W (by have := hHeldi.size; have := hW.size; omega) (RowIn.kept HVI.out hW)
            have hib : hi ≤ wi.heap.size := by have := hHeldi.size; omega
            have HDi := Lib.hid (HD4.out.kept1 hHeldi)
            have HBi := Lib.hid (bnext HB4.out hHeldi)
            have HFE : Hid ([writesD C, [.flush], [.write 1 (blk (headR 0 1))], [.flush]].flatten = fmtD l) := Lib.hid (by rw [HF.out]; try rfl)
            clear HF HFL HVI hHeld hHeldi hHeldz hHeldr RK SL HIS HN1 HR4 HD4 HB4
            generalize blk (headR 0 1) = H at *
            go_upto_region 6 with fail
            refine wp_region_held_drew (S := fun W => RingAt rb (some ⟨d, 0, none⟩) b l i 1 (1 + l) m (1 + l + m) t (1 + l + m + t) W) mixed (RS.out _ (Below.refl _ _).drew) (fun hHeld => ?_)
            refine wpAnyH_take (i := 0) (oi := _) (v := ?vb0) rfl (by kernel_rfl) (by kernel_rfl) (by kernel_rfl) (fun _ _ _ h => h) (Or.inl ⟨by kernel_rfl, ?hyb0⟩) hHeld ?restb0
            case hyb0 => (intro w9 hSw; obtain ⟨c0, c1, c2, c3, c4, c5, c6, c7, c8, c9⟩ := hSw.cells; clear hSw; go_simp; try with_reducible rfl)
            try simp only [Act.put, List.getElem_toArray, List.getElem_cons_zero, List.getElem_cons_succ, List.setIfInBounds_toArray, List.set_cons_zero, List.set_cons_succ]
            refine wpAnyH_take (i := 1) (oi := _) (v := ?vb1) rfl (by kernel_rfl) (by kernel_rfl) (by kernel_rfl) (fun _ _ _ h => h) (Or.inl ⟨by kernel_rfl, ?hyb1⟩) hHeld ?restb1
            case hyb1 => (intro w9 hSw; clear hSw; go_simp; try with_reducible rfl)
            try simp only [Act.put, List.getElem_toArray, List.getElem_cons_zero, List.getElem_cons_succ, List.setIfInBounds_toArray, List.set_cons_zero, List.set_cons_succ]
            refine wpAnyH_take (i := 3) (oi := _) (v := ?vb3) rfl (by kernel_rfl) (by kernel_rfl) (by kernel_rfl) (fun _ _ _ h => h) (Or.inl ⟨by kernel_rfl, ?hyb3⟩) hHeld ?restb3
            case hyb3 => (intro w9 hSw; clear hSw; go_simp; try with_reducible rfl)
            try simp only [Act.put, List.getElem_toArray, List.getElem_cons_zero, List.getElem_cons_succ, List.setIfInBounds_toArray, List.set_cons_zero, List.set_cons_succ]
            refine wpAnyH_take (i := 4) (oi := _) (v := ?vb4) rfl (by kernel_rfl) (by kernel_rfl) (by kernel_rfl) (fun _ _ _ h => h) (Or.inl ⟨by kernel_rfl, ?hyb4⟩) hHeld ?restb4
            case hyb4 => (intro w9 hSw; clear hSw; go_simp; try with_reducible rfl)
            try simp only [Act.put, List.getElem_toArray, List.getElem_cons_zero, List.getElem_cons_succ, List.setIfInBounds_toArray, List.set_cons_zero, List.set_cons_succ]
            refine wpAnyH_take (i := 5) (oi := _) (v := ?vb5) rfl (by kernel_rfl) (by kernel_rfl) (by kernel_rfl) (fun _ _ _ h => h) (Or.inl ⟨by kernel_rfl, ?hyb5⟩) hHeld ?restb5
            case hyb5 => (intro w9 hSw; obtain ⟨c0, c1, c2, c3, c4, c5, c6, c7, c8, c9⟩ := hSw.cells; clear hSw; go_simp; try with_reducible rfl)
            try simp only [Act.put, List.getElem_toArray, List.getElem_cons_zero, List.getElem_cons_succ, List.setIfInBounds_toArray, List.set_cons_zero, List.set_cons_succ]
            refine wpAnyH_take (i := 6) (oi := _) (v := ?vb6) rfl (by kernel_rfl) (by kernel_rfl) (by kernel_rfl) (fun _ _ _ h => h) (Or.inl ⟨by kernel_rfl, ?hyb6⟩) hHeld ?restb6
            case hyb6 => (intro w9 hSw; clear hSw; go_simp; try with_reducible rfl)
            try simp only [Act.put, List.getElem_toArray, List.getElem_cons_zero, List.getElem_cons_succ, List.setIfInBounds_toArray, List.set_cons_zero, List.set_cons_succ]
            refine wpAnyH_take (i := 8) (oi := _) (v := ?vb8) rfl (by kernel_rfl) (by kernel_rfl) (by kernel_rfl) (fun _ _ _ h => h) (Or.inl ⟨by kernel_rfl, ?hyb8⟩) hHeld ?restb8
            case hyb8 => (intro w9 hSw; clear hSw; go_simp; try with_reducible rfl)
            try simp only [Act.put, List.getElem_toArray, List.getElem_cons_zero, List.getElem_cons_succ, List.setIfInBounds_toArray, List.set_cons_zero, List.set_cons_succ]
            refine wpAnyH_take (i := 9) (oi := _) (v := ?vb9) rfl (by kernel_rfl) (by kernel_rfl) (by kernel_rfl) (fun _ _ _ h => h) (Or.inl ⟨by kernel_rfl, ?hyb9⟩) hHeld ?restb9
            case hyb9 => (intro w9 hSw; clear hSw; go_simp; try with_reducible rfl)
            try simp only [Act.put, List.getElem_toArray, List.getElem_cons_zero, List.getElem_cons_succ, List.setIfInBounds_toArray, List.set_cons_zero, List.set_cons_succ]
            refine wpAnyH_ready (rs := [2]) (by kernel_rfl) (by simp) ?_
            refine AllReadyH.cons (o := _) rfl (fun K hK => ?_) ?_
            · go_simp
              have hHeldx : Below wi.heap.size wi wi.drew := (Below.refl _ _).drew
              refine (HWR.out _ hHeldx).mono ?_; rintro e w5 ⟨rfl, hD5, b5⟩
              dsimp only
              have hHeld5 : Below wi.heap.size wi w5 := hHeldx.trans (b5.mono hHeldx.size)
              have HD5 := Lib.hid (does_clo hD5)
              clear hD5 b5 HWR
              refine hK.out _ _ (RS.out _ hHeld5) (fun hHeld3 => ?_)
              clear hK K hHeld
              have hHeld := hHeld3
              clear hHeld3
              try simp only [Act.put, List.getElem_toArray, List.getElem_cons_zero, List.getElem_cons_succ, List.setIfInBounds_toArray, List.set_cons_zero, List.set_cons_succ]
              refine wpAnyH_ready (rs := [7]) (by kernel_rfl) (by simp) ?_
              refine AllReadyH.cons (o := _) rfl (fun K hK => ?_) ?_
              · go_simp
                refine (BG.out _ (by have := hHeld5.size; omega)).mono ?_; rintro e w6 ⟨ab, rfl, hD6, b6⟩
                dsimp only
                have hHeld6 : Below wi.heap.size wi w6 := hHeld5.trans (b6.mono hHeld5.size)
                have HD6 := Lib.hid (does_clo hD6)
                replace HD5 := Lib.hid (HD5.out.kept1 b6)
                clear hD6 b6 BG
                refine hK.out _ _ (RS.out _ hHeld6) (fun hHeld3 => ?_)
                clear hK K hHeld
                have hHeld := hHeld3
                clear hHeld3
                try simp only [Act.put, List.getElem_toArray, List.getElem_cons_zero, List.getElem_cons_succ, List.setIfInBounds_toArray, List.set_cons_zero, List.set_cons_succ]
                refine wpAnyH_ready (rs := [10]) (by kernel_rfl) (by simp) ?_
                refine AllReadyH.cons (o := _) rfl (fun K hK => ?_) ?_
                · go_simp
                  have h6 : hi ≤ w6.heap.size := by have := hHeld6.size; omega
                  have HA := Lib.hid (four_acts w6 h6 HD5.out (does_flush d lo hi w6) HD6.out (does_flush d lo hi w6))
                  refine hK.out _ _ (RS.out _ (balloc hHeld6 _)) (fun hHeld3 => ?_)
                  clear hK K hHeld
                  have hHeld := hHeld3
                  clear hHeld3
                  try simp only [Act.put, List.getElem_toArray, List.getElem_cons_zero, List.getElem_cons_succ, List.setIfInBounds_toArray, List.set_cons_zero, List.set_cons_succ]
                  refine wpAnyH_ready (rs := [11]) (by kernel_rfl) (by simp) ?_
                  refine AllReadyH.cons (o := _) rfl (fun K hK => ?_) ?_
                  · go_simp
                    refine (do_any2 _ _ (HDi.out.kept1 (balloc hHeld6 _)) HA.out (by rw [HFE.out]; exact HF2.out)).mono ?_; rintro e w7 ⟨rfl, hd7, hz7⟩
                    dsimp only
                    rw [HFE.out] at hd7
                    try rw [HFE.out]
                    have hzA := (Zone.of_below (HBi.out.trans ((balloc hHeld6 _).mono HBi.out.size)) lo hi).trans hz7
                    refine hK.out _ _ ((hz7.block rb hHeld.lt (.inr hrbh)).trans hHeld) (fun hHeld3 => ?_)
                    clear hK K hHeld
                    have hHeld := hHeld3
                    clear hHeld3
                    try simp only [Act.put, List.getElem_toArray, List.getElem_cons_zero, List.getElem_cons_succ, List.setIfInBounds_toArray, List.set_cons_zero, List.set_cons_succ]
                    refine wpAnyH_ready (rs := [12]) (by kernel_rfl) (by simp) ?_
                    refine AllReadyH.cons (o := _) rfl (fun K hK => ?_) ?_
                    · go_simp
                      refine hK.out _ _ (hHeld) (fun hHeld3 => ?_)
                      clear hK K hHeld
                      have hHeld := hHeld3
                      clear hHeld3
                      try simp only [Act.put, List.getElem_toArray, List.getElem_cons_zero, List.getElem_cons_succ, List.setIfInBounds_toArray, List.set_cons_zero, List.set_cons_succ]
                      refine ⟨by kernel_rfl, ?_⟩
                      go_wp2
                      go_ret
                      exact ⟨rfl, hd7, hzA⟩
                    exact AllReadyH.nil
                  exact AllReadyH.nil
                exact AllReadyH.nil
              exact AllReadyH.nil
            exact AllReadyH.nil
          exact AllReadyH.nil
        exact AllReadyH.nil
      exact AllReadyH.nil
    exact AllReadyH.nil
  refine AllReadyH.cons (o := _) rfl (fun K hK => ?_) ?_
  · go_simp
    refine (SL.out _).mono ?_; rintro e wz ⟨rfl, bz⟩
    dsimp only
    have hHeldz : Below w4.heap.size w4 wz := hHeld.trans (bz.mono hHeld.size)
    clear bz
    refine hK.out _ _ (hHeldz) (fun hHeld3 => ?_)
    clear hK K hHeld
    have hHeld := hHeld3
    clear hHeld3
    try simp only [Act.put, List.getElem_toArray, List.getElem_cons_zero, List.getElem_cons_succ, List.setIfInBounds_toArray, List.set_cons_zero, List.set_cons_succ]
    refine wpAnyH_ready (rs := [2]) (by kernel_rfl) (by simp) ?_
    refine AllReadyH.cons (o := _) rfl (fun K hK => ?_) ?_
    · go_simp
      have HT := Lib.hid (one_text wz Z)
      refine hK.out _ _ ((balloc hHeldz _)) (fun hHeld3 => ?_)
      clear hK K hHeld
      have hHeld := hHeld3
      clear hHeld3
      try simp only [Act.put, List.getElem_toArray, List.getElem_cons_zero, List.getElem_cons_succ, List.setIfInBounds_toArray, List.set_cons_zero, List.set_cons_succ]
      refine wpAnyH_ready (rs := [5]) (by kernel_rfl) (by simp) ?_
      refine AllReadyH.cons (o := _) rfl (fun K hK => ?_) ?_
      · go_simp
        obtain ⟨n1, n2⟩ := HN1.out
        refine (jrepeat_any Z N n1 (by omega) _ _ HT.out).mono ?_; rintro e wr ⟨vr, rfl, hvr, br⟩
        dsimp only
        have hHeldr : Below w4.heap.size w4 wr := hHeld.trans (br.mono hHeld.size)
        have HV := Lib.hid hvr
        clear hvr br HT n1 n2
        refine hK.out _ _ (hHeldr) (fun hHeld3 => ?_)
        clear hK K hHeld
        have hHeld := hHeld3
        clear hHeld3
        try simp only [Act.put, List.getElem_toArray, List.getElem_cons_zero, List.getElem_cons_succ, List.setIfInBounds_toArray, List.set_cons_zero, List.set_cons_succ]
        refine wpAnyH_ready (rs := [6]) (by kernel_rfl) (by simp) ?_
        refine AllReadyH.cons (o := _) rfl (fun K hK => ?_) ?_
        · go_simp
          refine (HIS.out _ _ HV.out).mono ?_; rintro e wi ⟨vi, rfl, hvi, bi⟩
          dsimp only
          have hHeldi : Below w4.heap.size w4 wi := hHeldr.trans (bi.mono hHeldr.size)
          have hvj : ChgsIn vi C wi := ownRow_in hvi
          have HVI := Lib.hid hvj
          clear hvi bi HV hvj
          refine hK.out _ _ (hHeldi) (fun hHeld3 => ?_)
          clear hK K hHeld
          have hHeld := hHeld3
          clear hHeld3
          try simp only [Act.put, List.getElem_toArray, List.getElem_cons_zero, List.getElem_cons_succ, List.setIfInBounds_toArray, List.set_cons_zero, List.set_cons_succ]
          refine wpAnyH_ready (rs := [7]) (by kernel_rfl) (by simp) ?_
          refine AllReadyH.cons (o := _) rfl (fun K hK => ?_) ?_
          · go_simp
            refine hK.out _ _ (hHeldi) (fun hHeld3 => ?_)
            clear hK K hHeld
            have hHeld := hHeld3
            clear hHeld3
            try simp only [Act.put, List.getElem_toArray, List.getElem_cons_zero, List.getElem_cons_succ, List.setIfInBounds_toArray, List.set_cons_zero, List.set_cons_succ]
            refine ⟨by kernel_rfl, ?_⟩
            have RS := Lib.hid fun W (hW : Below wi.heap.size wi W) => (HR4.out.kept1 hHeldi).kept1 hW
            have HHi := Lib.hid hHeldi
            have HWR := Lib.hid fun W (hW : Below wi.heap.size wi W) => jwrite_any d b l i 1 (1 + l) m (1 + l + m) t (1 + l + m + t) C (by rw [HSL.out]; have := HN1.out; omega) vi lo hi W (by have := hHeldi.size; have := hW.size; omega) (RowIn.kept HVI.out hW)
            have hib : hi ≤ wi.heap.size := by have := hHeldi.size; omega
            have HDi := Lib.hid (HD4.out.kept1 hHeldi)
            have HBi := Lib.hid (bnext HB4.out hHeldi)
            have HFE : Hid ([writesD C, [.flush], [.write 1 (blk (headR 0 1))], [.flush]].flatten = fmtD l) := Lib.hid (by rw [HF.out]; try rfl)
            clear HF HFL HVI hHeld hHeldi hHeldz hHeldr RK SL HIS HN1 HR4 HD4 HB4
            generalize blk (headR 0 1) = H at *
            go_upto_region 6 with fail
            refine wp_region_held_drew (S := fun W => RingAt rb (some ⟨d, 0, none⟩) b l i 1 (1 + l) m (1 + l + m) t (1 + l + m + t) W) mixed (RS.out _ (Below.refl _ _).drew) (fun hHeld => ?_)
            refine wpAnyH_take (i := 0) (oi := _) (v := ?vc0) rfl (by kernel_rfl) (by kernel_rfl) (by kernel_rfl) (fun _ _ _ h => h) (Or.inl ⟨by kernel_rfl, ?hyc0⟩) hHeld ?restc0
            case hyc0 => (intro w9 hSw; obtain ⟨c0, c1, c2, c3, c4, c5, c6, c7, c8, c9⟩ := hSw.cells; clear hSw; go_simp; try with_reducible rfl)
            try simp only [Act.put, List.getElem_toArray, List.getElem_cons_zero, List.getElem_cons_succ, List.setIfInBounds_toArray, List.set_cons_zero, List.set_cons_succ]
            refine wpAnyH_take (i := 1) (oi := _) (v := ?vc1) rfl (by kernel_rfl) (by kernel_rfl) (by kernel_rfl) (fun _ _ _ h => h) (Or.inl ⟨by kernel_rfl, ?hyc1⟩) hHeld ?restc1
            case hyc1 => (intro w9 hSw; clear hSw; go_simp; try with_reducible rfl)
            try simp only [Act.put, List.getElem_toArray, List.getElem_cons_zero, List.getElem_cons_succ, List.setIfInBounds_toArray, List.set_cons_zero, List.set_cons_succ]
            refine wpAnyH_take (i := 3) (oi := _) (v := ?vc3) rfl (by kernel_rfl) (by kernel_rfl) (by kernel_rfl) (fun _ _ _ h => h) (Or.inl ⟨by kernel_rfl, ?hyc3⟩) hHeld ?restc3
            case hyc3 => (intro w9 hSw; clear hSw; go_simp; try with_reducible rfl)
            try simp only [Act.put, List.getElem_toArray, List.getElem_cons_zero, List.getElem_cons_succ, List.setIfInBounds_toArray, List.set_cons_zero, List.set_cons_succ]
            refine wpAnyH_take (i := 4) (oi := _) (v := ?vc4) rfl (by kernel_rfl) (by kernel_rfl) (by kernel_rfl) (fun _ _ _ h => h) (Or.inl ⟨by kernel_rfl, ?hyc4⟩) hHeld ?restc4
            case hyc4 => (intro w9 hSw; clear hSw; go_simp; try with_reducible rfl)
            try simp only [Act.put, List.getElem_toArray, List.getElem_cons_zero, List.getElem_cons_succ, List.setIfInBounds_toArray, List.set_cons_zero, List.set_cons_succ]
            refine wpAnyH_take (i := 5) (oi := _) (v := ?vc5) rfl (by kernel_rfl) (by kernel_rfl) (by kernel_rfl) (fun _ _ _ h => h) (Or.inl ⟨by kernel_rfl, ?hyc5⟩) hHeld ?restc5
            case hyc5 => (intro w9 hSw; obtain ⟨c0, c1, c2, c3, c4, c5, c6, c7, c8, c9⟩ := hSw.cells; clear hSw; go_simp; try with_reducible rfl)
            try simp only [Act.put, List.getElem_toArray, List.getElem_cons_zero, List.getElem_cons_succ, List.setIfInBounds_toArray, List.set_cons_zero, List.set_cons_succ]
            refine wpAnyH_take (i := 6) (oi := _) (v := ?vc6) rfl (by kernel_rfl) (by kernel_rfl) (by kernel_rfl) (fun _ _ _ h => h) (Or.inl ⟨by kernel_rfl, ?hyc6⟩) hHeld ?restc6
            case hyc6 => (intro w9 hSw; clear hSw; go_simp; try with_reducible rfl)
            try simp only [Act.put, List.getElem_toArray, List.getElem_cons_zero, List.getElem_cons_succ, List.setIfInBounds_toArray, List.set_cons_zero, List.set_cons_succ]
            refine wpAnyH_take (i := 8) (oi := _) (v := ?vc8) rfl (by kernel_rfl) (by kernel_rfl) (by kernel_rfl) (fun _ _ _ h => h) (Or.inl ⟨by kernel_rfl, ?hyc8⟩) hHeld ?restc8
            case hyc8 => (intro w9 hSw; clear hSw; go_simp; try with_reducible rfl)
            try simp only [Act.put, List.getElem_toArray, List.getElem_cons_zero, List.getElem_cons_succ, List.setIfInBounds_toArray, List.set_cons_zero, List.set_cons_succ]
            refine wpAnyH_take (i := 9) (oi := _) (v := ?vc9) rfl (by kernel_rfl) (by kernel_rfl) (by kernel_rfl) (fun _ _ _ h => h) (Or.inl ⟨by kernel_rfl, ?hyc9⟩) hHeld ?restc9
            case hyc9 => (intro w9 hSw; clear hSw; go_simp; try with_reducible rfl)
            try simp only [Act.put, List.getElem_toArray, List.getElem_cons_zero, List.getElem_cons_succ, List.setIfInBounds_toArray, List.set_cons_zero, List.set_cons_succ]
            refine wpAnyH_ready (rs := [2]) (by kernel_rfl) (by simp) ?_
            refine AllReadyH.cons (o := _) rfl (fun K hK => ?_) ?_
            · go_simp
              have hHeldx : Below wi.heap.size wi wi.drew := (Below.refl _ _).drew
              refine (HWR.out _ hHeldx).mono ?_; rintro e w5 ⟨rfl, hD5, b5⟩
              dsimp only
              have hHeld5 : Below wi.heap.size wi w5 := hHeldx.trans (b5.mono hHeldx.size)
              have HD5 := Lib.hid (does_clo hD5)
              clear hD5 b5 HWR
              refine hK.out _ _ (RS.out _ hHeld5) (fun hHeld3 => ?_)
              clear hK K hHeld
              have hHeld := hHeld3
              clear hHeld3
              try simp only [Act.put, List.getElem_toArray, List.getElem_cons_zero, List.getElem_cons_succ, List.setIfInBounds_toArray, List.set_cons_zero, List.set_cons_succ]
              refine wpAnyH_ready (rs := [7]) (by kernel_rfl) (by simp) ?_
              refine AllReadyH.cons (o := _) rfl (fun K hK => ?_) ?_
              · go_simp
                refine (BG.out _ (by have := hHeld5.size; omega)).mono ?_; rintro e w6 ⟨ab, rfl, hD6, b6⟩
                dsimp only
                have hHeld6 : Below wi.heap.size wi w6 := hHeld5.trans (b6.mono hHeld5.size)
                have HD6 := Lib.hid (does_clo hD6)
                replace HD5 := Lib.hid (HD5.out.kept1 b6)
                clear hD6 b6 BG
                refine hK.out _ _ (RS.out _ hHeld6) (fun hHeld3 => ?_)
                clear hK K hHeld
                have hHeld := hHeld3
                clear hHeld3
                try simp only [Act.put, List.getElem_toArray, List.getElem_cons_zero, List.getElem_cons_succ, List.setIfInBounds_toArray, List.set_cons_zero, List.set_cons_succ]
                refine wpAnyH_ready (rs := [10]) (by kernel_rfl) (by simp) ?_
                refine AllReadyH.cons (o := _) rfl (fun K hK => ?_) ?_
                · go_simp
                  have h6 : hi ≤ w6.heap.size := by have := hHeld6.size; omega
                  have HA := Lib.hid (four_acts w6 h6 HD5.out (does_flush d lo hi w6) HD6.out (does_flush d lo hi w6))
                  refine hK.out _ _ (RS.out _ (balloc hHeld6 _)) (fun hHeld3 => ?_)
                  clear hK K hHeld
                  have hHeld := hHeld3
                  clear hHeld3
                  try simp only [Act.put, List.getElem_toArray, List.getElem_cons_zero, List.getElem_cons_succ, List.setIfInBounds_toArray, List.set_cons_zero, List.set_cons_succ]
                  refine wpAnyH_ready (rs := [11]) (by kernel_rfl) (by simp) ?_
                  refine AllReadyH.cons (o := _) rfl (fun K hK => ?_) ?_
                  · go_simp
                    refine (do_any2 _ _ (HDi.out.kept1 (balloc hHeld6 _)) HA.out (by rw [HFE.out]; exact HF2.out)).mono ?_; rintro e w7 ⟨rfl, hd7, hz7⟩
                    dsimp only
                    rw [HFE.out] at hd7
                    try rw [HFE.out]
                    have hzA := (Zone.of_below (HBi.out.trans ((balloc hHeld6 _).mono HBi.out.size)) lo hi).trans hz7
                    refine hK.out _ _ ((hz7.block rb hHeld.lt (.inr hrbh)).trans hHeld) (fun hHeld3 => ?_)
                    clear hK K hHeld
                    have hHeld := hHeld3
                    clear hHeld3
                    try simp only [Act.put, List.getElem_toArray, List.getElem_cons_zero, List.getElem_cons_succ, List.setIfInBounds_toArray, List.set_cons_zero, List.set_cons_succ]
                    refine wpAnyH_ready (rs := [12]) (by kernel_rfl) (by simp) ?_
                    refine AllReadyH.cons (o := _) rfl (fun K hK => ?_) ?_
                    · go_simp
                      refine hK.out _ _ (hHeld) (fun hHeld3 => ?_)
                      clear hK K hHeld
                      have hHeld := hHeld3
                      clear hHeld3
                      try simp only [Act.put, List.getElem_toArray, List.getElem_cons_zero, List.getElem_cons_succ, List.setIfInBounds_toArray, List.set_cons_zero, List.set_cons_succ]
                      refine ⟨by kernel_rfl, ?_⟩
                      go_wp2
                      go_ret
                      exact ⟨rfl, hd7, hzA⟩
                    exact AllReadyH.nil
                  exact AllReadyH.nil
                exact AllReadyH.nil
              exact AllReadyH.nil
            exact AllReadyH.nil
          exact AllReadyH.nil
        exact AllReadyH.nil
      exact AllReadyH.nil
    exact AllReadyH.nil
  exact AllReadyH.nil
end Go.Proofs.YtanghmogeiiooaaGreatDoor

/- Steps in memory; many. -/
namespace Go.Proofs.YtanghmogeiiooaaGreatDoor
set_option linter.unusedVariables false
set_option linter.unusedSimpArgs false
open Go.RowKit

/-- bytes, wherever they lie -/
abbrev U8In (v : Value) (C : List Nat) (w : World) : Prop := RowIn 1 v C.length (C.map fun (n : Nat) => Value.int .u8 (n : Int)) w
structure StepX where
  kind : Nat
  chg : List Nat
  rev : List Nat
  fill : Nat
  data : Bool
abbrev stepV (x : StepX) (vc vr : Value) : Value := .agg #[.int .u8 (x.kind : Int), vc, vr, .int .u8 (x.fill : Int), .bool x.data]
abbrev stepC (x : StepX) (vc vr : Value) : Array Value := #[.int .u8 (x.kind : Int), vc, vr, .int .u8 (x.fill : Int), .bool x.data]
/-- a step, and its lists, at v's place k -/
structure StepIn (x : StepX) (vc vr : Value) (w : World) : Prop where
  kind : x.kind < 256
  fill : x.fill < 256
  chg : ∀ n ∈ x.chg, n < 256
  rev : ∀ n ∈ x.rev, n < 256
  vc : U8In vc x.chg w
  vr : U8In vr x.rev w
theorem StepIn.kept {x : StepX} {vc vr : Value} {w w' : World} (h : StepIn x vc vr w) (hb : Below w.heap.size w w') : StepIn x vc vr w' := ⟨h.kind, h.fill, h.chg, h.rev, h.vc.kept hb, h.vr.kept hb⟩
/-- v is a slice of n steps, X 0, .. -/
def StepsIn (v : Value) (n : Nat) (X : Nat → StepX) (w : World) : Prop := ∃ (ad : Option Addr) (cap : Nat), v = .slice ad n cap ∧ n ≤ cap ∧ cap ≤ 9223372036854775807 ∧
  (0 < n → ∃ g o, ad = some ⟨g, o, none⟩ ∧ g < w.heap.size ∧ ∃ VC VR : Nat → Value, ∀ k, k < n → StepIn (X k) (VC k) (VR k) w ∧ ∀ j u, (stepC (X k) (VC k) (VR k))[j]? = some u → w.cell? ⟨g, o + (k * 5 + j), none⟩ = some u)
theorem StepsIn.kept {v : Value} {n : Nat} {X : Nat → StepX} {w w' : World} (h : StepsIn v n X w) (hb : Below w.heap.size w w') : StepsIn v n X w' := by
  obtain ⟨ad, cap, rfl, h1, h2, h3⟩ := h
  refine ⟨ad, cap, rfl, h1, h2, fun hp => ?_⟩
  obtain ⟨g, o, rfl, hg, VC, VR, hx⟩ := h3 hp
  exact ⟨g, o, rfl, Nat.lt_of_lt_of_le hg hb.size, VC, VR, fun k hk => ⟨(hx k hk).1.kept hb, fun j u hj => (hb.cell (p := ⟨g, o + (k * 5 + j), none⟩) hg).trans ((hx k hk).2 j u hj)⟩⟩
theorem u8In_len {v : Value} {C : List Nat} {w : World} (h : U8In v C w) : ∃ ad cap, v = .slice ad C.length cap ∧ C.length ≤ cap ∧ cap ≤ 9223372036854775807 := by
  obtain ⟨ad, cap, rfl, h1, h2, -⟩ := h.shape
  exact ⟨ad, cap, rfl, h1, h2⟩
/-- more than are gone through -/
def FewSteps (n : Nat) (X : Nat → StepX) : Prop := n ≤ 30 ∧ ∀ k, k < n → (X k).chg.length ≤ 100 ∧ (X k).rev.length ≤ 100
set_option maxRecDepth 100000 in
set_option maxHeartbeats 4000000 in
theorem many_any (v : Value) (n : Nat) (X : Nat → StepX) (w : World) (h : StepsIn v n X w) :
    Calls Tryz.prog 7 #[v] w fun e w' => ∃ b : Bool, e = .returned (.bool b) ∧ (b = false → FewSteps n X) ∧ Below w.heap.size w w' := by
  obtain ⟨ad, cap, rfl, h1, h2, h3⟩ := h
  have H3 := Lib.hid h3
  clear h3
  go_enter Tryz.func7, Tryz.ntmps7
  go_wp2
  go_loopw [3] (fun p wr => ∃ k : Nat, p = .int .i64 k ∧ k ≤ n ∧ Hid (∀ j, j < k → (X j).chg.length ≤ 100 ∧ (X j).rev.length ≤ 100) ∧ Below w.heap.size w wr) (fun p _ => n - (intOf p).toNat)
  case atStart => exact ⟨0, rfl, Nat.zero_le _, Lib.hid (fun j hj => by omega), Below.refl _ _⟩
  case round =>
    obtain ⟨k, rfl, hk, HK, hb⟩ := hrel
    by_cases hlt : k < n
    · obtain ⟨g, o, rfl, hg, VC, VR, hx⟩ := H3.out (by omega)
      obtain ⟨hs, hc⟩ := hx k hlt
      obtain ⟨ac, cc, ec, c1, c2⟩ := u8In_len hs.vc
      obtain ⟨ar, cr, er, r1, r2⟩ := u8In_len hs.vr
      have k1 := (hb.cell (p := ⟨g, o + (k * 5 + 1), none⟩) hg).trans (hc 1 _ rfl)
      have k2 := (hb.cell (p := ⟨g, o + (k * 5 + 2), none⟩) hg).trans (hc 2 _ rfl)
      rw [ec] at k1
      rw [er] at k2
      have k1' := k1
      have k2' := k2
      rw [← Nat.add_assoc] at k1' k2'
      have HKn : Hid ((X k).chg.length ≤ 100 → (X k).rev.length ≤ 100 → ∀ j, j < k + 1 → (X j).chg.length ≤ 100 ∧ (X j).rev.length ≤ 100) := Lib.hid fun e1 e2 j hj => by
        by_cases e : j = k
        · subst e; exact ⟨e1, e2⟩
        · exact HK.out j (by omega)
      generalize (X k).chg.length = nc at *
      generalize (X k).rev.length = nr at *
      clear hs hc hx H3 ec er
      by_cases hc100 : nc ≤ 100
      · have t1 : decide ((100 : Int) < (nc : Int)) = false := decide_eq_false (by omega)
        by_cases hr100 : nr ≤ 100
        · have t2 : decide ((100 : Int) < (nr : Int)) = false := decide_eq_false (by omega)
          have HK2 := Lib.hid (HKn.out hc100 hr100)
          clear HKn HK hc100 hr100
          go_wp2
          exact ⟨⟨k + 1, by go_num, by omega, HK2, hb⟩, by simp [intOf]; omega⟩
        · have t2 : decide ((100 : Int) < (nr : Int)) = true := decide_eq_true (by omega)
          clear HKn HK hc100 hr100
          go_wp2
          go_ret
          exact ⟨_, rfl, fun h => by simp at h, hb⟩
      · have t1 : decide ((100 : Int) < (nc : Int)) = true := decide_eq_true (by omega)
        clear HKn HK hc100
        go_wp2
        go_ret
        exact ⟨_, rfl, fun h => by simp at h, hb⟩
    · obtain rfl : k = n := by omega
      go_wp2
      go_ret
      exact ⟨_, rfl, fun h => ⟨by have h2 : ¬ (30 : Int) < (k : Int) := of_decide_eq_false h; omega, HK.out⟩, hb⟩
end Go.Proofs.YtanghmogeiiooaaGreatDoor
