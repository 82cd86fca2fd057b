import Derived.Test.YtanghmogeiiooaaGreatDoorPa25
import Derived.Deep.RegionHeld3
import Derived.Deep.RegionLaw
import Derived.Test.YtanghmogeiiooaaGreatDoorPa09
import Derived.Test.YtanghmogeiiooaaGreatDoorPa22
import Derived.Deep.MidRow
set_option linter.unusedVariables false
set_option linter.unusedSimpArgs false
set_option linter.constructorNameAsVariable false
/- validChanges: may these changes be committed? -/
namespace Go.Proofs.YtanghmogeiiooaaGreatDoor
set_option linter.unusedVariables false
set_option linter.unusedSimpArgs false
open Go.RowKit

/-- blocks of 128 bytes, whose numbers rise and are homes -/
def chgsOk (hm : Int → Bool) (L : List (Int × ByteArray)) : Bool := (L.all fun c => decide (c.2.size = 128)) && decide (riseTo hm (L.map Prod.fst) (L.map Prod.fst).length)
theorem chgsOk_no {hm : Int → Bool} {L : List (Int × ByteArray)} {k : Nat} (hk : k < L.length) (h : L[k].2.size ≠ 128) : chgsOk hm L = false := by
  unfold chgsOk
  rw [Bool.and_eq_false_iff]
  refine .inl (Bool.eq_false_iff.2 fun q => ?_)
  rw [List.all_eq_true] at q
  exact h (of_decide_eq_true (q _ (List.getElem_mem hk)))
theorem chgsOk_yes {hm : Int → Bool} {L : List (Int × ByteArray)} (h : ∀ j (hj : j < L.length), j < L.length → L[j].2.size = 128) : decide (riseTo hm (L.map Prod.fst) (L.map Prod.fst).length) = chgsOk hm L := by
  unfold chgsOk
  rw [List.all_eq_true.2 fun c hc => by obtain ⟨j, hj, rfl⟩ := List.getElem_of_mem hc; exact decide_eq_true (h j hj hj), Bool.true_and]
set_option maxRecDepth 100000 in
set_option maxHeartbeats 8000000 in
theorem validChanges_any (d : Option Addr) (b l i la ma ml ta tl da : Int) (hl : 128 ≤ l ∧ l ≤ 512) (hla : 0 ≤ la ∧ la ≤ 4096) (L : List (Int × ByteArray)) (hL : L.length ≤ 4000) (v : Value) (w : World) (hv : ChgsIn v L w) :
    Calls Tryz.prog 46 #[ringV d b l i la ma ml ta tl da, v] w fun e w' => e = .returned (.bool (chgsOk (hmB b la l) L)) ∧ Below w.heap.size w w' := by
  have mixed : Tryz.prog.follows .mixedOrders = true := by kernel_rfl
  have hvk := fun w' (hb : Below w.heap.size w w') => RowIn.kept hv hb
  obtain ⟨ad, cap, rfl, h1, h2, h3⟩ := hv.open
  have H3 := Lib.hid h3
  have CHG := Lib.hid (fun w' (hb : Below w.heap.size w w') => changed_any L hL (.slice ad L.length cap) w' (hvk w' hb))
  have RI := Lib.hid (fun v' w' h => rising_any d b l i la ma ml ta tl da hl hla (L.map Prod.fst) v' w' h)
  have hb0 := balloc1 w (.cells (ringC d b l i la ma ml ta tl da) 87)
  have R0 := RingAt.new d b l i la ma ml ta tl da w
  have HNO := Lib.hid (fun k hk h => chgsOk_no (hm := hmB b la l) (L := L) (k := k) hk h)
  have HYES := Lib.hid (fun h => chgsOk_yes (hm := hmB b la l) (L := L) h)
  obtain ⟨OK, hOK⟩ : ∃ OK, chgsOk (hmB b la l) L = OK := ⟨_, rfl⟩
  obtain ⟨RZ, hRZ⟩ : ∃ RZ, decide (riseTo (hmB b la l) (L.map Prod.fst) (L.map Prod.fst).length) = RZ := ⟨_, rfl⟩
  rw [hOK] at HNO HYES ⊢
  rw [hRZ] at RI HYES
  clear h3 hv hvk hOK hRZ
  go_enter Tryz.func46, Tryz.ntmps46
  go_wp2
  go_loopw [9] (fun q wr => ∃ k : Nat, q = .int .i64 k ∧ k ≤ L.length ∧ Hid (∀ j (hj : j < L.length), j < k → L[j].2.size = 128) ∧ RingAt w.heap.size d b l i la ma ml ta tl da wr ∧ Below w.heap.size w wr) (fun q _ => L.length - (intOf q).toNat)
  case atStart => exact ⟨0, rfl, Nat.zero_le _, Lib.hid (fun j _ hj => by omega), R0, hb0⟩
  case round =>
    clear R0 hb0
    obtain ⟨k, rfl, hk, HU, hR, hB⟩ := hrel
    by_cases hlt : k < L.length
    · obtain ⟨g, o, rfl, hg, hc⟩ := H3.out (by omega)
      obtain ⟨c0, c1⟩ := hc k hlt
      have c0 := (hB.cell (p := ⟨g, o + k * 2, none⟩) hg).trans c0
      have c1 := (hB.cell (p := ⟨g, o + k * 2 + 1, none⟩) hg).trans c1
      have HR1 := Lib.hid fun (o : Obj) => hR.kept1 (balloc1 wr o)
      have HB1 := Lib.hid fun (o : Obj) => balloc hB o
      by_cases hz : L[k].2.size = 128
      · have HN : Hid (∀ j (hj : j < L.length), j < k + 1 → L[j].2.size = 128) := Lib.hid fun j hj h => by
          by_cases e : j = k
          · subst e; exact hz
          · exact HU.out j hj (by omega)
        have t1 : ((L[k].2.size : Int) != 128) = false := by rw [bne_eq_false_iff_eq]; omega
        clear hc hR hB H3 hz
        generalize L[k] = c at *
        obtain ⟨cx, cs⟩ := c
        dsimp only at *
        go_wp2
        exact ⟨⟨k + 1, by go_num, by omega, HN, HR1.out _, HB1.out _⟩, by simp [intOf]; omega⟩
      · have HE := Lib.hid (HNO.out k hlt hz)
        have t1 : ((L[k].2.size : Int) != 128) = true := by rw [bne_iff_ne]; omega
        clear hc hR hB H3 hz
        generalize L[k] = c at *
        obtain ⟨cx, cs⟩ := c
        dsimp only at *
        go_wp2
        go_ret
        exact ⟨ret_bool HE.out.symm, HB1.out _⟩
    · obtain rfl : k = L.length := by omega
      have HE : Hid (RZ = OK) := Lib.hid (HYES.out HU.out)
      have hBd := hB.drew
      have hRd : RingAt w.heap.size d b l i la ma ml ta tl da wr.drew := hR
      obtain ⟨c0, c1, c2, c3, c4, c5, c6, c7, c8, c9⟩ := hR.cells
      clear H3 HU hB hR
      go_upto_region 7 with fail
      refine wp_region_held_drew (S := fun _ => True) mixed trivial (fun hHeld => ?_)
      clear hHeld
      refine wpAnyH_take (i := 1) (oi := _) (v := ?v91) rfl (by kernel_rfl) (by kernel_rfl) (by kernel_rfl) (fun _ _ _ h => h) (Or.inl ⟨by kernel_rfl, ?hy91⟩) trivial ?rest91
      case hy91 => (intro w9 hSw; clear hSw; go_simp; try with_reducible rfl)
      try simp only [Act.put, List.setIfInBounds_toArray, List.set_cons_zero, List.set_cons_succ]
      refine wpAnyH_ready (rs := [0, 2]) (by kernel_rfl) (by simp) ?_
      refine AllReadyH.cons (o := _) rfl (fun K hK => ?_) ?_
      · go_simp
        refine hK.out _ _ trivial (fun hHeld => ?_)
        clear hK K hHeld
        try simp only [Act.put, List.setIfInBounds_toArray, List.set_cons_zero, List.set_cons_succ]
        refine wpAnyH_ready (rs := [2]) (by kernel_rfl) (by simp) ?_
        refine AllReadyH.cons (o := _) rfl (fun K hK => ?_) ?_
        · go_simp
          refine (CHG.out _ hBd).mono ?_; rintro e wz ⟨vb, rfl, hvb, bz⟩
          dsimp only
          have HVB := Lib.hid (own_in hvb)
          have HB2 := Lib.hid (bnext hBd bz)
          clear hvb
          obtain ⟨z0, z1, z2, z3, z4, z5, z6, z7, z8, z9⟩ := (hRd.kept1 bz).cells
          clear bz
          refine hK.out _ _ trivial (fun hHeld => ?_)
          clear hK K hHeld
          try simp only [Act.put, List.setIfInBounds_toArray, List.set_cons_zero, List.set_cons_succ]
          refine wpAnyH_ready (rs := [3]) (by kernel_rfl) (by simp) ?_
          refine AllReadyH.cons (o := _) rfl (fun K hK => ?_) ?_
          · go_simp
            refine (RI.out _ _ HVB.out).mono ?_; rintro e wy ⟨rfl, bz⟩
            dsimp only
            have HB3 := Lib.hid (bnext HB2.out bz)
            clear bz
            refine hK.out _ _ trivial (fun hHeld => ?_)
            clear hK K hHeld
            try simp only [Act.put, List.setIfInBounds_toArray, List.set_cons_zero, List.set_cons_succ]
            refine wpAnyH_ready (rs := [4]) (by kernel_rfl) (by simp) ?_
            refine AllReadyH.cons (o := _) rfl (fun K hK => ?_) ?_
            · go_simp
              refine hK.out _ _ trivial (fun hHeld => ?_)
              clear hK K hHeld
              try simp only [Act.put, List.setIfInBounds_toArray, List.set_cons_zero, List.set_cons_succ]
              refine ⟨by kernel_rfl, ?_⟩
              go_wp2
              go_ret
              exact ⟨ret_bool HE.out, HB3.out⟩
            exact AllReadyH.nil
          exact AllReadyH.nil
        exact AllReadyH.nil
      refine AllReadyH.cons (o := _) rfl (fun K hK => ?_) ?_
      · go_simp
        refine (CHG.out _ hBd).mono ?_; rintro e wz ⟨vb, rfl, hvb, bz⟩
        dsimp only
        have HVB := Lib.hid (own_in hvb)
        have HB2 := Lib.hid (bnext hBd bz)
        clear hvb
        obtain ⟨z0, z1, z2, z3, z4, z5, z6, z7, z8, z9⟩ := (hRd.kept1 bz).cells
        clear bz
        refine hK.out _ _ trivial (fun hHeld => ?_)
        clear hK K hHeld
        try simp only [Act.put, List.setIfInBounds_toArray, List.set_cons_zero, List.set_cons_succ]
        refine wpAnyH_ready (rs := [0]) (by kernel_rfl) (by simp) ?_
        refine AllReadyH.cons (o := _) rfl (fun K hK => ?_) ?_
        · go_simp
          refine hK.out _ _ trivial (fun hHeld => ?_)
          clear hK K hHeld
          try simp only [Act.put, List.setIfInBounds_toArray, List.set_cons_zero, List.set_cons_succ]
          refine wpAnyH_ready (rs := [3]) (by kernel_rfl) (by simp) ?_
          refine AllReadyH.cons (o := _) rfl (fun K hK => ?_) ?_
          · go_simp
            refine (RI.out _ _ HVB.out).mono ?_; rintro e wy ⟨rfl, bz⟩
            dsimp only
            have HB3 := Lib.hid (bnext HB2.out bz)
            clear bz
            refine hK.out _ _ trivial (fun hHeld => ?_)
            clear hK K hHeld
            try simp only [Act.put, List.setIfInBounds_toArray, List.set_cons_zero, List.set_cons_succ]
            refine wpAnyH_ready (rs := [4]) (by kernel_rfl) (by simp) ?_
            refine AllReadyH.cons (o := _) rfl (fun K hK => ?_) ?_
            · go_simp
              refine hK.out _ _ trivial (fun hHeld => ?_)
              clear hK K hHeld
              try simp only [Act.put, List.setIfInBounds_toArray, List.set_cons_zero, List.set_cons_succ]
              refine ⟨by kernel_rfl, ?_⟩
              go_wp2
              go_ret
              exact ⟨ret_bool HE.out, HB3.out⟩
            exact AllReadyH.nil
          exact AllReadyH.nil
        exact AllReadyH.nil
      exact AllReadyH.nil
end Go.Proofs.YtanghmogeiiooaaGreatDoor

/- The law's world in memory; fill, has. -/
namespace Go.Proofs.YtanghmogeiiooaaGreatDoor
set_option linter.unusedVariables false
set_option linter.unusedSimpArgs false
open Go.RowKit

abbrev arr12 (f : Nat → Nat) : Array Value := #[.int .u8 (f 0 : Int), .int .u8 (f 1 : Int), .int .u8 (f 2 : Int), .int .u8 (f 3 : Int), .int .u8 (f 4 : Int), .int .u8 (f 5 : Int), .int .u8 (f 6 : Int), .int .u8 (f 7 : Int), .int .u8 (f 8 : Int), .int .u8 (f 9 : Int), .int .u8 (f 10 : Int), .int .u8 (f 11 : Int)]
theorem arr12_at (f : Nat → Nat) {k : Nat} (hk : k < 12) : (arr12 f)[k]? = some (.int .u8 (f k : Int)) := by
  have : k = 0 ∨ k = 1 ∨ k = 2 ∨ k = 3 ∨ k = 4 ∨ k = 5 ∨ k = 6 ∨ k = 7 ∨ k = 8 ∨ k = 9 ∨ k = 10 ∨ k = 11 := by omega
  rcases this with rfl | rfl | rfl | rfl | rfl | rfl | rfl | rfl | rfl | rfl | rfl | rfl <;> rfl
theorem arr12_new (f : Nat → Nat) (t : TypeId) (w : World) : CellsAt w.heap.size 12 (fun k => .int .u8 (f k : Int)) (w.alloc (.cells (arr12 f) t)) := CellsAt.alloc_new w _ _ _ _ fun j hj => arr12_at f hj
/-- the world's cells: the layout, the device, the log, what the twelve blocks have at home, and by the log -/
abbrev wldG (b l i m t : Nat) (vd vg : Value) (home want : Nat → Nat) : Array Value :=
  #[.int .i64 (b : Int), .int .i64 (l : Int), .int .i64 (i : Int), .int .i64 1, .int .i64 (1 + (l : Int)), .int .i64 (m : Int), .int .i64 (1 + (l : Int) + (m : Int)), .int .i64 (t : Int), .int .i64 (1 + (l : Int) + (m : Int) + (t : Int)),
    vd, vg,
    .int .u8 (home 0 : Int), .int .u8 (home 1 : Int), .int .u8 (home 2 : Int), .int .u8 (home 3 : Int), .int .u8 (home 4 : Int), .int .u8 (home 5 : Int), .int .u8 (home 6 : Int), .int .u8 (home 7 : Int), .int .u8 (home 8 : Int), .int .u8 (home 9 : Int), .int .u8 (home 10 : Int), .int .u8 (home 11 : Int),
    .int .u8 (want 0 : Int), .int .u8 (want 1 : Int), .int .u8 (want 2 : Int), .int .u8 (want 3 : Int), .int .u8 (want 4 : Int), .int .u8 (want 5 : Int), .int .u8 (want 6 : Int), .int .u8 (want 7 : Int), .int .u8 (want 8 : Int), .int .u8 (want 9 : Int), .int .u8 (want 10 : Int), .int .u8 (want 11 : Int)]
abbrev wldC (b l i m t d g : Nat) (home want : Nat → Nat) : Array Value := wldG b l i m t (.pointer (some ⟨d, 0, none⟩)) (.pointer (some ⟨g, 0, none⟩)) home want
def WldAt (wd b l i m t d g : Nat) (home want : Nat → Nat) (w : World) : Prop := Blk wd (wldC b l i m t d g home want) 38 w
section
variable {wd b l i m t d g : Nat} {home want : Nat → Nat} {w w' : World}
theorem WldAt.lt (h : WldAt wd b l i m t d g home want w) : wd < w.heap.size := Blk.lt h
theorem WldAt.kept1 (h : WldAt wd b l i m t d g home want w) (hb : Below w.heap.size w w') : WldAt wd b l i m t d g home want w' := Blk.kept1 h hb
theorem WldAt.homeAt (h : WldAt wd b l i m t d g home want w) {k : Nat} (hk : k < 12) : w.cell? ⟨wd, 11 + k, none⟩ = some (.int .u8 (home k : Int)) := by
  rw [Blk.cell h]
  have : k = 0 ∨ k = 1 ∨ k = 2 ∨ k = 3 ∨ k = 4 ∨ k = 5 ∨ k = 6 ∨ k = 7 ∨ k = 8 ∨ k = 9 ∨ k = 10 ∨ k = 11 := by omega
  rcases this with rfl | rfl | rfl | rfl | rfl | rfl | rfl | rfl | rfl | rfl | rfl | rfl <;> rfl
theorem WldAt.wantAt (h : WldAt wd b l i m t d g home want w) {k : Nat} (hk : k < 12) : w.cell? ⟨wd, 23 + k, none⟩ = some (.int .u8 (want k : Int)) := by
  rw [Blk.cell h]
  have : k = 0 ∨ k = 1 ∨ k = 2 ∨ k = 3 ∨ k = 4 ∨ k = 5 ∨ k = 6 ∨ k = 7 ∨ k = 8 ∨ k = 9 ∨ k = 10 ∨ k = 11 := by omega
  rcases this with rfl | rfl | rfl | rfl | rfl | rfl | rfl | rfl | rfl | rfl | rfl | rfl <;> rfl
theorem WldAt.da (h : WldAt wd b l i m t d g home want w) : w.cell? ⟨wd, 8, none⟩ = some (.int .i64 (1 + (l : Int) + (m : Int) + (t : Int))) := Blk.cell h 8
theorem WldAt.dev (h : WldAt wd b l i m t d g home want w) : w.cell? ⟨wd, 9, none⟩ = some (.pointer (some ⟨d, 0, none⟩)) := Blk.cell h 9
theorem WldAt.log (h : WldAt wd b l i m t d g home want w) : w.cell? ⟨wd, 10, none⟩ = some (.pointer (some ⟨g, 0, none⟩)) := Blk.cell h 10
end
/-- the layout's cells, and those of the device and the log -/
theorem wldG_cells {q b l i m t : Nat} {vd vg : Value} {home want : Nat → Nat} {w : World} (h : Blk q (wldG b l i m t vd vg home want) 38 w) :
    w.cell? ⟨q, 0, none⟩ = some (.int .i64 (b : Int)) ∧ w.cell? ⟨q, 1, none⟩ = some (.int .i64 (l : Int)) ∧ w.cell? ⟨q, 2, none⟩ = some (.int .i64 (i : Int)) ∧ w.cell? ⟨q, 3, none⟩ = some (.int .i64 1) ∧ w.cell? ⟨q, 4, none⟩ = some (.int .i64 (1 + (l : Int))) ∧
    w.cell? ⟨q, 5, none⟩ = some (.int .i64 (m : Int)) ∧ w.cell? ⟨q, 6, none⟩ = some (.int .i64 (1 + (l : Int) + (m : Int))) ∧ w.cell? ⟨q, 7, none⟩ = some (.int .i64 (t : Int)) ∧ w.cell? ⟨q, 8, none⟩ = some (.int .i64 (1 + (l : Int) + (m : Int) + (t : Int))) ∧
    w.cell? ⟨q, 9, none⟩ = some vd ∧ w.cell? ⟨q, 10, none⟩ = some vg :=
  ⟨h.cell 0, h.cell 1, h.cell 2, h.cell 3, h.cell 4, h.cell 5, h.cell 6, h.cell 7, h.cell 8, h.cell 9, h.cell 10⟩
theorem fill_any (b : Nat) (hb : b < 256) (w : World) : Calls Tryz.prog 20 #[.int .u8 (b : Int)] w fun e w' => e = .returned (.string (rep b)) ∧ Below w.heap.size w w' := by
  have B := Lib.hid (block_of b hb w)
  go_enter Tryz.func20, Tryz.ntmps20
  go_wp2_with fail
  refine B.out.mono ?_; rintro e w1 ⟨rfl, b1⟩
  go_wp2
  go_ret
  exact ⟨rfl, b1⟩
/-- do the twelve blocks have these bytes? -/
def hasB (S : St) (da : Nat) (f : Nat → Nat) : Bool := (List.range 12).all fun k => decide (rText S ((da + k : Nat) : Int) = rep (f k))
theorem hasB_yes {S : St} {da : Nat} {f : Nat → Nat} (h : ∀ k, k < 12 → rText S ((da + k : Nat) : Int) = rep (f k)) : hasB S da f = true :=
  List.all_eq_true.2 fun k hk => decide_eq_true (h k (List.mem_range.1 hk))
theorem hasB_get {S : St} {da : Nat} {f : Nat → Nat} (h : hasB S da f = true) : ∀ k, k < 12 → rText S ((da + k : Nat) : Int) = rep (f k) := fun k hk =>
  of_decide_eq_true (List.all_eq_true.1 h k (List.mem_range.2 hk))
theorem hasB_no {S : St} {da : Nat} {f : Nat → Nat} {k : Nat} (hk : k < 12) (h : rText S ((da + k : Nat) : Int) ≠ rep (f k)) : hasB S da f = false := by
  cases e : hasB S da f with
  | false => rfl
  | true => exact absurd (hasB_get e k hk) h
theorem str_eqB (a b : ByteArray) : (a.toList == b.toList) = decide (a = b) := by
  rw [Bool.eq_iff_iff, beq_iff_eq, decide_eq_true_eq]
  constructor
  · intro e
    rw [ByteArray.toList_eq, ByteArray.toList_eq] at e
    have := congrArg bs e
    rwa [bs_of, bs_of] at this
  · rintro rfl; rfl
set_option maxRecDepth 100000 in
set_option maxHeartbeats 4000000 in
theorem has_any {wd b l i m t d g da d' lo hi : Nat} {home want : Nat → Nat} {S : St} (f : Nat → Nat) (hf : ∀ k, f k < 256) (hd : da = 1 + l + m + t) (hda : da + 12 ≤ b) (hb : b ≤ 4096) (hn : S.n = b) (w : World)
    (h : WldAt wd b l i m t d g home want w) (hdev : DevAt d' lo hi S w) :
    Calls Tryz.prog 14 #[.pointer (some ⟨wd, 0, none⟩), .pointer (some ⟨d', 0, none⟩), .agg (arr12 f)] w fun e w' => e = .returned (.bool (hasB S da f)) ∧ Below w.heap.size w w' := by
  have A0 := arr12_new f 36 w
  have b0 := balloc1 w (.cells (arr12 f) 36)
  obtain ⟨w1, hw1⟩ : ∃ w1, w.alloc (.cells (arr12 f) 36) = w1 := ⟨_, rfl⟩
  rw [hw1] at A0 b0
  have HW := Lib.hid hw1
  have HA := Lib.hid A0
  have HB0 := Lib.hid b0
  have HH := Lib.hid (h.kept1 b0)
  have HD := Lib.hid (hdev.kept1 b0)
  have FI := Lib.hid fun k w => fill_any (f k) (hf k) w
  have RD := Lib.hid fun (k : Nat) (hk : k < 12) (w : World) (h : DevAt d' lo hi S w) => by
    have := read_any ((da + k : Nat) : Int) w h
    rwa [show rCode S ((da + k : Nat) : Int) = 0 by unfold rCode; rw [if_pos (by omega)]] at this
  have HY : Hid ((∀ k, k < 12 → rText S ((da + k : Nat) : Int) = rep (f k)) → hasB S da f = true) := Lib.hid hasB_yes
  have HN : Hid (∀ k, k < 12 → rText S ((da + k : Nat) : Int) ≠ rep (f k) → hasB S da f = false) := Lib.hid fun k hk h => hasB_no hk h
  generalize hasB S da f = R at *
  obtain ⟨X, hX⟩ : ∃ X : Nat → ByteArray, X = fun k => rText S ((da + k : Nat) : Int) := ⟨_, rfl⟩
  have hX2 : ∀ k, rText S ((da + k : Nat) : Int) = X k := fun k => by rw [hX]
  simp only [hX2] at RD HY HN
  clear hX hX2 h hdev A0 b0 hw1 hn
  go_enter Tryz.func14, Tryz.ntmps14
  go_wp2
  rw [HW.out]
  go_loopw [7] (fun q wr => ∃ k : Nat, q = .int .i64 k ∧ k ≤ 12 ∧ Hid (∀ j, j < k → X j = rep (f j)) ∧ Below w1.heap.size w1 wr) (fun q _ => 12 - (intOf q).toNat)
  case atStart => exact ⟨0, rfl, by omega, Lib.hid (fun j hj => by omega), Below.refl _ _⟩
  case round =>
    obtain ⟨k, rfl, hk, HK, hbr⟩ := hrel
    by_cases hlt : k < 12
    · have tl : decide ((k : Int) < 12) = true := decide_eq_true (by omega)
      have hda0 := (HH.out.kept1 hbr).da
      have R0 := RD.out k hlt wr (HD.out.kept1 hbr)
      obtain ⟨y, hy⟩ : ∃ y, da + k = y := ⟨_, rfl⟩
      rw [hy] at R0
      have hz : (1 : Int) + (l : Int) + (m : Int) + (t : Int) + (k : Int) = (y : Int) := by omega
      have hy2 : y ≤ 4096 := by omega
      clear hy
      have ck := ((HA.out.kept1 hbr).2 k hlt).1
      have F0 := FI.out k wr
      have HNk := HN.out k hlt
      have HKn : Hid (X k = rep (f k) → ∀ j, j < k + 1 → X j = rep (f j)) := Lib.hid fun e j hj => by
        by_cases e2 : j = k
        · subst e2; exact e
        · exact HK.out j (by omega)
      have EQ := str_eqB (X k) (rep (f k))
      have R0 := Lib.hid R0
      have F0 := Lib.hid F0
      have hfk := hf k
      by_cases hx : X k = rep (f k)
      · rw [decide_eq_true hx] at EQ
        have HK2 := Lib.hid (HKn.out hx)
        generalize X k = xk at *
        generalize rep (f k) = rk at *
        clear HKn HNk HK hx HY HN RD FI
        go_wp2_with fail
        refine R0.out.mono ?_; rintro e w2 ⟨rfl, rfl⟩
        go_wp2_with fail
        refine F0.out.mono ?_; rintro e w3 ⟨rfl, b3⟩
        have hb3 := hbr.trans (b3.mono hbr.size)
        go_wp2
        exact ⟨⟨k + 1, by go_num, by omega, HK2, hb3⟩, by simp [intOf]; omega⟩
      · rw [decide_eq_false hx] at EQ
        have HR := Lib.hid (HNk hx)
        generalize X k = xk at *
        generalize rep (f k) = rk at *
        clear HKn HNk HK hx HY HN RD FI
        go_wp2_with fail
        refine R0.out.mono ?_; rintro e w2 ⟨rfl, rfl⟩
        go_wp2_with fail
        refine F0.out.mono ?_; rintro e w3 ⟨rfl, b3⟩
        have hb3 := hbr.trans (b3.mono hbr.size)
        go_wp2
        go_ret
        exact ⟨by rw [HR.out]; rfl, bnext HB0.out hb3⟩
    · obtain rfl : k = 12 := by omega
      have HR := Lib.hid (HY.out HK.out)
      go_wp2
      go_ret
      exact ⟨by rw [HR.out]; rfl, bnext HB0.out hbr⟩
end Go.Proofs.YtanghmogeiiooaaGreatDoor
