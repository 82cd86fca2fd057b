import Derived.Test.YtanghmogeiiooaaGreatDoorPa38
set_option linter.unusedVariables false
set_option linter.unusedSimpArgs false
set_option linter.constructorNameAsVariable false
/- Commit. -/
namespace Go.Proofs.YtanghmogeiiooaaGreatDoor
set_option linter.unusedVariables false
set_option linter.unusedSimpArgs false
open Go.RowKit

theorem five_acts {d lo hi : Nat} {v1 v2 v3 v4 v5 : Value} {L1 L2 L3 L4 L5 : List Deed} (W : World) (hhi : hi ≤ W.heap.size) (h1 : DoesV d lo hi v1 L1 W) (h2 : DoesV d lo hi v2 L2 W) (h3 : DoesV d lo hi v3 L3 W) (h4 : DoesV d lo hi v4 L4 W) (h5 : DoesV d lo hi v5 L5 W) :
    ActsRow2 d lo hi (.slice (some ⟨W.heap.size, 0, none⟩) 5 5) [L1, L2, L3, L4, L5] (W.alloc (.cells #[v1, v2, v3, v4, v5] 95)) :=
  acts_lit (vs := [v1, v2, v3, v4, v5]) W rfl rfl (by decide) hhi fun k a b => by
    match k, a, b with
    | 0, _, _ => exact h1
    | 1, _, _ => exact h2
    | 2, _, _ => exact h3
    | 3, _, _ => exact h4
    | 4, _, _ => exact h5
/-- one or the other, as a code is -/
def selI (c : Int) (x y : Int) : Int := if c = 0 then x else y
def selN (c : Int) (x y : Nat) : Nat := if c = 0 then x else y
theorem selI_yes (x y : Int) : selI 0 x y = x := rfl
theorem selN_yes (x y : Nat) : selN 0 x y = x := rfl
theorem selI_no {c : Int} (h : c ≠ 0) (x y : Int) : selI c x y = y := if_neg h
theorem selN_no {c : Int} (h : c ≠ 0) (x y : Nat) : selN c x y = y := if_neg h
theorem wpList_store_logplace {ops : Array Oper} {rest : List Oper} {o : Oper} {a : Act} {w : World} {Q : Exit → Act → World → Prop} (hgd : o.guard = none) (x y : Operand) (ho : o.op = .store 91 x y)
    {g d : Nat} {b l i la ma ml ta tl da slot left slot' left' : Int} {seq seq' : Nat} {f : Int} (hx : a.eval x = .pointer (some ⟨g, 11, none⟩)) (hy : a.eval y = placeV slot' left' seq')
    (hL : LogAt g d b l i la ma ml ta tl da slot left seq f w)
    (h : ∀ w2, LogAt g d b l i la ma ml ta tl da slot' left' seq' f w2 → Zone g (g + 1) w w2 → wpList Tryz.prog ops Q rest (a.put o.dst undef) w2) : wpList Tryz.prog ops Q (o :: rest) a w :=
  wpList_store_mid hgd _ x y ho g 11 #[.int .i64 slot', .int .i64 left', .int .u64 (seq' : Int)] hx hy hL.there place_info (by simp [Value.oneCell']) (h _ (LogAt.place hL slot' left' seq') (zone_sets g w 11 _))
/-- a part of a list of changes, by its slice -/
theorem chgs_sub {C : List (Int × ByteArray)} {gs os : Nat} {w : World} (hgs : gs < w.heap.size) (hcs : ∀ k u, (chgsL C)[k]? = some u → w.cell? ⟨gs, os + k, none⟩ = some u) (p q : Nat) (hpq : p + q ≤ C.length) (cap' : Nat) (hc1 : q ≤ cap') (hc2 : cap' ≤ maxLen) :
    ChgsIn (.slice (some ⟨gs, os + p * 2, none⟩) q cap') ((C.drop p).take q) w := by
  have hq : ((C.drop p).take q).length = q := by rw [List.length_take, List.length_drop]; omega
  have e : chgsL C = chgsL (C.take p) ++ (chgsL ((C.drop p).take q) ++ chgsL ((C.drop p).drop q)) := by
    rw [← chgsL_append, List.take_append_drop, ← chgsL_append, List.take_append_drop]
  refine ⟨chgsL_length _, some ⟨gs, os + p * 2, none⟩, cap', by rw [hq], by omega, hc2, fun _ => ⟨gs, os + p * 2, rfl, hgs, fun k u hk => ?_⟩, fun h => by cases h⟩
  have hk2 : k < q * 2 := by have := (List.getElem?_eq_some_iff.1 hk).1; rw [chgsL_length, hq] at this; exact this
  have hp : (chgsL (C.take p)).length = p * 2 := by rw [chgsL_length, List.length_take]; omega
  have := hcs (p * 2 + k) u (by
    rw [e, List.getElem?_append_right (by omega), hp, Nat.add_sub_cancel_left, List.getElem?_append_left (by rw [chgsL_length, hq]; exact hk2)]
    exact hk)
  rw [← Nat.add_assoc] at this
  exact this
set_option maxRecDepth 100000 in
set_option maxHeartbeats 8000000 in
theorem jcommit_ok (lo hi : Nat) (g d : Nat) (b l i m t : Nat) (hok : okN b l i m t) {S : St} (ha : S.acts ≤ 900000) (slot left : Nat) (hsl : slot ≤ 510) (hle : left ≤ 511) (seq : Nat) (hq : seq < 18446744073709551616) (L : List (Int × ByteArray)) (R : List Int) (D : List (Int × ByteArray)) (hD : D.length ≤ 4000)
    (vc vr vd : Value) (w : World) (hdev : DevAt d lo hi S w) (hgh : hi ≤ g) (h : LogAt g d b l i 1 (1 + l) m (1 + l + m) t (1 + l + m + t) slot left seq 0 w) (hc : ChgsIn vc L w) (hr : IntsIn vr R w) (hd : ChgsIn vd D w) (ht : Tab w)
    (hk : txnOk (hmB b 1 l) L R = true) (hk2 : chgsOk (hmB b 1 l) D = true) (hfit : sizeT L.length R.length ≤ left) :
    Calls Tryz.prog 19 #[.pointer (some ⟨g, 0, none⟩), .agg #[vc, vr], vd] w fun e w' => e = .returned (.int .i64 (deeds S (commitD slot l seq L R D)).1) ∧ DevAt d lo hi (deeds S (commitD slot l seq L R D)).2 w' ∧ LogZ lo hi g w w' ∧
      LogAt g d b l i 1 (1 + l) m (1 + l + m) t (1 + l + m + t) (selI (deeds S (commitD slot l seq L R D)).1 (((slot : Int) + (sizeT L.length R.length : Nat)) % ((l : Int) - 1)) slot) (selI (deeds S (commitD slot l seq L R D)).1 ((left : Int) - (sizeT L.length R.length : Nat)) left) (selN (deeds S (commitD slot l seq L R D)).1 ((seq + 1) % 18446744073709551616) seq) (deeds S (commitD slot l seq L R D)).1 w' := by
  have hl : 128 ≤ (l : Int) ∧ (l : Int) ≤ 512 := by have := hok.2.2.1; have := hok.2.2.2.1; omega
  have hla : 0 ≤ (1 : Int) ∧ (1 : Int) ≤ 4096 := by omega
  have hsz1 : L.length + 1 ≤ sizeT L.length R.length ∧ (R.length + 27) / 28 ≤ sizeT L.length R.length := by unfold sizeT; omega
  have hL : L.length ≤ 4000 := by omega
  have hR : R.length ≤ 4000000 := by omega
  have hR2 : R.length ≤ 20000 := by omega
  obtain ⟨q1, q2, q3, q4⟩ := txnOk_get hk
  obtain ⟨q5, q6⟩ := chgsOk_get q1
  have hb4 := hok.2.1
  have BK := Lib.hid fun W v1 v2 (h1 : ChgsIn v1 L W) (h2 : IntsIn v2 R W) (h3 : Tab W) => jblocks_any seq hq L R hL hR2 q2 (fun x hx => by have := hm_in (q3 x hx); omega) q5 (fun c hc => by have := hm_in (q6 c hc).1; exact ⟨by omega, by omega, (q6 c hc).2⟩) v1 v2 W h1 h2 h3
  have HBL := Lib.hid (blocksT_length seq L R)
  have HIS := Lib.hid fun W v (hv : TextsIn v (blocksT seq L R) W) => inslots_any (some ⟨d, 0, none⟩) b l i 1 (1 + l) m (1 + l + m) t (1 + l + m + t) hl hla slot (blocksT seq L R) (by rw [blocksT_length]; omega) v W hv
  rw [blocksT_length] at HIS
  have HCL := Lib.hid (slotsOf_length 1 (l : Int) slot (blocksT seq L R) (sizeT L.length R.length))
  have HFL : Hid (S.acts + (commitD slot l seq L R D).length ≤ 1000000) := Lib.hid (by
    unfold commitD
    simp only [List.length_append, List.length_map, List.length_cons, List.length_take, List.length_drop, slotsOf_length, List.length_nil]
    omega)
  have HCD : Hid ([writesD D, writesD ((slotsOf 1 (l : Int) slot (blocksT seq L R) (sizeT L.length R.length)).take (sizeT L.length R.length - 1)), [.flush], writesD ((slotsOf 1 (l : Int) slot (blocksT seq L R) (sizeT L.length R.length)).drop (sizeT L.length R.length - 1)), [.flush]].flatten = commitD slot l seq L R D) := Lib.hid rfl
  have BH := Lib.hid fun W => behind_any (some ⟨d, 0, none⟩) b l i 1 (1 + l) m (1 + l + m) t (1 + l + m + t) hl slot left seq (sizeT L.length R.length) (by omega) (by omega) (by omega) W
  clear q1 q2 q3 q4 q5 q6
  have mixed : Tryz.prog.follows .mixedOrders = true := by kernel_rfl
  have gt : Tryz.prog.stoodInHeld 64 = false := by kernel_rfl
  obtain ⟨ac, cc, rfl, -⟩ := hc.shape
  obtain ⟨ar, cr, rfl, -⟩ := hr.shape
  obtain ⟨w1, hw1⟩ : ∃ w1, w.alloc (.cells #[.slice ac L.length cc, .slice ar R.length cr] 64) = w1 := ⟨_, rfl⟩
  have T1 : TxnAt w.heap.size (.slice ac L.length cc) (.slice ar R.length cr) w1 := by rw [← hw1]; exact Blk.new _ _ _
  have b1 : Below w.heap.size w w1 := by rw [← hw1]; exact balloc1 _ _
  have g1 : LogAt g d b l i 1 (1 + l) m (1 + l + m) t (1 + l + m + t) slot left seq 0 w1 := Blk.kept1 h b1
  have RF := Lib.hid (logrefused_any g d b l i 1 (1 + l) m (1 + l + m) t (1 + l + m + t) slot left seq 0 w1 g1)
  have VT := Lib.hid fun p : BelowP w1 => validTxn_any (some ⟨d, 0, none⟩) b l i 1 (1 + l) m (1 + l + m) t (1 + l + m + t) hl hla L hL R hR _ _ p.to ((hc.kept b1).kept p.h) ((hr.kept b1).kept p.h)
  have VC := Lib.hid fun p : BelowP w1 => validChanges_any (some ⟨d, 0, none⟩) b l i 1 (1 + l) m (1 + l + m) t (1 + l + m + t) hl hla D hD vd p.to ((hd.kept b1).kept p.h)
  have k0 := fun p : BelowP w1 => (g1.all p).cells.1
  have k1 := fun p : BelowP w1 => (g1.all p).cells.2.1
  have k2 := fun p : BelowP w1 => (g1.all p).cells.2.2.1
  have k3 := fun p : BelowP w1 => (g1.all p).cells.2.2.2.1
  have k4 := fun p : BelowP w1 => (g1.all p).cells.2.2.2.2.1
  have k5 := fun p : BelowP w1 => (g1.all p).cells.2.2.2.2.2.1
  have k6 := fun p : BelowP w1 => (g1.all p).cells.2.2.2.2.2.2.1
  have k7 := fun p : BelowP w1 => (g1.all p).cells.2.2.2.2.2.2.2.1
  have k8 := fun p : BelowP w1 => (g1.all p).cells.2.2.2.2.2.2.2.2.1
  have k9 := fun p : BelowP w1 => (g1.all p).cells.2.2.2.2.2.2.2.2.2.1
  have t0 := fun p : BelowP w1 => (Blk.kept1 T1 p.h).cell 0
  have t1 := fun p : BelowP w1 => (Blk.kept1 T1 p.h).cell 1
  simp only [List.getElem?_toArray, List.getElem?_cons_zero, List.getElem?_cons_succ] at t0 t1
  have HW1 := Lib.hid hw1
  have HB1 := Lib.hid b1
  have HG1 := Lib.hid g1
  have HT1 := Lib.hid T1
  have HC1 := Lib.hid (hc.kept b1)
  have HR1 := Lib.hid (hr.kept b1)
  have HD1 := Lib.hid (hd.kept b1)
  clear hw1 T1 b1 g1 h hc hr hd
  rw [hk] at VT
  rw [hk2] at VC
  have SZ := Lib.hid fun W => size_any ac ar L.length R.length cc cr (by omega) (by omega) W
  have hN1 : 1 ≤ sizeT L.length R.length ∧ sizeT L.length R.length ≤ left := by omega
  have HDV := Lib.hid (hdev.kept1 HB1.out)
  have HTB : Hid (Tab w1) := Lib.hid fun i hi => HB1.out.cell (p := ⟨0, i, none⟩) ((cell_flat (ht 0 (by decide))).2) |>.trans (ht i hi)
  have htop := hdev.top
  generalize hQD : commitD slot l seq L R D = QD at *
  generalize hCS : slotsOf 1 (l : Int) slot (blocksT seq L R) (sizeT L.length R.length) = CS at *
  generalize hBT : blocksT seq L R = BT at *
  generalize hNN : sizeT L.length R.length = N at *
  clear hsz1 hR2 hdev ht hb4 hk hk2 hok hfit hQD hCS hBT hNN hq
  go_enter Tryz.func19, Tryz.ntmps19
  go_wp2_with fail
  rw [HW1.out]
  refine RF.out.mono ?_; rintro e w2 ⟨rfl, rfl⟩
  clear RF
  go_upto_region 4 with fail
  try rw [HW1.out]
  refine wp_region_quiet_below mixed (by kernel_rfl) ?_
  repeat (go_big_quiet_step (first | (go_at_call 45; refine calls_below (VT.out _)) | (go_at_call 46; refine calls_below (VC.out _))))
  refine wpQuiet_nil ?_
  intro w0q hw'
  obtain ⟨⟨wq, bq⟩, hw''⟩ := hw'
  have hw2 : wq = w0q := hw''.symm
  clear hw''
  subst hw2
  clear k0 k1 k2 k3 k4 k5 k6 k7 k8 k9 t0 t1 VT VC
  have HGq := Lib.hid (Blk.kept1 HG1.out bq)
  have HTq := Lib.hid (Blk.kept1 HT1.out bq)
  have HBq := Lib.hid (HB1.out.trans (bq.mono HB1.out.size))
  have HCq := Lib.hid (RowIn.kept HC1.out bq)
  have HRq := Lib.hid (RowIn.kept HR1.out bq)
  have HDq := Lib.hid (RowIn.kept HD1.out bq)
  have HDVq := Lib.hid (HDV.out.kept1 bq)
  have HTBq : Hid (Tab wq) := Lib.hid fun i hi => bq.cell (p := ⟨0, i, none⟩) ((cell_flat (HTB.out 0 (by decide))).2) |>.trans (HTB.out i hi)
  have t0 := HTq.out.cell 0
  have t1 := HTq.out.cell 1
  simp only [List.getElem?_toArray, List.getElem?_cons_zero, List.getElem?_cons_succ] at t0 t1
  clear bq HG1 HT1 HC1 HR1 HD1 HDV HTB
  go_wp2_with fail
  refine (SZ.out _).mono ?_; rintro e w3 ⟨rfl, b3⟩
  have HG3 := Lib.hid (Blk.kept1 HGq.out b3)
  have HT3 := Lib.hid (Blk.kept1 HTq.out b3)
  have HB3 := Lib.hid (bnext HBq.out b3)
  have HC3 := Lib.hid (RowIn.kept HCq.out b3)
  have HR3 := Lib.hid (RowIn.kept HRq.out b3)
  have HD3 := Lib.hid (RowIn.kept HDq.out b3)
  have HDV3 := Lib.hid (HDVq.out.kept1 b3)
  have HTB3 : Hid (Tab w3) := Lib.hid fun i hi => b3.cell (p := ⟨0, i, none⟩) ((cell_flat (HTBq.out 0 (by decide))).2) |>.trans (HTBq.out i hi)
  have c12 := (LogAt.cells HG3.out).2.2.2.2.2.2.2.2.2.2.2.2.1
  clear t0 t1 SZ b3 HGq HTq HBq HCq HRq HDq HDVq HTBq
  go_upto_region 9 with fail
  clear c12
  refine wp_region_held_drew (S := fun W => Below w3.heap.size w3 W) mixed ((Below.refl _ _).drew) (fun hHeld => ?_)
  refine wpAnyH_take (i := 0) (oi := _) (v := ?va0) rfl (by kernel_rfl) (by kernel_rfl) (by kernel_rfl) (fun _ _ _ h => h) (Or.inl ⟨by kernel_rfl, ?hya0⟩) hHeld ?resta0
  case hya0 => (intro w9 hSw; clear hSw; go_simp; try with_reducible rfl)
  try simp only [Act.put, List.getElem_toArray, List.getElem_cons_zero, List.getElem_cons_succ, List.setIfInBounds_toArray, List.set_cons_zero, List.set_cons_succ]
  refine wpAnyH_take (i := 1) (oi := _) (v := ?va1) rfl (by kernel_rfl) (by kernel_rfl) (by kernel_rfl) (fun _ _ _ h => h) (Or.inl ⟨by kernel_rfl, ?hya1⟩) hHeld ?resta1
  case hya1 => (intro w9 hSw; clear hSw; go_simp; try with_reducible rfl)
  try simp only [Act.put, List.getElem_toArray, List.getElem_cons_zero, List.getElem_cons_succ, List.setIfInBounds_toArray, List.set_cons_zero, List.set_cons_succ]
  refine wpAnyH_take (i := 2) (oi := _) (v := ?va2) rfl (by kernel_rfl) (by kernel_rfl) (by kernel_rfl) (fun _ _ _ h => h) (Or.inl ⟨by kernel_rfl, ?hya2⟩) hHeld ?resta2
  case hya2 => (intro w9 hSw; clear hSw; go_simp; try with_reducible rfl)
  try simp only [Act.put, List.getElem_toArray, List.getElem_cons_zero, List.getElem_cons_succ, List.setIfInBounds_toArray, List.set_cons_zero, List.set_cons_succ]
  refine wpAnyH_take (i := 3) (oi := _) (v := ?va3) rfl (by kernel_rfl) (by kernel_rfl) (by kernel_rfl) (fun _ _ _ h => h) (Or.inl ⟨by kernel_rfl, ?hya3⟩) hHeld ?resta3
  case hya3 => (intro w9 hSw; have hL9 := LogAt.cells (Blk.kept1 HG3.out hSw); obtain ⟨c0, c1, c2, c3, c4, c5, c6, c7, c8, c9, c10, c11, c12, c13, c14⟩ := hL9; clear hSw; go_simp; try with_reducible rfl)
  try simp only [Act.put, List.getElem_toArray, List.getElem_cons_zero, List.getElem_cons_succ, List.setIfInBounds_toArray, List.set_cons_zero, List.set_cons_succ]
  refine wpAnyH_take (i := 4) (oi := _) (v := ?va4) rfl (by kernel_rfl) (by kernel_rfl) (by kernel_rfl) (fun _ _ _ h => h) (Or.inl ⟨by kernel_rfl, ?hya4⟩) hHeld ?resta4
  case hya4 => (intro w9 hSw; clear hSw; go_simp; try with_reducible rfl)
  try simp only [Act.put, List.getElem_toArray, List.getElem_cons_zero, List.getElem_cons_succ, List.setIfInBounds_toArray, List.set_cons_zero, List.set_cons_succ]
  refine wpAnyH_take (i := 5) (oi := _) (v := ?va5) rfl (by kernel_rfl) (by kernel_rfl) (by kernel_rfl) (fun _ _ _ h => h) (Or.inl ⟨by kernel_rfl, ?hya5⟩) hHeld ?resta5
  case hya5 => (intro w9 hSw; clear hSw; go_simp; try with_reducible rfl)
  try simp only [Act.put, List.getElem_toArray, List.getElem_cons_zero, List.getElem_cons_succ, List.setIfInBounds_toArray, List.set_cons_zero, List.set_cons_succ]
  refine wpAnyH_take (i := 6) (oi := _) (v := ?va6) rfl (by kernel_rfl) (by kernel_rfl) (by kernel_rfl) (fun _ _ _ h => h) (Or.inl ⟨by kernel_rfl, ?hya6⟩) hHeld ?resta6
  case hya6 => (intro w9 hSw; clear hSw; go_simp; try with_reducible rfl)
  try simp only [Act.put, List.getElem_toArray, List.getElem_cons_zero, List.getElem_cons_succ, List.setIfInBounds_toArray, List.set_cons_zero, List.set_cons_succ]
  refine wpAnyH_take (i := 7) (oi := _) (v := ?va7) rfl (by kernel_rfl) (by kernel_rfl) (by kernel_rfl) (fun _ _ _ h => h) (Or.inl ⟨by kernel_rfl, ?hya7⟩) hHeld ?resta7
  case hya7 => (intro w9 hSw; clear hSw; go_simp; try with_reducible rfl)
  try simp only [Act.put, List.getElem_toArray, List.getElem_cons_zero, List.getElem_cons_succ, List.setIfInBounds_toArray, List.set_cons_zero, List.set_cons_succ]
  refine wpAnyH_take (i := 8) (oi := _) (v := ?va8) rfl (by kernel_rfl) (by kernel_rfl) (by kernel_rfl) (fun _ _ _ h => h) (Or.inl ⟨by kernel_rfl, ?hya8⟩) hHeld ?resta8
  case hya8 => (intro w9 hSw; have hL9 := LogAt.cells (Blk.kept1 HG3.out hSw); obtain ⟨c0, c1, c2, c3, c4, c5, c6, c7, c8, c9, c10, c11, c12, c13, c14⟩ := hL9; clear hSw; go_simp; try with_reducible rfl)
  try simp only [Act.put, List.getElem_toArray, List.getElem_cons_zero, List.getElem_cons_succ, List.setIfInBounds_toArray, List.set_cons_zero, List.set_cons_succ]
  refine wpAnyH_take (i := 9) (oi := _) (v := ?va9) rfl (by kernel_rfl) (by kernel_rfl) (by kernel_rfl) (fun _ _ _ h => h) (Or.inl ⟨by kernel_rfl, ?hya9⟩) hHeld ?resta9
  case hya9 => (intro w9 hSw; have t0 := (Blk.kept1 HT3.out hSw).cell 0; have t1 := (Blk.kept1 HT3.out hSw).cell 1; simp only [List.getElem?_toArray, List.getElem?_cons_zero, List.getElem?_cons_succ] at t0 t1; clear hSw; go_simp; try with_reducible rfl)
  try simp only [Act.put, List.getElem_toArray, List.getElem_cons_zero, List.getElem_cons_succ, List.setIfInBounds_toArray, List.set_cons_zero, List.set_cons_succ]
  refine wpAnyH_take (i := 10) (oi := _) (v := ?va10) rfl (by kernel_rfl) (by kernel_rfl) (by kernel_rfl) (fun _ _ _ h => h) (Or.inl ⟨by kernel_rfl, ?hya10⟩) hHeld ?resta10
  case hya10 => (intro w9 hSw; clear hSw; go_simp; try with_reducible rfl)
  try simp only [Act.put, List.getElem_toArray, List.getElem_cons_zero, List.getElem_cons_succ, List.setIfInBounds_toArray, List.set_cons_zero, List.set_cons_succ]
  refine wpAnyH_take (i := 11) (oi := _) (v := ?va11) rfl (by kernel_rfl) (by kernel_rfl) (by kernel_rfl) (fun _ _ _ h => h) (Or.inl ⟨by kernel_rfl, ?hya11⟩) hHeld ?resta11
  case hya11 => (intro w9 hSw; clear hSw; go_simp; try with_reducible rfl)
  try simp only [Act.put, List.getElem_toArray, List.getElem_cons_zero, List.getElem_cons_succ, List.setIfInBounds_toArray, List.set_cons_zero, List.set_cons_succ]
  refine wpAnyH_take (i := 12) (oi := _) (v := ?va12) rfl (by kernel_rfl) (by kernel_rfl) (by kernel_rfl) (fun _ _ _ h => h) (Or.inl ⟨by kernel_rfl, ?hya12⟩) hHeld ?resta12
  case hya12 => (intro w9 hSw; clear hSw; go_simp; try with_reducible rfl)
  try simp only [Act.put, List.getElem_toArray, List.getElem_cons_zero, List.getElem_cons_succ, List.setIfInBounds_toArray, List.set_cons_zero, List.set_cons_succ]
  refine wpAnyH_take (i := 13) (oi := _) (v := ?va13) rfl (by kernel_rfl) (by kernel_rfl) (by kernel_rfl) (fun _ _ _ h => h) (Or.inl ⟨by kernel_rfl, ?hya13⟩) hHeld ?resta13
  case hya13 => (intro w9 hSw; clear hSw; go_simp; try with_reducible rfl)
  try simp only [Act.put, List.getElem_toArray, List.getElem_cons_zero, List.getElem_cons_succ, List.setIfInBounds_toArray, List.set_cons_zero, List.set_cons_succ]
  refine wpAnyH_take (i := 14) (oi := _) (v := ?va14) rfl (by kernel_rfl) (by kernel_rfl) (by kernel_rfl) (fun _ _ _ h => h) (Or.inl ⟨by kernel_rfl, ?hya14⟩) hHeld ?resta14
  case hya14 => (intro w9 hSw; have hL9 := LogAt.cells (Blk.kept1 HG3.out hSw); obtain ⟨c0, c1, c2, c3, c4, c5, c6, c7, c8, c9, c10, c11, c12, c13, c14⟩ := hL9; clear hSw; go_simp; try with_reducible rfl)
  try simp only [Act.put, List.getElem_toArray, List.getElem_cons_zero, List.getElem_cons_succ, List.setIfInBounds_toArray, List.set_cons_zero, List.set_cons_succ]
  refine wpAnyH_ready (rs := [15]) (by kernel_rfl) (by simp) ?_
  refine AllReadyH.cons (o := _) rfl (fun K hK => ?_) ?_
  · go_simp
    have hHeldx : Below w3.heap.size w3 w3.drew := (Below.refl _ _).drew
    refine (BK.out w3.drew _ _ (RowIn.kept HC3.out hHeldx) (RowIn.kept HR3.out hHeldx) HTB3.out).mono ?_; rintro e w4 ⟨vb, rfl, hvb, b4⟩
    dsimp only
    have hHeld4 : Below w3.heap.size w3 w4 := hHeldx.trans (b4.mono hHeldx.size)
    have HVB : Hid (TextsIn vb BT w4) := Lib.hid (ownRow_in hvb)
    clear hvb b4 BK
    refine hK.out _ _ (hHeld4) (fun hHeld3 => ?_)
    clear hK K hHeld
    have hHeld := hHeld3
    clear hHeld3
    try simp only [Act.put, List.getElem_toArray, List.getElem_cons_zero, List.getElem_cons_succ, List.setIfInBounds_toArray, List.set_cons_zero, List.set_cons_succ]
    refine wpAnyH_ready (rs := [16]) (by kernel_rfl) (by simp) ?_
    refine AllReadyH.cons (o := _) rfl (fun K hK => ?_) ?_
    · go_simp
      refine (HIS.out w4 vb HVB.out).mono ?_; rintro e w5 ⟨vs, rfl, hvs, b5⟩
      dsimp only
      have hHeld5 : Below w3.heap.size w3 w5 := hHeld4.trans (b5.mono hHeld4.size)
      have HVS : Hid (ChgsIn vs CS w5) := Lib.hid (ownRow_in hvs)
      clear hvs b5 HIS HVB
      refine hK.out _ _ (hHeld5) (fun hHeld3 => ?_)
      clear hK K hHeld
      have hHeld := hHeld3
      clear hHeld3
      try simp only [Act.put, List.getElem_toArray, List.getElem_cons_zero, List.getElem_cons_succ, List.setIfInBounds_toArray, List.set_cons_zero, List.set_cons_succ]
      refine wpAnyH_ready (rs := [17]) (by kernel_rfl) (by simp) ?_
      refine AllReadyH.cons (o := _) rfl (fun K hK => ?_) ?_
      · go_simp
        refine hK.out _ _ (hHeld) (fun hHeld3 => ?_)
        clear hK K hHeld
        have hHeld := hHeld3
        clear hHeld3
        try simp only [Act.put, List.getElem_toArray, List.getElem_cons_zero, List.getElem_cons_succ, List.setIfInBounds_toArray, List.set_cons_zero, List.set_cons_succ]
        refine ⟨by kernel_rfl, ?_⟩
        have hgs := (Blk.kept1 HG3.out hHeld5).lt
        clear hHeld
        have HG5 := Lib.hid (Blk.kept1 HG3.out hHeld5)
        have HB5 := Lib.hid (HB3.out.trans (hHeld5.mono HB3.out.size))
        have HD5 := Lib.hid (RowIn.kept HD3.out hHeld5)
        have HDV5 := Lib.hid (HDV3.out.kept1 hHeld5)
        obtain ⟨kk, rfl⟩ : ∃ kk, N = kk + 1 := ⟨N - 1, by omega⟩
        obtain ⟨ad, cap, rfl, f1, f2, f3, -⟩ := HVS.out.shape
        obtain ⟨gs, os, rfl, hgs2, hcs⟩ := f3 (by rw [chgsL_length, HCL.out]; omega)
        simp only [HCL.out] at f1 ⊢
        have P1 : ChgsIn (.slice (some ⟨gs, os, none⟩) kk cap) (CS.take kk) w5 := by
          have := chgs_sub hgs2 hcs 0 kk (by rw [HCL.out]; omega) cap (by omega) f2
          rw [Nat.zero_mul, Nat.add_zero, List.drop_zero] at this; exact this
        have P2 : ChgsIn (.slice (some ⟨gs, os + kk * 2, none⟩) 1 (cap - kk)) (CS.drop kk) w5 := by
          have := chgs_sub hgs2 hcs kk 1 (by rw [HCL.out]; omega) (cap - kk) (by omega) (Nat.le_trans (Nat.sub_le _ _) f2)
          rw [List.take_of_length_le (by rw [List.length_drop, HCL.out]; omega)] at this; exact this
        rw [Nat.add_sub_cancel] at HCD
        have HP1 := Lib.hid P1
        have HP2 := Lib.hid P2
        have HTL : Hid ((CS.take kk).length ≤ 4000 ∧ (CS.drop kk).length ≤ 4000) := Lib.hid (by rw [List.length_take, List.length_drop, HCL.out]; omega)
        have hcap : cap ≤ 9223372036854775807 := f2
        have hKc : kk ≤ cap := by omega
        have hKn : ¬ (cap = kk) := by omega
        have hKi : (kk : Int) ≤ (kk : Int) + 1 := by omega
        clear HG3 HT3 HC3 HR3 HD3 HTB3 HDV3 HB3 hHeldx hHeld4 hHeld5 f3 hcs P1 P2 HVS f2
        go_upto_region 11 with fail
        have RS := Lib.hid fun W (hW : Below w5.heap.size w5 W) => (show ∃ f : Int, LogAt g d b l i 1 (1 + l) m (1 + l + m) t (1 + l + m + t) slot left seq f W from ⟨0, Blk.kept1 HG5.out hW⟩)
        refine wp_region_held_drew (S := fun W => ∃ f : Int, LogAt g d b l i 1 (1 + l) m (1 + l + m) t (1 + l + m + t) slot left seq f W) mixed (RS.out _ (Below.refl _ _).drew) (fun hHeld => ?_)
        refine wpAnyH_take (i := 0) (oi := _) (v := ?ve0) rfl (by kernel_rfl) (by kernel_rfl) (by kernel_rfl) (fun _ _ _ h => h) (Or.inl ⟨by kernel_rfl, ?hye0⟩) hHeld ?reste0
        case hye0 => (intro w9 hSw; clear hSw; go_simp; try with_reducible rfl)
        try simp only [Act.put, List.getElem_toArray, List.getElem_cons_zero, List.getElem_cons_succ, List.setIfInBounds_toArray, List.set_cons_zero, List.set_cons_succ]
        refine wpAnyH_take (i := 1) (oi := _) (v := ?ve1) rfl (by kernel_rfl) (by kernel_rfl) (by kernel_rfl) (fun _ _ _ h => h) (Or.inl ⟨by kernel_rfl, ?hye1⟩) hHeld ?reste1
        case hye1 => (intro w9 hSw; clear hSw; go_simp; try with_reducible rfl)
        try simp only [Act.put, List.getElem_toArray, List.getElem_cons_zero, List.getElem_cons_succ, List.setIfInBounds_toArray, List.set_cons_zero, List.set_cons_succ]
        refine wpAnyH_take (i := 2) (oi := _) (v := ?ve2) rfl (by kernel_rfl) (by kernel_rfl) (by kernel_rfl) (fun _ _ _ h => h) (Or.inl ⟨by kernel_rfl, ?hye2⟩) hHeld ?reste2
        case hye2 => (intro w9 hSw; clear hSw; go_simp; try with_reducible rfl)
        try simp only [Act.put, List.getElem_toArray, List.getElem_cons_zero, List.getElem_cons_succ, List.setIfInBounds_toArray, List.set_cons_zero, List.set_cons_succ]
        refine wpAnyH_take (i := 3) (oi := _) (v := ?ve3) rfl (by kernel_rfl) (by kernel_rfl) (by kernel_rfl) (fun _ _ _ h => h) (Or.inl ⟨by kernel_rfl, ?hye3⟩) hHeld ?reste3
        case hye3 => (intro w9 hSw; clear hSw; go_simp; try with_reducible rfl)
        try simp only [Act.put, List.getElem_toArray, List.getElem_cons_zero, List.getElem_cons_succ, List.setIfInBounds_toArray, List.set_cons_zero, List.set_cons_succ]
        refine wpAnyH_take (i := 4) (oi := _) (v := ?ve4) rfl (by kernel_rfl) (by kernel_rfl) (by kernel_rfl) (fun _ _ _ h => h) (Or.inl ⟨by kernel_rfl, ?hye4⟩) hHeld ?reste4
        case hye4 => (intro w9 hSw; have hSw2 := hSw; obtain ⟨f9, hL9⟩ := hSw2; obtain ⟨c0, c1, c2, c3, c4, c5, c6, c7, c8, c9, c10, c11, c12, c13, c14⟩ := LogAt.cells hL9; clear hL9; clear hSw; go_simp; try with_reducible rfl)
        try simp only [Act.put, List.getElem_toArray, List.getElem_cons_zero, List.getElem_cons_succ, List.setIfInBounds_toArray, List.set_cons_zero, List.set_cons_succ]
        refine wpAnyH_take (i := 5) (oi := _) (v := ?ve5) rfl (by kernel_rfl) (by kernel_rfl) (by kernel_rfl) (fun _ _ _ h => h) (Or.inl ⟨by kernel_rfl, ?hye5⟩) hHeld ?reste5
        case hye5 => (intro w9 hSw; clear hSw; go_simp; try with_reducible rfl)
        try simp only [Act.put, List.getElem_toArray, List.getElem_cons_zero, List.getElem_cons_succ, List.setIfInBounds_toArray, List.set_cons_zero, List.set_cons_succ]
        refine wpAnyH_take (i := 7) (oi := _) (v := ?ve7) rfl (by kernel_rfl) (by kernel_rfl) (by kernel_rfl) (fun _ _ _ h => h) (Or.inl ⟨by kernel_rfl, ?hye7⟩) hHeld ?reste7
        case hye7 => (intro w9 hSw; clear hSw; go_simp; try with_reducible rfl)
        try simp only [Act.put, List.getElem_toArray, List.getElem_cons_zero, List.getElem_cons_succ, List.setIfInBounds_toArray, List.set_cons_zero, List.set_cons_succ]
        refine wpAnyH_take (i := 8) (oi := _) (v := ?ve8) rfl (by kernel_rfl) (by kernel_rfl) (by kernel_rfl) (fun _ _ _ h => h) (Or.inl ⟨by kernel_rfl, ?hye8⟩) hHeld ?reste8
        case hye8 => (intro w9 hSw; clear hSw; go_simp; try with_reducible rfl)
        try simp only [Act.put, List.getElem_toArray, List.getElem_cons_zero, List.getElem_cons_succ, List.setIfInBounds_toArray, List.set_cons_zero, List.set_cons_succ]
        refine wpAnyH_take (i := 9) (oi := _) (v := ?ve9) rfl (by kernel_rfl) (by kernel_rfl) (by kernel_rfl) (fun _ _ _ h => h) (Or.inl ⟨by kernel_rfl, ?hye9⟩) hHeld ?reste9
        case hye9 => (intro w9 hSw; clear hSw; go_simp; try with_reducible rfl)
        try simp only [Act.put, List.getElem_toArray, List.getElem_cons_zero, List.getElem_cons_succ, List.setIfInBounds_toArray, List.set_cons_zero, List.set_cons_succ]
        refine wpAnyH_take (i := 10) (oi := _) (v := ?ve10) rfl (by kernel_rfl) (by kernel_rfl) (by kernel_rfl) (fun _ _ _ h => h) (Or.inl ⟨by kernel_rfl, ?hye10⟩) hHeld ?reste10
        case hye10 => (intro w9 hSw; have hSw2 := hSw; obtain ⟨f9, hL9⟩ := hSw2; obtain ⟨c0, c1, c2, c3, c4, c5, c6, c7, c8, c9, c10, c11, c12, c13, c14⟩ := LogAt.cells hL9; clear hL9; clear hSw; go_simp; try with_reducible rfl)
        try simp only [Act.put, List.getElem_toArray, List.getElem_cons_zero, List.getElem_cons_succ, List.setIfInBounds_toArray, List.set_cons_zero, List.set_cons_succ]
        refine wpAnyH_take (i := 11) (oi := _) (v := ?ve11) rfl (by kernel_rfl) (by kernel_rfl) (by kernel_rfl) (fun _ _ _ h => h) (Or.inl ⟨by kernel_rfl, ?hye11⟩) hHeld ?reste11
        case hye11 => (intro w9 hSw; clear hSw; go_simp; try with_reducible rfl)
        try simp only [Act.put, List.getElem_toArray, List.getElem_cons_zero, List.getElem_cons_succ, List.setIfInBounds_toArray, List.set_cons_zero, List.set_cons_succ]
        refine wpAnyH_take (i := 12) (oi := _) (v := ?ve12) rfl (by kernel_rfl) (by kernel_rfl) (by kernel_rfl) (fun _ _ _ h => h) (Or.inl ⟨by kernel_rfl, ?hye12⟩) hHeld ?reste12
        case hye12 => (intro w9 hSw; clear hSw; go_simp; try with_reducible rfl)
        try simp only [Act.put, List.getElem_toArray, List.getElem_cons_zero, List.getElem_cons_succ, List.setIfInBounds_toArray, List.set_cons_zero, List.set_cons_succ]
        refine wpAnyH_take (i := 13) (oi := _) (v := ?ve13) rfl (by kernel_rfl) (by kernel_rfl) (by kernel_rfl) (fun _ _ _ h => h) (Or.inl ⟨by kernel_rfl, ?hye13⟩) hHeld ?reste13
        case hye13 => (intro w9 hSw; clear hSw; go_simp; try with_reducible rfl)
        try simp only [Act.put, List.getElem_toArray, List.getElem_cons_zero, List.getElem_cons_succ, List.setIfInBounds_toArray, List.set_cons_zero, List.set_cons_succ]
        refine wpAnyH_take (i := 15) (oi := _) (v := ?ve15) rfl (by kernel_rfl) (by kernel_rfl) (by kernel_rfl) (fun _ _ _ h => h) (Or.inl ⟨by kernel_rfl, ?hye15⟩) hHeld ?reste15
        case hye15 => (intro w9 hSw; clear hSw; go_simp; try with_reducible rfl)
        try simp only [Act.put, List.getElem_toArray, List.getElem_cons_zero, List.getElem_cons_succ, List.setIfInBounds_toArray, List.set_cons_zero, List.set_cons_succ]
        refine wpAnyH_take (i := 16) (oi := _) (v := ?ve16) rfl (by kernel_rfl) (by kernel_rfl) (by kernel_rfl) (fun _ _ _ h => h) (Or.inl ⟨by kernel_rfl, ?hye16⟩) hHeld ?reste16
        case hye16 => (intro w9 hSw; clear hSw; go_simp; try with_reducible rfl)
        try simp only [Act.put, List.getElem_toArray, List.getElem_cons_zero, List.getElem_cons_succ, List.setIfInBounds_toArray, List.set_cons_zero, List.set_cons_succ]
        refine wpAnyH_take (i := 17) (oi := _) (v := ?ve17) rfl (by kernel_rfl) (by kernel_rfl) (by kernel_rfl) (fun _ _ _ h => h) (Or.inl ⟨by kernel_rfl, ?hye17⟩) hHeld ?reste17
        case hye17 => (intro w9 hSw; clear hSw; go_simp; try with_reducible rfl)
        try simp only [Act.put, List.getElem_toArray, List.getElem_cons_zero, List.getElem_cons_succ, List.setIfInBounds_toArray, List.set_cons_zero, List.set_cons_succ]
        refine wpAnyH_take (i := 18) (oi := _) (v := ?ve18) rfl (by kernel_rfl) (by kernel_rfl) (by kernel_rfl) (fun _ _ _ h => h) (Or.inl ⟨by kernel_rfl, ?hye18⟩) hHeld ?reste18
        case hye18 => (intro w9 hSw; clear hSw; go_simp; try with_reducible rfl)
        try simp only [Act.put, List.getElem_toArray, List.getElem_cons_zero, List.getElem_cons_succ, List.setIfInBounds_toArray, List.set_cons_zero, List.set_cons_succ]
        refine wpAnyH_take (i := 19) (oi := _) (v := ?ve19) rfl (by kernel_rfl) (by kernel_rfl) (by kernel_rfl) (fun _ _ _ h => h) (Or.inl ⟨by kernel_rfl, ?hye19⟩) hHeld ?reste19
        case hye19 => (intro w9 hSw; have hSw2 := hSw; obtain ⟨f9, hL9⟩ := hSw2; obtain ⟨c0, c1, c2, c3, c4, c5, c6, c7, c8, c9, c10, c11, c12, c13, c14⟩ := LogAt.cells hL9; clear hL9; clear hSw; go_simp; try with_reducible rfl)
        try simp only [Act.put, List.getElem_toArray, List.getElem_cons_zero, List.getElem_cons_succ, List.setIfInBounds_toArray, List.set_cons_zero, List.set_cons_succ]
        refine wpAnyH_take (i := 20) (oi := _) (v := ?ve20) rfl (by kernel_rfl) (by kernel_rfl) (by kernel_rfl) (fun _ _ _ h => h) (Or.inl ⟨by kernel_rfl, ?hye20⟩) hHeld ?reste20
        case hye20 => (intro w9 hSw; clear hSw; go_simp; try with_reducible rfl)
        try simp only [Act.put, List.getElem_toArray, List.getElem_cons_zero, List.getElem_cons_succ, List.setIfInBounds_toArray, List.set_cons_zero, List.set_cons_succ]
        refine wpAnyH_take (i := 21) (oi := _) (v := ?ve21) rfl (by kernel_rfl) (by kernel_rfl) (by kernel_rfl) (fun _ _ _ h => h) (Or.inl ⟨by kernel_rfl, ?hye21⟩) hHeld ?reste21
        case hye21 => (intro w9 hSw; clear hSw; go_simp; try with_reducible rfl)
        try simp only [Act.put, List.getElem_toArray, List.getElem_cons_zero, List.getElem_cons_succ, List.setIfInBounds_toArray, List.set_cons_zero, List.set_cons_succ]
        refine wpAnyH_take (i := 22) (oi := _) (v := ?ve22) rfl (by kernel_rfl) (by kernel_rfl) (by kernel_rfl) (fun _ _ _ h => h) (Or.inl ⟨by kernel_rfl, ?hye22⟩) hHeld ?reste22
        case hye22 => (intro w9 hSw; clear hSw; go_simp; try with_reducible rfl)
        try simp only [Act.put, List.getElem_toArray, List.getElem_cons_zero, List.getElem_cons_succ, List.setIfInBounds_toArray, List.set_cons_zero, List.set_cons_succ]
        refine wpAnyH_take (i := 23) (oi := _) (v := ?ve23) rfl (by kernel_rfl) (by kernel_rfl) (by kernel_rfl) (fun _ _ _ h => h) (Or.inl ⟨by kernel_rfl, ?hye23⟩) hHeld ?reste23
        case hye23 => (intro w9 hSw; clear hSw; go_simp; try with_reducible rfl)
        try simp only [Act.put, List.getElem_toArray, List.getElem_cons_zero, List.getElem_cons_succ, List.setIfInBounds_toArray, List.set_cons_zero, List.set_cons_succ]
        refine wpAnyH_take (i := 24) (oi := _) (v := ?ve24) rfl (by kernel_rfl) (by kernel_rfl) (by kernel_rfl) (fun _ _ _ h => h) (Or.inl ⟨by kernel_rfl, ?hye24⟩) hHeld ?reste24
        case hye24 => (intro w9 hSw; have hSw2 := hSw; obtain ⟨f9, hL9⟩ := hSw2; obtain ⟨c0, c1, c2, c3, c4, c5, c6, c7, c8, c9, c10, c11, c12, c13, c14⟩ := LogAt.cells hL9; clear hL9; clear hSw; go_simp; try with_reducible rfl)
        try simp only [Act.put, List.getElem_toArray, List.getElem_cons_zero, List.getElem_cons_succ, List.setIfInBounds_toArray, List.set_cons_zero, List.set_cons_succ]
        refine wpAnyH_take (i := 25) (oi := _) (v := ?ve25) rfl (by kernel_rfl) (by kernel_rfl) (by kernel_rfl) (fun _ _ _ h => h) (Or.inl ⟨by kernel_rfl, ?hye25⟩) hHeld ?reste25
        case hye25 => (intro w9 hSw; clear hSw; go_simp; try with_reducible rfl)
        try simp only [Act.put, List.getElem_toArray, List.getElem_cons_zero, List.getElem_cons_succ, List.setIfInBounds_toArray, List.set_cons_zero, List.set_cons_succ]
        refine wpAnyH_take (i := 26) (oi := _) (v := ?ve26) rfl (by kernel_rfl) (by kernel_rfl) (by kernel_rfl) (fun _ _ _ h => h) (Or.inl ⟨by kernel_rfl, ?hye26⟩) hHeld ?reste26
        case hye26 => (intro w9 hSw; clear hSw; go_simp; try with_reducible rfl)
        try simp only [Act.put, List.getElem_toArray, List.getElem_cons_zero, List.getElem_cons_succ, List.setIfInBounds_toArray, List.set_cons_zero, List.set_cons_succ]
        refine wpAnyH_take (i := 27) (oi := _) (v := ?ve27) rfl (by kernel_rfl) (by kernel_rfl) (by kernel_rfl) (fun _ _ _ h => h) (Or.inl ⟨by kernel_rfl, ?hye27⟩) hHeld ?reste27
        case hye27 => (intro w9 hSw; clear hSw; go_simp; try with_reducible rfl)
        try simp only [Act.put, List.getElem_toArray, List.getElem_cons_zero, List.getElem_cons_succ, List.setIfInBounds_toArray, List.set_cons_zero, List.set_cons_succ]
        refine wpAnyH_take (i := 29) (oi := _) (v := ?ve29) rfl (by kernel_rfl) (by kernel_rfl) (by kernel_rfl) (fun _ _ _ h => h) (Or.inl ⟨by kernel_rfl, ?hye29⟩) hHeld ?reste29
        case hye29 => (intro w9 hSw; clear hSw; go_simp; try with_reducible rfl)
        try simp only [Act.put, List.getElem_toArray, List.getElem_cons_zero, List.getElem_cons_succ, List.setIfInBounds_toArray, List.set_cons_zero, List.set_cons_succ]
        refine wpAnyH_take (i := 30) (oi := _) (v := ?ve30) rfl (by kernel_rfl) (by kernel_rfl) (by kernel_rfl) (fun _ _ _ h => h) (Or.inl ⟨by kernel_rfl, ?hye30⟩) hHeld ?reste30
        case hye30 => (intro w9 hSw; clear hSw; go_simp; try with_reducible rfl)
        try simp only [Act.put, List.getElem_toArray, List.getElem_cons_zero, List.getElem_cons_succ, List.setIfInBounds_toArray, List.set_cons_zero, List.set_cons_succ]
        refine wpAnyH_take (i := 31) (oi := _) (v := ?ve31) rfl (by kernel_rfl) (by kernel_rfl) (by kernel_rfl) (fun _ _ _ h => h) (Or.inl ⟨by kernel_rfl, ?hye31⟩) hHeld ?reste31
        case hye31 => (intro w9 hSw; clear hSw; go_simp; try with_reducible rfl)
        try simp only [Act.put, List.getElem_toArray, List.getElem_cons_zero, List.getElem_cons_succ, List.setIfInBounds_toArray, List.set_cons_zero, List.set_cons_succ]
        refine wpAnyH_take (i := 32) (oi := _) (v := ?ve32) rfl (by kernel_rfl) (by kernel_rfl) (by kernel_rfl) (fun _ _ _ h => h) (Or.inl ⟨by kernel_rfl, ?hye32⟩) hHeld ?reste32
        case hye32 => (intro w9 hSw; clear hSw; go_simp; try with_reducible rfl)
        try simp only [Act.put, List.getElem_toArray, List.getElem_cons_zero, List.getElem_cons_succ, List.setIfInBounds_toArray, List.set_cons_zero, List.set_cons_succ]
        refine wpAnyH_take (i := 33) (oi := _) (v := ?ve33) rfl (by kernel_rfl) (by kernel_rfl) (by kernel_rfl) (fun _ _ _ h => h) (Or.inl ⟨by kernel_rfl, ?hye33⟩) hHeld ?reste33
        case hye33 => (intro w9 hSw; have hSw2 := hSw; obtain ⟨f9, hL9⟩ := hSw2; obtain ⟨c0, c1, c2, c3, c4, c5, c6, c7, c8, c9, c10, c11, c12, c13, c14⟩ := LogAt.cells hL9; clear hL9; clear hSw; go_simp; try with_reducible rfl)
        try simp only [Act.put, List.getElem_toArray, List.getElem_cons_zero, List.getElem_cons_succ, List.setIfInBounds_toArray, List.set_cons_zero, List.set_cons_succ]
        refine wpAnyH_take (i := 34) (oi := _) (v := ?ve34) rfl (by kernel_rfl) (by kernel_rfl) (by kernel_rfl) (fun _ _ _ h => h) (Or.inl ⟨by kernel_rfl, ?hye34⟩) hHeld ?reste34
        case hye34 => (intro w9 hSw; clear hSw; go_simp; try with_reducible rfl)
        try simp only [Act.put, List.getElem_toArray, List.getElem_cons_zero, List.getElem_cons_succ, List.setIfInBounds_toArray, List.set_cons_zero, List.set_cons_succ]
        refine wpAnyH_ready (rs := [6]) (by kernel_rfl) (by simp) ?_
        refine AllReadyH.cons (o := _) rfl (fun K hK => ?_) ?_
        · go_simp
          have hHeldx : Below w5.heap.size w5 w5.drew := (Below.refl _ _).drew
          refine (jwrite_any d b l i 1 (1 + l) m (1 + l + m) t (1 + l + m + t) D hD vd lo hi w5.drew (by have := HB5.out.size; have := hHeldx.size; omega) (RowIn.kept HD5.out hHeldx)).mono ?_; rintro e w6 ⟨rfl, hA6, b6⟩
          dsimp only
          have hHeld6 : Below w5.heap.size w5 w6 := hHeldx.trans (b6.mono hHeldx.size)
          have HA6 := Lib.hid (does_clo hA6)
          clear hA6 b6 HD5
          refine hK.out _ _ (RS.out _ hHeld6) (fun hHeld3 => ?_)
          clear hK K hHeld
          have hHeld := hHeld3
          clear hHeld3
          try simp only [Act.put, List.getElem_toArray, List.getElem_cons_zero, List.getElem_cons_succ, List.setIfInBounds_toArray, List.set_cons_zero, List.set_cons_succ]
          refine wpAnyH_ready (rs := [14]) (by kernel_rfl) (by simp) ?_
          refine AllReadyH.cons (o := _) rfl (fun K hK => ?_) ?_
          · go_simp
            refine (jwrite_any d b l i 1 (1 + l) m (1 + l + m) t (1 + l + m + t) (CS.take kk) HTL.out.1 (.slice (some ⟨gs, os, none⟩) kk cap) lo hi w6 (by have := HB5.out.size; have := hHeld6.size; omega) (RowIn.kept HP1.out hHeld6)).mono ?_; rintro e w7 ⟨rfl, hA7, b7⟩
            dsimp only
            have hHeld7 : Below w5.heap.size w5 w7 := hHeld6.trans (b7.mono hHeld6.size)
            have HA7 := Lib.hid (does_clo hA7)
            replace HA6 := Lib.hid (HA6.out.kept1 b7)
            clear hA7 b7 HP1
            refine hK.out _ _ (RS.out _ hHeld7) (fun hHeld3 => ?_)
            clear hK K hHeld
            have hHeld := hHeld3
            clear hHeld3
            try simp only [Act.put, List.getElem_toArray, List.getElem_cons_zero, List.getElem_cons_succ, List.setIfInBounds_toArray, List.set_cons_zero, List.set_cons_succ]
            refine wpAnyH_ready (rs := [28]) (by kernel_rfl) (by simp) ?_
            refine AllReadyH.cons (o := _) rfl (fun K hK => ?_) ?_
            · go_simp
              refine (jwrite_any d b l i 1 (1 + l) m (1 + l + m) t (1 + l + m + t) (CS.drop kk) HTL.out.2 (.slice (some ⟨gs, os + kk * 2, none⟩) 1 (cap - kk)) lo hi w7 (by have := HB5.out.size; have := hHeld7.size; omega) (RowIn.kept HP2.out hHeld7)).mono ?_; rintro e w8 ⟨rfl, hA8, b8⟩
              dsimp only
              have hHeld8 : Below w5.heap.size w5 w8 := hHeld7.trans (b8.mono hHeld7.size)
              have HA8 := Lib.hid (does_clo hA8)
              replace HA6 := Lib.hid (HA6.out.kept1 b8)
              replace HA7 := Lib.hid (HA7.out.kept1 b8)
              clear hA8 b8 HP2
              refine hK.out _ _ (RS.out _ hHeld8) (fun hHeld3 => ?_)
              clear hK K hHeld
              have hHeld := hHeld3
              clear hHeld3
              try simp only [Act.put, List.getElem_toArray, List.getElem_cons_zero, List.getElem_cons_succ, List.setIfInBounds_toArray, List.set_cons_zero, List.set_cons_succ]
              refine wpAnyH_ready (rs := [35]) (by kernel_rfl) (by simp) ?_
              refine AllReadyH.cons (o := _) rfl (fun K hK => ?_) ?_
              · go_simp
                have h6 : hi ≤ w8.heap.size := by have := HB5.out.size; have := hHeld8.size; omega
                have HA := Lib.hid (five_acts w8 h6 HA6.out HA7.out (does_flush d lo hi w8) HA8.out (does_flush d lo hi w8))
                clear HA6 HA7 HA8
                refine hK.out _ _ (RS.out _ (balloc hHeld8 _)) (fun hHeld3 => ?_)
                clear hK K hHeld
                have hHeld := hHeld3
                clear hHeld3
                try simp only [Act.put, List.getElem_toArray, List.getElem_cons_zero, List.getElem_cons_succ, List.setIfInBounds_toArray, List.set_cons_zero, List.set_cons_succ]
                refine wpAnyH_ready (rs := [36]) (by kernel_rfl) (by simp) ?_
                refine AllReadyH.cons (o := _) rfl (fun K hK => ?_) ?_
                · go_simp
                  refine (do_any2 _ _ (HDV5.out.kept1 (balloc hHeld8 _)) HA.out (by rw [HCD.out]; exact HFL.out)).mono ?_; rintro e w9 ⟨rfl, hd9, hz9⟩
                  dsimp only
                  rw [HCD.out] at hd9
                  try rw [HCD.out]
                  have hzB := (Zone.of_below (balloc hHeld8 _) lo hi).trans hz9
                  have hzA := (Zone.of_below HB5.out lo hi).trans hzB
                  clear hHeldx hHeld6 hHeld7 hHeld8 HA
                  refine hK.out _ _ (⟨0, (hzB.block g hgs (.inr hgh)).trans HG5.out⟩) (fun hHeld3 => ?_)
                  clear hK K hHeld
                  have hHeld := hHeld3
                  clear hHeld3
                  try simp only [Act.put, List.getElem_toArray, List.getElem_cons_zero, List.getElem_cons_succ, List.setIfInBounds_toArray, List.set_cons_zero, List.set_cons_succ]
                  refine wpAnyH_ready (rs := [37]) (by kernel_rfl) (by simp) ?_
                  refine AllReadyH.cons (o := _) rfl (fun K hK => ?_) ?_
                  · go_simp
                    refine hK.out _ _ (hHeld) (fun hHeld3 => ?_)
                    clear hK K hHeld
                    have hHeld := hHeld3
                    clear hHeld3
                    try simp only [Act.put, List.getElem_toArray, List.getElem_cons_zero, List.getElem_cons_succ, List.setIfInBounds_toArray, List.set_cons_zero, List.set_cons_succ]
                    refine wpAnyH_ready (rs := [38]) (by kernel_rfl) (by simp) ?_
                    refine AllReadyH.cons (o := _) rfl (fun K hK => ?_) ?_
                    · go_simp
                      refine hK.out _ _ (hHeld) (fun hHeld3 => ?_)
                      clear hK K hHeld
                      have hHeld := hHeld3
                      clear hHeld3
                      try simp only [Act.put, List.getElem_toArray, List.getElem_cons_zero, List.getElem_cons_succ, List.setIfInBounds_toArray, List.set_cons_zero, List.set_cons_succ]
                      refine wpAnyH_ready (rs := [39]) (by kernel_rfl) (by simp) ?_
                      refine AllReadyH.cons (o := _) rfl (fun K hK => ?_) ?_
                      · have hHeld2 := hHeld
                        obtain ⟨f9, hL9⟩ := hHeld2
                        have c14 := (LogAt.cells hL9).2.2.2.2.2.2.2.2.2.2.2.2.2.2
                        have fr := Blk.frozen hL9 14
                        have HL9 := Lib.hid hL9
                        clear hL9
                        go_simp
                        refine hK.out _ _ (⟨_, LogAt.failed HL9.out _⟩) (fun hHeld3 => ?_)
                        clear hK K hHeld
                        have hHeld := hHeld3
                        clear hHeld3
                        try simp only [Act.put, List.getElem_toArray, List.getElem_cons_zero, List.getElem_cons_succ, List.setIfInBounds_toArray, List.set_cons_zero, List.set_cons_succ]
                        refine ⟨by kernel_rfl, ?_⟩
                        have HL10 := Lib.hid (LogAt.failed HL9.out ((deeds S QD).1))
                        obtain ⟨cq, hcq⟩ : ∃ c, (deeds S QD).1 = c := ⟨_, rfl⟩
                        have HCQ := Lib.hid hcq
                        rw [hcq] at HL10
                        rw [hcq]
                        clear hcq fr c14 hHeld HL9
                        obtain ⟨w10, hw10⟩ : ∃ w10, w9.setCell ⟨g, 14, none⟩ (.int .i64 cq) = w10 := ⟨_, rfl⟩
                        rw [hw10] at HL10
                        rw [hw10]
                        have z10 : Zone g (g + 1) w9 w10 := by rw [← hw10]; exact zone_set g w9 14 _
                        have HD10 := Lib.hid (hd9.logset hgh z10)
                        have HZ10 := Lib.hid ((LogZ.of_zone (g := g) hzA).trans (LogZ.of_set z10))
                        clear hw10 z10 hd9 hzA hzB hz9
                        have c14 := (LogAt.cells HL10.out).2.2.2.2.2.2.2.2.2.2.2.2.2.2
                        by_cases hc0 : cq = 0
                        · subst hc0
                          have k0 := fun p : BelowP w10 => (LogAt.cells (HL10.out.all p)).1
                          have k1 := fun p : BelowP w10 => (LogAt.cells (HL10.out.all p)).2.1
                          have k2 := fun p : BelowP w10 => (LogAt.cells (HL10.out.all p)).2.2.1
                          have k3 := fun p : BelowP w10 => (LogAt.cells (HL10.out.all p)).2.2.2.1
                          have k4 := fun p : BelowP w10 => (LogAt.cells (HL10.out.all p)).2.2.2.2.1
                          have k5 := fun p : BelowP w10 => (LogAt.cells (HL10.out.all p)).2.2.2.2.2.1
                          have k6 := fun p : BelowP w10 => (LogAt.cells (HL10.out.all p)).2.2.2.2.2.2.1
                          have k7 := fun p : BelowP w10 => (LogAt.cells (HL10.out.all p)).2.2.2.2.2.2.2.1
                          have k8 := fun p : BelowP w10 => (LogAt.cells (HL10.out.all p)).2.2.2.2.2.2.2.2.1
                          have k9 := fun p : BelowP w10 => (LogAt.cells (HL10.out.all p)).2.2.2.2.2.2.2.2.2.1
                          have k11 := fun p : BelowP w10 => (LogAt.cells (HL10.out.all p)).2.2.2.2.2.2.2.2.2.2.2.1
                          have k12 := fun p : BelowP w10 => (LogAt.cells (HL10.out.all p)).2.2.2.2.2.2.2.2.2.2.2.2.1
                          have k13 := fun p : BelowP w10 => (LogAt.cells (HL10.out.all p)).2.2.2.2.2.2.2.2.2.2.2.2.2.1
                          go_upto_region 13 with fail
                          refine wp_region_tail_below 11 mixed (by kernel_rfl) ?_
                          simp only [List.take_succ_cons, List.take_zero, List.drop_succ_cons, List.drop_zero]
                          repeat (go_big_quiet_step (first | (go_at_call 49; refine calls_below (BH.out _))))
                          refine wpQuiet_nil ?_
                          intro w0q hw'
                          obtain ⟨⟨wq, bq⟩, hw''⟩ := hw'
                          have hw2 : wq = w0q := hw''.symm
                          clear hw''
                          subst hw2
                          have HLq : Hid (LogAt g d b l i 1 (1 + l) m (1 + l + m) t (1 + l + m + t) slot left seq 0 wq) := Lib.hid (Blk.kept1 HL10.out bq)
                          have HDq := Lib.hid (HD10.out.kept1 bq)
                          have HZq := Lib.hid (HZ10.out.trans (LogZ.of_zone (Zone.of_below bq lo hi)))
                          clear k0 k1 k2 k3 k4 k5 k6 k7 k8 k9 k11 k12 k13 c14 HL10 HD10 HZ10 bq
                          go_wp2_with (refine wpList_store_logplace rfl _ _ rfl rfl rfl HLq.out ?_)
                          intro w12 hL12 z12
                          have c14 := (LogAt.cells hL12).2.2.2.2.2.2.2.2.2.2.2.2.2.2
                          have HL12 := Lib.hid hL12
                          have HD12 := Lib.hid (HDq.out.logset hgh z12)
                          have HZ12 := Lib.hid (HZq.out.trans (LogZ.of_set z12))
                          clear hL12 z12 HLq HDq HZq
                          go_wp2
                          go_ret
                          rw [HCQ.out, selI_yes, selI_yes, selN_yes]
                          exact ⟨rfl, HD12.out, HZ12.out, HL12.out⟩
                        · go_wp2
                          go_ret
                          rw [HCQ.out, selI_no hc0, selI_no hc0, selN_no hc0]
                          exact ⟨rfl, HD10.out, HZ10.out, HL10.out⟩
                      exact AllReadyH.nil
                    exact AllReadyH.nil
                  exact AllReadyH.nil
                exact AllReadyH.nil
              exact AllReadyH.nil
            exact AllReadyH.nil
          exact AllReadyH.nil
        exact AllReadyH.nil
      exact AllReadyH.nil
    exact AllReadyH.nil
  exact AllReadyH.nil
end Go.Proofs.YtanghmogeiiooaaGreatDoor
