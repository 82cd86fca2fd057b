import Derived.Test.YtanghmogeiiooaaGreatDoorPa17
import Derived.Test.YtanghmogeiiooaaGreatDoorPa12
set_option linter.unusedVariables false
set_option linter.unusedSimpArgs false
set_option linter.constructorNameAsVariable false
/- The reader: transaction. -/
namespace Go.Proofs.YtanghmogeiiooaaGreatDoor
set_option linter.unusedVariables false
open Go.RowKit

abbrev noTx : Value := .agg #[.slice none 0 0, .slice none 0 0]
/-- what transaction's own memory holds -/
structure TM (w0 : World) (g : Nat) (t : Tx) (vc vr : Value) (W : World) : Prop where
  zero : Blk w0.heap.size #[.slice none 0 0, .slice none 0 0] 64 W
  blk : Blk (w0.heap.size + 1) #[vc, vr] 64 W
  ch : ChgsOwn (w0.heap.size + 2) vc t.changes W
  rv : IntsOwn (w0.heap.size + 2) vr t.revokes W
  zone : Zone g (g + 1) w0 W
  lt : g < w0.heap.size
theorem TM.kept {w0 W W' : World} {g : Nat} {t : Tx} {vc vr : Value} (h : TM w0 g t vc vr W) (z : Zone g (g + 1) W W') : TM w0 g t vc vr W' :=
  have hl := h.lt
  ⟨h.zero.kept z (.inr (by omega)), h.blk.kept z (.inr (by omega)), row_zone h.ch z (by omega), row_zone h.rv z (by omega), h.zone.trans z, hl⟩
theorem TM.alloc {w0 W : World} {g : Nat} {t : Tx} {vc vr : Value} (h : TM w0 g t vc vr W) (o : Obj) : TM w0 g t vc vr (W.alloc o) := h.kept (Zone.of_below (balloc1 W o) _ _)
theorem blk_stays {q B n z : Nat} {v v' : Value} {e T : TypeId} {cs : Array Value} {xs : List Value} {w w' : World} (h : Blk q cs T w) (k : w.ownsRow B e z v n xs) (hq : q < B) (hg : w.grownBy w' v.ownBlock) : Blk q cs T w' :=
  (hg.block q h.lt fun e => by have := (k.lt q e.symm).1; omega).trans h
theorem row_setlow {q j B n z : Nat} {v u : Value} {e : TypeId} {xs : List Value} {w : World} (h : w.ownsRow B e z v n xs) (hq : q < B) : (w.setCell ⟨q, j, none⟩ u).ownsRow B e z v n xs := ownsRow_setCell_below h (a := ⟨q, j, none⟩) hq u
theorem TM.putR {w0 W W' : World} {g : Nat} {t : Tx} {vc vr v' : Value} {L : List Int} (h : TM w0 g t vc vr W) (hr : IntsOwn (w0.heap.size + 2) v' (t.revokes ++ L) W') (hg : W.grownBy W' vr.ownBlock) :
    TM w0 g ⟨t.changes, t.revokes ++ L⟩ vc v' (W'.setCell ⟨w0.heap.size + 1, 1, none⟩ v') := by
  have hl := h.lt
  have hb : Below (w0.heap.size + 1) W (W'.setCell ⟨w0.heap.size + 1, 1, none⟩ v') := (below_of_row (row_down (Nat.le_succ _) h.rv) hg (by have := h.blk.lt; omega)).setCell (Nat.le_refl _) _
  refine ⟨(blk_stays h.zero h.rv (by omega) hg (v' := v')).other (by show w0.heap.size + 1 ≠ _; omega) _, ?_, row_setlow (kept_kinds h.rv h.ch (by decide) hg) (by omega), row_setlow hr (by omega), h.zone.later (Nat.le_succ _) hb, hl⟩
  have := (blk_stays h.blk h.rv (by omega) hg (v' := v')).set 1 v'
  simpa using this
theorem TM.putC {w0 W W' : World} {g : Nat} {t : Tx} {vc vr v' : Value} {L : List (Int × ByteArray)} (h : TM w0 g t vc vr W) (hr : ChgsOwn (w0.heap.size + 2) v' (t.changes ++ L) W') (hg : W.grownBy W' vc.ownBlock) :
    TM w0 g ⟨t.changes ++ L, t.revokes⟩ v' vr (W'.setCell ⟨w0.heap.size + 1, 0, none⟩ v') := by
  have hl := h.lt
  have hb : Below (w0.heap.size + 1) W (W'.setCell ⟨w0.heap.size + 1, 0, none⟩ v') := (below_of_row (row_down (Nat.le_succ _) h.ch) hg (by have := h.blk.lt; omega)).setCell (Nat.le_refl _) _
  refine ⟨(blk_stays h.zero h.ch (by omega) hg (v' := v')).other (by show w0.heap.size + 1 ≠ _; omega) _, ?_, row_setlow hr (by omega), row_setlow (kept_kinds h.ch h.rv (by decide) hg) (by omega), h.zone.later (Nat.le_succ _) hb, hl⟩
  have := (blk_stays h.blk h.ch (by omega) hg (v' := v')).set 0 v'
  simpa using this
/-- rows are put behind a row -/
theorem wpList_appIs {ops : Array Oper} {rest : List Oper} {o : Oper} {a : Act} {Q : Exit → Act → World → Prop} {w : World} (hgd : o.guard = none) (s x : Operand)
    (ho : o.op = .call { callee := .builtin .append, args := #[s, x], argTypes := #[56, 56] })
    (base : Nat) (v : Value) (L : List Int) (hs : a.eval s = v) (hown : IntsOwn base v L w) (B2 : Nat) (ad : Option Addr) (c : Nat) (M : List Int) (hx : a.eval x = .slice ad M.length c) (hM : IntsOwn B2 (.slice ad M.length c) M w) (hM0 : 0 < M.length)
    (hlen : L.length ≤ 4000000) (hlen2 : M.length ≤ 4000000) (hbase : base ≤ w.heap.size)
    (h : ∀ v' w', IntsOwn base v' (L ++ M) w' → w.grownBy w' v.ownBlock → wpList Tryz.prog ops Q rest (a.put o.dst v') w') : wpList Tryz.prog ops Q (o :: rest) a w := by
  obtain ⟨i0, hi, hz0, hz1, hz2⟩ := info_parts kint_info
  obtain ⟨ad1, c1, e1, -, -, h1⟩ := shape_of hM
  obtain ⟨g, rfl, -, -⟩ := h1 hM0
  injection e1 with e1 _ _
  subst e1
  refine wpList_append_own (w := w) hgd s x 56 ho base 3 i0 (.int .i64 0) 1 8 Tryz.underlying56 hi hz0 hz1 hz2 rfl (by decide) v _ _ hs hown ⟨g, 0, none⟩ M.length c (M.map (Value.int .i64)) hx (by rw [List.length_map]; omega) (fun j u hj => by
    have hl := (List.getElem?_eq_some_iff.1 hj).1
    rw [List.length_map] at hl
    rw [add_at, Nat.zero_add, hM.cellAt j (by omega)]; exact hj) (fun u hu => by obtain ⟨z, _, rfl⟩ := List.mem_map.1 hu; rfl) (by unfold maxLen; omega) (by omega) hbase ?_
  intro v' w' h1 h2 _
  refine h v' w' ?_ h2
  show w'.ownsRow _ _ _ _ (L ++ M).length ((L ++ M).map _)
  rw [List.length_append, List.map_append]; exact h1
theorem wpList_appCs {ops : Array Oper} {rest : List Oper} {o : Oper} {a : Act} {Q : Exit → Act → World → Prop} {w : World} (hgd : o.guard = none) (s x : Operand)
    (ho : o.op = .call { callee := .builtin .append, args := #[s, x], argTypes := #[62, 62] })
    (base : Nat) (v : Value) (L : List (Int × ByteArray)) (hs : a.eval s = v) (hown : ChgsOwn base v L w) (B2 : Nat) (ad : Option Addr) (c : Nat) (M : List (Int × ByteArray)) (m : Nat) (hm : M.length = m) (hx : a.eval x = .slice ad m c) (hM : ChgsOwn B2 (.slice ad m c) M w) (hM0 : 0 < m)
    (hlen : L.length ≤ 4000000) (hlen2 : m ≤ 4000000) (hbase : base ≤ w.heap.size)
    (h : ∀ v' w', ChgsOwn base v' (L ++ M) w' → w.grownBy w' v.ownBlock → wpList Tryz.prog ops Q rest (a.put o.dst v') w') : wpList Tryz.prog ops Q (o :: rest) a w := by
  obtain ⟨i0, hi, hz0, hz1, hz2⟩ := info_parts chg_info
  subst hm
  obtain ⟨ad1, c1, e1, -, -, h1⟩ := shape_of hM
  obtain ⟨g, rfl, -, -⟩ := h1 hM0
  injection e1 with e1 _ _
  subst e1
  refine wpList_append_own (w := w) hgd s x 62 ho base 61 i0 (.agg #[.int .i64 0, .string ⟨#[]⟩]) 2 24 Tryz.underlying62 hi hz0 hz1 hz2 rfl (by decide) v _ _ hs hown ⟨g, 0, none⟩ M.length c (chgsL M) hx (by rw [chgsL_length]) (fun j u hj => by
    have hl := (List.getElem?_eq_some_iff.1 hj).1
    rw [chgsL_length] at hl
    rw [add_at, Nat.zero_add, hM.cellAt j (by omega)]; exact hj) (fun u hu => by
      obtain ⟨z, _, hz⟩ := List.mem_flatMap.1 hu
      simp at hz; rcases hz with rfl | rfl <;> rfl) (by unfold maxLen; omega) (by omega) hbase ?_
  intro v' w' h1 h2 _
  refine h v' w' ?_ h2
  show w'.ownsRow _ _ _ _ (L ++ M).length (chgsL (L ++ M))
  rw [List.length_append, chgsL_append]; exact h1
/-- what transaction answers -/
def TxPost (w : World) (g d : Nat) (b l i la ma ml ta tl da : Int) (slot left seq : Nat) (RES : Option (Tx × Nat)) (e : Ending) (w' : World) : Prop :=
  Zone g (g + 1) w w' ∧ match RES with
  | none => e = .returned (.tuple #[noTx, .bool false])
  | some (t, k) => ∃ vc vr s, e = .returned (.tuple #[.agg #[vc, vr], .bool true]) ∧ ChgsOwn w.heap.size vc t.changes w' ∧ IntsOwn w.heap.size vr t.revokes w' ∧ RdAt g d b l i la ma ml ta tl da slot left seq (k : Int) s w'
theorem RdAt.num {g d : Nat} {b l i la ma ml ta tl da slot left : Int} {seq n : Nat} {sum : Nat} {w : World} (h : RdAt g d b l i la ma ml ta tl da slot left seq (n : Int) sum w) : cellNat g 13 w = n := by
  unfold cellNat; rw [h.cells.2.2.2.2.2.2.2.2.2.2.2.2.2.1]; simp [intOf]
set_option maxRecDepth 100000 in
set_option maxHeartbeats 16000000 in
theorem transaction_any (g d lo hi : Nat) (b l i la ma ml ta tl da : Int) (hl : 128 ≤ l ∧ l ≤ 512) (hla : 0 ≤ la ∧ la ≤ 4096) (slot left : Nat) (seq : Nat) (hs : slot + left ≤ 2000) (F : Nat) (hF : left ≤ F) {S : St} (w : World)
    (h : RdAt g d b l i la ma ml ta tl da slot left seq 0 0 w) (hd : DevAt d lo hi S w) (hg : hi ≤ g) (hg0 : 0 < g) (ht : Tab w) :
    Calls Tryz.prog 62 #[.pointer (some ⟨g, 0, none⟩)] w fun e w' => TxPost w g d b l i la ma ml ta tl da slot left seq (stand (slotT S la l) (hmB b la l) slot seq left F 0 ⟨[], []⟩) e w' := by
  obtain ⟨RES, hRES⟩ : ∃ RES, stand (slotT S la l) (hmB b la l) slot seq left F 0 ⟨[], []⟩ = RES := ⟨_, rfl⟩
  rw [hRES]
  have HRES := Lib.hid hRES
  have HD := Lib.hid hd
  have HT := Lib.hid ht
  have gh : Tryz.prog.stoodInHeld 134 = false := by kernel_rfl
  have hgw := h.lt
  have hbz : moreV 0 (bytesOf (slotT S la l) slot 0) = 0 := jmore_none 0
  have hlt0 := moreV_lt 0 (bytesOf (slotT S la l) slot 0) (by decide)
  obtain ⟨w0, hw0⟩ : ∃ w0, (w.alloc (.cells #[.slice none 0 0, .slice none 0 0] 64)).alloc (.cells #[.slice none 0 0, .slice none 0 0] 64) = w0 := ⟨_, rfl⟩
  have HM0 : Hid (TM w g ⟨[], []⟩ (.slice none 0 0) (.slice none 0 0) w0) := Lib.hid (by
    rw [← hw0]
    refine ⟨(Blk.new _ _ w).kept1 (balloc1 _ _), ?_, World.ownsRow_nil _ _ _ _, World.ownsRow_nil _ _ _ _, Zone.of_below (balloc (balloc1 w _) _) _ _, hgw⟩
    have := Blk.new #[.slice none 0 0, .slice none 0 0] 64 (w.alloc (.cells #[.slice none 0 0, .slice none 0 0] 64))
    rw [size_alloc] at this; exact this)
  have HR0 : Hid (RdAt g d b l i la ma ml ta tl da slot left seq 0 (moreV 0 (bytesOf (slotT S la l) slot 0)) w0) := Lib.hid (by rw [← hw0, hbz]; exact h.kept1 (balloc (balloc1 w _) _))
  have HW0 := Lib.hid hw0
  clear hRES hd ht h hw0 hbz hlt0
  go_enter Tryz.func62, Tryz.ntmps62
  go_wp2
  rw [HW0.out]
  go_loopw [] (fun wr => ∃ (n f : Nat) (t : Tx) (vc vr : Value), n ≤ left ∧ left ≤ n + f ∧ t.changes.length ≤ n ∧ t.revokes.length ≤ 28 * n ∧ Hid (stand (slotT S la l) (hmB b la l) slot seq left f n t = RES) ∧ TM w g t vc vr wr ∧ RdAt g d b l i la ma ml ta tl da slot left seq (n : Int) (moreV 0 (bytesOf (slotT S la l) slot n)) wr) (fun wr => left - cellNat g 13 wr)
  case atStart => exact ⟨0, F, ⟨[], []⟩, _, _, Nat.zero_le _, by omega, Nat.zero_le _, Nat.zero_le _, HRES, HM0.out, HR0.out⟩
  case round =>
    clear HM0 HR0 HW0 HRES
    obtain ⟨n, f, t, vc, vr, hn, hf, hc, hv, HR, M, hR⟩ := hrel
    obtain ⟨ac, cc, rfl, -⟩ := shape_of M.ch
    obtain ⟨ar, cr, rfl, -⟩ := shape_of M.rv
    have hsum := moreV_lt 0 (bytesOf (slotT S la l) slot n) (by decide)
    have r14 := hR.cells.2.2.2.2.2.2.2.2.2.2.2.2.2.2
    have hmeas := hR.num
    have HME := Lib.hid hmeas
    have HC := record_cases g d lo hi b l i la ma ml ta tl da hl hla slot n left seq _ hn hs hsum wr f t hR (HD.out.kept M.zone (.inl hg)) hg hg0 (tab_zone HT.out M.zone hg0)
    clear hmeas hR
    rcases HC with ⟨hnone, HB⟩ | ⟨hlt, hb, hq, hh, HB⟩
    · have HR := Lib.hid (HR.out.symm.trans hnone)
      have HB := Lib.hid HB
      clear hnone HME
      go_wp2_with fail
      refine HB.out.mono ?_; rintro e w2 ⟨rfl, z2⟩
      have M2 := M.kept z2
      have HM3 : Hid (TM w g t _ _ (w2.alloc (.cells zC 134))) := Lib.hid (M2.alloc _)
      clear M M2 z2 HB
      go_wp2_with (refine wpList_store_txn rfl _ _ rfl rfl rfl _ rfl HM3.out.zero ?_)
      intro w5 h5 hl5 hs5 he5
      have hz5 := HM3.out.zone.later (Nat.le_refl _) hl5
      have y0 := h5.cell 0
      have y1 := h5.cell 1
      simp at y0 y1
      clear hl5 hs5 he5 HM3
      go_wp2
      refine bodyPost_ret (v := .tuple #[noTx, .bool false]) ?_ rfl ⟨hz5, by rw [HR.out]⟩
      rw [results_cell_tmp rfl]
      go_simp
    · obtain ⟨f, rfl⟩ : ∃ f', f = f' + 1 := ⟨f - 1, by omega⟩
      have HR := HR.out
      rw [stand_good hb hq hlt] at HR
      have hok := hb.2.1
      have hby := bytesOf_succ (slotT S la l) slot n
      rw [show slot + n + 1 = slot + (n + 1) by omega] at HR
      obtain ⟨T, hT⟩ : ∃ T, slotT S la l (slot + n) = T := ⟨_, rfl⟩
      rw [hT] at HR hb hq hh HB hok hby
      obtain ⟨r, hr⟩ : ∃ r, readR T = r := ⟨_, rfl⟩
      rw [hr] at HR hq hh HB hok
      have hkd := kind_any hok
      have HBY := Lib.hid hby
      obtain ⟨kind, sq, pos, homes, masked, sm⟩ := r
      dsimp only at *
      have HR := Lib.hid HR
      have HH := Lib.hid hh
      have HM := Lib.hid M
      have HB := Lib.hid HB
      have hgb := M.blk.lt
      clear hb hh hok hby hT hr hq M
      rcases hkd with rfl | ⟨rfl, hml, hh1, hh2⟩ | ⟨rfl, hh1, hh2⟩ | rfl
      · go_wp2_with fail
        refine HB.out.mono ?_; rintro e w2 ⟨vh, vm, rfl, hO, hR2, z2⟩
        obtain ⟨ah, ch, rfl, -⟩ := shape_of hO.1
        obtain ⟨am, cm, rfl, -⟩ := shape_of hO.2
        have HR : Hid (RES = none) := Lib.hid (by rw [← HR.out]; rfl)
        have HM3 : Hid (TM w g t _ _ (w2.alloc (.cells #[.int .i64 1, .int .u64 (sq : Int), .int .i64 pos, .slice ah homes.length ch, .slice am masked.length cm, .int .u32 (sm : Int)] 134))) := Lib.hid ((HM.out.kept z2).alloc _)
        clear HM hO hR2 z2 HB r14 HH HME
        go_wp2_with (refine wpList_store_txn rfl _ _ rfl rfl rfl _ rfl HM3.out.zero ?_)
        intro w5 h5 hl5 hs5 he5
        have hz5 := HM3.out.zone.later (Nat.le_refl _) hl5
        have y0 := h5.cell 0
        have y1 := h5.cell 1
        simp at y0 y1
        clear hl5 hs5 he5 HM3
        go_wp2
        refine bodyPost_ret (v := .tuple #[noTx, .bool false]) ?_ rfl ⟨hz5, by rw [HR.out]⟩
        rw [results_cell_tmp rfl]
        go_simp
      · have HML := Lib.hid hml
        clear hml
        go_wp2_with fail
        refine HB.out.mono ?_; rintro e w2 ⟨vh, vm, rfl, hO, hR2, z2⟩
        obtain ⟨ah, ch, rfl, -⟩ := shape_of hO.1
        obtain ⟨am, cm, rfl, -⟩ := shape_of hO.2
        have hgw2 := HM.out.lt
        have hzw := HM.out.zone.size
        obtain ⟨w3, hw3⟩ : ∃ w3, (w2.alloc (.cells #[.int .i64 2, .int .u64 (sq : Int), .int .i64 pos, .slice ah homes.length ch, .slice am masked.length cm, .int .u32 (sm : Int)] 134)) = w3 := ⟨_, rfl⟩
        have M3 : TM w g t (.slice ac t.changes.length cc) (.slice ar t.revokes.length cr) w3 := by rw [← hw3]; exact (HM.out.kept z2).alloc _
        have hR3 : RdAt g d b l i la ma ml ta tl da slot left seq ((n + 1 : Nat) : Int) (moreV 0 (bytesOf (slotT S la l) slot (n + 1))) w3 := by
          rw [HBY.out, moreV_append, ← hw3]; exact hR2.kept1 (balloc1 _ _)
        have hO3 : RecOwn (g + 1) ⟨2, sq, pos, homes, masked, sm⟩ (.slice ah homes.length ch) (.slice am masked.length cm) w3 := by
          rw [← hw3]; exact (RecOwn.kept hO (balloc1 _ _)).down (by omega)
        have hsum3 := moreV_lt 0 (bytesOf (slotT S la l) slot (n + 1)) (by decide)
        have hd3 := HD.out.kept M3.zone (.inl hg)
        have ht3 := tab_zone HT.out M3.zone hg0
        have HM3 := Lib.hid M3
        have HW3 := Lib.hid hw3
        have hR := HR.out
        rw [if_neg (by decide), if_neg (by decide), if_neg (not_not_intro HH.out), if_neg (by decide)] at hR
        by_cases hle : n + 1 + homes.length ≤ left
        · have hR' : stand (slotT S la l) (hmB b la l) slot seq left f (n + 1 + homes.length) ⟨t.changes ++ dataOf (slotT S la l) (slot + (n + 1)) ⟨2, sq, pos, homes, masked, sm⟩ homes.length, t.revokes⟩ = RES := by
            rw [← hR, if_neg (by omega)]
          have HR := Lib.hid hR'
          have CH := Lib.hid (changes_ok g d lo hi b l i la ma ml ta tl da hl hla slot (n + 1) left seq _ hsum3 _ _ _ w3 hR3 hd3 hg hg0 ht3 hO3 HML.out (by show homes.length ≤ 28; omega) hs (by show n + 1 + homes.length ≤ left; omega))
          have hdl := dataOf_length (slotT S la l) (slot + (n + 1)) ⟨2, sq, pos, homes, masked, sm⟩ homes.length
          have HBA := Lib.hid (bytesOf_add (slotT S la l) slot (n + 1) homes.length)
          dsimp only at CH
          clear HM hO hO3 hR2 hR3 hR hR' z2 HB r14 HH M3 hw3 hd3 ht3 hsum3
          obtain ⟨DL, hDL⟩ : ∃ DL, dataOf (slotT S la l) (slot + (n + 1)) ⟨2, sq, pos, homes, masked, sm⟩ homes.length = DL := ⟨_, rfl⟩
          rw [hDL] at HR CH hdl
          clear hDL
          go_wp2_with fail
          rw [HW3.out]
          refine CH.out.mono ?_; rintro e w4 ⟨v, rfl, hC4, hR4, z4⟩
          obtain ⟨al, cl, rfl, -⟩ := shape_of hC4
          have hM4 := HM3.out.kept z4
          have c0 := hM4.blk.cell 0
          have c1 := hM4.blk.cell 1
          simp only [List.getElem?_toArray, List.getElem?_cons_zero, List.getElem?_cons_succ] at c0 c1
          have HM4 := Lib.hid hM4
          have hR4' : RdAt g d b l i la ma ml ta tl da slot left seq ((n + 1 + homes.length : Nat) : Int) (moreV 0 (bytesOf (slotT S la l) slot (n + 1 + homes.length))) w4 := by
            rw [HBA.out, moreV_append]; exact hR4
          have HR4 := Lib.hid hR4'
          have HC4 := Lib.hid hC4
          have hz4 := z4.size
          have hlt4 := hM4.blk.lt
          clear hR4 hR4' hC4 z4 hM4 CH HM3 HW3
          rw [hdl]
          go_wp2_with (at_builtin; refine wpList_appCs rfl _ _ rfl (w.heap.size + 2) _ t.changes rfl HM4.out.ch w3.heap.size al cl DL homes.length hdl rfl (by have := HC4.out; rw [hdl] at this; exact this) (by omega) (by omega) (by omega) (by omega) ?_)
          intro v5 w5 hr5 hg5
          obtain ⟨a5, cp5, rfl, -⟩ := shape_of hr5
          have B5 := blk_stays HM4.out.blk HM4.out.ch (by omega) hg5 (v' := .slice a5 (t.changes ++ DL).length cp5)
          have HN := Lib.hid (HM4.out.putC hr5 hg5)
          have q1 := B5.cell 0
          have q2 := B5.frozen 0
          simp only [List.getElem?_toArray, List.getElem?_cons_zero, List.getElem?_cons_succ] at q1
          have hR5 : RdAt g d b l i la ma ml ta tl da slot left seq ((n + 1 + homes.length : Nat) : Int) (moreV 0 (bytesOf (slotT S la l) slot (n + 1 + homes.length))) (w5.setCell ⟨w.heap.size + 1, 0, none⟩ (.slice a5 (t.changes ++ DL).length cp5)) := Blk.other (blk_stays HR4.out HM4.out.ch (by omega) hg5 (v' := .slice a5 (t.changes ++ DL).length cp5)) (by show w.heap.size + 1 ≠ _; omega) _
          have HNUM := Lib.hid hR5.num
          have HR5 := Lib.hid hR5
          clear hr5 hg5 B5 hR5 HM4 HR4 HC4 c0 c1
          obtain ⟨lr, hlr⟩ : ∃ lr, (t.changes ++ DL).length = lr := ⟨_, rfl⟩
          have hlr2 : lr ≤ n + 1 + homes.length := by rw [← hlr, List.length_append]; omega
          rw [hlr] at HN HR5 HNUM ⊢
          have HLR := Lib.hid hlr
          clear hlr
          go_wp2
          refine ⟨⟨n + 1 + homes.length, f, ⟨t.changes ++ DL, t.revokes⟩, _, _, by omega, by omega, (by show (t.changes ++ DL).length ≤ _; have := HLR.out; omega), (by show t.revokes.length ≤ _; omega), HR, HN.out, HR5.out⟩, ?_⟩
          rw [HNUM.out, HME.out]; omega
        · have hR' : RES = none := by rw [← hR, if_pos (by omega)]
          have HR := Lib.hid hR'
          have CH := Lib.hid (changes_no g d lo hi b l i la ma ml ta tl da hl hla slot (n + 1) left seq _ hsum3 _ _ _ w3 hR3 hd3 hg hg0 ht3 hO3 HML.out (by show homes.length ≤ 28; omega) hs (by omega) (by show left < n + 1 + homes.length; omega))
          clear HM hO hO3 hR2 hR3 hR hR' z2 HB r14 HH M3 hw3 hd3 ht3 hsum3 HME
          go_wp2_with fail
          rw [HW3.out]
          refine CH.out.mono ?_; rintro e w4 ⟨rfl, -, z4⟩
          have HM3 := Lib.hid (HM3.out.kept z4)
          clear CH z4 HW3
          go_wp2_with (refine wpList_store_txn rfl _ _ rfl rfl rfl _ rfl HM3.out.zero ?_)
          intro w5 h5 hl5 hs5 he5
          have hz5 := HM3.out.zone.later (Nat.le_refl _) hl5
          have y0 := h5.cell 0
          have y1 := h5.cell 1
          simp at y0 y1
          clear hl5 hs5 he5 HM3
          go_wp2
          refine bodyPost_ret (v := .tuple #[noTx, .bool false]) ?_ rfl ⟨hz5, by rw [HR.out]⟩
          rw [results_cell_tmp rfl]
          go_simp
      · go_wp2_with fail
        refine HB.out.mono ?_; rintro e w2 ⟨vh, vm, rfl, hO, hR2, z2⟩
        obtain ⟨ah, ch, rfl, -⟩ := shape_of hO.1
        obtain ⟨am, cm, rfl, -⟩ := shape_of hO.2
        have hR : stand (slotT S la l) (hmB b la l) slot seq left f (n + 1) ⟨t.changes, t.revokes ++ homes⟩ = RES := by
          rw [← HR.out, if_neg (by decide), if_neg (by decide), if_neg (not_not_intro HH.out), if_pos (by trivial)]
        have HR := Lib.hid hR
        have M2 := HM.out.kept z2
        have HM3 : Hid (TM w g t _ _ (w2.alloc (.cells #[.int .i64 3, .int .u64 (sq : Int), .int .i64 pos, .slice ah homes.length ch, .slice am masked.length cm, .int .u32 (sm : Int)] 134))) := Lib.hid (M2.alloc _)
        have c0 := HM3.out.blk.cell 0
        have c1 := HM3.out.blk.cell 1
        simp only [List.getElem?_toArray, List.getElem?_cons_zero, List.getElem?_cons_succ] at c0 c1
        have hR3 : RdAt g d b l i la ma ml ta tl da slot left seq ((n + 1 : Nat) : Int) (moreV 0 (bytesOf (slotT S la l) slot (n + 1))) w2 := by rw [HBY.out, moreV_append]; exact hR2
        have HR3 : Hid (RdAt g d b l i la ma ml ta tl da slot left seq ((n + 1 : Nat) : Int) (moreV 0 (bytesOf (slotT S la l) slot (n + 1))) (w2.alloc (.cells #[.int .i64 3, .int .u64 (sq : Int), .int .i64 pos, .slice ah homes.length ch, .slice am masked.length cm, .int .u32 (sm : Int)] 134))) := Lib.hid (hR3.kept1 (balloc1 _ _))
        have HO : Hid (IntsOwn wr.heap.size (.slice ah homes.length ch) homes (w2.alloc (.cells #[.int .i64 3, .int .u64 (sq : Int), .int .i64 pos, .slice ah homes.length ch, .slice am masked.length cm, .int .u32 (sm : Int)] 134))) := Lib.hid (World.ownsRow.alloc hO.1 _)
        have hz2 := z2.size
        have hgw2 := HM.out.lt
        clear HM hO hR2 hR3 hR z2 HB r14 HH M2
        go_wp2_with (at_builtin; refine wpList_appIs rfl _ _ rfl (w.heap.size + 2) _ t.revokes rfl HM3.out.rv wr.heap.size ah ch homes rfl HO.out (by omega) (by omega) (by omega) (by rw [size_alloc]; omega) ?_)
        intro v4 w4 hr4 hg4
        obtain ⟨a4, cp4, rfl, -⟩ := shape_of hr4
        have B4 := blk_stays HM3.out.blk HM3.out.rv (by omega) hg4 (v' := .slice a4 (t.revokes ++ homes).length cp4)
        have HN := Lib.hid (HM3.out.putR hr4 hg4)
        have q1 := B4.cell 1
        have q2 := B4.frozen 1
        simp at q1
        have hR4 : RdAt g d b l i la ma ml ta tl da slot left seq ((n + 1 : Nat) : Int) (moreV 0 (bytesOf (slotT S la l) slot (n + 1))) (w4.setCell ⟨w.heap.size + 1, 1, none⟩ (.slice a4 (t.revokes ++ homes).length cp4)) := Blk.other (blk_stays HR3.out HM3.out.rv (by omega) hg4 (v' := .slice a4 (t.revokes ++ homes).length cp4)) (by show w.heap.size + 1 ≠ _; omega) _
        have HNUM := Lib.hid hR4.num
        have HR4 := Lib.hid hR4
        clear hr4 hg4 B4 hR4 HM3 HR3 HO c0 c1
        obtain ⟨lr, hlr⟩ : ∃ lr, (t.revokes ++ homes).length = lr := ⟨_, rfl⟩
        have hlr2 : lr ≤ 28 * (n + 1) := by rw [← hlr, List.length_append]; omega
        rw [hlr] at HN HR4 HNUM ⊢
        go_wp2
        refine ⟨⟨n + 1, f, ⟨t.changes, t.revokes ++ homes⟩, _, _, by omega, by omega, (by show t.changes.length ≤ _; omega), (by show (t.revokes ++ homes).length ≤ _; omega), HR, HN.out, HR4.out⟩, ?_⟩
        rw [HNUM.out, HME.out]; omega
      · have hR : RES = if sm = moreV 0 (bytesOf (slotT S la l) slot n) then some (t, n + 1) else none := by
          rw [← HR.out, if_neg (by decide), if_pos (by trivial)]
        obtain ⟨SM, hSM⟩ : ∃ SM, moreV 0 (bytesOf (slotT S la l) slot n) = SM := ⟨_, rfl⟩
        rw [hSM] at hR r14 HB hsum
        go_wp2_with fail
        refine HB.out.mono ?_; rintro e w2 ⟨vh, vm, rfl, hO, hR2, z2⟩
        obtain ⟨ah, ch, rfl, -⟩ := shape_of hO.1
        obtain ⟨am, cm, rfl, -⟩ := shape_of hO.2
        have M2 := HM.out.kept z2
        have HM3 : Hid (TM w g t _ _ (w2.alloc (.cells #[.int .i64 4, .int .u64 (sq : Int), .int .i64 pos, .slice ah homes.length ch, .slice am masked.length cm, .int .u32 (sm : Int)] 134))) := Lib.hid (M2.alloc _)
        have c0 := HM3.out.blk.cell 0
        have c1 := HM3.out.blk.cell 1
        simp only [List.getElem?_toArray, List.getElem?_cons_zero, List.getElem?_cons_succ] at c0 c1
        have HR3 : Hid (RdAt g d b l i la ma ml ta tl da slot left seq ((n : Int) + 1) (moreV SM T.data.toList) (w2.alloc (.cells #[.int .i64 4, .int .u64 (sq : Int), .int .i64 pos, .slice ah homes.length ch, .slice am masked.length cm, .int .u32 (sm : Int)] 134))) := Lib.hid (hR2.kept1 (balloc1 _ _))
        clear HM hO hR2 z2 HB r14 HH M2 HME HR HBY hSM
        by_cases hs4 : sm = SM
        · have ts : ((sm : Int) != (SM : Int)) = false := by rw [bne_eq_false_iff_eq]; omega
          rw [if_pos hs4] at hR
          have HR := Lib.hid hR
          clear hR hs4
          go_wp2_with (refine wpList_store_txn rfl _ _ rfl rfl rfl _ rfl HM3.out.zero ?_)
          intro w5 h5 hl5 hs5 he5
          have HZ5 := Lib.hid (HM3.out.zone.later (Nat.le_refl _) hl5)
          have y0 := h5.cell 0
          have y1 := h5.cell 1
          simp at y0 y1
          have HC5 : Hid (ChgsOwn w.heap.size (.slice ac t.changes.length cc) t.changes w5) := Lib.hid (row_down (by omega) (row_same HM3.out.ch fun j hj => he5 j (by omega)))
          have HV5 : Hid (IntsOwn w.heap.size (.slice ar t.revokes.length cr) t.revokes w5) := Lib.hid (row_down (by omega) (row_same HM3.out.rv fun j hj => he5 j (by omega)))
          have HR5 : Hid (RdAt g d b l i la ma ml ta tl da slot left seq ((n + 1 : Nat) : Int) (moreV SM T.data.toList) w5) := Lib.hid ((he5 g (by have := HM3.out.lt; omega)).trans HR3.out)
          clear hl5 hs5 he5 HM3 HR3 c0 c1
          go_wp2
          refine bodyPost_ret (v := .tuple #[.agg #[.slice ac t.changes.length cc, .slice ar t.revokes.length cr], .bool true]) ?_ rfl ⟨HZ5.out, by rw [HR.out]; exact ⟨_, _, _, rfl, HC5.out, HV5.out, HR5.out⟩⟩
          rw [results_cell_tmp rfl]
          go_simp
        · have ts : ((sm : Int) != (SM : Int)) = true := by rw [bne_iff_ne]; omega
          rw [if_neg hs4] at hR
          have HR := Lib.hid hR
          clear hR hs4
          go_wp2_with (refine wpList_store_txn rfl _ _ rfl rfl rfl _ rfl HM3.out.zero ?_)
          intro w5 h5 hl5 hs5 he5
          have hz5 := HM3.out.zone.later (Nat.le_refl _) hl5
          have y0 := h5.cell 0
          have y1 := h5.cell 1
          simp at y0 y1
          clear hl5 hs5 he5 HM3
          go_wp2
          refine bodyPost_ret (v := .tuple #[noTx, .bool false]) ?_ rfl ⟨hz5, by rw [HR.out]⟩
          rw [results_cell_tmp rfl]
          go_simp
end Go.Proofs.YtanghmogeiiooaaGreatDoor

/- behind; start. -/
namespace Go.Proofs.YtanghmogeiiooaaGreatDoor
set_option linter.unusedVariables false
open Go.RowKit

theorem place_info : (Tryz.prog.info? 91).map (·.size) = some 3 := by kernel_rfl
abbrev placeC (slot left : Int) (seq : Nat) : Array Value := #[.int .i64 slot, .int .i64 left, .int .u64 (seq : Int)]
theorem wpList_store_place {ops : Array Oper} {rest : List Oper} {o : Oper} {a : Act} {w : World} {Q : Exit → Act → World → Prop} (hgd : o.guard = none) (x y : Operand) (ho : o.op = .store 91 x y)
    {g seq : Nat} {slot left : Int} (hx : a.eval x = .pointer (some ⟨g, 0, none⟩)) (hy : a.eval y = placeV slot left seq)
    (old : Array Value) (hold : old.size = 3) (hg : Blk g old 91 w)
    (h : ∀ w2, Blk g (placeC slot left seq) 91 w2 → Below g w w2 → w2.heap.size = w.heap.size → (∀ j, j ≠ g → w2.heap[j]? = w.heap[j]?) → wpList Tryz.prog ops Q rest (a.put o.dst undef) w2) : wpList Tryz.prog ops Q (o :: rest) a w :=
  wpList_store_row hgd _ x y ho g (placeC slot left seq) hx hy _ _ hg place_info hold (by simp [Value.oneCell'])
    (h _ (setRow_heap w g _ _ _ _ hg) ⟨rfl, rfl, rfl, by simp, fun j hj => setRow_other w g j _ (by omega)⟩ (by simp) (fun j hj => setRow_other w g j _ hj))
set_option maxRecDepth 100000 in
set_option maxHeartbeats 4000000 in
theorem behind_any (d : Option Addr) (b l i la ma ml ta tl da : Int) (hl : 128 ≤ l ∧ l ≤ 512) (slot left : Int) (seq : Nat) (size : Nat) (h1 : 0 ≤ slot ∧ slot ≤ 2000) (h2 : size ≤ 2000) (h3 : 0 ≤ left ∧ left ≤ 2000) (w : World) :
    Calls Tryz.prog 49 #[ringV d b l i la ma ml ta tl da, placeV slot left seq, .int .i64 (size : Int)] w fun e w' =>
      e = .returned (placeV ((slot + size) % (l - 1)) (left - size) ((seq + 1) % 18446744073709551616)) ∧ Below w.heap.size w w' := by
  have mixed : Tryz.prog.follows .mixedOrders = true := by kernel_rfl
  have SL := Lib.hid (jslots_any d b l i la ma ml ta tl da hl)
  have hm : (slot + size).tmod (l - 1) = (slot + size) % (l - 1) := Int.tmod_eq_emod_of_nonneg (by omega)
  have hm1 : 0 ≤ (slot + size) % (l - 1) := Int.emod_nonneg _ (by omega)
  have hm2 : (slot + size) % (l - 1) < l - 1 := Int.emod_lt_of_pos _ (by omega)
  obtain ⟨w1, hw1⟩ : ∃ w1, ((w.alloc (.cells (ringC d b l i la ma ml ta tl da) 87)).alloc (.cells (placeC slot left seq) 91)).alloc (.cells #[.int .i64 0, .int .i64 0, .int .u64 0] 91) = w1 := ⟨_, rfl⟩
  have hb1 : Below w.heap.size w w1 := by rw [← hw1]; exact balloc (balloc (balloc1 w _) _) _
  have R : RingAt w.heap.size d b l i la ma ml ta tl da w1 := by rw [← hw1]; exact ((RingAt.new _ _ _ _ _ _ _ _ _ _ _).kept1 (balloc1 _ _)).kept1 (balloc1 _ _)
  have P : Blk (w.heap.size + 1) (placeC slot left seq) 91 w1 := by
    rw [← hw1]
    have := Blk.new (placeC slot left seq) 91 (w.alloc (.cells (ringC d b l i la ma ml ta tl da) 87))
    rw [size_alloc] at this; exact this.kept1 (balloc1 _ _)
  have Q : Blk (w.heap.size + 2) #[.int .i64 0, .int .i64 0, .int .u64 0] 91 w1 := by
    rw [← hw1]
    have := Blk.new #[.int .i64 0, .int .i64 0, .int .u64 0] 91 ((w.alloc (.cells (ringC d b l i la ma ml ta tl da) 87)).alloc (.cells (placeC slot left seq) 91))
    rw [size_alloc, size_alloc] at this; exact this
  obtain ⟨c0, c1, c2, c3, c4, c5, c6, c7, c8, c9⟩ := R.all
  have p0 : ∀ p : BelowP w1, p.to.cell? ⟨w.heap.size + 1, 0, none⟩ = some (.int .i64 slot) := fun p => (P.kept1 p.h).cell 0
  have p1 : ∀ p : BelowP w1, p.to.cell? ⟨w.heap.size + 1, 1, none⟩ = some (.int .i64 left) := fun p => (P.kept1 p.h).cell 1
  have p2 : ∀ p : BelowP w1, p.to.cell? ⟨w.heap.size + 1, 2, none⟩ = some (.int .u64 (seq : Int)) := fun p => (P.kept1 p.h).cell 2
  have HQ := Lib.hid Q
  have HW1 := Lib.hid hw1
  clear R P Q hw1
  go_enter Tryz.func49, Tryz.ntmps49
  go_wp2
  rw [HW1.out]
  refine wp_region_tail_below 15 mixed (by kernel_rfl) ?_
  simp only [List.take_succ_cons, List.take_zero, List.drop_succ_cons, List.drop_zero]
  repeat (go_big_quiet_step (first | (go_at_call 59; refine calls_below (SL.out _))))
  refine wpQuiet_nil ?_
  intro w0q hw'
  obtain ⟨⟨wq, bq⟩, hw''⟩ := hw'
  have hw2 : wq = w0q := hw''.symm
  clear hw''
  subst hw2
  have hbq := bnext hb1 bq
  have HQ2 := Lib.hid (HQ.out.kept1 bq)
  clear HQ bq c0 c1 c2 c3 c4 c5 c6 c7 c8 c9 p0 p1 p2 hb1
  go_wp2_with (refine wpList_store_place (seq := (seq + 1) % 18446744073709551616) rfl _ _ rfl rfl rfl _ rfl HQ2.out ?_)
  intro w5 h5 hl5 hs5 he5
  have hbe := hbq.trans (show Below w.heap.size wq w5 from hl5.mono (by omega))
  clear hl5 hs5 he5 HQ2
  go_wp2
  exact bodyPost_ret (results_cell_row (P := Tryz.prog) rfl _ _ (w.heap.size + 2) 91 (placeC ((slot + size) % (l - 1)) (left - size) ((seq + 1) % 18446744073709551616)) (0, 0) _ rfl h5 Tryz.underlying91 rfl place_info) rfl ⟨rfl, hbe⟩
end Go.Proofs.YtanghmogeiiooaaGreatDoor
