import Derived.Test.YtanghmogeiiooaaGreatDoorPa19
import Derived.Test.YtanghmogeiiooaaGreatDoorPa08
set_option linter.unusedVariables false
set_option linter.unusedSimpArgs false
set_option linter.constructorNameAsVariable false
/- transactions: those of the log, and the place behind them. -/
namespace Go.Proofs.YtanghmogeiiooaaGreatDoor
set_option linter.unusedVariables false
open Go.RowKit

theorem results_tct {P : Program} {fn : Func} {p u q : Tmp} {ty : TypeId} (h : fn.results = #[.tmp u, .cell p ty, .tmp q]) (tmps : Array Value) (w : World) :
    (results fn tmps).run P w = ((asAddr (tmps.getD p undef)).run P w).andThen fun a w1 => ((loadVar ty a).run P w1).andThen fun v w2 => .ok (.tuple #[tmps.getD u undef, v, tmps.getD q undef]) w2 := by
  simp only [results, h]
  simp [Sem.run_bind, Result.andThen]
theorem results_tct' {P : Program} {fn : Func} {p u q : Tmp} {ty : TypeId} (h : fn.results = #[.tmp u, .cell p ty, .tmp q]) (tmps : Array Value) (w : World) (g : Nat) (cs : Array Value) (d : TypeDesc) {T : TypeId}
    (hp : tmps.getD p undef = .pointer (some ⟨g, 0, none⟩)) (hg : Blk g cs T w)
    (hu : P.underlying ty = some d) (hd : (match d with | .struct _ | .array _ _ => true | _ => false) = true) (hi : (P.info? ty).map (·.size) = some cs.size) (v1 v3 : Value) (h1 : tmps.getD u undef = v1) (h3 : tmps.getD q undef = v3) :
    (results fn tmps).run P w = .ok (.tuple #[v1, .agg cs, v3]) w := by
  rw [results_tct h, hp, h1, h3]
  simp [asAddr, run_loadVar_row w g T ty cs (0, 0) d hg hu hd hi, Result.andThen]
/-- the log, as the header says it begins: none, or its transactions and how many slots they take -/
def logOf (S : St) (b la l : Int) : Option (List Tx × Nat) :=
  if IsBlk (rText S la) ∧ (readR (rText S la)).kind = 1 ∧ (readR (rText S la)).pos < l - 1 then
    some (logFrom (slotT S la l) (hmB b la l) (readR (rText S la)).pos.toNat (readR (rText S la)).seq (l - 1).toNat (l - 1).toNat 0 [])
  else none
/-- the place behind the log's transactions -/
def endV (S : St) (la l : Int) (r : List Tx × Nat) : Value :=
  placeV ((((readR (rText S la)).pos.toNat + r.2) % (l - 1).toNat : Nat) : Int) (((l - 1).toNat - r.2 : Nat) : Int) (((readR (rText S la)).seq + r.1.length) % 18446744073709551616)
set_option maxRecDepth 100000 in
set_option maxHeartbeats 8000000 in
theorem transactions_none (d lo hi : Nat) (b l i la ma ml ta tl da : Int) (hl : 128 ≤ l ∧ l ≤ 512) {S : St} (w : World) (h : DevAt d lo hi S w) (hk : logOf S b la l = none) :
    Calls Tryz.prog 36 #[ringV (some ⟨d, 0, none⟩) b l i la ma ml ta tl da] w fun e w' => e = .returned (.tuple #[.slice none 0 0, noP, .int .i64 80]) ∧ Below w.heap.size w w' := by
  have gp : Tryz.prog.stoodInHeld 91 = false := by kernel_rfl
  have ST : ∀ w, DevAt d lo hi S w → Calls Tryz.prog 61 #[ringV (some ⟨d, 0, none⟩) b l i la ma ml ta tl da] w fun e w' => e = .returned (.tuple #[noP, .int .i64 80]) ∧ Below w.heap.size w w' := fun w h => by
    by_cases hb : IsBlk (rText S la)
    · by_cases h1 : (readR (rText S la)).kind = 1
      · by_cases h2 : (readR (rText S la)).pos < l - 1
        · unfold logOf at hk; rw [if_pos ⟨hb, h1, h2⟩] at hk; cases hk
        · exact start_far d lo hi b l i la ma ml ta tl da hl w h hb h1 (by omega)
      · exact start_kind d lo hi b l i la ma ml ta tl da hl w h hb h1
    · exact start_none d lo hi b l i la ma ml ta tl da hl w h hb
  obtain ⟨w1, hw1⟩ : ∃ w1, (w.alloc (.cells (ringC (some ⟨d, 0, none⟩) b l i la ma ml ta tl da) 87)).alloc (.cells #[.int .i64 0, .int .i64 0, .int .u64 0] 91) = w1 := ⟨_, rfl⟩
  have b01 : Below w.heap.size w w1 := by rw [← hw1]; exact balloc (balloc1 w _) _
  have P1 : Blk (w.heap.size + 1) #[.int .i64 0, .int .i64 0, .int .u64 0] 91 w1 := by
    rw [← hw1]
    have := Blk.new #[.int .i64 0, .int .i64 0, .int .u64 0] 91 (w.alloc (.cells (ringC (some ⟨d, 0, none⟩) b l i la ma ml ta tl da) 87))
    rw [size_alloc] at this; exact this
  have STW := Lib.hid (ST w1 (h.kept1 b01))
  have HW1 := Lib.hid hw1
  clear ST h hk hw1
  go_enter Tryz.func36, Tryz.ntmps36
  go_wp2_with fail
  rw [HW1.out]
  refine STW.out.mono ?_; rintro e w2 ⟨rfl, b2⟩
  have hb2 := bnext b01 b2
  have HP : Hid (Blk (w.heap.size + 1) #[.int .i64 0, .int .i64 0, .int .u64 0] 91 (w2.alloc (.cells #[.int .i64 0, .int .i64 0, .int .u64 0] 91))) := Lib.hid ((P1.kept1 b2).kept1 (balloc1 _ _))
  have hb3 := balloc hb2 (.cells #[.int .i64 0, .int .i64 0, .int .u64 0] 91)
  clear P1 b01 b2 HW1 STW
  go_wp2_with (refine wpList_store_place (seq := 0) rfl _ _ rfl rfl rfl _ rfl HP.out ?_)
  intro w5 h5 hl5 hs5 he5
  have hbe := hb3.trans (hl5.mono (by omega))
  clear hl5 hs5 he5 HP
  go_wp2
  exact bodyPost_ret (results_tct' (P := Tryz.prog) rfl _ _ (w.heap.size + 1) (placeC 0 0 0) _ rfl h5 Tryz.underlying91 rfl place_info (.slice none 0 0) (.int .i64 80) rfl rfl) rfl ⟨rfl, hbe⟩
theorem TxnsOwn.same {B : Nat} {v : Value} {ts : List Tx} {w w' : World} (h : TxnsOwn B v ts w) (he : ∀ j, B ≤ j → w'.heap[j]? = w.heap[j]?) : TxnsOwn B v ts w' := by
  obtain ⟨vs, h1, h2, h3⟩ := h
  exact ⟨vs, h1, row_same h2 he, fun k a b => ⟨row_same (h3 k a b).1 he, row_same (h3 k a b).2 he⟩⟩
theorem readSeq_lt (s : ByteArray) : (readR s).seq < 18446744073709551616 := (fits_read s).seq
theorem place_zone {A : Nat} {cs : Array Value} {w w' : World} (h : Blk A cs 91 w) (hb : Below w.heap.size w w') : Blk A cs 91 w' := h.kept1 hb
set_option maxRecDepth 100000 in
set_option maxHeartbeats 16000000 in
theorem transactions_ok (d lo hi : Nat) (b l i la ma ml ta tl da : Int) (hl : 128 ≤ l ∧ l ≤ 512) (hla : 0 ≤ la ∧ la ≤ 4096) {S : St} (w : World) (h : DevAt d lo hi S w) (ht : Tab w) (r : List Tx × Nat) (hk : logOf S b la l = some r) :
    Calls Tryz.prog 36 #[ringV (some ⟨d, 0, none⟩) b l i la ma ml ta tl da] w fun e w' => ∃ v, e = .returned (.tuple #[v, endV S la l r, .int .i64 0]) ∧ TxnsOwn w.heap.size v r.1 w' ∧ Below w.heap.size w w' := by
  have gp : Tryz.prog.stoodInHeld 91 = false := by kernel_rfl
  have gt : Tryz.prog.stoodInHeld 64 = false := by kernel_rfl
  have mixed : Tryz.prog.follows .mixedOrders = true := by kernel_rfl
  unfold logOf at hk
  split at hk
  case isFalse => cases hk
  rename_i hc
  obtain ⟨hb, h1, h2⟩ := hc
  injection hk with hk
  have hpos : 0 ≤ (readR (rText S la)).pos := by
    rcases hb.2.1 with q | q | q | q
    · exact q.2.1
    · have := q.1; omega
    · have := q.1; omega
    · have := q.1; omega
  have ST := fun w h => start_ok d lo hi b l i la ma ml ta tl da hl (S := S) w h hb h1 h2
  have hq0 := readSeq_lt (rText S la)
  unfold endV
  generalize (readR (rText S la)).seq = q0 at *
  obtain ⟨p0, hp0⟩ : ∃ p0 : Nat, (readR (rText S la)).pos = (p0 : Int) := ⟨(readR (rText S la)).pos.toNat, by omega⟩
  rw [hp0] at ST hk h2
  rw [hp0]
  obtain ⟨N, hN⟩ : ∃ N : Nat, l - 1 = (N : Int) := ⟨(l - 1).toNat, by omega⟩
  have hNl : (l - 1).toNat = N := by omega
  rw [hNl] at hk
  rw [hNl]
  have hsz : 0 < w.heap.size := by have := (cell_flat (ht 0 (by decide))).2; exact this
  have hrnd := slotT_round S la l hl
  rw [hNl] at hrnd
  rw [show ((p0 : Int)).toNat = p0 by omega] at hk ⊢
  have hp0' : p0 < N := by omega
  clear hb h1 hpos hp0 h2
  obtain ⟨w1, hw1⟩ : ∃ w1, (w.alloc (.cells (ringC (some ⟨d, 0, none⟩) b l i la ma ml ta tl da) 87)).alloc (.cells #[.int .i64 0, .int .i64 0, .int .u64 0] 91) = w1 := ⟨_, rfl⟩
  have b01 : Below w.heap.size w w1 := by rw [← hw1]; exact balloc (balloc1 w _) _
  have R1 : RingAt w.heap.size (some ⟨d, 0, none⟩) b l i la ma ml ta tl da w1 := by rw [← hw1]; exact (RingAt.new _ _ _ _ _ _ _ _ _ _ _).kept1 (balloc1 _ _)
  have P1 : Blk (w.heap.size + 1) #[.int .i64 0, .int .i64 0, .int .u64 0] 91 w1 := by
    rw [← hw1]
    have := Blk.new #[.int .i64 0, .int .i64 0, .int .u64 0] 91 (w.alloc (.cells (ringC (some ⟨d, 0, none⟩) b l i la ma ml ta tl da) 87))
    rw [size_alloc] at this; exact this
  have hw1s := P1.lt
  have STW := Lib.hid (ST w1 (h.kept1 b01))
  have HW1 := Lib.hid hw1
  have HD := Lib.hid h
  have HT := Lib.hid ht
  have HRND := Lib.hid hrnd
  have HK := Lib.hid hk
  have BH : Hid (∀ (slot left : Int) (seq size : Nat), 0 ≤ slot ∧ slot ≤ 2000 → size ≤ 2000 → 0 ≤ left ∧ left ≤ 2000 → ∀ w, Calls Tryz.prog 49 #[ringV (some ⟨d, 0, none⟩) b l i la ma ml ta tl da, placeV slot left seq, .int .i64 (size : Int)] w fun e w' =>
      e = .returned (placeV ((slot + size) % (N : Int)) (left - size) ((seq + 1) % 18446744073709551616)) ∧ Below w.heap.size w w') := Lib.hid (by rw [← hN]; exact behind_any (some ⟨d, 0, none⟩) b l i la ma ml ta tl da hl)
  have TR := Lib.hid (fun g slot left seq hs w h hd hg hg0 ht => transaction_any g d lo hi b l i la ma ml ta tl da hl hla slot left seq hs left (Nat.le_refl _) (S := S) w h hd hg hg0 ht)
  have htop := h.top
  clear ST h ht hk hw1 hrnd
  go_enter Tryz.func36, Tryz.ntmps36
  go_wp2_with fail
  rw [HW1.out]
  refine STW.out.mono ?_; rintro e w2 ⟨rfl, b2⟩
  have R2 := R1.kept1 b2
  have P2 := P1.kept1 b2
  have hb2 := bnext b01 b2
  have hs2 := b2.size
  obtain ⟨w3, hw3⟩ : ∃ w3, w2.alloc (.cells #[.int .i64 (p0 : Int), .int .i64 (N : Int), .int .u64 (q0 : Int)] 91) = w3 := ⟨_, rfl⟩
  have R3 : RingAt w.heap.size (some ⟨d, 0, none⟩) b l i la ma ml ta tl da w3 := by rw [← hw3]; exact R2.kept1 (balloc1 _ _)
  have P3 : Blk (w.heap.size + 1) #[.int .i64 0, .int .i64 0, .int .u64 0] 91 w3 := by rw [← hw3]; exact P2.kept1 (balloc1 _ _)
  have A3 : Blk w2.heap.size (placeC ((p0 + 0) % N : Nat) ((N - 0 : Nat) : Int) ((q0 + 0) % 18446744073709551616)) 91 w3 := by
    rw [← hw3, show (p0 + 0) % N = p0 by rw [Nat.add_zero]; exact Nat.mod_eq_of_lt hp0', show ((N - 0 : Nat) : Int) = (N : Int) by omega, show (q0 + 0) % 18446744073709551616 = q0 by omega]; exact Blk.new _ _ _
  have b3 : Below w.heap.size w w3 := by rw [← hw3]; exact balloc hb2 _
  have h23 : w3.heap.size = w2.heap.size + 1 := by rw [← hw3, size_alloc]
  have HR3 := Lib.hid R3
  have HP3 := Lib.hid P3
  have HA3 := Lib.hid A3
  have HB3 := Lib.hid b3
  have HW3 := Lib.hid hw3
  obtain ⟨A, hA⟩ : ∃ A, w2.heap.size = A := ⟨_, rfl⟩
  rw [hA] at HA3
  clear R1 R2 P1 P2 b01 b2 hb2 hw3 R3 P3 A3 b3 HW1 STW
  go_wp2
  rw [HW3.out]
  have hAw : w.heap.size + 2 ≤ A := by omega
  clear HW3 hA hs2
  go_loopw [7] (fun v wr => ∃ (used f : Nat) (ts : List Tx), used ≤ N ∧ N ≤ used + f ∧ ts.length ≤ used ∧ Hid (logFrom (slotT S la l) (hmB b la l) p0 q0 N f used ts = r) ∧ TxnsOwn (A + 1) v ts wr ∧
      RingAt w.heap.size (some ⟨d, 0, none⟩) b l i la ma ml ta tl da wr ∧ Blk (w.heap.size + 1) #[.int .i64 0, .int .i64 0, .int .u64 0] 91 wr ∧
      Blk A (placeC ((p0 + used) % N : Nat) ((N - used : Nat) : Int) ((q0 + ts.length) % 18446744073709551616)) 91 wr ∧ Below w.heap.size w wr) (fun _ wr => cellNat A 1 wr)
  case atStart => exact ⟨0, N, [], Nat.zero_le _, by omega, Nat.le_refl _, HK, TxnsOwn.nil _ _, HR3.out, HP3.out, HA3.out, HB3.out⟩
  case round =>
    clear HR3 HP3 HA3 HB3 HK
    obtain ⟨used, f, ts, hu, hf, hts, HL, hV, hR, hP, hAt, hB⟩ := hrel
    obtain ⟨av, cv, rfl⟩ := hV.shape
    obtain ⟨c0, c1, c2, c3, c4, c5, c6, c7, c8, c9⟩ := hR.cells
    have hAlt := hAt.lt
    have a0 := hAt.cell 0
    have a1 := hAt.cell 1
    have a2 := hAt.cell 2
    simp only [List.getElem?_toArray, List.getElem?_cons_zero, List.getElem?_cons_succ] at a0 a1 a2
    have HME : Hid (cellNat A 1 wr = N - used) := Lib.hid (by unfold cellNat; rw [a1]; simp [intOf])
    have hslot : (p0 + used) % N < N := Nat.mod_lt _ (by omega)
    have hsh : ∀ i, slotT S la l ((p0 + used) % N + i) = slotT S la l (p0 + used + i) := fun i => HRND.out (p0 + used) i
    obtain ⟨slot, hsl⟩ : ∃ slot, (p0 + used) % N = slot := ⟨_, rfl⟩
    obtain ⟨left, hlf⟩ : ∃ left, N - used = left := ⟨_, rfl⟩
    obtain ⟨seq, hsq⟩ : ∃ seq, (q0 + ts.length) % 18446744073709551616 = seq := ⟨_, rfl⟩
    rw [hsl] at hsh hslot
    rw [hsl, hlf, hsq] at hAt
    rw [hsl] at a0
    rw [hlf] at a1
    rw [hsq] at a2
    obtain ⟨w3, hw3⟩ : ∃ w3, wr.alloc (.cells #[.pointer (some ⟨d, 0, none⟩), .int .i64 b, .int .i64 l, .int .i64 i, .int .i64 la, .int .i64 ma, .int .i64 ml, .int .i64 ta, .int .i64 tl, .int .i64 da, .int .i64 (slot : Int), .int .i64 (left : Int), .int .u64 (seq : Int), .int .i64 0, .int .u32 0] 122) = w3 := ⟨_, rfl⟩
    have hG3 : RdAt wr.heap.size d b l i la ma ml ta tl da slot left seq 0 0 w3 := by rw [← hw3]; exact Blk.new _ _ _
    have br3 : Below wr.heap.size wr w3 := by rw [← hw3]; exact balloc1 _ _
    have hb3 := bnext hB br3
    have hrs := hB.size
    have TRW := Lib.hid (TR.out wr.heap.size slot left seq (by omega) w3 hG3 (HD.out.kept1 hb3) (by omega) (by omega) (tab_below1 HT.out hb3))
    rw [stand_shift hsh] at TRW
    have HW3 := Lib.hid hw3
    have HV := Lib.hid hV
    have HR := Lib.hid hR
    have HP := Lib.hid hP
    have HAt := Lib.hid hAt
    have HB := Lib.hid hB
    have HBR := Lib.hid br3
    clear hV hR hP hAt hB br3 hb3 hw3 hG3 hsh
    go_wp2_with fail
    rw [HW3.out]
    refine TRW.out.mono ?_; rintro e w4 ⟨z4, hres⟩
    have b4 : Below wr.heap.size wr w4 := HBR.out.trans (z4.below HBR.out.size (Nat.le_refl _))
    have hw3s := HBR.out.size
    have hw4s := z4.size
    have V4 := HV.out.kept b4
    have R4 := HR.out.kept1 b4
    have P4 := HP.out.kept1 b4
    have A4 := HAt.out.kept1 b4
    have B4 := bnext HB.out b4
    clear HV HR HP HAt HB HBR z4 TRW HW3 b4 c0 c1 c2 c3 c4 c5 c6 c7 c8 c9 a0 a1 a2
    cases hst : stand (slotT S la l) (hmB b la l) (p0 + used) seq left left 0 ⟨[], []⟩ with
    | none =>
      rw [hst] at hres
      subst hres
      have hr : r = (ts, used) := HL.out.symm.trans (logFrom_none (by rw [hlf, hsq]; exact hst))
      subst hr
      obtain ⟨w5, hw5⟩ : ∃ w5, w4.alloc (.cells #[.slice none 0 0, .slice none 0 0] 64) = w5 := ⟨_, rfl⟩
      have b45 : Below w4.heap.size w4 w5 := by rw [← hw5]; exact balloc1 _ _
      have A5 := A4.kept1 b45
      have k0 : ∀ p : BelowP w5, p.to.cell? ⟨A, 0, none⟩ = some (.int .i64 (slot : Int)) := fun p => (A5.kept1 p.h).cell 0
      have k1 : ∀ p : BelowP w5, p.to.cell? ⟨A, 1, none⟩ = some (.int .i64 (left : Int)) := fun p => (A5.kept1 p.h).cell 1
      have k2 : ∀ p : BelowP w5, p.to.cell? ⟨A, 2, none⟩ = some (.int .u64 (seq : Int)) := fun p => (A5.kept1 p.h).cell 2
      have HV5 := Lib.hid (V4.kept b45)
      have HP5 := Lib.hid (P4.kept1 b45)
      have HB5 := Lib.hid (bnext B4 b45)
      have HW5 := Lib.hid hw5
      clear V4 R4 P4 A4 B4 b45 A5 hw5 hst
      go_upto_region 8 with fail
      try rw [HW5.out]
      refine wp_region_tail_below 3 mixed (by kernel_rfl) ?_
      simp only [List.take_succ_cons, List.take_zero, List.drop_succ_cons, List.drop_zero]
      repeat (go_big_quiet_step (fail))
      refine wpQuiet_nil ?_
      intro w0q hw'
      obtain ⟨⟨wq, bq⟩, hw''⟩ := hw'
      have hw2 : wq = w0q := hw''.symm
      clear hw''
      subst hw2
      have HV6 := Lib.hid (HV5.out.kept bq)
      have HP6 := Lib.hid (HP5.out.kept1 bq)
      have HB6 := Lib.hid (bnext HB5.out bq)
      clear HV5 HP5 HB5 HW5 bq k0 k1 k2
      go_wp2_with (refine wpList_store_place (seq := seq) rfl _ _ rfl rfl rfl _ rfl HP6.out ?_)
      intro w7 h7 hl7 hs7 he7
      have HV7 := Lib.hid ((HV6.out.same fun j hj => he7 j (by omega)).down (show w.heap.size ≤ A + 1 by omega))
      have hbe := HB6.out.trans (hl7.mono (by omega))
      clear hl7 hs7 he7 HV6 HP6 HB6
      go_wp2
      refine bodyPost_ret (results_tct' (P := Tryz.prog) rfl _ _ (w.heap.size + 1) (placeC slot left seq) _ rfl h7 Tryz.underlying91 rfl place_info (.slice av ts.length cv) (.int .i64 0) rfl rfl) rfl ⟨_, ?_, HV7.out, hbe⟩
      subst hsl; subst hlf; subst hsq; rfl
    | some tk =>
      obtain ⟨t, k⟩ := tk
      rw [hst] at hres
      obtain ⟨vc, vr, s, rfl, hch, hrv, hrd⟩ := hres
      have hkb := stand_bounds hst
      have HL2 : Hid (∃ f', f = f' + 1 ∧ logFrom (slotT S la l) (hmB b la l) p0 q0 N f' (used + k) (ts ++ [t]) = r) := Lib.hid (by
        refine ⟨f - 1, by omega, ?_⟩
        rw [← HL.out]
        obtain ⟨f', hf'⟩ : ∃ f', f = f' + 1 := ⟨f - 1, by omega⟩
        subst hf'
        exact (logFrom_some (by rw [hlf, hsq]; exact hst)).symm)
      obtain ⟨ac, cc, rfl, -⟩ := shape_of hch
      obtain ⟨ar, cr, rfl, -⟩ := shape_of hrv
      have HV5 : Hid (TxnsOwn (A + 1) (.slice av ts.length cv) ts ((w4.alloc (.cells #[.slice ac t.changes.length cc, .slice ar t.revokes.length cr] 64)).alloc (.cells #[.slice ac t.changes.length cc, .slice ar t.revokes.length cr] 64))) := Lib.hid ((V4.kept (balloc1 _ _)).kept (balloc1 _ _))
      have HC5 : Hid (ChgsOwn (A + 1) (.slice ac t.changes.length cc) t.changes ((w4.alloc (.cells #[.slice ac t.changes.length cc, .slice ar t.revokes.length cr] 64)).alloc (.cells #[.slice ac t.changes.length cc, .slice ar t.revokes.length cr] 64))) := Lib.hid (row_down (by omega) (row_kept (row_kept hch (balloc1 _ _)) (balloc1 _ _)))
      have HI5 : Hid (IntsOwn (A + 1) (.slice ar t.revokes.length cr) t.revokes ((w4.alloc (.cells #[.slice ac t.changes.length cc, .slice ar t.revokes.length cr] 64)).alloc (.cells #[.slice ac t.changes.length cc, .slice ar t.revokes.length cr] 64))) := Lib.hid (row_down (by omega) (row_kept (row_kept hrv (balloc1 _ _)) (balloc1 _ _)))
      have HR5 : Hid (RingAt w.heap.size (some ⟨d, 0, none⟩) b l i la ma ml ta tl da ((w4.alloc (.cells #[.slice ac t.changes.length cc, .slice ar t.revokes.length cr] 64)).alloc (.cells #[.slice ac t.changes.length cc, .slice ar t.revokes.length cr] 64))) := Lib.hid ((R4.kept1 (balloc1 _ _)).kept1 (balloc1 _ _))
      have HP5 : Hid (Blk (w.heap.size + 1) #[.int .i64 0, .int .i64 0, .int .u64 0] 91 ((w4.alloc (.cells #[.slice ac t.changes.length cc, .slice ar t.revokes.length cr] 64)).alloc (.cells #[.slice ac t.changes.length cc, .slice ar t.revokes.length cr] 64))) := Lib.hid ((P4.kept1 (balloc1 _ _)).kept1 (balloc1 _ _))
      have HA5 : Hid (Blk A (placeC slot left seq) 91 ((w4.alloc (.cells #[.slice ac t.changes.length cc, .slice ar t.revokes.length cr] 64)).alloc (.cells #[.slice ac t.changes.length cc, .slice ar t.revokes.length cr] 64))) := Lib.hid ((A4.kept1 (balloc1 _ _)).kept1 (balloc1 _ _))
      have HG5 : Hid (RdAt wr.heap.size d b l i la ma ml ta tl da slot left seq (k : Int) s ((w4.alloc (.cells #[.slice ac t.changes.length cc, .slice ar t.revokes.length cr] 64)).alloc (.cells #[.slice ac t.changes.length cc, .slice ar t.revokes.length cr] 64))) := Lib.hid ((Blk.kept1 hrd (balloc1 _ _)).kept1 (balloc1 _ _))
      have HB5 : Hid (Below w.heap.size w ((w4.alloc (.cells #[.slice ac t.changes.length cc, .slice ar t.revokes.length cr] 64)).alloc (.cells #[.slice ac t.changes.length cc, .slice ar t.revokes.length cr] 64))) := Lib.hid (balloc (balloc B4 _) _)
      clear V4 R4 P4 A4 B4 hch hrv hrd hst HL
      go_wp2_with (at_builtin; refine wpList_appT rfl _ _ rfl (A + 1) _ ts t ac ar cc cr _ _ rfl HV5.out (w4.alloc (.cells #[.slice ac t.changes.length cc, .slice ar t.revokes.length cr] 64)) rfl (w4.heap.size + 1) (size_alloc _ _) rfl HC5.out HI5.out (by omega) (by rw [size_alloc, size_alloc]; omega) ?_)
      intro v6 w6 hv6 b6 hk6
      have hv6' := hv6.shape
      rw [List.length_append, List.length_singleton] at hv6'
      obtain ⟨a6, c6', rfl⟩ := hv6'
      have R6 : RingAt w.heap.size (some ⟨d, 0, none⟩) b l i la ma ml ta tl da w6 := hk6 _ _ _ (by decide) HR5.out
      have P6 := hk6 _ _ _ (by decide) HP5.out
      have A6 := hk6 _ _ _ (by decide) HA5.out
      have G6 := hk6 _ _ _ (by decide) HG5.out
      have hA6 := A6.lt
      obtain ⟨c0, c1, c2, c3, c4, c5, c6, c7, c8, c9⟩ := R6.cells
      have a0 := A6.cell 0
      have a1 := A6.cell 1
      have a2 := A6.cell 2
      simp only [List.getElem?_toArray, List.getElem?_cons_zero, List.getElem?_cons_succ] at a0 a1 a2
      have r13 := RdAt.cells G6
      have r13 := r13.2.2.2.2.2.2.2.2.2.2.2.2.2.1
      have BHW := Lib.hid (BH.out slot left seq k (by omega) (by omega) (by omega) w6)
      have HB6 := Lib.hid (HB5.out.trans (b6.mono (by omega)))
      have HV6 := Lib.hid hv6
      have HR6 := Lib.hid R6
      have HP6 := Lib.hid P6
      have HA6 := Lib.hid A6
      clear hv6 b6 hk6 R6 P6 A6 G6 HV5 HC5 HI5 HR5 HP5 HA5 HG5 HB5
      go_wp2_with fail
      refine BHW.out.mono ?_; rintro e w7 ⟨rfl, b7⟩
      have HV7 := Lib.hid (HV6.out.kept b7)
      have HR7 := Lib.hid (HR6.out.kept1 b7)
      have HP7 := Lib.hid (HP6.out.kept1 b7)
      have HA7 := Lib.hid (HA6.out.kept1 b7)
      have HB7 := Lib.hid (bnext HB6.out b7)
      clear HV6 HR6 HP6 HA6 HB6 b7 BHW c0 c1 c2 c3 c4 c5 c6 c7 c8 c9 a0 a1 a2 r13
      go_wp2_with (refine wpList_store_place (seq := (seq + 1) % 18446744073709551616) rfl _ _ rfl rfl rfl _ rfl HA7.out ?_)
      intro w8 h8 hl8 hs8 he8
      have e1 : ((slot : Int) + (k : Int)) % (N : Int) = (((p0 + (used + k)) % N : Nat) : Int) := by
        have e0 : (slot + k) % N = (p0 + (used + k)) % N := by rw [← hsl, Nat.mod_add_mod, Nat.add_assoc]
        rw [← Int.natCast_add, ← Int.natCast_emod, e0]
      have e2 : (left : Int) - (k : Int) = ((N - (used + k) : Nat) : Int) := by omega
      have e3 : (seq + 1) % 18446744073709551616 = (q0 + (ts ++ [t]).length) % 18446744073709551616 := by
        rw [← hsq, List.length_append, List.length_singleton]; omega
      rw [e1, e2, e3] at h8
      have HN : Hid (Blk A (placeC ((p0 + (used + k)) % N : Nat) ((N - (used + k) : Nat) : Int) ((q0 + (ts ++ [t]).length) % 18446744073709551616)) 91 w8) := Lib.hid h8
      have HM2 : Hid (cellNat A 1 w8 = N - (used + k)) := Lib.hid (by unfold cellNat; rw [h8.cell 1]; simp [intOf])
      have HV8 := Lib.hid (HV7.out.same fun j hj => he8 j (by omega))
      have HR8 : Hid (RingAt w.heap.size (some ⟨d, 0, none⟩) b l i la ma ml ta tl da w8) := Lib.hid ((he8 _ (by omega)).trans HR7.out)
      have HP8 : Hid (Blk (w.heap.size + 1) #[.int .i64 0, .int .i64 0, .int .u64 0] 91 w8) := Lib.hid ((he8 _ (by omega)).trans HP7.out)
      have HB8 := Lib.hid (HB7.out.trans (hl8.mono (by omega)))
      clear h8 hl8 hs8 he8 e1 e2 e3 HV7 HR7 HP7 HA7 HB7
      go_wp2
      obtain ⟨f', rfl, hlog⟩ := HL2.out
      refine ⟨⟨used + k, f', ts ++ [t], by omega, by omega, by rw [List.length_append]; simp; omega, Lib.hid hlog, HV8.out, HR8.out, HP8.out, HN.out, HB8.out⟩, ?_⟩
      rw [HM2.out, HME.out]; omega
end Go.Proofs.YtanghmogeiiooaaGreatDoor

/- What holds of the transactions that are read from a log. -/
namespace Go.Proofs.YtanghmogeiiooaaGreatDoor
set_option linter.unusedVariables false
open Go.RowKit

/-- a transaction that k slots hold -/
structure TxIn (hm : Int → Bool) (k : Nat) (t : Tx) : Prop where
  changes : t.changes.length ≤ k
  revokes : t.revokes.length ≤ 28 * k
  homes : ∀ c ∈ t.changes, hm c.1 = true
  gone : ∀ x ∈ t.revokes, hm x = true
theorem TxIn.mono {hm : Int → Bool} {k m : Nat} {t : Tx} (h : TxIn hm k t) (hk : k ≤ m) : TxIn hm m t := ⟨Nat.le_trans h.changes hk, Nat.le_trans h.revokes (by omega), h.homes, h.gone⟩
theorem stand_in {rd : Nat → ByteArray} {hm : Int → Bool} {p seq left : Nat} : ∀ {f n : Nat} {t t' : Tx} {k : Nat}, TxIn hm n t → stand rd hm p seq left f n t = some (t', k) → TxIn hm k t'
  | 0, n, t, t', k, _, h => by simp [stand] at h
  | f + 1, n, t, t', k, ht, h => by
    unfold stand at h
    split at h
    · cases h
    · split at h
      · cases h
      · rename_i hb
        have hb2 := Decidable.not_not.1 hb
        have kd := kind_any hb2.2.1
        simp only at h
        split at h
        · cases h
        · split at h
          · split at h
            · cases h; exact ht.mono (by omega)
            · cases h
          · rename_i h4
            split at h
            · cases h
            · rename_i hh
              have hall := Decidable.not_not.1 hh
              rw [List.all_eq_true] at hall
              split at h
              · rename_i h3
                refine stand_in (t := { t with revokes := t.revokes ++ (readR (rd (p + n))).homes }) (n := n + 1) ⟨Nat.le_trans ht.changes (by omega), ?_, ht.homes, fun x hx => ?_⟩ h
                · show (t.revokes ++ _).length ≤ _
                  rw [List.length_append]
                  have := ht.revokes
                  omega
                · rcases List.mem_append.1 hx with hx | hx
                  · exact ht.gone x hx
                  · exact hall x hx
              · rename_i h3
                split at h
                · cases h
                · refine stand_in (t := { t with changes := t.changes ++ dataOf rd (p + n + 1) (readR (rd (p + n))) (readR (rd (p + n))).homes.length }) (n := n + 1 + (readR (rd (p + n))).homes.length) ⟨?_, ?_, fun c hc => ?_, ht.gone⟩ h
                  · show (t.changes ++ _).length ≤ _
                    rw [List.length_append]; unfold dataOf; rw [List.length_map, List.length_range]
                    have := ht.changes; omega
                  · have := ht.revokes; show t.revokes.length ≤ _; omega
                  · rcases List.mem_append.1 hc with hc | hc
                    · exact ht.homes c hc
                    · unfold dataOf at hc
                      obtain ⟨i, hi, rfl⟩ := List.mem_map.1 hc
                      have hi2 := List.mem_range.1 hi
                      refine hall _ ?_
                      show hat _ i ∈ _
                      rw [hat_eq hi2]; exact List.getElem_mem hi2
theorem logFrom_in {rd : Nat → ByteArray} {hm : Int → Bool} {p seq slots : Nat} : ∀ (f used : Nat) (l : List Tx), used ≤ slots → l.length ≤ used → (∀ t ∈ l, TxIn hm slots t) →
    (logFrom rd hm p seq slots f used l).1.length ≤ slots ∧ ∀ t ∈ (logFrom rd hm p seq slots f used l).1, TxIn hm slots t
  | 0, used, l, h, h2, h3 => ⟨Nat.le_trans h2 h, h3⟩
  | f + 1, used, l, h, h2, h3 => by
    unfold logFrom
    split
    · exact ⟨Nat.le_trans h2 h, h3⟩
    · rename_i t k e
      have hb := stand_bounds e
      have hi := stand_in (t := ⟨[], []⟩) ⟨by simp, by simp, by simp, by simp⟩ e
      refine logFrom_in f (used + k) (l ++ [t]) (by omega) (by rw [List.length_append]; simp; omega) fun x hx => ?_
      rcases List.mem_append.1 hx with hx | hx
      · exact h3 x hx
      · rw [List.mem_singleton.1 hx]; exact hi.mono (by omega)
/-- of the log on a device -/
theorem logOf_in {S : St} {b la l : Int} {r : List Tx × Nat} (hl : 1 ≤ l) (h : logOf S b la l = some r) :
    r.1.length ≤ (l - 1).toNat ∧ r.2 ≤ (l - 1).toNat ∧ (readR (rText S la)).kind = 1 ∧ IsBlk (rText S la) ∧ (readR (rText S la)).pos < l - 1 ∧ ∀ t ∈ r.1, TxIn (hmB b la l) (l - 1).toNat t := by
  unfold logOf at h
  split at h
  · rename_i hc
    injection h with h
    obtain ⟨h1, h2⟩ := logFrom_in (rd := slotT S la l) (hm := hmB b la l) (p := (readR (rText S la)).pos.toNat) (seq := (readR (rText S la)).seq) (slots := (l - 1).toNat) (l - 1).toNat 0 [] (Nat.zero_le _) (Nat.le_refl _) (by simp)
    have h3 := (logFrom_used (rd := slotT S la l) (hm := hmB b la l) (p := (readR (rText S la)).pos.toNat) (seq := (readR (rText S la)).seq) (slots := (l - 1).toNat) (l - 1).toNat 0 [] (Nat.zero_le _)).2
    rw [h] at h1 h2 h3
    exact ⟨h1, h3, hc.2.1, hc.1, hc.2.2, h2⟩
  · cases h
theorem hm_in {b la l x : Int} (h : hmB b la l x = true) : 0 ≤ x ∧ x < b := by
  unfold hmB at h
  have := of_decide_eq_true h
  exact ⟨this.1, this.2.1⟩
theorem homeL_len {l : Nat} {m : Int → Option ByteArray} (h : ∀ x : Nat, 1 ≤ x → x < 1 + l → m (x : Int) = none) : ∀ n : Nat, (homeL n m).length + (min n (l + 1) - 1) ≤ n
  | 0 => by rw [homeL_zero]; simp
  | n + 1 => by
    have ih := homeL_len h n
    rw [homeL_succ, List.length_append]
    by_cases hn : 1 ≤ n ∧ n < 1 + l
    · rw [h n hn.1 hn.2]
      simp only [Option.map_none, Option.toList_none, List.length_nil, Nat.add_zero]
      omega
    · have h1 : ((m (n : Int)).map fun d => ((n : Int), d)).toList.length ≤ 1 := by cases m (n : Int) <;> simp
      omega
theorem net_len {b l : Nat} {ts : List Tx} {k : Nat} (hl : 128 ≤ l) (hb : b ≤ 4096) (hlb : l + 1 ≤ b) (h : ∀ t ∈ ts, TxIn (hmB b 1 l) k t) : (homeL b (net ts)).length ≤ 4000 := by
  have := homeL_len (l := l) (m := net ts) (fun x h1 h2 => by
    cases e : net ts (x : Int) with
    | none => rfl
    | some d =>
      obtain ⟨t, ht, hx⟩ := net_mem e
      obtain ⟨c, hc, hcx⟩ := List.mem_map.1 hx
      have hh := (h t ht).homes c hc
      rw [hcx] at hh
      unfold hmB at hh
      have := of_decide_eq_true hh
      omega) b
  omega
end Go.Proofs.YtanghmogeiiooaaGreatDoor
