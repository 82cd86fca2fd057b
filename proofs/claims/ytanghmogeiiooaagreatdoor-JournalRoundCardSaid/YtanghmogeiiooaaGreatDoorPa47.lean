import Derived.Test.YtanghmogeiiooaaGreatDoorPa46
import Derived.Test.YtanghmogeiiooaaGreatDoorPa36
import Derived.Test.YtanghmogeiiooaaGreatDoorPa43
import Derived.Test.YtanghmogeiiooaaGreatDoorPa31
import Derived.Test.YtanghmogeiiooaaGreatDoorPa44
set_option linter.unusedVariables false
set_option linter.unusedSimpArgs false
set_option linter.constructorNameAsVariable false
/- settle, walked. -/
namespace Go.Proofs.YtanghmogeiiooaaGreatDoor
set_option linter.unusedVariables false
set_option linter.unusedSimpArgs false
open Go.RowKit

/-- how settle ends -/
def Settled (B wd d lo hi g b l i m t da : Nat) (S : St) (q : Nat) (ts : List Tx) (home want : Nat → Nat) (e : Ending) (w : World) : Prop :=
  (e = .returned (.int .i64 0) ∧ ∃ S' p' q' ts', S'.acts ≤ S.acts + 20 ∧ (S.left < 0 → S'.left < 0) ∧ q' + ts'.length = q + ts.length ∧ LwMem B wd d lo hi g b l i m t da S' p' q' 0 ts' want want w) ∨
  (e = .returned (.int .i64 61) ∧ ¬ S.left < 0 ∧ ∃ S', (S'.acts ≤ S.acts + 20 ∧ S'.n = S.n) ∧ DevAt d lo hi S' w ∧ WldAt wd b l i m t d g home want w ∧ ∀ S'', Left S' S'' → Tells S'' l b da (q + ts.length) want)
/-- the checkpoint behind the homes' writes -/
theorem check_home {B wd d lo hi g b l i m t da p q used : Nat} {S : St} {ts : List Tx} {home want : Nat → Nat} (hok : okN b l i m t) (hf : Fit12 l b da) (w0 : World) (h : LwMem B wd d lo hi g b l i m t da S p q used ts home want w0) (ha : S.acts ≤ 800 * 1000)
    (w : World) (hd : DevAt d lo hi (wroteS S da want 12) w) (z : Zone lo hi w0 w) :
    Calls Tryz.prog 54 #[.pointer (some ⟨g, 0, none⟩)] w fun e w' => LogZ lo hi g w w' ∧
      ((e = .returned (.int .i64 0) ∧ ∃ S' p' q' ts', S'.acts ≤ S.acts + 20 ∧ (S.left < 0 → S'.left < 0) ∧ q' + ts'.length = q + ts.length ∧ DevAt d lo hi S' w' ∧ Wd S' l b da p' q' 0 ts' want want ∧ LogAt g d b l i 1 (1 + l) m (1 + l + m) t (1 + l + m + t) (((p' + 0) % (l - 1) : Nat) : Int) ((l - 1 - 0 : Nat) : Int) (q' + ts'.length) 0 w') ∨
       (e = .returned (.int .i64 61) ∧ ¬ S.left < 0 ∧ ∃ S', (S'.acts ≤ S.acts + 20 ∧ S'.n = S.n) ∧ DevAt d lo hi S' w' ∧ ∀ S'', Left S' S'' → Tells S'' l b da (q + ts.length) want)) := by
  have hl := hf.hl
  have hr := hf.room
  have hn := h.pure.n
  have hs := h.pure.log.seq
  have hfit := h.pure.log.fit
  have hpos := h.pure.log.pos
  have hlog := Blk.kept h.log z (.inr h.o2)
  have hmod : (p + used) % (l - 1) < l - 1 := Nat.mod_lt _ (by omega)
  have hac := wroteS_acts S da want (j := 12) (Nat.le_refl _)
  by_cases hu : used = 0
  · subst hu
    refine (jcheck_empty g d b l i m t hok _ _ w ((l - 1 - 0 : Nat) : Int) (by omega) hlog).mono fun e w' ⟨he, hb⟩ => ⟨.of_zone (Zone.of_below hb lo hi), .inl ⟨he, ?_⟩⟩
    refine ⟨wroteS S da want 12, p, q, ts, by omega, wroteS_left, rfl, hd.kept1 hb, ?_, Blk.kept1 hlog hb⟩
    rw [wroteS_all]; exact h.pure.settle0 hf
  · refine (jcheck_ok lo hi g d b l i m t hok (by omega) ((p + used) % (l - 1)) (l - 1 - used) (by omega) (by omega) (by omega) (q + ts.length) (by omega) w hd h.o2 hlog).mono ?_
    rintro e w' ⟨he, hd', z', hlog'⟩
    have hfine := check_fine (n := (wroteS S da want 12).n) (slot := (p + used) % (l - 1)) (seq := q + ts.length) (by rw [wroteS_n]; omega) (by omega) (by omega)
    have hda := deeds_acts (wroteS S da want 12) (checkD ((p + used) % (l - 1)) (q + ts.length))
    have hlen : (checkD ((p + used) % (l - 1)) (q + ts.length)).length ≤ 8 := by unfold checkD; simp
    refine ⟨z', ?_⟩
    rcases h.pure.check_ends hf hu with ⟨h0, hw⟩ | ⟨h1, hw⟩
    · rw [h0] at he hlog'
      refine .inl ⟨he, _, (p + used) % (l - 1), q + ts.length, [], ?_, fun hlt => (deeds_left hfine (wroteS_left hlt)).2, Nat.add_zero _, hd', hw, ?_⟩
      · omega
      · simp only [selI_yes] at hlog'
        have e1 : (((p + used) % (l - 1) + 0) % (l - 1) : Nat) = (p + used) % (l - 1) := by rw [Nat.add_zero, Nat.mod_mod]
        have e2 : ((l : Int) - 1) = ((l - 1 - 0 : Nat) : Int) := by omega
        rw [e2] at hlog'
        rw [e1]
        exact hlog'
    · rw [h1] at he
      refine .inr ⟨he, fun hlt => ?_, _, ?_, hd', hw⟩
      · have := (deeds_left hfine (wroteS_left hlt)).1
        omega
      · have hnn := deeds_n (wroteS S da want 12) (checkD ((p + used) % (l - 1)) (q + ts.length))
        rw [wroteS_n] at hnn
        exact ⟨by omega, hnn⟩
set_option maxRecDepth 100000 in
set_option maxHeartbeats 4000000 in
theorem settle_any {B wd d lo hi g b l i m t da p q used : Nat} {S : St} {ts : List Tx} {home want : Nat → Nat} (hok : okN b l i m t) (hf : Fit12 l b da) (hda : da = 1 + l + m + t) (ha : S.acts ≤ 800 * 1000) (w : World) (h : LwMem B wd d lo hi g b l i m t da S p q used ts home want w) :
    Calls Tryz.prog 26 #[.pointer (some ⟨wd, 0, none⟩)] w fun e w' => LawZ lo hi g wd w w' ∧ Settled B wd d lo hi g b l i m t da S q ts home want e w' := by
  have mixed : Tryz.prog.follows .mixedOrders = true := by kernel_rfl
  have hwd := h.wld.lt
  have ho1 := h.o1
  have htop := hf.htop
  have hb4 := hf.hb
  have hbw := h.bw
  have hl := hf.hl
  have FI := Lib.hid fun k w => fill_any (want k) (hbw k) w
  have WR := Lib.hid fun (k : Nat) (hk : k < 12) (w : World) hd => write_home (d := d) (lo := lo) (hi := hi) hf h.pure.n ha want hk w hd
  have CK := Lib.hid fun w' hd z => check_home hok hf w h ha w' hd z
  have DL := Lib.hid fun S' j (hL : Left (wroteS S da want j) S') => h.pure.writes_left hf j hL
  have HDA := Lib.hid hda
  have HM := Lib.hid h
  have HAC := Lib.hid fun j (hj : j ≤ 12) => wroteS_acts S da want hj
  clear hok hf h hda ha hbw
  go_enter Tryz.func26, Tryz.ntmps26
  go_wp2
  go_loopw [3] (fun p wr => ∃ k : Nat, p = .int .i64 (k : Int) ∧ k ≤ 12 ∧ DevAt d lo hi (wroteS S da want k) wr ∧ Zone lo hi w wr) (fun p _ => 12 - (intOf p).toNat)
  case atStart => exact ⟨0, rfl, by omega, HM.out.dev, Zone.refl _ _ _⟩
  case round =>
    obtain ⟨k, rfl, hk, hd, hz⟩ := hrel
    have hWr := blkZ HM.out.wld hz (.inl ho1)
    have hWr : WldAt wd b l i m t d g home want wr := hWr
    by_cases hlt : k < 12
    · have tl : decide ((k : Int) < 12) = true := decide_eq_true (by omega)
      obtain ⟨yy, hyy⟩ : ∃ yy, da + k = yy := ⟨_, rfl⟩
      have hzz : (1 : Int) + (l : Int) + (m : Int) + (t : Int) + (k : Int) = (yy : Int) := by have := HDA.out; omega
      have hy2 : yy ≤ 4200 := by omega
      have W0 := WR.out k hlt
      rw [hyy] at W0
      have W0 := Lib.hid W0
      have F0 := Lib.hid (FI.out k)
      have DL0 := Lib.hid fun S' => DL.out S' k
      have HA0 := HAC.out k hk
      have HD := Lib.hid hd
      have HZ := Lib.hid hz
      have HW := Lib.hid hWr
      have q8 := fun p : BelowP wr => (HW.out.kept1 p.h).da
      have q9 := fun p : BelowP wr => (HW.out.kept1 p.h).dev
      have qk := fun p : BelowP wr => (HW.out.kept1 p.h).wantAt hlt
      have hbk := HM.out.bw k
      generalize rep (want k) = rk at *
      generalize want k = fk at *
      clear hd hz hWr hyy FI WR CK DL HAC
      go_wp2
      refine wp_region_tail_below 18 mixed (by kernel_rfl) ?_
      simp only [List.take_succ_cons, List.take_zero, List.drop_succ_cons, List.drop_zero]
      repeat (go_big_quiet_step (first | (go_at_call 20; refine calls_below (F0.out _))))
      refine wpQuiet_nil ?_
      intro w0q hw'
      obtain ⟨⟨wq, bq⟩, hw''⟩ := hw'
      have hw2 : wq = w0q := hw''.symm
      clear hw''
      subst hw2
      have HDq := Lib.hid (HD.out.kept1 bq)
      have HZq := Lib.hid (HZ.out.trans (Zone.of_below bq lo hi))
      clear q8 q9 qk bq HD
      go_wp2_with fail
      refine (W0.out _ HDq.out).mono ?_; rintro e w3 ⟨⟨rfl, hnl, hd3⟩ | ⟨rfl, hd3⟩, z3⟩
      · have HR : Hid (LawZ lo hi g wd w w3 ∧ Settled B wd d lo hi g b l i m t da S q ts home want (.returned (.int .i64 61)) w3) := Lib.hid (by
          have hzz := HZq.out.trans z3
          exact ⟨.of_zone hzz, .inr ⟨rfl, by omega, _, ⟨by omega, wroteS_n _ _ _ _⟩, hd3, blkZ HM.out.wld hzz (.inl ho1), DL0.out⟩⟩)
        clear hd3 z3 DL0 HZq HDq W0 F0
        go_wp2
        go_ret
        exact HR.out
      · have HZ3 := Lib.hid (HZq.out.trans z3)
        have HD3 := Lib.hid hd3
        clear hd3 z3 DL0 HZq HDq W0 F0
        go_wp2
        exact ⟨⟨k + 1, by go_num, by omega, HD3.out, HZ3.out⟩, by simp [intOf]; omega⟩
    · obtain rfl : k = 12 := by omega
      have HC := Lib.hid (CK.out wr hd hz)
      have HZ := Lib.hid hz
      have HW := Lib.hid hWr
      have q10 := hWr.log
      clear hd hz hWr CK DL WR FI HAC
      go_wp2_with fail
      refine HC.out.mono ?_; rintro e w3 ⟨z3, ⟨rfl, S', p', q', ts', a1, a2, a3, hd3, hp3, hl3⟩ | ⟨rfl, hnl, S', a1, hd3, ht3⟩⟩
      · have hw3 : WldAt wd b l i m t d g home want w3 := z3.blk HW.out (.inl ho1) (by have := HM.out.o2; have := hd3.lohi; omega)
        have HWR := Lib.hid hw3.wantRange
        have HTH := Lib.hid hw3.homeThere
        have hz3 := zone_sets wd w3 11 (arr12 want).toList
        have HR : Hid (LawZ lo hi g wd w (w3.setCells wd 11 (arr12 want).toList) ∧ Settled B wd d lo hi g b l i m t da S q ts home want (.returned (.int .i64 0)) (w3.setCells wd 11 (arr12 want).toList)) := Lib.hid (by
          refine ⟨((LawZ.of_zone HZ.out).trans (.of_logz z3)).trans (.of_one hz3), .inl ⟨rfl, S', p', q', ts', a1, a2, a3, ⟨hw3.setHome want, hd3.kept hz3 (.inr (by omega)), Blk.kept hl3 hz3 (.inr (by have := HM.out.o2; have := hd3.lohi; omega)), hp3, HM.out.bw, HM.out.bw, HM.out.bot, ho1, HM.out.o2⟩⟩⟩)
        clear hz3 hw3 hd3 hp3 hl3 a1 a2 a3 HW HZ q10 HC z3
        go_wp2_with (first | (refine wpList_load_mid rfl _ _ rfl wd 23 rfl (arr12 want).toList _ HWR.out Tryz.underlying36 rfl arr12_info ?_) | (refine wpList_store_mid rfl _ _ _ rfl wd 11 (arr12 want) rfl rfl HTH.out arr12_info (by simp [Value.oneCell']) ?_))
        go_ret
        exact HR.out
      · have hw3 : WldAt wd b l i m t d g home want w3 := z3.blk HW.out (.inl ho1) (by have := HM.out.o2; have := hd3.lohi; omega)
        have HR : Hid (LawZ lo hi g wd w w3 ∧ Settled B wd d lo hi g b l i m t da S q ts home want (.returned (.int .i64 61)) w3) := Lib.hid
          ⟨(LawZ.of_zone HZ.out).trans (.of_logz z3), .inr ⟨rfl, by omega, S', a1, hd3, hw3, ht3⟩⟩
        clear hw3 hd3 ht3 HW HZ q10 HC z3
        go_wp2
        go_ret
        exact HR.out
end Go.Proofs.YtanghmogeiiooaaGreatDoor

/- A step's transaction: its lists, as they grow; what is held in memory. -/
namespace Go.Proofs.YtanghmogeiiooaaGreatDoor
set_option linter.unusedVariables false
set_option linter.unusedSimpArgs false
open Go.RowKit

/-- is j among the first n, modulo twelve? -/
def upB (C : List Nat) (n j : Nat) : Bool := (C.take n).any fun c => decide (c % 12 = j)
theorem upB_zero (C : List Nat) (j : Nat) : upB C 0 j = false := by unfold upB; rw [List.take_zero]; rfl
theorem upB_succ (C : List Nat) {n : Nat} (hk : n < C.length) (j : Nat) : upB C (n + 1) j = (upB C n j || decide (C[n] % 12 = j)) := by
  unfold upB
  rw [List.take_succ_eq_append_getElem hk, List.any_append]
  simp
def chgB (C : List Nat) : Nat → Bool := upB C 30
theorem upB_end (C : List Nat) {n : Nat} (h : n = C.length ∧ n ≤ 30 ∨ n = 30) : upB C n = chgB C := by
  rcases h with ⟨rfl, h⟩ | rfl
  · funext j; unfold chgB upB; rw [List.take_length, List.take_of_length_le h]
  · rfl
/-- the changed ones below k; the revoked ones -/
def lkL (da : Nat) (chg : Nat → Bool) (nx : Nat → Nat) (k : Nat) : List (Int × ByteArray) := ((List.range k).filter chg).map fun j => (((da + j : Nat) : Int), rep (nx j))
def lkR (da : Nat) (chg rev : Nat → Bool) (k : Nat) : List Int := ((List.range k).filter fun j => !chg j && rev j).map fun j => ((da + j : Nat) : Int)
theorem lkL_yes (da : Nat) (chg : Nat → Bool) (nx : Nat → Nat) {k : Nat} (h : chg k = true) : lkL da chg nx (k + 1) = lkL da chg nx k ++ [(((da + k : Nat) : Int), rep (nx k))] := by
  unfold lkL; rw [List.range_succ, List.filter_append, List.map_append]; simp [h]
theorem lkL_no (da : Nat) (chg : Nat → Bool) (nx : Nat → Nat) {k : Nat} (h : chg k = false) : lkL da chg nx (k + 1) = lkL da chg nx k := by
  unfold lkL; rw [List.range_succ, List.filter_append]; simp [h]
theorem lkR_yes (da : Nat) (chg rev : Nat → Bool) {k : Nat} (h : chg k = false) (h2 : rev k = true) : lkR da chg rev (k + 1) = lkR da chg rev k ++ [((da + k : Nat) : Int)] := by
  unfold lkR; rw [List.range_succ, List.filter_append, List.map_append]; simp [h, h2]
theorem lkR_no (da : Nat) (chg rev : Nat → Bool) {k : Nat} (h : (!chg k && rev k) = false) : lkR da chg rev (k + 1) = lkR da chg rev k := by
  unfold lkR; rw [List.range_succ, List.filter_append]; simp [h]
theorem lkL_len (da : Nat) (chg : Nat → Bool) (nx : Nat → Nat) (k : Nat) : (lkL da chg nx k).length ≤ k := by
  unfold lkL; rw [List.length_map]; exact Nat.le_trans (List.length_filter_le _ _) (by simp)
theorem lkR_len (da : Nat) (chg rev : Nat → Bool) (k : Nat) : (lkR da chg rev k).length ≤ k := by
  unfold lkR; rw [List.length_map]; exact Nat.le_trans (List.length_filter_le _ _) (by simp)
/-- what the blocks have behind the first k -/
def nextUp (chg rev : Nat → Bool) (nx home want : Nat → Nat) (k j : Nat) : Nat := if j < k then nextOf chg rev nx home want j else want j
theorem nextUp_zero (chg rev : Nat → Bool) (nx home want : Nat → Nat) : nextUp chg rev nx home want 0 = want := by funext j; rfl
theorem nextUp_at (chg rev : Nat → Bool) (nx home want : Nat → Nat) (k : Nat) : nextUp chg rev nx home want k k = want k := by unfold nextUp; rw [if_neg (Nat.lt_irrefl k)]
theorem nextUp_set (chg rev : Nat → Bool) (nx home want : Nat → Nat) (k v : Nat) (hv : nextOf chg rev nx home want k = v) (j : Nat) : upd (fun j => Value.int .u8 (nextUp chg rev nx home want k j : Int)) k (.int .u8 (v : Int)) j = .int .u8 (nextUp chg rev nx home want (k + 1) j : Int) := by
  unfold upd nextUp
  by_cases e : j = k
  · subst e; rw [if_pos rfl, if_pos (Nat.lt_succ_self _), hv]
  · rw [if_neg e]
    show Value.int .u8 ((if j < k then nextOf chg rev nx home want j else want j : Nat) : Int) = _
    by_cases h : j < k
    · rw [if_pos h, if_pos (by omega)]
    · rw [if_neg h, if_neg (by omega)]
theorem nextUp_same (chg rev : Nat → Bool) (nx home want : Nat → Nat) (k : Nat) (hv : nextOf chg rev nx home want k = want k) : nextUp chg rev nx home want (k + 1) = nextUp chg rev nx home want k := by
  funext j
  unfold nextUp
  by_cases e : j = k
  · subst e; rw [if_pos (Nat.lt_succ_self _), if_neg (Nat.lt_irrefl _), hv]
  · by_cases h : j < k
    · rw [if_pos h, if_pos (by omega)]
    · rw [if_neg h, if_neg (by omega)]
theorem nextUp_end (chg rev : Nat → Bool) (nx home want : Nat → Nat) {j : Nat} (hj : j < 12) : nextUp chg rev nx home want 12 j = nextOf chg rev nx home want j := by unfold nextUp; rw [if_pos hj]
theorem next_lt {chg rev : Nat → Bool} {nx home want : Nat → Nat} (h1 : ∀ k, nx k < 256) (h2 : ∀ k, home k < 256) (h3 : ∀ k, want k < 256) (k : Nat) : nextOf chg rev nx home want k < 256 := by
  unfold nextOf
  split
  · exact h1 k
  · split
    · exact h2 k
    · exact h3 k
/-- the memory of txn -/
structure TxMem (w0 : World) (sb : Nat) (x : StepX) (vc vr : Value) (nf : Nat → Nat) (cf rf : Nat → Bool) (va vb : Value) (L : List (Int × ByteArray)) (R : List Int) (w : World) : Prop where
  step : Blk sb (stepC x vc vr) 45 w
  res : Blk (sb + 1) #[.slice none 0 0, .slice none 0 0] 64 w
  arr : Blk (sb + 2) (arr12 fun _ => 0) 36 w
  txn : Blk (sb + 3) #[va, vb] 64 w
  next : CellsAt (sb + 4) 12 (fun j => .int .u8 (nf j : Int)) w
  chg : CellsAt (sb + 5) 12 (fun j => .bool (cf j)) w
  rev : CellsAt (sb + 6) 12 (fun j => .bool (rf j)) w
  own1 : ChgsOwn (sb + 7) va L w
  own2 : IntsOwn (sb + 7) vb R w
  below : Below w0.heap.size w0 w
  base : sb = w0.heap.size
section
variable {w0 : World} {sb : Nat} {x : StepX} {vc vr : Value} {nf : Nat → Nat} {cf rf : Nat → Bool} {va vb : Value} {L : List (Int × ByteArray)} {R : List Int} {w w' : World}
theorem TxMem.kept1 (h : TxMem w0 sb x vc vr nf cf rf va vb L R w) (hb : Below w.heap.size w w') : TxMem w0 sb x vc vr nf cf rf va vb L R w' :=
  ⟨h.step.kept1 hb, h.res.kept1 hb, h.arr.kept1 hb, h.txn.kept1 hb, h.next.kept1 hb, h.chg.kept1 hb, h.rev.kept1 hb, row_kept h.own1 hb, row_kept h.own2 hb, bnext h.below hb, h.base⟩
theorem TxMem.top (h : TxMem w0 sb x vc vr nf cf rf va vb L R w) : sb + 7 ≤ w.heap.size := h.rev.1
theorem TxMem.setChg (h : TxMem w0 sb x vc vr nf cf rf va vb L R w) {i : Nat} (hi : i < 12) (cf' : Nat → Bool) (he : ∀ j, upd (fun j => Value.bool (cf j)) i (.bool true) j = .bool (cf' j)) : TxMem w0 sb x vc vr nf cf' rf va vb L R (w.setCell ⟨sb + 5, i, none⟩ (.bool true)) := by
  have z := zone_set (sb + 5) w i (.bool true)
  have hb := h.base
  refine ⟨h.step.kept z (.inl (by omega)), h.res.kept z (.inl (by omega)), h.arr.kept z (.inl (by omega)), h.txn.kept z (.inl (by omega)), h.next.kept z (.inl (by omega)), (h.chg.set hi _).congr fun j _ => he j, h.rev.kept z (.inr (by omega)), row_zone h.own1 z (by omega), row_zone h.own2 z (by omega), h.below.setCell (by show w0.heap.size ≤ sb + 5; omega) _, hb⟩
theorem TxMem.setRev (h : TxMem w0 sb x vc vr nf cf rf va vb L R w) {i : Nat} (hi : i < 12) (rf' : Nat → Bool) (he : ∀ j, upd (fun j => Value.bool (rf j)) i (.bool true) j = .bool (rf' j)) : TxMem w0 sb x vc vr nf cf rf' va vb L R (w.setCell ⟨sb + 6, i, none⟩ (.bool true)) := by
  have z := zone_set (sb + 6) w i (.bool true)
  have hb := h.base
  refine ⟨h.step.kept z (.inl (by omega)), h.res.kept z (.inl (by omega)), h.arr.kept z (.inl (by omega)), h.txn.kept z (.inl (by omega)), h.next.kept z (.inl (by omega)), h.chg.kept z (.inl (by omega)), (h.rev.set hi _).congr fun j _ => he j, row_zone h.own1 z (by omega), row_zone h.own2 z (by omega), h.below.setCell (by show w0.heap.size ≤ sb + 6; omega) _, hb⟩
theorem TxMem.setNext (h : TxMem w0 sb x vc vr nf cf rf va vb L R w) {i v : Nat} (hi : i < 12) (nf' : Nat → Nat) (he : ∀ j, upd (fun j => Value.int .u8 (nf j : Int)) i (.int .u8 (v : Int)) j = .int .u8 (nf' j : Int)) : TxMem w0 sb x vc vr nf' cf rf va vb L R (w.setCell ⟨sb + 4, i, none⟩ (.int .u8 (v : Int))) := by
  have z := zone_set (sb + 4) w i (.int .u8 (v : Int))
  have hb := h.base
  refine ⟨h.step.kept z (.inl (by omega)), h.res.kept z (.inl (by omega)), h.arr.kept z (.inl (by omega)), h.txn.kept z (.inl (by omega)), (h.next.set hi _).congr fun j _ => he j, h.chg.kept z (.inr (by omega)), h.rev.kept z (.inr (by omega)), row_zone h.own1 z (by omega), row_zone h.own2 z (by omega), h.below.setCell (by show w0.heap.size ≤ sb + 4; omega) _, hb⟩
end
theorem upB_set (C : List Nat) {n : Nat} (hk : n < C.length) (i : Nat) (hi : C[n] % 12 = i) (j : Nat) : upd (fun j => Value.bool (upB C n j)) i (.bool true) j = .bool (upB C (n + 1) j) := by
  rw [upB_succ C hk]
  unfold upd
  by_cases e : j = i
  · subst e; rw [if_pos rfl, decide_eq_true hi, Bool.or_true]
  · rw [if_neg e, decide_eq_false (by omega), Bool.or_false]
theorem appI_run {ty : TypeId} (base : Nat) (v : Value) (L : List Int) (k : Int) (W : World) (hown : IntsOwn base v L W) (hlen : L.length ≤ 4000000) (hbase : base ≤ W.heap.size) :
    ∃ v' w', (Builtin.append_ #[56, 56] ty #[v, .slice (some ⟨W.heap.size, 0, none⟩) 1 1]).run Tryz.prog (W.alloc (.cells #[.int .i64 k] 3)) = .ok v' w' ∧ IntsOwn base v' (L ++ [k]) w' ∧ (W.alloc (.cells #[.int .i64 k] 3)).grownBy w' v.ownBlock := by
  obtain ⟨i0, hi, hz0, hz1, hz2⟩ := info_parts kint_info
  obtain ⟨v', w', hr, k1, k2, _⟩ := run_append_own (P := Tryz.prog) (W.alloc (.cells #[.int .i64 k] 3)) base 56 ty 3 i0 _ 1 8 Tryz.underlying56 hi hz0 hz1 hz2 rfl (by decide) v L.length (L.map (Value.int .i64)) (hown.alloc _) ⟨W.heap.size, 0, none⟩ 1 1 [.int .i64 k] rfl (knew_one W _ _) (fun u hu => by simp at hu; subst hu; rfl) (by unfold maxLen; omega) (by omega) (by rw [size_alloc]; omega)
  refine ⟨v', w', hr, ?_, k2⟩
  show w'.ownsRow _ _ _ _ (L ++ [k]).length ((L ++ [k]).map _)
  rw [List.length_append, List.map_append]; exact k1
section
variable {w0 : World} {sb : Nat} {x : StepX} {vc vr : Value} {nf : Nat → Nat} {cf rf : Nat → Bool} {va vb : Value} {L : List (Int × ByteArray)} {R : List Int} {w w6 : World} {o : Obj}
/-- one more revoked block -/
theorem TxMem.appR {y : Int} {v' : Value} (h : TxMem w0 sb x vc vr nf cf rf va vb L R w) (r6 : IntsOwn (sb + 7) v' (R ++ [y]) w6) (g6 : (w.alloc o).grownBy w6 vb.ownBlock) :
    TxMem w0 sb x vc vr nf cf rf va v' L (R ++ [y]) (w6.setCell ⟨sb + 3, 1, none⟩ v') ∧ w6.cell? ⟨sb + 3, 1, none⟩ = some vb ∧ w6.frozen? ⟨sb + 3, 1, none⟩ = false := by
  have hk := h.kept1 (balloc1 w o)
  have hb := h.base
  have b6 : Below (sb + 7) (w.alloc o) w6 := below_of_row hk.own2 g6 hk.top
  have z : Zone (sb + 7) (w.alloc o).heap.size (w.alloc o) w6 := ⟨b6.os, b6.tape, b6.output, b6.size, fun k hk ho => b6.block k (by omega)⟩
  have z2 := zone_set (sb + 3) w6 1 v'
  have kt := hk.txn.kept z (.inl (by omega))
  have o1 := kept_kinds hk.own2 hk.own1 (by decide) g6
  refine ⟨⟨(hk.step.kept z (.inl (by omega))).kept z2 (.inl (by omega)), (hk.res.kept z (.inl (by omega))).kept z2 (.inl (by omega)), (hk.arr.kept z (.inl (by omega))).kept z2 (.inl (by omega)), kt.set 1 v', (hk.next.kept z (.inl (by omega))).kept z2 (.inr (by omega)), (hk.chg.kept z (.inl (by omega))).kept z2 (.inr (by omega)), (hk.rev.kept z (.inl (by omega))).kept z2 (.inr (by omega)), row_zone o1 z2 (by omega), row_zone r6 z2 (by omega), ?_, hb⟩, kt.cell 1, kt.frozen 1⟩
  exact (hk.below.trans (b6.mono (by omega))).setCell (by show w0.heap.size ≤ sb + 3; omega) _
/-- one more change -/
theorem TxMem.appC {c : Int × ByteArray} {v' : Value} (h : TxMem w0 sb x vc vr nf cf rf va vb L R w) (r6 : ChgsOwn (sb + 7) v' (L ++ [c]) w6) (g6 : (w.alloc o).grownBy w6 va.ownBlock) :
    TxMem w0 sb x vc vr nf cf rf v' vb (L ++ [c]) R (w6.setCell ⟨sb + 3, 0, none⟩ v') ∧ w6.cell? ⟨sb + 3, 0, none⟩ = some va ∧ w6.frozen? ⟨sb + 3, 0, none⟩ = false := by
  have hk := h.kept1 (balloc1 w o)
  have hb := h.base
  have b6 : Below (sb + 7) (w.alloc o) w6 := below_of_row hk.own1 g6 hk.top
  have z : Zone (sb + 7) (w.alloc o).heap.size (w.alloc o) w6 := ⟨b6.os, b6.tape, b6.output, b6.size, fun k hk ho => b6.block k (by omega)⟩
  have z2 := zone_set (sb + 3) w6 0 v'
  have kt := hk.txn.kept z (.inl (by omega))
  have o2 := kept_kinds hk.own1 hk.own2 (by decide) g6
  refine ⟨⟨(hk.step.kept z (.inl (by omega))).kept z2 (.inl (by omega)), (hk.res.kept z (.inl (by omega))).kept z2 (.inl (by omega)), (hk.arr.kept z (.inl (by omega))).kept z2 (.inl (by omega)), kt.set 0 v', (hk.next.kept z (.inl (by omega))).kept z2 (.inr (by omega)), (hk.chg.kept z (.inl (by omega))).kept z2 (.inr (by omega)), (hk.rev.kept z (.inl (by omega))).kept z2 (.inr (by omega)), row_zone r6 z2 (by omega), row_zone o2 z2 (by omega), ?_, hb⟩, kt.cell 0, kt.frozen 0⟩
  exact (hk.below.trans (b6.mono (by omega))).setCell (by show w0.heap.size ≤ sb + 3; omega) _
end
/-- what holds around the append of one more change -/
theorem app_facts {w0 : World} {sb wd : Nat} {x : StepX} {vc vr : Value} {nf : Nat → Nat} {cf rf : Nat → Bool} {va vb : Value} {L : List (Int × ByteArray)} {R : List Int} {w5 : World} (M : TxMem w0 sb x vc vr nf cf rf va vb L R w5) (hL : L.length ≤ 12) (hwd : wd < sb) {i : Nat} {dv nk : Value}
    (h8 : w5.cell? ⟨wd, 8, none⟩ = some dv) (h4 : w5.cell? ⟨sb + 4, i, none⟩ = some nk) (yy : Nat) (s : ByteArray) :
    ∃ v5 w6, (Builtin.append_ #[62, 62] 62 #[va, .slice (some ⟨w5.heap.size, 0, none⟩) 1 1]).run Tryz.prog (w5.alloc (.cells #[.int .i64 (yy : Int), .string s] 61)) = .ok v5 w6 ∧ (∃ a5 c5, v5 = .slice a5 (L.length + 1) c5) ∧
      TxMem w0 sb x vc vr nf cf rf v5 vb (L ++ [((yy : Int), s)]) R (w6.setCell ⟨sb + 3, 0, none⟩ v5) ∧ (w6.cell? ⟨sb + 3, 0, none⟩ = some va ∧ w6.frozen? ⟨sb + 3, 0, none⟩ = false) ∧
      w5.cell? ⟨sb + 3, 0, none⟩ = some va ∧ (w5.alloc (.cells #[.int .i64 (yy : Int), .string s] 61)).cell? ⟨sb + 3, 0, none⟩ = some va ∧
      ((w5.alloc (.cells #[.int .i64 (yy : Int), .string s] 61)).cell? ⟨wd, 8, none⟩ = some dv ∧ (w5.alloc (.cells #[.int .i64 (yy : Int), .string s] 61)).cell? ⟨sb + 4, i, none⟩ = some nk) ∧
      (w6.cell? ⟨wd, 8, none⟩ = some dv ∧ w6.cell? ⟨sb + 4, i, none⟩ = some nk) ∧
      ((w6.setCell ⟨sb + 3, 0, none⟩ v5).cell? ⟨wd, 8, none⟩ = some dv ∧ (w6.setCell ⟨sb + 3, 0, none⟩ v5).cell? ⟨sb + 4, i, none⟩ = some nk) := by
  have ht := M.top
  have b1 := balloc1 w5 (.cells #[.int .i64 (yy : Int), .string s] 61)
  have M1 := M.kept1 b1
  obtain ⟨v5, w6, r1, hv5, g5⟩ := appC_run (ty := 62) (sb + 7) va L ((yy : Int), s) w5 M.own1 (by omega) ht
  obtain ⟨h6, c6, f6⟩ := M.appC hv5 g5
  obtain ⟨a5, c5, e5, -⟩ := shape_of hv5
  rw [List.length_append, List.length_singleton] at e5
  have b6 : Below (sb + 7) (w5.alloc (.cells #[.int .i64 (yy : Int), .string s] 61)) w6 := below_of_row M1.own1 g5 M1.top
  have a8 := (b1.cell (p := ⟨wd, 8, none⟩) (by show wd < w5.heap.size; omega)).trans h8
  have a4 := (b1.cell (p := ⟨sb + 4, i, none⟩) (by show sb + 4 < w5.heap.size; omega)).trans h4
  have c8 := (b6.cell (p := ⟨wd, 8, none⟩) (by show wd < sb + 7; omega)).trans a8
  have c4 := (b6.cell (p := ⟨sb + 4, i, none⟩) (by show sb + 4 < sb + 7; omega)).trans a4
  refine ⟨v5, w6, r1, ⟨a5, c5, e5⟩, h6, ⟨c6, f6⟩, M.txn.cell 0, M1.txn.cell 0, ⟨a8, a4⟩, ⟨c8, c4⟩, ?_, ?_⟩
  · rw [World.cell?_setCell_far _ _ _ _ (by show sb + 3 ≠ wd; omega)]; exact c8
  · rw [World.cell?_setCell_far _ _ _ _ (by show sb + 3 ≠ sb + 4; omega)]; exact c4
theorem results_ctc {P : Program} {fn : Func} {p u q : Tmp} {ty ty2 : TypeId} (h : fn.results = #[.cell p ty, .tmp u, .cell q ty2]) (tmps : Array Value) (w : World) (g g2 : Nat) (cs cs2 : Array Value) (d d2 : TypeDesc) {T T2 : TypeId}
    (hp : tmps.getD p undef = .pointer (some ⟨g, 0, none⟩)) (hq : tmps.getD q undef = .pointer (some ⟨g2, 0, none⟩)) (hg : Blk g cs T w) (hg2 : Blk g2 cs2 T2 w)
    (hu : P.underlying ty = some d) (hd : (match d with | .struct _ | .array _ _ => true | _ => false) = true) (hi : (P.info? ty).map (·.size) = some cs.size)
    (hu2 : P.underlying ty2 = some d2) (hd2 : (match d2 with | .struct _ | .array _ _ => true | _ => false) = true) (hi2 : (P.info? ty2).map (·.size) = some cs2.size) (v2 : Value) (h2 : tmps.getD u undef = v2) :
    (results fn tmps).run P w = .ok (.tuple #[.agg cs, v2, .agg cs2]) w := by
  have hp' : tmps[p]?.getD undef = .pointer (some ⟨g, 0, none⟩) := by simpa using hp
  have hq' : tmps[q]?.getD undef = .pointer (some ⟨g2, 0, none⟩) := by simpa using hq
  have h2' : tmps[u]?.getD undef = v2 := by simpa using h2
  simp [results, h, hp', hq', h2', asAddr, Sem.run_bind, Result.andThen, run_loadVar_row w g T ty cs (0, 0) d hg hu hd hi, run_loadVar_row w g2 T2 ty2 cs2 (0, 0) d2 hg2 hu2 hd2 hi2]
theorem own_two {q : Nat} {a c a2 c2 : Value} {w : World} (h : Blk q #[a, c, a2, c2] 61 w) : w.ownsRow q 61 2 (.slice (some ⟨q, 0, none⟩) 2 2) 2 [a, c, a2, c2] :=
  ⟨rfl, .inr ⟨q, 2, #[a, c, a2, c2], rfl, Nat.le_refl _, h, Nat.le_refl _, by unfold maxLen; omega, rfl, rfl⟩⟩
theorem txn_sz : (Tryz.prog.info? 64).map (·.size) = some 2 := by kernel_rfl
end Go.Proofs.YtanghmogeiiooaaGreatDoor

/- A step's commit: how it ends, in memory. -/
namespace Go.Proofs.YtanghmogeiiooaaGreatDoor
set_option linter.unusedVariables false
set_option linter.unusedSimpArgs false
open Go.RowKit

/-- the law's world behind a commit that went through, what the blocks have not yet noted: memory says 'want', the log 'next' -/
structure LwNext (B wd d lo hi g b l i m t da : Nat) (S : St) (p q used : Nat) (ts : List Tx) (home want next : Nat → Nat) (w : World) : Prop where
  wld : WldAt wd b l i m t d g home want w
  dev : DevAt d lo hi S w
  log : LogAt g d b l i 1 (1 + l) m (1 + l + m) t (1 + l + m + t) (((p + used) % (l - 1) : Nat) : Int) ((l - 1 - used : Nat) : Int) (q + ts.length) 0 w
  pure : Wd S l b da p q used ts home next
/-- how a commit of a step ends -/
def Committed (B wd d lo hi g b l i m t da : Nat) (S : St) (p q used : Nat) (ts : List Tx) (home want : Nat → Nat) (chg rev : Nat → Bool) (nx : Nat → Nat) (e : Ending) (w : World) : Prop :=
  (e = .returned (.int .i64 0) ∧ used + sizeT (stepL da chg nx).length (stepR da chg rev).length ≤ l - 1 ∧ ∃ S', S'.acts ≤ S.acts + 40 ∧ (S.left < 0 → S'.left < 0) ∧
    LwNext B wd d lo hi g b l i m t da S' p q (used + sizeT (stepL da chg nx).length (stepR da chg rev).length) (ts ++ [⟨stepL da chg nx, stepR da chg rev⟩]) home want (nextOf chg rev nx home want) w) ∨
  (e = .returned (.int .i64 90) ∧ l - 1 < used + sizeT (stepL da chg nx).length (stepR da chg rev).length ∧ LwMem B wd d lo hi g b l i m t da S p q used ts home want w) ∨
  (e = .returned (.int .i64 61) ∧ ¬ S.left < 0 ∧ ∃ S', (S'.acts ≤ S.acts + 40 ∧ S'.n = S.n) ∧ DevAt d lo hi S' w ∧ WldAt wd b l i m t d g home want w ∧ ∀ S'', Left S' S'' → Tells S'' l b da (q + ts.length + 1) want ∨ Tells S'' l b da (q + ts.length + 1) (nextOf chg rev nx home want))
theorem stepD_len (da : Nat) (data : Bool) (f : Nat) : (stepD da data f).length ≤ 2 := by
  unfold stepD; cases data <;> simp
theorem cmt_len (slot l seq : Nat) (L : List (Int × ByteArray)) (R : List Int) (D : List (Int × ByteArray)) : (commitD slot l seq L R D).length ≤ D.length + 2 * sizeT L.length R.length + 2 := by
  unfold commitD
  simp only [List.length_append, List.length_map, List.length_cons, List.length_take, List.length_drop, slotsOf_length, List.length_nil]
  omega
theorem commit_lw {B wd d lo hi g b l i m t da p q used : Nat} {S : St} {ts : List Tx} {home want nx : Nat → Nat} {chg rev : Nat → Bool} {data : Bool} {f : Nat} (hok : okN b l i m t) (hf : Fit12 l b da) (ha : S.acts ≤ 800 * 1000) (hq : q + ts.length + 1 < 18446744073709551615) (va vb vd : Value) (w : World)
    (h : LwMem B wd d lo hi g b l i m t da S p q used ts home want w) (ht : Tab w) (hc : ChgsIn va (stepL da chg nx) w) (hr : IntsIn vb (stepR da chg rev) w) (hd : ChgsIn vd (stepD da data f) w) :
    Calls Tryz.prog 19 #[.pointer (some ⟨g, 0, none⟩), .agg #[va, vb], vd] w fun e w' => LogZ lo hi g w w' ∧ Committed B wd d lo hi g b l i m t da S p q used ts home want chg rev nx e w' := by
  have hl := hf.hl
  have hr1 := hf.room
  have hb4 := hf.hb
  have hn := h.pure.n
  have hs := h.pure.log.seq
  have hfit := h.pure.log.fit
  have hmod : (p + used) % (l - 1) < l - 1 := Nat.mod_lt _ (by omega)
  have hk := step_ok hf chg rev nx
  have hk2 := stepD_ok hf data f
  have hLl := stepL_len da chg nx
  have hRl := stepR_len da chg rev
  have hDl := stepD_len da data f
  have hsz := step_size da chg rev nx
  obtain ⟨sz, hsze⟩ : ∃ sz, sizeT (stepL da chg nx).length (stepR da chg rev).length = sz := ⟨_, rfl⟩
  by_cases hfull : used + sz ≤ l - 1
  · have K := jcommit_ok lo hi g d b l i m t hok (S := S) (by omega) ((p + used) % (l - 1)) (l - 1 - used) (by omega) (by omega) (q + ts.length) (by omega) (stepL da chg nx) (stepR da chg rev) (stepD da data f) (by omega) va vb vd w h.dev h.o2 h.log hc hr hd ht hk hk2 (by rw [hsze]; omega)
    refine K.mono ?_
    rintro e w' ⟨he, hd', z, hlog⟩
    refine ⟨z, ?_⟩
    have o2 := h.o2; have o1 := h.o1; have olh := h.dev.lohi
    have hwld : WldAt wd b l i m t d g home want w' := z.blk h.wld (.inl o1) (by omega)
    have hda := deeds_acts S (cmtD l p q used da ts chg rev nx data f)
    have hcl : (cmtD l p q used da ts chg rev nx data f).length ≤ (stepD da data f).length + 2 * sizeT (stepL da chg nx).length (stepR da chg rev).length + 2 := cmt_len ((p + used) % (l - 1)) l (q + ts.length) (stepL da chg nx) (stepR da chg rev) (stepD da data f)
    have hfine := commit_fine (n := S.n) (slot := (p + used) % (l - 1)) (seq := q + ts.length) hf.hl (by omega) (by omega) (by omega) (by omega) hk hk2
    rw [hsze] at hcl hsz
    rcases h.pure.commit_ends hf (data := data) (f := f) (nx := nx) (chg := chg) (rev := rev) (by rw [hsze]; exact hfull) hq with ⟨h0, hw⟩ | ⟨h1, hw⟩
    · rw [h0] at he hlog
      refine .inl ⟨he, by rw [hsze]; exact hfull, _, ?_, fun hlt => (deeds_left hfine hlt).2, ⟨hwld, hd', ?_, hw⟩⟩
      · show (deeds S (cmtD l p q used da ts chg rev nx data f)).2.acts ≤ _; omega
      · simp only [selI_yes, selN_yes] at hlog
        rw [hsze] at hlog ⊢
        have e1 : ((((p + used) % (l - 1) : Nat) : Int) + (sz : Int)) % ((l : Int) - 1) = (((p + (used + sz)) % (l - 1) : Nat) : Int) := by
          have e0 : ((l : Int) - 1) = ((l - 1 : Nat) : Int) := by omega
          rw [e0, ← Int.natCast_add, ← Int.natCast_emod, Nat.mod_add_mod, Nat.add_assoc]
        have e2 : (((l - 1 - used : Nat) : Int) - (sz : Int)) = ((l - 1 - (used + sz) : Nat) : Int) := by omega
        have e3 : (q + ts.length + 1) % 18446744073709551616 = q + (ts ++ [(⟨stepL da chg nx, stepR da chg rev⟩ : Tx)]).length := by
          rw [List.length_append, Nat.mod_eq_of_lt (by omega)]; rfl
        rw [e1, e2, e3] at hlog
        exact hlog
    · rw [h1] at he
      refine .inr (.inr ⟨he, fun hlt => ?_, _, ?_, hd', hwld, hw⟩)
      · have := (deeds_left (L := cmtD l p q used da ts chg rev nx data f) hfine hlt).1
        omega
      · exact ⟨by show (deeds S (cmtD l p q used da ts chg rev nx data f)).2.acts ≤ _; omega, deeds_n _ _⟩
  · refine (jcommit_full g d b l i 1 (1 + l) m (1 + l + m) t (1 + l + m + t) (by omega) (by omega) _ _ _ (stepL da chg nx) (by omega) (stepR da chg rev) (by omega) (stepD da data f) (by omega) va vb vd w h.log hc hr hd hk hk2 (by rw [hsze]; omega) (by omega)).mono ?_
    rintro e w' ⟨he, hb⟩
    exact ⟨.of_zone (Zone.of_below hb lo hi), .inr (.inl ⟨he, by rw [hsze]; omega, h.kept1 hb⟩)⟩
end Go.Proofs.YtanghmogeiiooaaGreatDoor

/- step, where all is settled. -/
namespace Go.Proofs.YtanghmogeiiooaaGreatDoor
set_option linter.unusedVariables false
set_option linter.unusedSimpArgs false
open Go.RowKit

theorem results_ct {P : Program} {fn : Func} {p u : Tmp} {ty : TypeId} (h : fn.results = #[.cell p ty, .tmp u]) (tmps : Array Value) (w : World) (g : Nat) (cs : Array Value) (d : TypeDesc) {T : TypeId}
    (hp : tmps.getD p undef = .pointer (some ⟨g, 0, none⟩)) (hg : Blk g cs T w)
    (hu : P.underlying ty = some d) (hd : (match d with | .struct _ | .array _ _ => true | _ => false) = true) (hi : (P.info? ty).map (·.size) = some cs.size) (v2 : Value) (h2 : tmps.getD u undef = v2) :
    (results fn tmps).run P w = .ok (.tuple #[.agg cs, v2]) w := by
  rw [results_cell_tmp h, hp, h2]
  simp [asAddr, run_loadVar_row w g T ty cs (0, 0) d hg hu hd hi, Result.andThen]
section
variable {B wd d lo hi g b l i m t da p q used lo2 hi2 : Nat} {S : St} {ts : List Tx} {home want : Nat → Nat} {w w' : World}
theorem LwMem.keptZ (h : LwMem B wd d lo hi g b l i m t da S p q used ts home want w) (z : Zone lo2 hi2 w w') (hg : g < lo2) : LwMem B wd d lo hi g b l i m t da S p q used ts home want w' := by
  have o1 := h.o1; have o2 := h.o2; have olh := h.dev.lohi
  exact ⟨Blk.kept h.wld z (.inl (by omega)), h.dev.kept z (.inl (by omega)), Blk.kept h.log z (.inl hg), h.pure, h.bh, h.bw, h.bot, o1, o2⟩
theorem Settled.keptZ {e : Ending} (h : Settled B wd d lo hi g b l i m t da S q ts home want e w) (z : Zone lo2 hi2 w w') (hg : g < lo2) (hh : hi ≤ lo2) (hw : wd < lo2) : Settled B wd d lo hi g b l i m t da S q ts home want e w' := by
  rcases h with ⟨h1, S', p', q', ts', a1, a2, a3, a4⟩ | ⟨h1, h2, S', a1, a2, a3, a4⟩
  · exact .inl ⟨h1, S', p', q', ts', a1, a2, a3, a4.keptZ z hg⟩
  · exact .inr ⟨h1, h2, S', a1, a2.kept z (.inl hh), Blk.kept a3 z (.inl hw), a4⟩
theorem Settled.wants {e : Ending} (h : Settled B wd d lo hi g b l i m t da S q ts home want e w) : ∃ home', WldAt wd b l i m t d g home' want w := by
  rcases h with ⟨h1, S', p', q', ts', a1, a2, a3, a4⟩ | ⟨h1, h2, S', a1, a2, a3, a4⟩
  · exact ⟨_, a4.wld⟩
  · exact ⟨_, a3⟩
theorem Settled.code {e : Ending} (h : Settled B wd d lo hi g b l i m t da S q ts home want e w) : ∃ c : Int, e = .returned (.int .i64 c) := by
  rcases h with ⟨h1, -⟩ | ⟨h1, -⟩
  · exact ⟨_, h1⟩
  · exact ⟨_, h1⟩
end
set_option maxRecDepth 100000 in
set_option maxHeartbeats 4000000 in
theorem step_three {B wd d lo hi g b l i m t da p q used : Nat} {S : St} {ts : List Tx} {home want : Nat → Nat} (hok : okN b l i m t) (hf : Fit12 l b da) (hda : da = 1 + l + m + t) (ha : S.acts ≤ 800 * 1000) (x : StepX) (hx3 : x.kind % 4 = 3) (vc vr : Value) (w : World) (h : LwMem B wd d lo hi g b l i m t da S p q used ts home want w) (hx : StepIn x vc vr w) :
    Calls Tryz.prog 10 #[.pointer (some ⟨wd, 0, none⟩), stepV x vc vr] w fun e w' => LawZ lo hi g wd w w' ∧ ∃ c : Int, e = .returned (.tuple #[.agg (arr12 want), .int .i64 c]) ∧ Settled B wd d lo hi g b l i m t da S q ts home want (.returned (.int .i64 c)) w' := by
  have mixed : Tryz.prog.follows .mixedOrders = true := by kernel_rfl
  have gs : Tryz.prog.stoodInHeld 45 = false := by kernel_rfl
  obtain ⟨kind, chg, rev, fl, data⟩ := x
  have hk3 : (kind : Int) % 4 = 3 := by have : kind % 4 = 3 := hx3; omega
  have hgl := Blk.lt h.log
  have o1 := h.o1; have o2 := h.o2; have olh := h.dev.lohi
  obtain ⟨sb, hsb⟩ : ∃ sb, w.heap.size = sb := ⟨_, rfl⟩
  obtain ⟨wA, hwA⟩ : ∃ wA, w.alloc (.cells #[.int .u8 (kind : Int), vc, vr, .int .u8 (fl : Int), .bool data] 45) = wA := ⟨_, rfl⟩
  obtain ⟨wB, hwB⟩ : ∃ wB, wA.alloc (.cells #[.int .u8 0, .int .u8 0, .int .u8 0, .int .u8 0, .int .u8 0, .int .u8 0, .int .u8 0, .int .u8 0, .int .u8 0, .int .u8 0, .int .u8 0, .int .u8 0] 36) = wB := ⟨_, rfl⟩
  have sA : wA.heap.size = sb + 1 := by rw [← hwA, size_alloc, hsb]
  have bA : Below w.heap.size w wA := by rw [← hwA]; exact balloc1 _ _
  have bB : Below wA.heap.size wA wB := by rw [← hwB]; exact balloc1 _ _
  have kA : Blk sb #[.int .u8 (kind : Int), vc, vr, .int .u8 (fl : Int), .bool data] 45 wB := by
    have : Blk sb #[.int .u8 (kind : Int), vc, vr, .int .u8 (fl : Int), .bool data] 45 wA := by rw [← hwA, ← hsb]; exact Blk.new _ _ _
    exact this.kept1 bB
  have kB : Blk (sb + 1) (arr12 fun _ => 0) 36 wB := by rw [← hwB, ← sA]; exact Blk.new _ _ _
  have bwB : Below w.heap.size w wB := bnext bA bB
  have MB := (h.kept1 bwB).kept1 (Below.refl _ _).drew
  have SE := Lib.hid (settle_any hok hf hda ha wB.drew MB)
  have HWR := MB.wld.wantRange
  have HKB := Lib.hid (kB.kept1 (Below.refl _ _).drew)
  have e0 := kA.cell 0
  simp only [List.getElem?_toArray, List.getElem?_cons_zero] at e0
  have HWA := Lib.hid hwA
  have HWB := Lib.hid hwB
  have HSA := Lib.hid sA
  have HSB := Lib.hid hsb
  have HBB := Lib.hid bwB
  obtain ⟨ac, cc, rfl, c1, c2⟩ := u8In_len hx.vc
  obtain ⟨ar, cr, rfl, r1, r2⟩ := u8In_len hx.vr
  clear h hx hwA hwB sA bA bB kA kB bwB MB hok hf hda hsb
  go_enter Tryz.func10, Tryz.ntmps10
  go_upto_region 1 with fail
  rw [HWA.out]
  try rw [HSA.out]
  rw [HWB.out]
  try rw [HSB.out]
  go_upto_region 2 with fail
  refine wp_region_held_drew (S := fun w' => w'.rangeAt wd 23 (arr12 want).toList) mixed HWR (fun hHeld => ?_)
  refine wpAnyH_take (i := 0) (oi := _) (v := ?vk0) rfl (by kernel_rfl) (by kernel_rfl) (by kernel_rfl) (fun _ _ _ h => h) (Or.inl ⟨by kernel_rfl, ?hyk0⟩) hHeld ?restk0
  case hyk0 => (intro w9 hSw; clear hSw; go_simp; try with_reducible rfl)
  try simp only [Act.put, List.getElem_toArray, List.getElem_cons_zero, List.getElem_cons_succ, List.setIfInBounds_toArray, List.set_cons_zero, List.set_cons_succ]
  refine wpAnyH_take (i := 1) (oi := _) (v := ?vk1) rfl (by kernel_rfl) (by kernel_rfl) (by kernel_rfl) (fun _ _ _ h => h) (Or.inl ⟨by kernel_rfl, ?hyk1⟩) hHeld ?restk1
  case hyk1 => (intro w9 hSw; clear hSw; go_simp; try with_reducible rfl)
  try simp only [Act.put, List.getElem_toArray, List.getElem_cons_zero, List.getElem_cons_succ, List.setIfInBounds_toArray, List.set_cons_zero, List.set_cons_succ]
  refine wpAnyH_take (i := 2) (oi := _) (v := ?vk2) rfl (by kernel_rfl) (by kernel_rfl) (by kernel_rfl) (fun _ _ _ h => h) (Or.inl ⟨by kernel_rfl, ?hyk2⟩) hHeld ?restk2
  case hyk2 => (intro w9 hSw; clear hSw; go_simp; try with_reducible rfl)
  try simp only [Act.put, List.getElem_toArray, List.getElem_cons_zero, List.getElem_cons_succ, List.setIfInBounds_toArray, List.set_cons_zero, List.set_cons_succ]
  refine wpAnyH_take (i := 3) (oi := _) (v := .agg (arr12 want)) rfl (by kernel_rfl) (by kernel_rfl) (by kernel_rfl) (fun _ _ _ h => h) (yieldsIf_load_mid (by kernel_rfl) 36 _ rfl wd 23 rfl (arr12 want).toList _ (fun w h => h) Tryz.underlying36 rfl arr12_info) hHeld ?restk3
  try simp only [Act.put, List.getElem_toArray, List.getElem_cons_zero, List.getElem_cons_succ, List.setIfInBounds_toArray, List.set_cons_zero, List.set_cons_succ]
  refine wpAnyH_take (i := 4) (oi := _) (v := ?vk4) rfl (by kernel_rfl) (by kernel_rfl) (by kernel_rfl) (fun _ _ _ h => h) (Or.inl ⟨by kernel_rfl, ?hyk4⟩) hHeld ?restk4
  case hyk4 => (intro w9 hSw; clear hSw; go_simp; try with_reducible rfl)
  try simp only [Act.put, List.getElem_toArray, List.getElem_cons_zero, List.getElem_cons_succ, List.setIfInBounds_toArray, List.set_cons_zero, List.set_cons_succ]
  refine wpAnyH_ready (rs := [5]) (by kernel_rfl) (by simp) ?_
  refine AllReadyH.cons (o := _) rfl (fun K hK => ?_) AllReadyH.nil
  go_simp
  refine SE.out.mono ?_; rintro e w5 ⟨z5, hs5⟩
  obtain ⟨c, rfl⟩ := hs5.code
  obtain ⟨home', hw5⟩ := hs5.wants
  have HR5 := hw5.wantRange
  have k5 := z5.blk HKB.out (.inr (by have := HSB.out; omega)) (by have := HSB.out; omega) (by have := HSB.out; omega)
  obtain ⟨w6, hw6⟩ : ∃ w6, w5.setRow (sb + 1) (arr12 want) = w6 := ⟨_, rfl⟩
  have k6 : Blk (sb + 1) (arr12 want) 36 w6 := by rw [← hw6]; exact setRow_heap _ (sb + 1) _ _ _ _ k5
  have z6 : Zone (sb + 1) (sb + 1 + 1) w5 w6 := by rw [← hw6]; exact ⟨rfl, rfl, rfl, by simp, fun j _ hj => setRow_other _ (sb + 1) j _ (by omega)⟩
  have HS6 := Lib.hid (hs5.keptZ z6 (by have := HSB.out; omega) (by have := HSB.out; omega) (by have := HSB.out; omega))
  obtain ⟨home6, hw6w⟩ := HS6.out.wants
  have HR6 := hw6w.wantRange
  have HZ : Hid (LawZ lo hi g wd w w6) := Lib.hid (by
    have z0 : LawZ lo hi g wd w wB.drew := .of_below HBB.out.drew
    have z56 := z0.trans z5
    exact ⟨z6.os.trans z56.os, z6.tape.trans z56.tape, z6.output.trans z56.output, Nat.le_trans z56.size z6.size, fun k hk h1 h2 h3 => (z6.block k (Nat.lt_of_lt_of_le hk z56.size) (.inl (by have := HSB.out; omega))).trans (z56.block k hk h1 h2 h3)⟩)
  have HW6 := Lib.hid hw6
  have HK5 := Lib.hid k5
  have HK6 := Lib.hid k6
  clear z5 hs5 hw5 hw6 z6 hw6w k5 k6
  dsimp only
  refine hK.out _ _ HR5 (fun hHeld3 => ?_)
  clear hK K hHeld
  have hHeld := hHeld3
  clear hHeld3
  try simp only [Act.put, List.getElem_toArray, List.getElem_cons_zero, List.getElem_cons_succ, List.setIfInBounds_toArray, List.set_cons_zero, List.set_cons_succ]
  refine wpAnyH_ready (rs := [6]) (by kernel_rfl) (by simp) ?_
  refine AllReadyH.cons (o := _) rfl (fun K hK => ?_) AllReadyH.nil
  rw [if_pos (by kernel_rfl)]
  refine wp_store_row 36 _ _ rfl (sb + 1) (arr12 want) rfl rfl _ _ HK5.out arr12_info rfl (by simp [Value.oneCell']) ?_
  rw [HW6.out]
  refine hK.out _ _ HR6 (fun hHeld3 => ?_)
  clear hK K hHeld
  have hHeld := hHeld3
  clear hHeld3
  try simp only [Act.put, List.getElem_toArray, List.getElem_cons_zero, List.getElem_cons_succ, List.setIfInBounds_toArray, List.set_cons_zero, List.set_cons_succ]
  refine wpAnyH_take (i := 7) (oi := _) (v := ?vk7) rfl (by kernel_rfl) (by kernel_rfl) (by kernel_rfl) (fun _ _ _ h => h) (Or.inl ⟨by kernel_rfl, ?hyk7⟩) hHeld ?restk7
  case hyk7 => (intro w9 hSw; clear hSw; go_simp; try with_reducible rfl)
  try simp only [Act.put, List.getElem_toArray, List.getElem_cons_zero, List.getElem_cons_succ, List.setIfInBounds_toArray, List.set_cons_zero, List.set_cons_succ]
  refine ⟨by kernel_rfl, ?_⟩
  clear hHeld HR5 HR6 HWR
  go_wp2_with fail
  exact bodyPost_ret (results_ct (P := Tryz.prog) rfl _ _ (sb + 1) (arr12 want) _ rfl HK6.out Tryz.underlying36 rfl arr12_info _ rfl) rfl ⟨HZ.out, c, rfl, HS6.out⟩
end Go.Proofs.YtanghmogeiiooaaGreatDoor

/- Blocks that look like records: the transaction that bears them, and what stands behind it. -/
namespace Go.Proofs.YtanghmogeiiooaaGreatDoor
set_option linter.unusedVariables false
open Go.RowKit

/-- the changes: the blocks B at da, da + 1, .. -/
def mkL (da : Nat) (B : List ByteArray) : List (Int × ByteArray) := (List.range B.length).map fun k => (((da + k : Nat) : Int), (B[k]?).getD ⟨#[]⟩)
theorem mkL_length (da : Nat) (B : List ByteArray) : (mkL da B).length = B.length := by unfold mkL; simp
theorem mkL_fst (da : Nat) (B : List ByteArray) : (mkL da B).map Prod.fst = (List.range B.length).map fun k => ((da + k : Nat) : Int) := by unfold mkL; rw [List.map_map]; rfl
theorem mkL_nil (da : Nat) : mkL da [] = [] := rfl
theorem mkL_snoc (da : Nat) (B : List ByteArray) (s : ByteArray) : mkL da (B ++ [s]) = mkL da B ++ [(((da + B.length : Nat) : Int), s)] := by
  unfold mkL
  rw [List.length_append, show [s].length = 1 from rfl, List.range_succ, List.map_append]
  congr 1
  · refine List.map_congr_left fun k hk => ?_
    have hk := List.mem_range.1 hk
    rw [List.getElem?_append_left hk]
  · simp
theorem mkL_mem {da : Nat} {B : List ByteArray} {k : Nat} (hk : k < B.length) : (((da + k : Nat) : Int), B[k]) ∈ mkL da B :=
  List.mem_map.2 ⟨k, List.mem_range.2 hk, by rw [List.getElem?_eq_getElem hk]; rfl⟩
theorem mkL_get {da : Nat} {B : List ByteArray} {k : Nat} (hk : k < B.length) (hk2 : k < (mkL da B).length) : (mkL da B)[k] = (((da + k : Nat) : Int), B[k]) := by
  simp only [mkL, List.getElem_map, List.getElem_range]
  rw [List.getElem?_eq_getElem hk]; rfl
theorem mkL_up (da : Nat) (B : List ByteArray) : ((mkL da B).map Prod.fst).Pairwise (· < ·) := by
  rw [mkL_fst, List.pairwise_map]
  exact List.pairwise_lt_range.imp fun h => by omega
theorem mkL_full {da : Nat} {B : List ByteArray} (h : ∀ s ∈ B, s.size = 128) : ∀ c ∈ mkL da B, c.2.size = 128 := fun c hc => by
  obtain ⟨k, hk, rfl⟩ := List.mem_map.1 hc
  have hk := List.mem_range.1 hk
  show ((B[k]?).getD ⟨#[]⟩).size = 128
  rw [List.getElem?_eq_getElem hk]
  exact h _ (List.getElem_mem hk)
theorem mkL_ok {l b da : Nat} (hf : Fit12 l b da) {B : List ByteArray} (hB : B.length ≤ 12) (h : ∀ s ∈ B, s.size = 128) : chgsOk (hmB (b : Nat) 1 (l : Nat)) (mkL da B) = true := by
  unfold chgsOk
  rw [Bool.and_eq_true]
  refine ⟨List.all_eq_true.2 fun c hc => decide_eq_true (mkL_full h c hc), decide_eq_true (rise_of (mkL_up da B) fun x hx => ?_)⟩
  rw [mkL_fst] at hx
  obtain ⟨k, hk, rfl⟩ := List.mem_map.1 hx
  exact hm12 hf (by have := List.mem_range.1 hk; omega)
theorem mkL_txn {l b da : Nat} (hf : Fit12 l b da) {B : List ByteArray} (hB : B.length ≤ 12) (h : ∀ s ∈ B, s.size = 128) : txnOk (hmB (b : Nat) 1 (l : Nat)) (mkL da B) [] = true := by
  unfold txnOk
  rw [mkL_ok hf hB h, Bool.true_and, Bool.and_eq_true]
  exact ⟨decide_eq_true (fun j hj => absurd hj (Nat.not_lt_zero _)), List.all_eq_true.2 fun x _ => rfl⟩
/-- the device, and its log, behind some transactions -/
structure Mk (S : St) (l b : Nat) (ts : List Tx) (used : Nat) : Prop where
  n : S.n = b
  inv : LogInv S l (hmB (b : Nat) 1 (l : Nat)) 0 1 ts used
  clean : Clean S
  acts : S.acts ≤ 100 * 1000
  left : S.left = -1
  full : Full128 ts
theorem mk_began {l b da : Nat} (hf : Fit12 l b da) : Mk (beganS b l) l b [] 0 := by
  have h := began_wd hf
  have hl := hf.hl
  exact ⟨h.n, h.log, h.clean, by rw [began_acts]; omega, began_left, full_nil⟩
theorem commitD_len (slot l seq : Nat) (L : List (Int × ByteArray)) : (commitD slot l seq L [] []).length ≤ 2 * sizeT L.length 0 + 2 := by
  unfold commitD
  simp only [List.length_append, List.length_map, List.length_cons, List.length_take, List.length_drop, slotsOf_length, List.length_nil]
  omega
theorem size12 {n : Nat} (h : n ≤ 12) : 1 ≤ sizeT n 0 ∧ sizeT n 0 ≤ 14 := by unfold sizeT; omega
theorem Mk.commit {S : St} {l b da used : Nat} {ts : List Tx} (hf : Fit12 l b da) (h : Mk S l b ts used) {B : List ByteArray} (hB : B.length ≤ 12) (hb : ∀ s ∈ B, s.size = 128) (hu : used ≤ 14) (ht : ts.length ≤ 4) (ha : S.acts ≤ 90 * 1000) :
    deeds S (commitD used l (1 + ts.length) (mkL da B) [] []) = (0, runD S (commitD used l (1 + ts.length) (mkL da B) [] [])) ∧ Mk (runD S (commitD used l (1 + ts.length) (mkL da B) [] [])) l b (ts ++ [⟨mkL da B, []⟩]) (used + sizeT B.length 0) := by
  have hl := hf.hl
  have hr := hf.room
  have hb4 := hf.hb
  have hz := size12 hB
  have hn := h.n
  have hk := mkL_txn hf hB hb
  have hlen := mkL_length da B
  have e : (0 + used) % (l - 1) = used := by rw [Nat.zero_add, Nat.mod_eq_of_lt (by omega)]
  have hlen2 := commitD_len used l (1 + ts.length) (mkL da B)
  rw [hlen] at hlen2
  refine ⟨deeds_live (commit_fine hl (by omega) (by omega) (by omega) (by omega) hk rfl) (.inl (by rw [h.left]; decide)), ⟨(runD_n _ _).trans hn, ?_, commit_clean _ _ _ _ _ _ _, by rw [runD_acts]; omega, by rw [runD_left_all (by rw [h.left]; decide)]; exact h.left, full_snoc h.full (mkL_full hb)⟩⟩
  have := h.inv.commit hl (by omega) (by omega) (by omega) (L := mkL da B) (D := []) (R := []) hk rfl (by rw [hlen]; show used + sizeT B.length 0 ≤ l - 1; omega) (by omega)
  rw [e, hlen] at this
  exact this
/-- a device opened of what is left of a clean one has the same texts -/
theorem left_same {S S' : St} (hc : Clean S) (h : Left S S') {x : Nat} (hx : x < S.n) : rText S' (x : Int) = rText S (x : Int) := by
  have hn := h.n
  rw [rText_in (by omega) (by omega), rText_in (by omega) (by omega), Int.toNat_natCast]
  rcases h.text x hx with e | e
  · rw [e, hc x hx]
  · exact e.2
theorem Mk.opened {S : St} {l b da used : Nat} {ts : List Tx} (hf : Fit12 l b da) (h : Mk S l b ts used) (hok : S.ok) : Mk (freshSt S.n (blkOf 128 (cat S.was S.n))) l b ts used := by
  have hl := hf.hl
  have hr := hf.room
  have hn := h.n
  have hL := left_kept hok
  refine ⟨hn, h.inv.same hl fun x h1 h2 => left_same h.clean hL (by omega), hL.clean, by show (0 : Nat) ≤ _; omega, rfl, h.full⟩
/-- what a replay makes of it: each block is where the last transaction put it -/
theorem Mk.replay {S : St} {l b da used : Nat} {ts : List Tx} (hf : Fit12 l b da) {B : List ByteArray} (h : Mk S l b (ts ++ [⟨mkL da B, []⟩]) used) (hB : B.length ≤ 12) :
    logOf S b 1 l = some (ts ++ [⟨mkL da B, []⟩], used) ∧ deeds S (replD S b l (ts ++ [⟨mkL da B, []⟩], used)) = (0, runD S (replD S b l (ts ++ [⟨mkL da B, []⟩], used))) ∧
      (runD S (replD S b l (ts ++ [⟨mkL da B, []⟩], used))).n = b ∧ ∀ k (hk : k < B.length), rText (runD S (replD S b l (ts ++ [⟨mkL da B, []⟩], used))) ((da + k : Nat) : Int) = B[k] := by
  have hl := hf.hl
  have hr := hf.room
  have hn := h.n
  have hd := hf.hda
  have ht := hf.htop
  refine ⟨h.inv.is hl, deeds_live (replay_fine hl hn hr h.inv h.full) (.inl (by rw [h.left]; decide)), (runD_n _ _).trans hn, fun k hk => ?_⟩
  rw [replay_text hl (by omega) h.inv (da + k) (by omega) (by omega)]
  rw [net_put (t := ⟨mkL da B, []⟩) (up_nodup (mkL_up da B)) (mkL_mem hk) (by simp)]
  rfl
end Go.Proofs.YtanghmogeiiooaaGreatDoor
