import Derived.Test.YtanghmogeiiooaaGreatDoorPa20
import Derived.Test.YtanghmogeiiooaaGreatDoorPa45
import Derived.Test.YtanghmogeiiooaaGreatDoorPa39
import Derived.Test.YtanghmogeiiooaaGreatDoorPa21
import Derived.Test.YtanghmogeiiooaaGreatDoorPa22
import Derived.Test.YtanghmogeiiooaaGreatDoorPa44
import Derived.Test.YtanghmogeiiooaaGreatDoorPa26
set_option linter.unusedVariables false
set_option linter.unusedSimpArgs false
set_option linter.constructorNameAsVariable false
/- The chapter's log (alive): the device's states, by the state mathematics alone. -/
namespace Go.Proofs.YtanghmogeiiooaaGreatDoor
set_option linter.unusedVariables false
open Go.RowKit

def mX : ByteArray := rep 120
def mY : ByteArray := rep 121
def mL : List (Int × ByteArray) := [(180, mX), (190, mY)]
def mT : Tx := ⟨mL, []⟩
def mS0 : St := freshSt 256 zeroB
def mS1 : St := runD mS0 (fmtD 128)
def mS2 : St := runD mS1 (commitD 0 128 1 mL [] [])
def mH1 : ByteArray := blk (headR 0 1)
def mH2 : ByteArray := blk (headR 4 2)
def mD : ByteArray := blk (descR 1 mL)
def mCO : ByteArray := blk (comR 1 (sumOf (bodyOf 1 [] [mL])))
theorem mX_size : mX.size = 128 := rep_size _
theorem mY_size : mY.size = 128 := rep_size _
theorem head1 : IsBlk mH1 ∧ readR mH1 = headR 0 1 := by obtain ⟨a, b⟩ := headR_ok (slot := 0) (seq := 1) (by omega) (by omega); exact isBlk_of a b
theorem head2 : IsBlk mH2 ∧ readR mH2 = headR 4 2 := by obtain ⟨a, b⟩ := headR_ok (slot := 4) (seq := 2) (by omega) (by omega); exact isBlk_of a b
theorem mL_ok : HomesOk (mL.map Prod.fst) 24 := by show HomesOk [180, 190] 24; decide
theorem mB : blocksT 1 mL [] = [mD, maskV mX, maskV mY, mCO] := rfl
theorem mD_size : mD.size = 128 := blk_size (descR_ok (by omega) mL_ok).1
theorem mCO_size : mCO.size = 128 := blk_size (comR_ok (by omega) (moreV_lt _ _ (by omega))).1
theorem mC : commitD 0 128 1 mL [] [] = [.write 2 mD, .write 3 (maskV mX), .write 4 (maskV mY), .flush, .write 5 mCO, .flush] := by
  unfold commitD
  rw [mB, show sizeT mL.length ([] : List Int).length = 4 from rfl]
  have e : slotsOf 1 ((128 : Nat) : Int) 0 [mD, maskV mX, maskV mY, mCO] 4 = [(2, mD), (3, maskV mX), (4, maskV mY), (5, mCO)] := by
    unfold slotsOf
    simp [List.range, List.range.loop]
  simp only [e]
  simp [writesD]
theorem mC_len : (commitD 0 128 1 mL [] []).length = 6 := by rw [mC]; rfl
theorem mC_fine : ∀ a ∈ commitD 0 128 1 mL [] [], a.fine 256 := by
  rw [mC]
  intro a ha
  simp only [List.mem_cons, List.not_mem_nil, or_false] at ha
  rcases ha with rfl | rfl | rfl | rfl | rfl | rfl
  · exact ⟨by omega, by omega, mD_size⟩
  · exact ⟨by omega, by omega, maskV_size mX_size⟩
  · exact ⟨by omega, by omega, maskV_size mY_size⟩
  · trivial
  · exact ⟨by omega, by omega, mCO_size⟩
  · trivial
theorem fmt_mem : ∀ c ∈ slotsOf 1 (128 : Nat) 0 (List.replicate (128 - 1) zeros) (128 - 1), 0 ≤ c.1 ∧ c.1 < ((256 : Nat) : Int) ∧ c.1 ≠ 1 ∧ c.2 = zeros := by
  intro c hc
  unfold slotsOf at hc
  obtain ⟨i, hi, rfl⟩ := List.mem_map.1 hc
  have hi := List.mem_range.1 hi
  refine ⟨by simp only; omega, by simp only; omega, by simp only; omega, ?_⟩
  simp only
  rw [List.getElem?_replicate, if_pos hi]; rfl
theorem fmt_fine : ∀ a ∈ fmtD 128, a.fine 256 := by
  unfold fmtD
  refine fine_append (writes_fine fun c hc => ?_) fun a ha => ?_
  · obtain ⟨h1, h2, -, h4⟩ := fmt_mem c hc
    exact ⟨h1, h2, by rw [h4]; exact zeros_size⟩
  · simp only [List.mem_cons, List.not_mem_nil, or_false] at ha
    rcases ha with rfl | rfl | rfl
    · trivial
    · exact ⟨by omega, by omega, blk_size (headR_ok (slot := 0) (seq := 1) (by omega) (by omega)).1⟩
    · trivial
theorem mS0_text (y : Int) (h0 : 0 ≤ y) (h1 : y < 256) : rText mS0 y = zeros := by rw [rText_in h0 (by show y < ((256 : Nat) : Int); omega)]; rfl
theorem mS1_n : mS1.n = 256 := runD_n _ _
theorem mS1_left : mS1.left = -1 := runD_left_all (by decide) _
theorem mS1_acts : mS1.acts = 130 := by unfold mS1; rw [runD_acts, fmtD_length]; rfl
theorem mS1_deeds : deeds mS0 (fmtD 128) = (0, mS1) := deeds_live fmt_fine (.inl (by decide))
theorem mS1_eq : mS1 = (((runD mS0 (writesD (slotsOf 1 (128 : Nat) 0 (List.replicate (128 - 1) zeros) (128 - 1)))).flushed).wrote 1 mH1).flushed := by
  unfold mS1 fmtD; rw [runD_append]; rfl
theorem mS1_head : rText mS1 1 = mH1 := by
  rw [mS1_eq, rText_flush]
  exact rtext_at (x := 1) (by rw [flushed_n, runD_n]; exact (show 1 < 256 by omega))
theorem mS1_text (y : Int) (h0 : 0 ≤ y) (h1 : y < 256) (h : y ≠ 1) : rText mS1 y = zeros := by
  rw [mS1_eq, rText_flush]
  have e := rText_wrote_ne (S := (runD mS0 (writesD (slotsOf 1 (128 : Nat) 0 (List.replicate (128 - 1) zeros) (128 - 1)))).flushed) (x := 1) (y := y) (d := mH1) (by omega) h
  rw [show ((1 : Int).toNat) = 1 from rfl] at e
  rw [e, rText_flush]
  exact rText_all_same (n := 256) _ _ rfl h0 (by omega) (fun c hc => ⟨(fmt_mem c hc).1, (fmt_mem c hc).2.2.2⟩) (mS0_text y h0 h1)
theorem mS2_n : mS2.n = 256 := (runD_n _ _).trans mS1_n
theorem mS2_left : mS2.left = -1 := (runD_left_all (by rw [mS1_left]; decide) _).trans mS1_left
theorem mS2_acts : mS2.acts = 136 := by unfold mS2; rw [runD_acts, mC_len, mS1_acts]
theorem mS2_deeds : deeds mS1 (commitD 0 128 1 mL [] []) = (0, mS2) := deeds_live (by rw [mS1_n]; exact mC_fine) (.inl (by rw [mS1_left]; decide))
theorem mS2_eq : mS2 = (((((mS1.wrote 2 mD).wrote 3 (maskV mX)).wrote 4 (maskV mY)).flushed).wrote 5 mCO).flushed := by unfold mS2; rw [mC]; rfl
theorem mS2_other (y : Int) (h : y < 2 ∨ 6 ≤ y) : rText mS2 y = rText mS1 y := by
  rw [mS2_eq, rText_flush, rtext_ne (by omega), rText_flush, rtext_ne (by omega), rtext_ne (by omega), rtext_ne (by omega)]
theorem mS2_2 : rText mS2 2 = mD := by
  rw [mS2_eq, rText_flush, rtext_ne (by omega), rText_flush, rtext_ne (by omega), rtext_ne (by omega)]
  exact rtext_at (x := 2) (by rw [mS1_n]; omega)
theorem mS2_3 : rText mS2 3 = maskV mX := by
  rw [mS2_eq, rText_flush, rtext_ne (by omega), rText_flush, rtext_ne (by omega)]
  exact rtext_at (x := 3) (by simp only [wrote_n, flushed_n, mS1_n]; omega)
theorem mS2_4 : rText mS2 4 = maskV mY := by
  rw [mS2_eq, rText_flush, rtext_ne (by omega), rText_flush]
  exact rtext_at (x := 4) (by simp only [wrote_n, flushed_n, mS1_n]; omega)
theorem mS2_5 : rText mS2 5 = mCO := by
  rw [mS2_eq, rText_flush]
  exact rtext_at (x := 5) (by simp only [wrote_n, flushed_n, mS1_n]; omega)
theorem slot_at (S : St) (p : Nat) (h : p < 127) : slotT S 1 (128 : Nat) p = rText S (p + 2 : Nat) := by
  unfold slotT; congr 1; omega
theorem mLog1 : logOf mS1 (256 : Nat) 1 (128 : Nat) = some ([], 0) := by
  unfold logOf
  rw [mS1_head, head1.2, if_pos ⟨head1.1, rfl, by show (0 : Int) < _; omega⟩]
  refine congrArg some (logFrom_none (stand_no (.inl ?_)))
  show ¬ IsBlk (slotT mS1 1 (128 : Nat) 0)
  rw [slot_at _ _ (by omega), mS1_text _ (by omega) (by omega) (by omega)]
  exact zeros_no
theorem lies_four {rd : Nat → ByteArray} {a b c e : ByteArray} (h0 : rd 0 = a) (h1 : rd 1 = b) (h2 : rd 2 = c) (h3 : rd 3 = e) : Lies rd 0 [a, b, c, e] := fun i hi => by
  rw [Nat.zero_add]
  match i, hi with
  | 0, _ => exact h0
  | 1, _ => exact h1
  | 2, _ => exact h2
  | 3, _ => exact h3
theorem mLies : Lies (slotT mS2 1 (128 : Nat)) 0 [mD, maskV mX, maskV mY, mCO] :=
  lies_four (by rw [slot_at _ _ (by omega), show ((0 + 2 : Nat) : Int) = 2 by omega, mS2_2]) (by rw [slot_at _ _ (by omega), show ((1 + 2 : Nat) : Int) = 3 by omega, mS2_3])
    (by rw [slot_at _ _ (by omega), show ((2 + 2 : Nat) : Int) = 4 by omega, mS2_4]) (by rw [slot_at _ _ (by omega), show ((3 + 2 : Nat) : Int) = 5 by omega, mS2_5])
theorem mLog2 : logOf mS2 (256 : Nat) 1 (128 : Nat) = some ([mT], 4) := by
  unfold logOf
  rw [mS2_other 1 (by omega), mS1_head, head1.2, if_pos ⟨head1.1, rfl, by show (0 : Int) < _; omega⟩]
  refine congrArg some (logFrom_stands [mT] _ 0 [] 4 (by omega) (by omega) ⟨4, ?_, rfl⟩ (stand_no (.inl ?_)))
  · refine stand_whole (cs := []) (gs := [mL]) (seq := 1) (by omega) mLies (by simp) (fun g hg => ?_) (by decide)
    · rw [List.mem_singleton.1 hg]; exact ⟨mL_ok, rfl⟩
  · show ¬ IsBlk (slotT mS2 1 (128 : Nat) 4)
    rw [slot_at _ _ (by omega), mS2_other _ (by omega), mS1_text _ (by omega) (by omega) (by omega)]
    exact zeros_no
set_option maxRecDepth 100000 in
theorem mHome (X Y : ByteArray) : homeL 256 (net [⟨[(180, X), (190, Y)], []⟩]) = [(180, X), (190, Y)] := by kernel_rfl
def mS3 : St := runD mS2 (replD mS2 256 128 ([mT], 4))
theorem mR : replD mS2 256 128 ([mT], 4) = [.write 180 mX, .write 190 mY, .flush, .write 1 mH2, .flush] := by
  unfold replD
  rw [mS2_other 1 (by omega), mS1_head, head1.2]
  show writesD (homeL 256 (net [⟨[(180, mX), (190, mY)], []⟩])) ++ _ = _
  rw [mHome]
  rfl
theorem mR_fine : ∀ a ∈ replD mS2 256 128 ([mT], 4), a.fine 256 := by
  rw [mR]
  intro a ha
  simp only [List.mem_cons, List.not_mem_nil, or_false] at ha
  rcases ha with rfl | rfl | rfl | rfl | rfl
  · exact ⟨by omega, by omega, mX_size⟩
  · exact ⟨by omega, by omega, mY_size⟩
  · trivial
  · exact ⟨by omega, by omega, blk_size (headR_ok (slot := 4) (seq := 2) (by omega) (by omega)).1⟩
  · trivial
theorem mS3_deeds : deeds mS2 (replD mS2 256 128 ([mT], 4)) = (0, mS3) := deeds_live (by rw [mS2_n]; exact mR_fine) (.inl (by rw [mS2_left]; decide))
theorem mS3_n : mS3.n = 256 := (runD_n _ _).trans mS2_n
theorem mS3_eq : mS3 = ((((mS2.wrote 180 mX).wrote 190 mY).flushed).wrote 1 mH2).flushed := by unfold mS3; rw [mR]; rfl
theorem mS3_acts : mS3.acts = 141 := by unfold mS3; rw [runD_acts, mR, mS2_acts]; rfl
theorem mS3_head : rText mS3 1 = mH2 := by
  rw [mS3_eq, rText_flush]
  exact rtext_at (x := 1) (by simp only [wrote_n, flushed_n, mS2_n]; omega)
theorem mS3_190 : rText mS3 190 = mY := by
  rw [mS3_eq, rText_flush, rtext_ne (by omega), rText_flush]
  exact rtext_at (x := 190) (by simp only [wrote_n, flushed_n, mS2_n]; omega)
theorem mS3_6 : rText mS3 6 = zeros := by
  rw [mS3_eq, rText_flush, rtext_ne (by omega), rText_flush, rtext_ne (by omega), rtext_ne (by omega), mS2_other _ (by omega), mS1_text _ (by omega) (by omega) (by omega)]
theorem mLog3 : logOf mS3 (256 : Nat) 1 (128 : Nat) = some ([], 0) := by
  unfold logOf
  rw [mS3_head, head2.2, if_pos ⟨head2.1, rfl, by show (4 : Int) < _; omega⟩]
  refine congrArg some (logFrom_none (stand_no (.inl ?_)))
  show ¬ IsBlk (slotT mS3 1 (128 : Nat) 4)
  rw [slot_at _ _ (by omega)]
  show ¬ IsBlk (rText mS3 6)
  rw [mS3_6]
  exact zeros_no
theorem mOk1 : txnOk (hmB (256 : Nat) 1 (128 : Nat)) mL [] = true := by
  unfold txnOk chgsOk
  rw [Bool.and_eq_true_iff, Bool.and_eq_true_iff, Bool.and_eq_true_iff]
  refine ⟨⟨⟨?_, by decide⟩, by decide⟩, by decide⟩
  show (decide (mX.size = 128) && (decide (mY.size = 128) && true)) = true
  rw [mX_size, mY_size]; rfl
theorem mOk2 (z : ByteArray) : txnOk (hmB (256 : Nat) 1 (128 : Nat)) [(3, z)] [] = false := by
  unfold txnOk chgsOk
  rw [show decide (riseTo (hmB (256 : Nat) 1 (128 : Nat)) ([((3 : Int), z)].map Prod.fst) ([((3 : Int), z)].map Prod.fst).length) = false from by
    show decide (riseTo (hmB 256 1 128) [3] 1) = false
    decide]
  rw [Bool.and_false, Bool.false_and, Bool.false_and]
end Go.Proofs.YtanghmogeiiooaaGreatDoor

/- The chapter's log: each call's contract, in numbers; what is kept. -/
namespace Go.Proofs.YtanghmogeiiooaaGreatDoor
set_option linter.unusedVariables false
open Go.RowKit

theorem aOk : okN 256 128 8 1 4 := by unfold okN; omega
abbrev aG : Value := geo 256 128 8 1 129 1 130 4 134
abbrev aLog (g d : Nat) (slot left : Int) (seq : Nat) (failed : Int) (w : World) : Prop := LogAt g d 256 128 8 1 129 1 130 4 134 slot left seq failed w
theorem a_of (w : World) : Calls Tryz.prog 51 #[.int .i64 256, .int .i64 128, .int .i64 8] w fun e w' => e = .returned (.tuple #[aG, .int .i64 0]) ∧ Below w.heap.size w w' := of_yes 256 128 8 1 4 aOk w
theorem a_new (w : World) : Calls Tryz.prog 29 #[.int .i64 256] w fun e w' => ∃ d, e = .returned (.tuple #[.pointer (some ⟨d, 0, none⟩), .int .i64 0]) ∧ DevAt d w.heap.size w'.heap.size mS0 w' ∧ Below w.heap.size w w' := new_yes 256 (by omega) (by omega) w
theorem a_fmt (d lo hi : Nat) (w : World) (h : DevAt d lo hi mS0 w) : Calls Tryz.prog 30 #[.pointer (some ⟨d, 0, none⟩), aG] w fun e w' => e = .returned (.int .i64 0) ∧ DevAt d lo hi mS1 w' ∧ Zone lo hi w w' := by
  have := jformat_ok d lo hi 256 128 8 1 4 aOk (S := mS0) rfl (by decide) w h
  rw [mS1_deeds] at this
  exact this
theorem a_open (d lo hi : Nat) (w : World) (h : DevAt d lo hi mS1 w) (ht : Tab w) : Calls Tryz.prog 16 #[.pointer (some ⟨d, 0, none⟩), aG] w fun e w' => ∃ g, e = .returned (.tuple #[.pointer (some ⟨g, 0, none⟩), .int .i64 0]) ∧ w.heap.size ≤ g ∧ aLog g d 0 127 1 0 w' ∧ Below w.heap.size w w' := by
  have := jopen_ok d lo hi 256 128 8 1 4 aOk (S := mS1) mS1_n w h ht ([], 0) mLog1
  rw [mS1_head, head1.2] at this
  exact this
theorem a_commit (d lo hi g : Nat) (vc vr : Value) (w : World) (hdev : DevAt d lo hi mS1 w) (hgh : hi ≤ g) (h : aLog g d 0 127 1 0 w) (hc : ChgsIn vc mL w) (hr : IntsIn vr [] w) (ht : Tab w) :
    Calls Tryz.prog 19 #[.pointer (some ⟨g, 0, none⟩), .agg #[vc, vr], .slice none 0 0] w fun e w' => e = .returned (.int .i64 0) ∧ DevAt d lo hi mS2 w' ∧ LogZ lo hi g w w' ∧ aLog g d 4 123 2 0 w' := by
  have := jcommit_ok lo hi g d 256 128 8 1 4 aOk (S := mS1) (by rw [mS1_acts]; omega) 0 127 (by omega) (by omega) 1 (by omega) mL [] [] (by simp) vc vr (.slice none 0 0) w hdev hgh h hc hr (RowIn.nil 2 w) ht mOk1 rfl (by decide)
  rw [mS2_deeds] at this
  exact this
theorem a_replay (d lo hi : Nat) (w : World) (h : DevAt d lo hi mS2 w) (ht : Tab w) : Calls Tryz.prog 13 #[.pointer (some ⟨d, 0, none⟩), aG] w fun e w' => ∃ v, e = .returned (.tuple #[v, .int .i64 0]) ∧ TxnsOwn w.heap.size v [mT] w' ∧ DevAt d lo hi mS3 w' ∧ Zone lo hi w w' := by
  have := jreplay_ok d lo hi 256 128 8 1 4 aOk (S := mS2) mS2_n (by rw [mS2_acts]; omega) w h ht ([mT], 4) mLog2 (by simp)
  rw [mS3_deeds] at this
  exact this
theorem a_again (d lo hi : Nat) (w : World) (h : DevAt d lo hi mS3 w) (ht : Tab w) : Calls Tryz.prog 13 #[.pointer (some ⟨d, 0, none⟩), aG] w fun e w' => e = .returned (.tuple #[.slice none 0 0, .int .i64 0]) ∧ Below w.heap.size w w' :=
  jreplay_empty d lo hi 256 128 8 1 4 aOk (S := mS3) mS3_n w h ht ([], 0) mLog3 rfl
theorem a_read (d lo hi : Nat) (w : World) (h : DevAt d lo hi mS3 w) : Calls Tryz.prog 42 #[.pointer (some ⟨d, 0, none⟩), .int .i64 190] w fun e w' => e = .returned (.tuple #[.string mY, .int .i64 0]) ∧ w = w' := by
  have := read_any 190 w h
  rw [mS3_190, show rCode mS3 190 = 0 from by unfold rCode; rw [if_pos (by rw [mS3_n]; omega)]] at this
  exact this
theorem a_fill (b : Nat) (hb : b < 256) (w : World) : Calls Tryz.prog 20 #[.int .u8 (b : Int)] w fun e w' => e = .returned (.string (rep b)) ∧ Below w.heap.size w w' := by
  have B := Lib.hid (block_of b hb w)
  go_enter Tryz.func20, Tryz.ntmps20
  go_wp2_with fail
  refine B.out.mono ?_; rintro e w1 ⟨rfl, b1⟩
  go_wp2
  go_ret
  exact ⟨rfl, b1⟩
theorem a_bad (d g : Nat) (z : ByteArray) (vc : Value) (w : World) (h : aLog g d 4 123 2 0 w) (hc : ChgsIn vc [(3, z)] w) :
    Calls Tryz.prog 19 #[.pointer (some ⟨g, 0, none⟩), .agg #[vc, .slice none 0 0], .slice none 0 0] w fun e w' => e = .returned (.int .i64 2) ∧ Below w.heap.size w w' :=
  jcommit_bad g d 256 128 8 1 129 1 130 4 134 (by omega) (by omega) 4 123 2 [(3, z)] (by simp) [] (by simp) [] (by simp) vc _ _ w h hc (RowIn.nil 1 w) (RowIn.nil 2 w) (by rw [show hmB 256 1 128 = hmB (256 : Nat) 1 (128 : Nat) from rfl, mOk2]; rfl)
theorem a_size (vc vr : Value) (w : World) (hc : ChgsIn vc mL w) (hr : IntsIn vr [] w) : Calls Tryz.prog 25 #[.agg #[vc, vr]] w fun e w' => e = .returned (.int .i64 4) ∧ Below w.heap.size w w' := by
  obtain ⟨ac, cc, rfl, -⟩ := hc.shape
  obtain ⟨ar, cr, rfl, -⟩ := hr.shape
  exact size_any ac ar 2 0 cc cr (by omega) (by omega) w
theorem LogZ.below {lo hi g B : Nat} {w w' : World} (h : LogZ lo hi g w w') (hB : B ≤ w.heap.size) (hl : B ≤ lo) (hg : B ≤ g) : Below B w w' := ⟨h.os, h.tape, h.output, h.size, fun k hk => h.block k (by omega) (.inl (by omega)) (by omega)⟩
end Go.Proofs.YtanghmogeiiooaaGreatDoor

/- The chapter's log (alive). -/
namespace Go.Proofs.YtanghmogeiiooaaGreatDoor
set_option linter.unusedVariables false
set_option linter.unusedSimpArgs false
open Go.RowKit

theorem tabOf {w W : World} (ht : Tab w) (hb : Below w.heap.size w W) : Tab W := fun i hi => (hb.cell (p := ⟨0, i, none⟩) ((cell_flat (ht 0 (by decide))).2)).trans (ht i hi)
theorem blkZ {lo hi g : Nat} {cs : Array Value} {t : TypeId} {w w' : World} (h : Blk g cs t w) (z : Zone lo hi w w') (hg : g < lo ∨ hi ≤ g) : Blk g cs t w' := (z.block g h.lt hg).trans h
theorem geoZ {g lo hi : Nat} {b l i la ma ml ta tl da : Int} {w w' : World} (h : GeoAt g b l i la ma ml ta tl da w) (z : Zone lo hi w w') (hg : g < lo ∨ hi ≤ g) : GeoAt g b l i la ma ml ta tl da w' := (z.block g h.lt hg).trans h
theorem chg_two {cb : Nat} {w : World} (h : Blk cb #[.int .i64 180, .string mX, .int .i64 190, .string mY] 61 w) : ChgsIn (.slice (some ⟨cb, 0, none⟩) 2 2) mL w :=
  ⟨rfl, some ⟨cb, 0, none⟩, 2, rfl, Nat.le_refl _, by unfold maxLen; omega, fun _ => ⟨cb, 0, rfl, h.lt, fun k u hk => by
    rw [Nat.zero_add, Blk.cell h k, List.getElem?_toArray]; exact hk⟩, fun h => by cases h⟩
theorem chg_one {cb : Nat} {z : ByteArray} {w : World} (h : Blk cb #[.int .i64 3, .string z] 61 w) : ChgsIn (.slice (some ⟨cb, 0, none⟩) 1 1) [(3, z)] w :=
  ⟨rfl, some ⟨cb, 0, none⟩, 1, rfl, Nat.le_refl _, by unfold maxLen; omega, fun _ => ⟨cb, 0, rfl, h.lt, fun k u hk => by
    rw [Nat.zero_add, Blk.cell h k, List.getElem?_toArray]; exact hk⟩, fun h => by cases h⟩
theorem txn_one {tb : Nat} {vc : Value} {w : World} (h : Blk tb #[vc, .slice none 0 0] 64 w) (hc : ChgsIn vc mL w) : TxnsIn (.slice (some ⟨tb, 0, none⟩) 1 1) [mT] w := by
  refine ⟨[(vc, .slice none 0 0)], rfl, ⟨rfl, some ⟨tb, 0, none⟩, 1, rfl, Nat.le_refl _, by unfold maxLen; omega, fun _ => ⟨tb, 0, rfl, h.lt, fun k u hk => ?_⟩, fun h => by cases h⟩, fun k h1 h2 => ?_⟩
  · rw [Nat.zero_add, Blk.cell h k, List.getElem?_toArray]; exact hk
  · obtain rfl : k = 0 := by simp at h1; omega
    exact ⟨hc, RowIn.nil 1 w⟩
theorem a_fX (w : World) : Calls Tryz.prog 20 #[.int .u8 120] w fun e w' => e = .returned (.string mX) ∧ Below w.heap.size w w' := a_fill 120 (by decide) w
theorem a_fY (w : World) : Calls Tryz.prog 20 #[.int .u8 121] w fun e w' => e = .returned (.string mY) ∧ Below w.heap.size w w' := a_fill 121 (by decide) w
theorem a_f1 (w : World) : Calls Tryz.prog 20 #[.int .u8 1] w fun e w' => e = .returned (.string (rep 1)) ∧ Below w.heap.size w w' := a_fill 1 (by decide) w
theorem a_acts1 (d lo hi : Nat) (w : World) (h : DevAt d lo hi mS1 w) : Calls Tryz.prog 15 #[.pointer (some ⟨d, 0, none⟩)] w fun e w' => e = .returned (.int .i64 130) ∧ w = w' := by
  have := acts_any w h
  rw [mS1_acts] at this
  exact this
theorem a_acts2 (d lo hi : Nat) (w : World) (h : DevAt d lo hi mS2 w) : Calls Tryz.prog 15 #[.pointer (some ⟨d, 0, none⟩)] w fun e w' => e = .returned (.int .i64 136) ∧ w = w' := by
  have := acts_any w h
  rw [mS2_acts] at this
  exact this
set_option maxRecDepth 100000 in
set_option maxHeartbeats 4000000 in
theorem alive_any (w : World) (ht : Tab w) : Calls Tryz.prog 21 #[] w fun e w' => e = .returned (.bool true) ∧ Below w.heap.size w w' := by
  have gg : Tryz.prog.stoodInHeld 33 = false := by kernel_rfl
  have gt : Tryz.prog.stoodInHeld 64 = false := by kernel_rfl
  have gc : Tryz.prog.stoodInHeld 61 = false := by kernel_rfl
  have HT := Lib.hid ht
  clear ht
  go_enter Tryz.func21, Tryz.ntmps21
  go_wp2_with fail
  refine (a_of _).mono ?_; rintro e w1 ⟨rfl, b1⟩
  obtain ⟨gb, hgb⟩ : ∃ gb, w1.heap.size = gb := ⟨_, rfl⟩
  obtain ⟨w2, hw2⟩ : ∃ w2, w1.alloc (.cells (cellsG 256 128 8 1 129 1 130 4 134) 33) = w2 := ⟨_, rfl⟩
  have G2 : GeoAt gb 256 128 8 1 129 1 130 4 134 w2 := by rw [← hw2, ← hgb]; exact GeoAt.new _ _ _ _ _ _ _ _ _ _
  have hb2 : Below w.heap.size w w2 := by rw [← hw2]; exact balloc b1 _
  have HW2 := Lib.hid hw2
  have HGB := Lib.hid hgb
  have HB2 := Lib.hid hb2
  have HG2 := Lib.hid G2
  have hgb2 := G2.lt
  clear b1 hw2 hgb hb2 G2
  go_wp2_with fail
  rw [HW2.out]
  try rw [HGB.out]
  refine (a_new _).mono ?_; rintro e w3 ⟨d, rfl, hd3, b3⟩
  have hb3 := bnext HB2.out b3
  have G3 := HG2.out.kept1 b3
  have hlo : w.heap.size ≤ w2.heap.size := HB2.out.size
  generalize w2.heap.size = lo at *
  generalize w3.heap.size = hi at *
  obtain ⟨c0, c1, c2, c3, c4, c5, c6, c7, c8⟩ := G3.cells
  have HG3 := Lib.hid G3
  have HB3 := Lib.hid hb3
  have hlh := hd3.lohi
  have HD3 := Lib.hid hd3
  clear HW2 HGB HB2 HG2 hb3 hd3 G3 b3
  go_wp2_with fail
  refine (a_fmt d lo hi _ HD3.out).mono ?_; rintro e w4 ⟨rfl, hd4, z4⟩
  have G4 := geoZ HG3.out z4 (.inl hgb2)
  have hb4 := HB3.out.trans (z4.below HB3.out.size hlo)
  have htop := hd4.top
  clear c0 c1 c2 c3 c4 c5 c6 c7 c8 HG3 HB3 HD3
  obtain ⟨c0, c1, c2, c3, c4, c5, c6, c7, c8⟩ := G4.cells
  have OP := Lib.hid (a_open d lo hi w4 hd4 (tabOf HT.out hb4))
  have HG4 := Lib.hid G4
  have HB4 := Lib.hid hb4
  have HD4 := Lib.hid hd4
  clear z4 hb4 hd4 G4
  go_wp2_with fail
  refine OP.out.mono ?_; rintro e w5 ⟨gl, rfl, hgl, hL5, b5⟩
  have HG5 := Lib.hid (HG4.out.kept1 b5)
  have HB5 := Lib.hid (bnext HB4.out b5)
  have HD5 := Lib.hid (HD4.out.kept1 b5)
  have HL5 := Lib.hid hL5
  have hgh : hi ≤ gl := by omega
  clear c0 c1 c2 c3 c4 c5 c6 c7 c8 HG4 HB4 HD4 OP hL5 b5
  go_wp2_with fail
  refine (logroom_any _ _ _ _ _ _ _ _ _ _ _ _ _ _ _ _ HL5.out).mono ?_; rintro e w' ⟨rfl, rfl⟩
  go_wp2_with fail
  refine (lognext_any _ _ _ _ _ _ _ _ _ _ _ _ _ _ _ _ HL5.out).mono ?_; rintro e w' ⟨rfl, rfl⟩
  go_wp2_with fail
  refine (a_fX _).mono ?_; rintro e w6 ⟨rfl, b6⟩
  go_wp2_with fail
  refine (a_fY _).mono ?_; rintro e w7 ⟨rfl, b7⟩
  have b57 := bnext b6 b7
  obtain ⟨cb, hcb⟩ : ∃ cb, w7.heap.size = cb := ⟨_, rfl⟩
  obtain ⟨w8, hw8⟩ : ∃ w8, w7.alloc (.cells #[.int .i64 180, .string mX, .int .i64 190, .string mY] 61) = w8 := ⟨_, rfl⟩
  have C8 : Blk cb #[.int .i64 180, .string mX, .int .i64 190, .string mY] 61 w8 := by rw [← hw8, ← hcb]; exact Blk.new _ _ _
  have hs8 : w8.heap.size = cb + 1 := by rw [← hw8, size_alloc, hcb]
  obtain ⟨w9, hw9⟩ : ∃ w9, w8.alloc (.cells #[.slice (some ⟨cb, 0, none⟩) 2 2, .slice none 0 0] 64) = w9 := ⟨_, rfl⟩
  have T9 : Blk (cb + 1) #[.slice (some ⟨cb, 0, none⟩) 2 2, .slice none 0 0] 64 w9 := by rw [← hw9, ← hs8]; exact Blk.new _ _ _
  have C9 : Blk cb #[.int .i64 180, .string mX, .int .i64 190, .string mY] 61 w9 := by rw [← hw9]; exact C8.kept1 (balloc1 _ _)
  have b59 : Below w5.heap.size w5 w9 := by rw [← hw9, ← hw8]; exact balloc (balloc b57 _) _
  have hcbl : w5.heap.size ≤ cb := by rw [← hcb]; exact b57.size
  have hgl5 := HL5.out.lt
  have HG9 := Lib.hid (HG5.out.kept1 b59)
  have HB9 := Lib.hid (bnext HB5.out b59)
  have HD9 := Lib.hid (HD5.out.kept1 b59)
  have HL9 : Hid (aLog gl d 0 127 1 0 w9) := Lib.hid (Blk.kept1 HL5.out b59)
  have HT9 := Lib.hid T9
  have HC9 := Lib.hid C9
  have HW8 := Lib.hid hw8
  have HW9 := Lib.hid hw9
  have HCB := Lib.hid hcb
  have HS8 := Lib.hid hs8
  clear HG5 HB5 HD5 HL5 b6 b7 b57 hcb hw8 C8 hs8 hw9 T9 C9 b59
  go_wp2_with fail
  try rw [HCB.out]
  rw [HW8.out, HW9.out]
  refine (a_acts1 d lo hi w9 HD9.out).mono ?_; rintro e w' ⟨rfl, rfl⟩
  have t0 := HT9.out.cell 0
  have t1 := HT9.out.cell 1
  simp only [List.getElem?_toArray, List.getElem?_cons_zero, List.getElem?_cons_succ] at t0 t1
  clear HW8 HW9 HCB HS8
  go_wp2_with fail
  refine (a_commit d lo hi gl _ _ w9 HD9.out hgh HL9.out (chg_two HC9.out) (RowIn.nil 1 _) (tabOf HT.out HB9.out)).mono ?_; rintro e w10 ⟨rfl, hd10, z10, hL10⟩
  have hcbh : hi ≤ cb := by omega
  have hT10 := z10.blk HT9.out (.inr (by omega)) (by omega)
  have hC10 := z10.blk HC9.out (.inr hcbh) (by omega)
  have hG10 : GeoAt gb 256 128 8 1 129 1 130 4 134 w10 := (z10.block gb HG9.out.lt (.inl hgb2) (by omega)).trans HG9.out
  have hb10 := HB9.out.trans (z10.below HB9.out.size hlo (by omega))
  clear t0 t1 HG9 HB9 HD9 HL9 HT9 HC9 z10
  have t0 := hT10.cell 0
  have t1 := hT10.cell 1
  simp only [List.getElem?_toArray, List.getElem?_cons_zero, List.getElem?_cons_succ] at t0 t1
  obtain ⟨c0, c1, c2, c3, c4, c5, c6, c7, c8⟩ := hG10.cells
  have HT10 := Lib.hid hT10
  have HC10 := Lib.hid hC10
  have HG10 := Lib.hid hG10
  have HB10 := Lib.hid hb10
  have HD10 := Lib.hid hd10
  have HL10 := Lib.hid hL10
  clear hT10 hC10 hG10 hb10 hd10 hL10
  go_wp2_with fail
  refine (a_acts2 d lo hi w10 HD10.out).mono ?_; rintro e w' ⟨rfl, rfl⟩
  go_wp2_with fail
  refine (logroom_any _ _ _ _ _ _ _ _ _ _ _ _ _ _ _ _ HL10.out).mono ?_; rintro e w' ⟨rfl, rfl⟩
  go_wp2_with fail
  refine (lognext_any _ _ _ _ _ _ _ _ _ _ _ _ _ _ _ _ HL10.out).mono ?_; rintro e w' ⟨rfl, rfl⟩
  go_wp2_with fail
  refine (a_size _ _ w10 (chg_two HC10.out) (RowIn.nil 1 _)).mono ?_; rintro e w11 ⟨rfl, b11⟩
  have HT11 := Lib.hid (Blk.kept1 HT10.out b11)
  have HC11 := Lib.hid (Blk.kept1 HC10.out b11)
  have HG11 := Lib.hid (HG10.out.kept1 b11)
  have HB11 := Lib.hid (bnext HB10.out b11)
  have HD11 := Lib.hid (HD10.out.kept1 b11)
  have HL11 : Hid (aLog gl d 4 123 2 0 w11) := Lib.hid (Blk.kept1 HL10.out b11)
  clear t0 t1 c0 c1 c2 c3 c4 c5 c6 c7 c8 HT10 HC10 HG10 HB10 HD10 HL10 b11
  obtain ⟨c0, c1, c2, c3, c4, c5, c6, c7, c8⟩ := HG11.out.cells
  go_wp2_with fail
  refine (a_replay d lo hi w11 HD11.out (tabOf HT.out HB11.out)).mono ?_; rintro e w12 ⟨vx, rfl, hx, hd12, z12⟩
  have HT12 := Lib.hid (blkZ HT11.out z12 (.inr (by omega)))
  have HC12 := Lib.hid (blkZ HC11.out z12 (.inr hcbh))
  have HG12 := Lib.hid (geoZ HG11.out z12 (.inl hgb2))
  have HL12 : Hid (aLog gl d 4 123 2 0 w12) := Lib.hid (blkZ HL11.out z12 (.inr hgh))
  have HB12 := Lib.hid (HB11.out.trans (z12.below HB11.out.size hlo))
  have HX12 := Lib.hid hx
  have HD12 := Lib.hid hd12
  clear c0 c1 c2 c3 c4 c5 c6 c7 c8 HT11 HC11 HG11 HB11 HD11 HL11 hx hd12 z12
  obtain ⟨c0, c1, c2, c3, c4, c5, c6, c7, c8⟩ := HG12.out.cells
  go_wp2_with fail
  refine (a_again d lo hi w12 HD12.out (tabOf HT.out HB12.out)).mono ?_; rintro e w13 ⟨rfl, b13⟩
  have HT13 := Lib.hid (Blk.kept1 HT12.out b13)
  have HC13 := Lib.hid (Blk.kept1 HC12.out b13)
  have HB13 := Lib.hid (bnext HB12.out b13)
  have HD13 := Lib.hid (HD12.out.kept1 b13)
  have HL13 : Hid (aLog gl d 4 123 2 0 w13) := Lib.hid (Blk.kept1 HL12.out b13)
  have HX13 := Lib.hid (HX12.out.kept b13)
  clear c0 c1 c2 c3 c4 c5 c6 c7 c8 HT12 HC12 HG12 HB12 HD12 HL12 HX12 b13
  go_wp2_with fail
  refine (a_read d lo hi w13 HD13.out).mono ?_; rintro e w' ⟨rfl, rfl⟩
  have t0 := HT13.out.cell 0
  have t1 := HT13.out.cell 1
  simp only [List.getElem?_toArray, List.getElem?_cons_zero, List.getElem?_cons_succ] at t0 t1
  obtain ⟨w14, hw14⟩ : ∃ w14, w13.alloc (.cells #[.slice (some ⟨cb, 0, none⟩) 2 2, .slice none 0 0] 64) = w14 := ⟨_, rfl⟩
  obtain ⟨ta, hta⟩ : ∃ ta, w13.heap.size = ta := ⟨_, rfl⟩
  have T14 : Blk ta #[.slice (some ⟨cb, 0, none⟩) 2 2, .slice none 0 0] 64 w14 := by rw [← hw14, ← hta]; exact Blk.new _ _ _
  have k14 : Below w13.heap.size w13 w14 := by rw [← hw14]; exact balloc1 _ _
  have SM := Lib.hid (sametx_yes vx (.slice (some ⟨ta, 0, none⟩) 1 1) [mT] (by simp) (fun t ht => by rw [List.mem_singleton.1 ht]; exact ⟨by show 2 ≤ 4000000; omega, rfl⟩) w14 ((HX13.out.kept k14).in_) (txn_one T14 (chg_two (Blk.kept1 HC13.out k14))))
  have HB14 := Lib.hid (bnext HB13.out k14)
  have HL14 : Hid (aLog gl d 4 123 2 0 w14) := Lib.hid (Blk.kept1 HL13.out k14)
  have HW14 := Lib.hid hw14
  have HTA := Lib.hid hta
  clear hw14 hta T14 k14 HT13 HC13 HB13 HD13 HX13 HL13
  go_wp2_with fail
  rw [HW14.out]
  try rw [HTA.out]
  refine SM.out.mono ?_; rintro e w15 ⟨rfl, b15⟩
  have HB15 := Lib.hid (bnext HB14.out b15)
  have HL15 : Hid (aLog gl d 4 123 2 0 w15) := Lib.hid (Blk.kept1 HL14.out b15)
  clear t0 t1 SM HB14 HL14 HW14 HTA b15
  go_wp2_with fail
  refine (a_fY _).mono ?_; rintro e w16 ⟨rfl, b16⟩
  go_wp2_with fail
  refine (a_f1 _).mono ?_; rintro e w17 ⟨rfl, b17⟩
  have HB17 := Lib.hid (bnext (bnext HB15.out b16) b17)
  have HL17 : Hid (aLog gl d 4 123 2 0 w17) := Lib.hid (Blk.kept1 (Blk.kept1 HL15.out b16) b17)
  clear HB15 HL15 b16 b17
  go_wp2_with fail
  refine (a_bad d gl (rep 1) _ _ (Blk.kept1 HL17.out (balloc1 _ _)) (chg_one (Blk.new _ _ _))).mono ?_; rintro e w18 ⟨rfl, b18⟩
  have hb18 := bnext (balloc HB17.out _) b18
  go_wp2
  go_ret
  exact ⟨rfl, hb18⟩
end Go.Proofs.YtanghmogeiiooaaGreatDoor

/- begun. -/
namespace Go.Proofs.YtanghmogeiiooaaGreatDoor
set_option linter.unusedVariables false
set_option linter.unusedSimpArgs false
open Go.RowKit

theorem zero_lt (k : Nat) : (fun _ : Nat => 0) k < 256 := by show 0 < 256; omega
/-- the law's world as it begins: its block, its device and its log -/
structure Begun (B wd d lo hi g b l i m t : Nat) (w : World) : Prop where
  wld : WldAt wd b l i m t d g (fun _ => 0) (fun _ => 0) w
  dev : DevAt d lo hi (beganS b l) w
  log : LogAt g d b l i 1 (1 + l) m (1 + l + m) t (1 + l + m + t) 0 ((l - 1 : Nat) : Int) 1 0 w
  bot : B ≤ wd
  o1 : wd < lo
  o2 : hi ≤ g
theorem equal_lognil (w : World) (p : Addr) : ∀ d, (Op.equalIn (d + 1) 35 (.pointer (some p)) (.pointer none)).run Tryz.prog w = .ok false w := fun d => by
  simp [Op.equalIn, run_underlying Tryz.underlying35]
theorem run_neq_lognil (w : World) (p : Addr) : (binOp .neq 35 (.pointer (some p)) (.pointer none)).run Tryz.prog w = .ok (.bool true) w := by
  have h := equal_lognil w p 9999
  simp [binOp, Op.equal, Op.maxDepth, h, Result.andThen]
theorem logroom_below {g d : Nat} {b l i la ma ml ta tl da slot left : Int} {seq : Nat} {failed : Int} {w : World} (h : LogAt g d b l i la ma ml ta tl da slot left seq failed w) :
    Calls Tryz.prog 17 #[.pointer (some ⟨g, 0, none⟩)] w fun e w' => e = .returned (.int .i64 left) ∧ Below w.heap.size w w' :=
  (logroom_any g d b l i la ma ml ta tl da slot left seq failed w h).mono fun e w' ⟨h1, h2⟩ => ⟨h1, h2 ▸ Below.refl _ _⟩
set_option maxRecDepth 100000 in
set_option maxHeartbeats 4000000 in
theorem begun_any (x y z : Nat) (hx : x < 256) (hy : y < 256) (hz : z < 256) {b l i m t da : Nat} (h : Lay x y z b l i m t da) (w : World) (ht : Tab w) :
    Calls Tryz.prog 8 #[.agg #[.int .u8 (x : Int), .int .u8 (y : Int), .int .u8 (z : Int)]] w fun e w' => ∃ wd d lo hi g, e = .returned (.tuple #[.pointer (some ⟨wd, 0, none⟩), .bool true]) ∧ Begun w.heap.size wd d lo hi g b l i m t w' ∧ Below w.heap.size w w' := by
  have mixed : Tryz.prog.follows .mixedOrders = true := by kernel_rfl
  have hok := h.ok
  have hf := h.fit
  have hl := hf.hl
  have hb4 := hf.hb
  have hb1 : 256 ≤ b := hok.1
  have hr := hf.room
  have L := Lib.hid (layout_any x y z hx hy hz h)
  have NW := Lib.hid (new_yes b (by omega) hb4)
  have FM := Lib.hid fun d lo hi w (hd : DevAt d lo hi (freshSt b zeroB) w) => by
    have := jformat_ok d lo hi b l i m t hok (S := freshSt b zeroB) rfl (by show (0 : Nat) ≤ 900000; omega) w hd
    rwa [began_deeds hl hr] at this
  have OP := Lib.hid fun d lo hi w (hd : DevAt d lo hi (beganS b l) w) (ht : Tab w) => by
    have := open_inv d lo hi b l i m t hok (S := beganS b l) (runD_n _ _) (began_wd hf).log w hd ht
    rw [show (0 + 0) % (l - 1) = 0 from Nat.zero_mod _, Nat.sub_zero] at this
    exact this
  have HB0 := Lib.hid (balloc1 w (.cells #[.int .u8 (x : Int), .int .u8 (y : Int), .int .u8 (z : Int)] 22))
  have HT := Lib.hid ht
  have hl1 : ((l - 1 : Nat) : Int) = (l : Int) - 1 := by omega
  clear h hok hf ht
  go_enter Tryz.func8, Tryz.ntmps8
  go_wp2_with fail
  refine (L.out _).mono ?_; rintro e w1 ⟨rfl, b1⟩
  have hb1 := Lib.hid (bnext HB0.out b1)
  clear b1 L HB0
  obtain ⟨q, hq⟩ : ∃ q, w1.heap.size = q := ⟨_, rfl⟩
  have hq0 : w.heap.size ≤ q := by have := hb1.out.size; omega
  have A2 : Blk q (wldG b l i m t (.pointer none) (.pointer none) (fun _ => 0) (fun _ => 0)) 38 (w1.alloc (.cells (wldG b l i m t (.pointer none) (.pointer none) (fun _ => 0) (fun _ => 0)) 38)) := by rw [← hq]; exact Blk.new _ _ _
  have c2 := balloc hb1.out (.cells (wldG b l i m t (.pointer none) (.pointer none) (fun _ => 0) (fun _ => 0)) 38)
  have z2 : (w1.alloc (.cells (wldG b l i m t (.pointer none) (.pointer none) (fun _ => 0) (fun _ => 0)) 38)).heap.size = q + 1 := by rw [size_alloc, hq]
  obtain ⟨w2, hw2⟩ : ∃ w2, w1.alloc (.cells #[.int .i64 (b : Int), .int .i64 (l : Int), .int .i64 (i : Int), .int .i64 1, .int .i64 (1 + (l : Int)), .int .i64 (m : Int), .int .i64 (1 + (l : Int) + (m : Int)), .int .i64 (t : Int), .int .i64 (1 + (l : Int) + (m : Int) + (t : Int)), .pointer none, .pointer none, .int .u8 0, .int .u8 0, .int .u8 0, .int .u8 0, .int .u8 0, .int .u8 0, .int .u8 0, .int .u8 0, .int .u8 0, .int .u8 0, .int .u8 0, .int .u8 0, .int .u8 0, .int .u8 0, .int .u8 0, .int .u8 0, .int .u8 0, .int .u8 0, .int .u8 0, .int .u8 0, .int .u8 0, .int .u8 0, .int .u8 0, .int .u8 0] 38) = w2 := ⟨_, rfl⟩
  have A2 : Blk q (wldG b l i m t (.pointer none) (.pointer none) (fun _ => 0) (fun _ => 0)) 38 w2 := by rw [← hw2]; exact A2
  have HC2 : Hid (Below w.heap.size w w2) := Lib.hid (by rw [← hw2]; exact c2)
  have z2 : w2.heap.size = q + 1 := by rw [← hw2]; exact z2
  have HA2 := Lib.hid A2
  have HW2 := Lib.hid hw2
  have HQ := Lib.hid hq
  clear A2 hw2 hq c2 hb1
  go_wp2_with fail
  rw [HW2.out]
  refine (NW.out _).mono ?_; rintro e w3 ⟨d, rfl, hd, b3⟩
  rw [z2] at hd
  have HD3 := Lib.hid hd
  have HA3 := Lib.hid (HA2.out.kept1 b3)
  have HC3 := Lib.hid (bnext HC2.out b3)
  have hz3 := b3.size
  obtain ⟨hi, hhi⟩ : ∃ hi, w3.heap.size = hi := ⟨_, rfl⟩
  rw [hhi] at HD3
  have HHI := Lib.hid hhi
  have HQ' := HQ.out
  simp only [HQ']
  obtain ⟨k0, k1, k2, k3, k4, k5, k6, k7, k8, k9, k10⟩ := wldG_cells HA3.out
  clear b3 hd HA2 HC2 NW HW2 hhi HQ'
  go_wp2_with fail
  refine (FM.out _ _ _ _ HD3.out).mono ?_; rintro e w4 ⟨rfl, hd4, z4⟩
  have HA4 := Lib.hid (HA3.out.kept z4 (by omega))
  have HC4 := Lib.hid (HC3.out.trans (z4.below (B := w.heap.size) (by rw [HHI.out]; have := HHI.out; omega) (by omega)))
  have HD4 := Lib.hid hd4
  have hs4 := z4.size
  clear k0 k1 k2 k3 k4 k5 k6 k7 k8 k9 k10 hd4 z4 HA3 HC3 HD3 FM
  obtain ⟨k0, k1, k2, k3, k4, k5, k6, k7, k8, k9, k10⟩ := wldG_cells HA4.out
  have HT4 := Lib.hid (tabOf HT.out HC4.out)
  go_wp2_with fail
  refine (OP.out _ _ _ _ HD4.out HT4.out).mono ?_; rintro e w5 ⟨g, rfl, hg, hlog, b5⟩
  have HA5 := Lib.hid (HA4.out.kept1 b5)
  have HC5 := Lib.hid (bnext HC4.out b5)
  have HD5 := Lib.hid (HD4.out.kept1 b5)
  have HL5 := Lib.hid hlog
  clear k0 k1 k2 k3 k4 k5 k6 k7 k8 k9 k10 b5 HA4 HC4 HD4 HT4 OP hlog
  obtain ⟨k0, k1, k2, k3, k4, k5, k6, k7, k8, k9, k10⟩ := wldG_cells HA5.out
  have f9 := HA5.out.frozen 9
  have f10 := HA5.out.frozen 10
  clear k0 k1 k2 k3 k4 k5 k6 k7 k8
  have S1 := HA5.out.set 9 (.pointer (some ⟨d, 0, none⟩))
  have S2 := S1.set 10 (.pointer (some ⟨g, 0, none⟩))
  have HS : Hid (WldAt q b l i m t d g (fun _ => 0) (fun _ => 0) ((w5.setCell ⟨q, 9, none⟩ (.pointer (some ⟨d, 0, none⟩))).setCell ⟨q, 10, none⟩ (.pointer (some ⟨g, 0, none⟩)))) := Lib.hid S2
  have hgq : g ≠ q := by omega
  have HDS := Lib.hid ((HD5.out.kept (zone_set q w5 9 (.pointer (some ⟨d, 0, none⟩))) (.inr (Nat.le_refl _))).kept (zone_set q _ 10 (.pointer (some ⟨g, 0, none⟩))) (.inr (Nat.le_refl _)))
  have HLS := Lib.hid (Blk.other (Blk.other HL5.out (p := ⟨q, 9, none⟩) (by show q ≠ g; omega) (.pointer (some ⟨d, 0, none⟩))) (p := ⟨q, 10, none⟩) (by show q ≠ g; omega) (.pointer (some ⟨g, 0, none⟩)))
  have HCS := Lib.hid ((HC5.out.setCell (p := ⟨q, 9, none⟩) hq0 (.pointer (some ⟨d, 0, none⟩))).setCell (p := ⟨q, 10, none⟩) hq0 (.pointer (some ⟨g, 0, none⟩)))
  obtain ⟨w7, hw7⟩ : ∃ w7, (w5.setCell ⟨q, 9, none⟩ (.pointer (some ⟨d, 0, none⟩))).setCell ⟨q, 10, none⟩ (.pointer (some ⟨g, 0, none⟩)) = w7 := ⟨_, rfl⟩
  rw [hw7] at HS HDS HLS HCS
  have nq := fun w => run_neq_lognil w ⟨g, 0, none⟩
  have HW7 := Lib.hid hw7
  clear S1 S2 HA5 HC5 HD5 HL5 hw7
  go_wp2
  rw [HW7.out]
  have RM := Lib.hid fun p : BelowP w7 => logroom_below (Blk.kept1 HLS.out p.h)
  have kl := fun p : BelowP w7 => (wldG_cells (HS.out.kept1 p.h)).2.1
  refine wp_region_quiet_below mixed (by kernel_rfl) ?_
  repeat (go_big_quiet_step (first | (go_at_call 17; refine calls_below (RM.out _))))
  refine wpQuiet_nil ?_
  intro w0q hw'
  obtain ⟨⟨wq, bq⟩, hw''⟩ := hw'
  have hw2 : wq = w0q := hw''.symm
  clear hw''
  subst hw2
  have tq : (((l - 1 : Nat) : Int) == (l : Int) - 1) = true := by rw [beq_iff_eq]; exact hl1
  go_wp2
  go_ret2
  exact ⟨q, d, q + 1, hi, g, by simp [tq, hl1], ⟨HS.out.kept1 bq, HDS.out.kept1 bq, Blk.kept1 HLS.out bq, hq0, Nat.lt_succ_self q, by have := HHI.out; omega⟩, bnext HCS.out bq⟩
end Go.Proofs.YtanghmogeiiooaaGreatDoor

/- settle: all is written to its home, and a checkpoint made. -/
namespace Go.Proofs.YtanghmogeiiooaaGreatDoor
set_option linter.unusedVariables false
set_option linter.unusedSimpArgs false
open Go.RowKit

/-- only the device, the log and the law's world have turned -/
structure LawZ (lo hi g wd : Nat) (w w' : World) : Prop where
  os : w'.os = w.os
  tape : w'.tape = w.tape
  output : w'.output = w.output
  size : w.heap.size ≤ w'.heap.size
  block : ∀ k, k < w.heap.size → (k < lo ∨ hi ≤ k) → k ≠ g → k ≠ wd → w'.heap[k]? = w.heap[k]?
section
variable {lo hi g wd B : Nat} {w w' a : World}
theorem LawZ.of_logz (h : LogZ lo hi g w w') : LawZ lo hi g wd w w' := ⟨h.os, h.tape, h.output, h.size, fun k h1 h2 h3 _ => h.block k h1 h2 h3⟩
theorem LawZ.of_zone (h : Zone lo hi w w') : LawZ lo hi g wd w w' := .of_logz (.of_zone h)
theorem LawZ.of_one (h : Zone wd (wd + 1) w w') : LawZ lo hi g wd w w' := ⟨h.os, h.tape, h.output, h.size, fun k h1 _ _ h2 => h.block k h1 (by omega)⟩
theorem LawZ.of_below (h : Below w.heap.size w w') : LawZ lo hi g wd w w' := .of_zone (Zone.of_below h lo hi)
theorem LawZ.refl (w : World) : LawZ lo hi g wd w w := .of_zone (Zone.refl lo hi w)
theorem LawZ.trans (h : LawZ lo hi g wd w a) (k : LawZ lo hi g wd a w') : LawZ lo hi g wd w w' :=
  ⟨k.os.trans h.os, k.tape.trans h.tape, k.output.trans h.output, Nat.le_trans h.size k.size, fun i hi hn hg hw => (k.block i (Nat.lt_of_lt_of_le hi h.size) hn hg hw).trans (h.block i hi hn hg hw)⟩
theorem LawZ.blk {k : Nat} {cs : Array Value} {t : TypeId} (h : LawZ lo hi g wd w w') (hb : Blk k cs t w) (h1 : k < lo ∨ hi ≤ k) (h2 : k ≠ g) (h3 : k ≠ wd) : Blk k cs t w' := (h.block k hb.lt h1 h2 h3).trans hb
theorem LawZ.below (h : LawZ lo hi g wd w w') (hB : B ≤ w.heap.size) (h1 : B ≤ lo) (h2 : B ≤ g) (h3 : B ≤ wd) : Below B w w' := ⟨h.os, h.tape, h.output, h.size, fun k hk => h.block k (by omega) (.inl (by omega)) (by omega) (by omega)⟩
end
/-- the law's world at rest: its device, its log, its twelve blocks -/
structure LwMem (B wd d lo hi g b l i m t da : Nat) (S : St) (p q used : Nat) (ts : List Tx) (home want : Nat → Nat) (w : World) : Prop where
  wld : WldAt wd b l i m t d g home want w
  dev : DevAt d lo hi S w
  log : LogAt g d b l i 1 (1 + l) m (1 + l + m) t (1 + l + m + t) (((p + used) % (l - 1) : Nat) : Int) ((l - 1 - used : Nat) : Int) (q + ts.length) 0 w
  pure : Wd S l b da p q used ts home want
  bh : ∀ k, home k < 256
  bw : ∀ k, want k < 256
  bot : B ≤ wd
  o1 : wd < lo
  o2 : hi ≤ g
section
variable {B wd d lo hi g b l i m t da p q used : Nat} {S : St} {ts : List Tx} {home want : Nat → Nat} {w w' : World}
theorem LwMem.kept1 (h : LwMem B wd d lo hi g b l i m t da S p q used ts home want w) (hb : Below w.heap.size w w') : LwMem B wd d lo hi g b l i m t da S p q used ts home want w' :=
  ⟨h.wld.kept1 hb, h.dev.kept1 hb, Blk.kept1 h.log hb, h.pure, h.bh, h.bw, h.bot, h.o1, h.o2⟩
theorem WldAt.wantRange (h : WldAt wd b l i m t d g home want w) : w.rangeAt wd 23 (arr12 want).toList := fun j v hj => by
  have hj12 : j < 12 := (List.getElem?_eq_some_iff.1 hj).1
  rw [h.wantAt hj12]
  have := arr12_at want hj12
  rw [← Array.getElem?_toList, hj] at this
  exact this.symm
theorem WldAt.homeThere (h : WldAt wd b l i m t d g home want w) : w.there wd 11 12 := fun j hj => ⟨by rw [h.homeAt hj]; rfl, Blk.frozen h (11 + j)⟩
set_option maxHeartbeats 4000000 in
set_option maxRecDepth 100000 in
theorem WldAt.setHome (h : WldAt wd b l i m t d g home want w) (f : Nat → Nat) : WldAt wd b l i m t d g f want (w.setCells wd 11 (arr12 f).toList) := by
  have h0 := Blk.set h 11 (.int .u8 (f 0 : Int))
  have h1 := Blk.set h0 12 (.int .u8 (f 1 : Int))
  have h2 := Blk.set h1 13 (.int .u8 (f 2 : Int))
  have h3 := Blk.set h2 14 (.int .u8 (f 3 : Int))
  have h4 := Blk.set h3 15 (.int .u8 (f 4 : Int))
  have h5 := Blk.set h4 16 (.int .u8 (f 5 : Int))
  have h6 := Blk.set h5 17 (.int .u8 (f 6 : Int))
  have h7 := Blk.set h6 18 (.int .u8 (f 7 : Int))
  have h8 := Blk.set h7 19 (.int .u8 (f 8 : Int))
  have h9 := Blk.set h8 20 (.int .u8 (f 9 : Int))
  have h10 := Blk.set h9 21 (.int .u8 (f 10 : Int))
  have h11 := Blk.set h10 22 (.int .u8 (f 11 : Int))
  simp only [List.setIfInBounds_toArray, List.set_cons_zero, List.set_cons_succ] at h11
  exact h11
end
theorem arr12_info : (Tryz.prog.info? 36).map (·.size) = some 12 := by kernel_rfl
theorem deeds_left {S : St} {L : List Deed} (hf : ∀ a ∈ L, a.fine S.n) (h : S.left < 0) : (deeds S L).1 = 0 ∧ (deeds S L).2.left < 0 := by
  rw [deeds_live hf (.inl h)]
  exact ⟨rfl, by show (runD S L).left < 0; rw [runD_left_all h]; exact h⟩
theorem wroteS_left {S : St} {da : Nat} {want : Nat → Nat} {j : Nat} (h : S.left < 0) : (wroteS S da want j).left < 0 := by
  unfold wroteS; rw [runD_left_all h]; exact h
/-- the k-th home is written -/
theorem write_home {d lo hi l b da : Nat} {S : St} (hf : Fit12 l b da) (hn : S.n = b) (ha : S.acts ≤ 800 * 1000) (want : Nat → Nat) {k : Nat} (hk : k < 12) (w : World) (h : DevAt d lo hi (wroteS S da want k) w) :
    Calls Tryz.prog 53 #[.pointer (some ⟨d, 0, none⟩), .int .i64 ((da + k : Nat) : Int), .string (rep (want k))] w fun e w' =>
      ((e = .returned (.int .i64 61) ∧ ¬ S.left < 0 ∧ DevAt d lo hi (wroteS S da want k) w') ∨ (e = .returned (.int .i64 0) ∧ DevAt d lo hi (wroteS S da want (k + 1)) w')) ∧ Zone lo hi w w' := by
  have htop := hf.htop
  have K := write_any ((da + k : Nat) : Int) (rep (want k)) (by rw [wroteS_acts _ _ _ (by omega)]; omega) w h
  have hfin : (Deed.write ((da + k : Nat) : Int) (rep (want k))).fine (wroteS S da want k).n := ⟨by omega, by rw [wroteS_n, hn]; omega, rep_size _⟩
  have e1 : wCode (wroteS S da want k) ((da + k : Nat) : Int) (rep (want k)).size = if (wroteS S da want k).left = 0 then 61 else 0 := Deed.code_fine hfin
  have e2 : wSt (wroteS S da want k) ((da + k : Nat) : Int) (rep (want k)) = if (wroteS S da want k).left = 0 then wroteS S da want k else (wroteS S da want k).wrote (((da + k : Nat) : Int)).toNat (rep (want k)) := Deed.st_fine hfin
  rw [e1, e2] at K
  by_cases h0 : (wroteS S da want k).left = 0
  · rw [if_pos h0, if_pos h0] at K
    exact K.mono fun e w' ⟨a1, a2, a3⟩ => ⟨.inl ⟨a1, fun hl => by have := wroteS_left (da := da) (want := want) (j := k) hl; omega, a2⟩, a3⟩
  · rw [if_neg h0, if_neg h0, Int.toNat_natCast, ← wroteS_succ S da want hk] at K
    exact K.mono fun e w' ⟨a1, a2, a3⟩ => ⟨.inr ⟨a1, a2⟩, a3⟩
end Go.Proofs.YtanghmogeiiooaaGreatDoor
