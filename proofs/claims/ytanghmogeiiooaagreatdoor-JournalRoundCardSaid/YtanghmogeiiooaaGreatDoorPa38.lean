import Derived.Test.YtanghmogeiiooaaGreatDoorPa25
import Derived.Test.YtanghmogeiiooaaGreatDoorPa27
import Derived.Test.YtanghmogeiiooaaGreatDoorPa33
import Derived.Test.YtanghmogeiiooaaGreatDoorPa08
import Derived.Test.YtanghmogeiiooaaGreatDoorPa20
import Derived.Test.YtanghmogeiiooaaGreatDoorPa36
import Derived.Test.YtanghmogeiiooaaGreatDoorPa37
import Derived.Deep.MidRow
set_option linter.unusedVariables false
set_option linter.unusedSimpArgs false
set_option linter.constructorNameAsVariable false
/- A log's memory under stores; what a valid transaction's lists are; how many blocks there are. -/
namespace Go.Proofs.YtanghmogeiiooaaGreatDoor
set_option linter.unusedVariables false
open Go.RowKit

/-! ### what may have turned: the device's blocks and the log's -/
structure LogZ (lo hi g : Nat) (w w' : World) : Prop where
  os : w'.os = w.os
  tape : w'.tape = w.tape
  output : w'.output = w.output
  size : w.heap.size ≤ w'.heap.size
  block : ∀ k, k < w.heap.size → (k < lo ∨ hi ≤ k) → k ≠ g → w'.heap[k]? = w.heap[k]?
theorem LogZ.of_zone {lo hi g : Nat} {w w' : World} (h : Zone lo hi w w') : LogZ lo hi g w w' := ⟨h.os, h.tape, h.output, h.size, fun k h1 h2 _ => h.block k h1 h2⟩
theorem LogZ.trans {lo hi g : Nat} {w a b : World} (h : LogZ lo hi g w a) (k : LogZ lo hi g a b) : LogZ lo hi g w b :=
  ⟨k.os.trans h.os, k.tape.trans h.tape, k.output.trans h.output, Nat.le_trans h.size k.size, fun i hi hn hg => (k.block i (Nat.lt_of_lt_of_le hi h.size) hn hg).trans (h.block i hi hn hg)⟩
theorem LogZ.set {lo hi g : Nat} (w : World) (j : Nat) (u : Value) : LogZ lo hi g w (w.setCell ⟨g, j, none⟩ u) :=
  ⟨rfl, rfl, rfl, by simp [World.setCell], fun k h1 h2 hg => Below.heap_setCell w ⟨g, j, none⟩ u k fun e => hg e⟩
theorem LogZ.blk {lo hi g k : Nat} {cs : Array Value} {t : TypeId} {w w' : World} (z : LogZ lo hi g w w') (h : Blk k cs t w) (h1 : k < lo ∨ hi ≤ k) (h2 : k ≠ g) : Blk k cs t w' := (z.block k h.lt h1 h2).trans h
theorem zone_set (g : Nat) (w : World) (j : Nat) (u : Value) : Zone g (g + 1) w (w.setCell ⟨g, j, none⟩ u) := (Zone.refl g (g + 1) w).set (Nat.le_refl g) (Nat.lt_succ_self g) u
theorem zone_sets (g : Nat) (w : World) (o : Nat) (vs : List Value) : Zone g (g + 1) w (w.setCells g o vs) := (Zone.refl g (g + 1) w).sets (Nat.le_refl g) (Nat.lt_succ_self g) o vs
theorem LogZ.of_set {lo hi g : Nat} {w w' : World} (h : Zone g (g + 1) w w') : LogZ lo hi g w w' := ⟨h.os, h.tape, h.output, h.size, fun k h1 _ h3 => h.block k h1 (by omega)⟩
theorem DevAt.logset {d lo hi g : Nat} {S : St} {w w' : World} (h : DevAt d lo hi S w) (hg : hi ≤ g) (z : Zone g (g + 1) w w') : DevAt d lo hi S w' := h.kept z (.inl hg)
theorem LogAt.failed {g d : Nat} {b l i la ma ml ta tl da slot left : Int} {seq : Nat} {f : Int} {w : World} (h : LogAt g d b l i la ma ml ta tl da slot left seq f w) (c : Int) :
    LogAt g d b l i la ma ml ta tl da slot left seq c (w.setCell ⟨g, 14, none⟩ (.int .i64 c)) := Blk.set h 14 (.int .i64 c)
theorem LogAt.place {g d : Nat} {b l i la ma ml ta tl da slot left : Int} {seq : Nat} {f : Int} {w : World} (h : LogAt g d b l i la ma ml ta tl da slot left seq f w) (slot' left' : Int) (seq' : Nat) :
    LogAt g d b l i la ma ml ta tl da slot' left' seq' f (w.setCells g 11 [.int .i64 slot', .int .i64 left', .int .u64 (seq' : Int)]) :=
  Blk.set (Blk.set (Blk.set h 11 (.int .i64 slot')) 12 (.int .i64 left')) 13 (.int .u64 (seq' : Int))
theorem LogAt.there {g d : Nat} {b l i la ma ml ta tl da slot left : Int} {seq : Nat} {f : Int} {w : World} (h : LogAt g d b l i la ma ml ta tl da slot left seq f w) : w.there g 11 3 := fun j hj => by
  refine ⟨?_, Blk.frozen h (11 + j)⟩
  rw [Blk.cell h (11 + j)]
  match j, hj with
  | 0, _ => rfl
  | 1, _ => rfl
  | 2, _ => rfl
theorem LogAt.all {g d : Nat} {b l i la ma ml ta tl da slot left : Int} {seq : Nat} {f : Int} {w : World} (h : LogAt g d b l i la ma ml ta tl da slot left seq f w) (p : BelowP w) : LogAt g d b l i la ma ml ta tl da slot left seq f p.to := Blk.kept1 h p.h

/-! ### a valid transaction's lists -/
theorem riseTo_pair {hm : Int → Bool} {L : List Int} (h : riseTo hm L L.length) : L.Pairwise (· < ·) := by
  have step : ∀ n i, i + n + 1 < L.length → hat L i < hat L (i + n + 1) := fun n => by
    induction n with
    | zero => intro i hi; have := (h (i + 1) hi).2 (by omega); simpa using this
    | succ n ih =>
      intro i hi
      have h1 := ih i (by omega)
      have h2 := (h (i + n + 1 + 1) (by omega)).2 (by omega)
      rw [Nat.add_sub_cancel] at h2
      rw [show i + (n + 1) + 1 = i + n + 1 + 1 by omega]; omega
  refine List.pairwise_iff_getElem.2 fun i j hi hj hij => ?_
  have := step (j - i - 1) i (by omega)
  rw [show i + (j - i - 1) + 1 = j by omega, hat_eq hi, hat_eq hj] at this
  exact this
theorem riseTo_in {hm : Int → Bool} {L : List Int} (h : riseTo hm L L.length) : ∀ x ∈ L, hm x = true := by
  intro x hx
  obtain ⟨i, hi, rfl⟩ := List.getElem_of_mem hx
  have := (h i hi).1
  rw [hat_eq hi] at this
  exact this
theorem chgsOk_get {hm : Int → Bool} {L : List (Int × ByteArray)} (h : chgsOk hm L = true) : (L.map Prod.fst).Pairwise (· < ·) ∧ ∀ c ∈ L, hm c.1 = true ∧ c.2.size = 128 := by
  unfold chgsOk at h
  obtain ⟨h1, h2⟩ := Bool.and_eq_true_iff.1 h
  have h2 := of_decide_eq_true h2
  refine ⟨riseTo_pair h2, fun c hc => ⟨riseTo_in h2 c.1 (List.mem_map_of_mem hc), of_decide_eq_true (List.all_eq_true.1 h1 c hc)⟩⟩
theorem txnOk_get {hm : Int → Bool} {L : List (Int × ByteArray)} {R : List Int} (h : txnOk hm L R = true) : chgsOk hm L = true ∧ R.Pairwise (· < ·) ∧ (∀ x ∈ R, hm x = true) ∧ ∀ c ∈ L, c.1 ∉ R := by
  unfold txnOk at h
  obtain ⟨h1, h3⟩ := Bool.and_eq_true_iff.1 h
  obtain ⟨h1, h2⟩ := Bool.and_eq_true_iff.1 h1
  have h2 := of_decide_eq_true h2
  refine ⟨h1, riseTo_pair h2, riseTo_in h2, fun c hc hr => ?_⟩
  have := List.all_eq_true.1 h3 c.1 (List.mem_map_of_mem hc)
  simp at this
  exact this hr

/-! ### how many blocks -/
theorem chunksF_length {α : Type} {k : Nat} (hk : 0 < k) : ∀ (f : Nat) (l : List α), l.length ≤ f → (chunksF k f l).length = (l.length + k - 1) / k
  | 0, [], _ => by show 0 = (0 + k - 1) / k; rw [Nat.div_eq_of_lt (by omega)]
  | 0, a :: l, h => by simp at h
  | f + 1, [], _ => by show 0 = (0 + k - 1) / k; rw [Nat.div_eq_of_lt (by omega)]
  | f + 1, a :: l, h => by
    show (chunksF k f ((a :: l).drop k)).length + 1 = _
    rw [chunksF_length hk f _ (by rw [List.length_drop]; simp at h ⊢; omega), List.length_drop]
    generalize hn : (a :: l).length = n
    have hn1 : 1 ≤ n := by rw [← hn]; simp
    by_cases hc : n ≤ k
    · rw [show n - k = 0 by omega, Nat.div_eq_of_lt (by omega), show n + k - 1 = (n - 1) + k by omega, Nat.add_div_right _ hk, Nat.div_eq_of_lt (by omega)]
    · rw [show n + k - 1 = (n - k + k - 1) + k by omega, Nat.add_div_right _ hk]
theorem blocksT_length (seq : Nat) (L : List (Int × ByteArray)) (R : List Int) : (blocksT seq L R).length = sizeT L.length R.length := by
  unfold blocksT bodyOf
  rw [List.length_append, List.length_append, List.length_map, descs_length, sizeG_flat]
  unfold chunks
  rw [chunksF_length (by decide) _ _ (Nat.le_refl _), chunksF_length (by decide) _ _ (Nat.le_refl _), chunksF_join (by decide) _ _ (Nat.le_refl _)]
  unfold sizeT
  simp only [List.length_cons, List.length_nil]; omega
/-- what a commit does with a device -/
def commitD (slot l seq : Nat) (L : List (Int × ByteArray)) (R : List Int) (D : List (Int × ByteArray)) : List Deed :=
  let N := sizeT L.length R.length
  let C := slotsOf 1 (l : Int) slot (blocksT seq L R) N
  writesD D ++ (writesD (C.take (N - 1)) ++ (.flush :: (writesD (C.drop (N - 1)) ++ [.flush])))
end Go.Proofs.YtanghmogeiiooaaGreatDoor

/- Commit: refused, not valid, no room. -/
namespace Go.Proofs.YtanghmogeiiooaaGreatDoor
set_option linter.unusedVariables false
set_option linter.unusedSimpArgs false
open Go.RowKit

theorem jcommit_nil (vc vr vd : Value) (w : World) :
    Calls Tryz.prog 19 #[.pointer none, .agg #[vc, vr], vd] w fun e w' => e = .returned (.int .i64 1) ∧ Below w.heap.size w w' := by
  have R := Lib.hid fun W => logrefused_nil W
  go_enter Tryz.func19, Tryz.ntmps19
  go_wp2_with fail
  refine (R.out _).mono ?_; rintro e w1 ⟨rfl, rfl⟩
  go_wp2
  go_ret
  exact ⟨rfl, balloc1 _ _⟩
set_option maxRecDepth 100000 in
theorem jcommit_failed (g d : Nat) (b l i la ma ml ta tl da slot left : Int) (seq : Nat) (failed : Int) (hf : failed ≠ 0) (vc vr vd : Value) (w : World) (h : LogAt g d b l i la ma ml ta tl da slot left seq failed w) :
    Calls Tryz.prog 19 #[.pointer (some ⟨g, 0, none⟩), .agg #[vc, vr], vd] w fun e w' => e = .returned (.int .i64 failed) ∧ Below w.heap.size w w' := by
  have h1 : LogAt g d b l i la ma ml ta tl da slot left seq failed (w.alloc (.cells #[vc, vr] 64)) := Blk.kept1 h (balloc1 _ _)
  have R := Lib.hid (logrefused_any g d b l i la ma ml ta tl da slot left seq failed _ h1)
  have hb1 := balloc1 w (.cells #[vc, vr] 64)
  clear h h1
  go_enter Tryz.func19, Tryz.ntmps19
  go_wp2_with fail
  refine R.out.mono ?_; rintro e w1 ⟨rfl, rfl⟩
  go_wp2
  go_ret
  exact ⟨rfl, hb1⟩
set_option maxRecDepth 100000 in
set_option maxHeartbeats 2000000 in
theorem jcommit_bad (g d : Nat) (b l i la ma ml ta tl da : Int) (hl : 128 ≤ l ∧ l ≤ 512) (hla : 0 ≤ la ∧ la ≤ 4096) (slot left : Int) (seq : Nat) (L : List (Int × ByteArray)) (hL : L.length ≤ 4000) (R : List Int) (hR : R.length ≤ 4000000) (D : List (Int × ByteArray)) (hD : D.length ≤ 4000)
    (vc vr vd : Value) (w : World) (h : LogAt g d b l i la ma ml ta tl da slot left seq 0 w) (hc : ChgsIn vc L w) (hr : IntsIn vr R w) (hd : ChgsIn vd D w) (hbad : (txnOk (hmB b la l) L R && chgsOk (hmB b la l) D) = false) :
    Calls Tryz.prog 19 #[.pointer (some ⟨g, 0, none⟩), .agg #[vc, vr], vd] w fun e w' => e = .returned (.int .i64 2) ∧ Below w.heap.size w w' := by
  have mixed : Tryz.prog.follows .mixedOrders = true := by kernel_rfl
  have gt : Tryz.prog.stoodInHeld 64 = false := by kernel_rfl
  obtain ⟨ac, cc, rfl, -⟩ := hc.shape
  obtain ⟨ar, cr, rfl, -⟩ := hr.shape
  obtain ⟨w1, hw1⟩ : ∃ w1, w.alloc (.cells #[.slice ac L.length cc, .slice ar R.length cr] 64) = w1 := ⟨_, rfl⟩
  have T1 : TxnAt w.heap.size (.slice ac L.length cc) (.slice ar R.length cr) w1 := by rw [← hw1]; exact Blk.new _ _ _
  have b1 : Below w.heap.size w w1 := by rw [← hw1]; exact balloc1 _ _
  have g1 : LogAt g d b l i la ma ml ta tl da slot left seq 0 w1 := Blk.kept1 h b1
  have RF := Lib.hid (logrefused_any g d b l i la ma ml ta tl da slot left seq 0 w1 g1)
  have VT := Lib.hid fun p : BelowP w1 => validTxn_any (some ⟨d, 0, none⟩) b l i la ma ml ta tl da hl hla L hL R hR _ _ p.to ((hc.kept b1).kept p.h) ((hr.kept b1).kept p.h)
  have VC := Lib.hid fun p : BelowP w1 => validChanges_any (some ⟨d, 0, none⟩) b l i la ma ml ta tl da hl hla D hD vd p.to ((hd.kept b1).kept p.h)
  have k0 := fun p : BelowP w1 => (g1.all p).cells.1
  have k1 := fun p : BelowP w1 => (g1.all p).cells.2.1
  have k2 := fun p : BelowP w1 => (g1.all p).cells.2.2.1
  have k3 := fun p : BelowP w1 => (g1.all p).cells.2.2.2.1
  have k4 := fun p : BelowP w1 => (g1.all p).cells.2.2.2.2.1
  have k5 := fun p : BelowP w1 => (g1.all p).cells.2.2.2.2.2.1
  have k6 := fun p : BelowP w1 => (g1.all p).cells.2.2.2.2.2.2.1
  have k7 := fun p : BelowP w1 => (g1.all p).cells.2.2.2.2.2.2.2.1
  have k8 := fun p : BelowP w1 => (g1.all p).cells.2.2.2.2.2.2.2.2.1
  have k9 := fun p : BelowP w1 => (g1.all p).cells.2.2.2.2.2.2.2.2.2.1
  have t0 := fun p : BelowP w1 => (Blk.kept1 T1 p.h).cell 0
  have t1 := fun p : BelowP w1 => (Blk.kept1 T1 p.h).cell 1
  simp only [List.getElem?_toArray, List.getElem?_cons_zero, List.getElem?_cons_succ] at t0 t1
  have HW1 := Lib.hid hw1
  have HB1 := Lib.hid b1
  have HG1 := Lib.hid g1
  have HT1 := Lib.hid T1
  have HC1 := Lib.hid (hc.kept b1)
  have HR1 := Lib.hid (hr.kept b1)
  have HD1 := Lib.hid (hd.kept b1)
  clear hw1 T1 b1 g1 h hc hr hd
  have HBAD := Lib.hid hbad
  clear hbad
  generalize txnOk (hmB b la l) L R = x1 at *
  generalize chgsOk (hmB b la l) D = x2 at *
  cases x1 with
  | true =>
    obtain rfl : x2 = false := by simpa using HBAD.out
    go_enter Tryz.func19, Tryz.ntmps19
    go_wp2_with fail
    rw [HW1.out]
    refine RF.out.mono ?_; rintro e w2 ⟨rfl, rfl⟩
    clear RF
    go_upto_region 4 with fail
    try rw [HW1.out]
    refine wp_region_quiet_below mixed (by kernel_rfl) ?_
    repeat (go_big_quiet_step (first | (go_at_call 45; refine calls_below (VT.out _)) | (go_at_call 46; refine calls_below (VC.out _))))
    refine wpQuiet_nil ?_
    intro w0q hw'
    obtain ⟨⟨wq, bq⟩, hw''⟩ := hw'
    have hw2 : wq = w0q := hw''.symm
    clear hw''
    subst hw2
    go_wp2
    go_ret
    exact ⟨rfl, HB1.out.trans (bq.mono HB1.out.size)⟩
  | false =>
    go_enter Tryz.func19, Tryz.ntmps19
    go_wp2_with fail
    rw [HW1.out]
    refine RF.out.mono ?_; rintro e w2 ⟨rfl, rfl⟩
    clear RF
    go_upto_region 4 with fail
    try rw [HW1.out]
    refine wp_region_quiet_below mixed (by kernel_rfl) ?_
    repeat (go_big_quiet_step (first | (go_at_call 45; refine calls_below (VT.out _)) | (go_at_call 46; refine calls_below (VC.out _))))
    refine wpQuiet_nil ?_
    intro w0q hw'
    obtain ⟨⟨wq, bq⟩, hw''⟩ := hw'
    have hw2 : wq = w0q := hw''.symm
    clear hw''
    subst hw2
    go_wp2
    go_ret
    exact ⟨rfl, HB1.out.trans (bq.mono HB1.out.size)⟩
set_option maxRecDepth 100000 in
set_option maxHeartbeats 2000000 in
theorem jcommit_full (g d : Nat) (b l i la ma ml ta tl da : Int) (hl : 128 ≤ l ∧ l ≤ 512) (hla : 0 ≤ la ∧ la ≤ 4096) (slot left : Int) (seq : Nat) (L : List (Int × ByteArray)) (hL : L.length ≤ 4000) (R : List Int) (hR : R.length ≤ 4000000) (D : List (Int × ByteArray)) (hD : D.length ≤ 4000)
    (vc vr vd : Value) (w : World) (h : LogAt g d b l i la ma ml ta tl da slot left seq 0 w) (hc : ChgsIn vc L w) (hr : IntsIn vr R w) (hd : ChgsIn vd D w) (hok : txnOk (hmB b la l) L R = true) (hok2 : chgsOk (hmB b la l) D = true) (hfull : left < (sizeT L.length R.length : Int)) (hR2 : R.length ≤ 1000000) :
    Calls Tryz.prog 19 #[.pointer (some ⟨g, 0, none⟩), .agg #[vc, vr], vd] w fun e w' => e = .returned (.int .i64 90) ∧ Below w.heap.size w w' := by
  have mixed : Tryz.prog.follows .mixedOrders = true := by kernel_rfl
  have gt : Tryz.prog.stoodInHeld 64 = false := by kernel_rfl
  obtain ⟨ac, cc, rfl, -⟩ := hc.shape
  obtain ⟨ar, cr, rfl, -⟩ := hr.shape
  obtain ⟨w1, hw1⟩ : ∃ w1, w.alloc (.cells #[.slice ac L.length cc, .slice ar R.length cr] 64) = w1 := ⟨_, rfl⟩
  have T1 : TxnAt w.heap.size (.slice ac L.length cc) (.slice ar R.length cr) w1 := by rw [← hw1]; exact Blk.new _ _ _
  have b1 : Below w.heap.size w w1 := by rw [← hw1]; exact balloc1 _ _
  have g1 : LogAt g d b l i la ma ml ta tl da slot left seq 0 w1 := Blk.kept1 h b1
  have RF := Lib.hid (logrefused_any g d b l i la ma ml ta tl da slot left seq 0 w1 g1)
  have VT := Lib.hid fun p : BelowP w1 => validTxn_any (some ⟨d, 0, none⟩) b l i la ma ml ta tl da hl hla L hL R hR _ _ p.to ((hc.kept b1).kept p.h) ((hr.kept b1).kept p.h)
  have VC := Lib.hid fun p : BelowP w1 => validChanges_any (some ⟨d, 0, none⟩) b l i la ma ml ta tl da hl hla D hD vd p.to ((hd.kept b1).kept p.h)
  have k0 := fun p : BelowP w1 => (g1.all p).cells.1
  have k1 := fun p : BelowP w1 => (g1.all p).cells.2.1
  have k2 := fun p : BelowP w1 => (g1.all p).cells.2.2.1
  have k3 := fun p : BelowP w1 => (g1.all p).cells.2.2.2.1
  have k4 := fun p : BelowP w1 => (g1.all p).cells.2.2.2.2.1
  have k5 := fun p : BelowP w1 => (g1.all p).cells.2.2.2.2.2.1
  have k6 := fun p : BelowP w1 => (g1.all p).cells.2.2.2.2.2.2.1
  have k7 := fun p : BelowP w1 => (g1.all p).cells.2.2.2.2.2.2.2.1
  have k8 := fun p : BelowP w1 => (g1.all p).cells.2.2.2.2.2.2.2.2.1
  have k9 := fun p : BelowP w1 => (g1.all p).cells.2.2.2.2.2.2.2.2.2.1
  have t0 := fun p : BelowP w1 => (Blk.kept1 T1 p.h).cell 0
  have t1 := fun p : BelowP w1 => (Blk.kept1 T1 p.h).cell 1
  simp only [List.getElem?_toArray, List.getElem?_cons_zero, List.getElem?_cons_succ] at t0 t1
  have HW1 := Lib.hid hw1
  have HB1 := Lib.hid b1
  have HG1 := Lib.hid g1
  have HT1 := Lib.hid T1
  have HC1 := Lib.hid (hc.kept b1)
  have HR1 := Lib.hid (hr.kept b1)
  have HD1 := Lib.hid (hd.kept b1)
  clear hw1 T1 b1 g1 h hc hr hd
  rw [hok] at VT
  rw [hok2] at VC
  have SZ := Lib.hid fun W => size_any ac ar L.length R.length cc cr (by omega) hR2 W
  generalize sizeT L.length R.length = N at *
  go_enter Tryz.func19, Tryz.ntmps19
  go_wp2_with fail
  rw [HW1.out]
  refine RF.out.mono ?_; rintro e w2 ⟨rfl, rfl⟩
  clear RF
  go_upto_region 4 with fail
  try rw [HW1.out]
  refine wp_region_quiet_below mixed (by kernel_rfl) ?_
  repeat (go_big_quiet_step (first | (go_at_call 45; refine calls_below (VT.out _)) | (go_at_call 46; refine calls_below (VC.out _))))
  refine wpQuiet_nil ?_
  intro w0q hw'
  obtain ⟨⟨wq, bq⟩, hw''⟩ := hw'
  have hw2 : wq = w0q := hw''.symm
  clear hw''
  subst hw2
  clear k0 k1 k2 k3 k4 k5 k6 k7 k8 k9 t0 t1 VT VC
  have HGq := Lib.hid (Blk.kept1 HG1.out bq)
  have HTq := Lib.hid (Blk.kept1 HT1.out bq)
  have HBq := Lib.hid (HB1.out.trans (bq.mono HB1.out.size))
  have t0 := HTq.out.cell 0
  have t1 := HTq.out.cell 1
  simp only [List.getElem?_toArray, List.getElem?_cons_zero, List.getElem?_cons_succ] at t0 t1
  clear bq HG1 HT1
  go_wp2_with fail
  refine (SZ.out _).mono ?_; rintro e w3 ⟨rfl, b3⟩
  have c12 := (LogAt.cells (Blk.kept1 HGq.out b3)).2.2.2.2.2.2.2.2.2.2.2.2.1
  have hb3 := bnext HBq.out b3
  clear t0 t1 SZ b3
  go_wp2
  go_ret
  exact ⟨rfl, hb3⟩
end Go.Proofs.YtanghmogeiiooaaGreatDoor
