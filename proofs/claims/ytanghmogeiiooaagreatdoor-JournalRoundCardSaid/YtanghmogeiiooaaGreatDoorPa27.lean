import Derived.Test.YtanghmogeiiooaaGreatDoorPa23
import Derived.Test.YtanghmogeiiooaaGreatDoorPa06
import Derived.Test.YtanghmogeiiooaaGreatDoorPa26
set_option linter.unusedVariables false
set_option linter.unusedSimpArgs false
set_option linter.constructorNameAsVariable false
/- slices.BinarySearch of ints that rise. -/
namespace Go.Proofs.YtanghmogeiiooaaGreatDoor
set_option linter.unusedVariables false
open Go.RowKit

theorem search_any (R : List Int) (hR : R.Pairwise (· ≤ ·)) (hn : R.length ≤ 4000000) (x : Int) (v : Value) (w : World) (hv : IntsIn v R w) :
    Calls Tryz.prog 74 #[v, .int .i64 x] w fun e w' => ∃ p : Int, e = .returned (.tuple #[.int .i64 p, .bool (R.contains x)]) ∧ Below w.heap.size w w' := by
  obtain ⟨ad, cap, rfl, h1, h2, h3, -⟩ := hv.shape
  cases R with
  | nil =>
    refine Calls.mono (Any.slices_BinarySearch_int_empty Tryz.searchI ad cap x w) ?_
    rintro e w' ⟨rfl, rfl⟩
    exact ⟨0, rfl, Below.refl _ _⟩
  | cons r R =>
    obtain ⟨g, o, rfl, hg, hc⟩ := row_cells h3 (by simp)
    refine Calls.mono (Any.slices_BinarySearch_int Tryz.searchI g o (r :: R).length cap (r :: R) x w (Nat.le_refl _) (by omega) (fun j hj => by rw [hc j hj, List.getD_eq_getElem?_getD, List.getElem?_eq_getElem hj]; rfl) (by rw [List.take_length]; exact hR)) ?_
    rintro e w' ⟨rfl, q, rfl⟩
    rw [List.take_length]
    exact ⟨_, rfl, below_drewN (Below.refl _ _) q⟩
theorem riseTo_sorted {hm : Int → Bool} {L : List Int} (h : riseTo hm L L.length) : L.Pairwise (· ≤ ·) := by
  have step : ∀ n i, i + n < L.length → hat L i ≤ hat L (i + n) := fun n => by
    induction n with
    | zero => intro i _; exact Int.le_refl _
    | succ n ih =>
      intro i hi
      have a := ih i (by omega)
      have b := (h (i + n + 1) hi).2 (by omega)
      rw [show i + n + 1 - 1 = i + n by omega] at b
      rw [show i + (n + 1) = i + n + 1 by omega]
      omega
  rw [List.pairwise_iff_getElem]
  intro i j hi hj hij
  have := step (j - i) i (by omega)
  rwa [show i + (j - i) = j by omega, hat_eq hi, hat_eq hj] at this
end Go.Proofs.YtanghmogeiiooaaGreatDoor

/- validTxn: may this transaction be committed? -/
namespace Go.Proofs.YtanghmogeiiooaaGreatDoor
set_option linter.unusedVariables false
set_option linter.unusedSimpArgs false
open Go.RowKit

abbrev TxnAt (g : Nat) (vc vr : Value) (w : World) : Prop := Blk g #[vc, vr] 64 w
def txnOk (hm : Int → Bool) (L : List (Int × ByteArray)) (R : List Int) : Bool := chgsOk hm L && decide (riseTo hm R R.length) && (L.map Prod.fst).all fun x => !R.contains x
theorem txnOk_both {hm : Int → Bool} {L : List (Int × ByteArray)} {R : List Int} {k : Nat} (hk : k < (L.map Prod.fst).length) (h : R.contains (L.map Prod.fst)[k] = true) : txnOk hm L R = false := by
  unfold txnOk
  rw [Bool.and_eq_false_iff]
  refine .inr (Bool.eq_false_iff.2 fun q => ?_)
  rw [List.all_eq_true] at q
  have := q _ (List.getElem_mem hk)
  rw [h] at this; cases this
theorem txnOk_yes {hm : Int → Bool} {L : List (Int × ByteArray)} {R : List Int} (h1 : chgsOk hm L = true) (h2 : decide (riseTo hm R R.length) = true) (h : ∀ j (hj : j < (L.map Prod.fst).length), j < (L.map Prod.fst).length → R.contains (L.map Prod.fst)[j] = false) : txnOk hm L R = true := by
  unfold txnOk
  rw [h1, h2, Bool.true_and, Bool.true_and, List.all_eq_true]
  intro c hc
  obtain ⟨j, hj, rfl⟩ := List.getElem_of_mem hc
  rw [h j hj hj]; rfl
set_option maxRecDepth 100000 in
set_option maxHeartbeats 8000000 in
theorem validTxn_any (d : Option Addr) (b l i la ma ml ta tl da : Int) (hl : 128 ≤ l ∧ l ≤ 512) (hla : 0 ≤ la ∧ la ≤ 4096) (L : List (Int × ByteArray)) (hL : L.length ≤ 4000) (R : List Int) (hR : R.length ≤ 4000000) (vc vr : Value) (w : World) (hc : ChgsIn vc L w) (hr : IntsIn vr R w) :
    Calls Tryz.prog 45 #[ringV d b l i la ma ml ta tl da, .agg #[vc, vr]] w fun e w' => e = .returned (.bool (txnOk (hmB b la l) L R)) ∧ Below w.heap.size w w' := by
  have hck := fun w' (hb : Below w.heap.size w w') => RowIn.kept hc hb
  have hrk := fun w' (hb : Below w.heap.size w w') => RowIn.kept hr hb
  obtain ⟨ac, cc, rfl, -⟩ := hc.shape
  obtain ⟨ar, cr, rfl, -⟩ := hr.shape
  have VC := Lib.hid (fun w' hb => validChanges_any d b l i la ma ml ta tl da hl hla L hL _ w' (hck w' hb))
  have VR := Lib.hid (fun w' hb => rising_any d b l i la ma ml ta tl da hl hla R _ w' (hrk w' hb))
  have CHG := Lib.hid (fun w' hb => changed_any L hL _ w' (hck w' hb))
  have SE := Lib.hid (fun (h : riseTo (hmB b la l) R R.length) x w' hb => search_any R (riseTo_sorted h) hR x _ w' (hrk w' hb))
  have HBO := Lib.hid (fun k hk h => txnOk_both (hm := hmB b la l) (L := L) (R := R) (k := k) hk h)
  have HYES := Lib.hid (fun h1 h2 h => txnOk_yes (hm := hmB b la l) (L := L) (R := R) h1 h2 h)
  have HN1 : Hid (chgsOk (hmB b la l) L = false → txnOk (hmB b la l) L R = false) := Lib.hid fun h => by unfold txnOk; rw [h, Bool.false_and, Bool.false_and]
  have HN2 : Hid (decide (riseTo (hmB b la l) R R.length) = false → txnOk (hmB b la l) L R = false) := Lib.hid fun h => by unfold txnOk; rw [h, Bool.and_false, Bool.false_and]
  have HD : Hid (decide (riseTo (hmB b la l) R R.length) = true → riseTo (hmB b la l) R R.length) := Lib.hid of_decide_eq_true
  clear hck hrk hc hr
  have hbl : (L.map Prod.fst).length ≤ 4000 := by rw [List.length_map]; exact hL
  generalize hmB b la l = HM at *
  generalize txnOk HM L R = OK at *
  generalize chgsOk HM L = c1 at *
  generalize decide (riseTo HM R R.length) = r1 at *
  generalize L.map Prod.fst = BS at *
  obtain ⟨W, hW⟩ : ∃ W, (w.alloc (.cells (ringC d b l i la ma ml ta tl da) 87)).alloc (.cells #[.slice ac L.length cc, .slice ar R.length cr] 64) = W := ⟨_, rfl⟩
  have RW : RingAt w.heap.size d b l i la ma ml ta tl da W := by rw [← hW]; exact (RingAt.new d b l i la ma ml ta tl da w).kept1 (balloc1 _ _)
  have TW : TxnAt (w.heap.size + 1) (.slice ac L.length cc) (.slice ar R.length cr) W := by
    rw [← hW, show w.heap.size + 1 = (w.alloc (.cells (ringC d b l i la ma ml ta tl da) 87)).heap.size by rw [size_alloc]]
    exact Blk.new _ _ _
  have BW : Below w.heap.size w W := by rw [← hW]; exact balloc (balloc1 _ _) _
  have HW := Lib.hid hW
  have HSW : Hid ((w.alloc (.cells (ringC d b l i la ma ml ta tl da) 87)).heap.size = w.heap.size + 1) := Lib.hid (size_alloc _ _)
  clear hW
  obtain ⟨a0, a1, a2, a3, a4, a5, a6, a7, a8, a9⟩ := RW.cells
  have t0 := TW.cell 0
  have t1 := TW.cell 1
  simp only [List.getElem?_toArray, List.getElem?_cons_zero, List.getElem?_cons_succ] at t0 t1
  have HRW := Lib.hid RW
  have HTW := Lib.hid TW
  have HBW := Lib.hid BW
  clear RW TW BW
  cases c1 with
  | false =>
    clear VR CHG SE HBO HYES HN2 HD
    go_enter Tryz.func45, Tryz.ntmps45
    go_wp2_with fail
    (try rw [HSW.out]); (try rw [HW.out])
    refine (VC.out _ HBW.out).mono ?_; rintro e w1 ⟨rfl, b1⟩
    clear HSW HW VC a0 a1 a2 a3 a4 a5 a6 a7 a8 a9 t0 t1
    go_wp2
    go_ret
    exact ⟨ret_bool (HN1.out (by simp)).symm, bnext HBW.out b1⟩
  | true =>
    cases r1 with
    | false =>
      clear CHG SE HBO HYES HN1 HD
      go_enter Tryz.func45, Tryz.ntmps45
      go_wp2_with fail
      (try rw [HSW.out]); (try rw [HW.out])
      refine (VC.out _ HBW.out).mono ?_; rintro e w1 ⟨rfl, b1⟩
      have R1 := HRW.out.kept1 b1
      have T1 := Blk.kept1 HTW.out b1
      have HB1 := Lib.hid (bnext HBW.out b1)
      clear HSW HW VC HRW HTW HBW b1 a0 a1 a2 a3 a4 a5 a6 a7 a8 a9 t0 t1
      obtain ⟨a0, a1, a2, a3, a4, a5, a6, a7, a8, a9⟩ := R1.cells
      have t0 := T1.cell 0
      have t1 := T1.cell 1
      simp only [List.getElem?_toArray, List.getElem?_cons_zero, List.getElem?_cons_succ] at t0 t1
      clear R1 T1
      go_wp2_with fail
      refine (VR.out _ HB1.out).mono ?_; rintro e w2 ⟨rfl, b2⟩
      clear a0 a1 a2 a3 a4 a5 a6 a7 a8 a9 t0 t1 VR
      go_wp2
      go_ret
      exact ⟨ret_bool (HN2.out (by simp)).symm, bnext HB1.out b2⟩
    | true =>
      clear HN1 HN2
      have HR1 := HD.out rfl
      have SE := Lib.hid (SE.out HR1)
      have HY2 : Hid ((∀ j (hj : j < BS.length), j < BS.length → R.contains BS[j] = false) → OK = true) := Lib.hid (fun h => HYES.out (by simp) (by simp) h)
      clear HR1 HD HYES
      go_enter Tryz.func45, Tryz.ntmps45
      go_wp2_with fail
      (try rw [HSW.out]); (try rw [HW.out])
      refine (VC.out _ HBW.out).mono ?_; rintro e w1 ⟨rfl, b1⟩
      have R1 := HRW.out.kept1 b1
      have T1 := Blk.kept1 HTW.out b1
      have HB1 := Lib.hid (bnext HBW.out b1)
      clear HSW HW VC HRW HTW HBW b1 a0 a1 a2 a3 a4 a5 a6 a7 a8 a9 t0 t1
      obtain ⟨a0, a1, a2, a3, a4, a5, a6, a7, a8, a9⟩ := R1.cells
      have t0 := T1.cell 0
      have t1 := T1.cell 1
      simp only [List.getElem?_toArray, List.getElem?_cons_zero, List.getElem?_cons_succ] at t0 t1
      have HT1 := Lib.hid T1
      clear R1 T1
      go_wp2_with fail
      refine (VR.out _ HB1.out).mono ?_; rintro e w2 ⟨rfl, b2⟩
      have T1 := Blk.kept1 HT1.out b2
      have HB2 := Lib.hid (bnext HB1.out b2)
      clear a0 a1 a2 a3 a4 a5 a6 a7 a8 a9 t0 t1 VR HT1 HB1 b2
      have t0 := T1.cell 0
      have t1 := T1.cell 1
      simp only [List.getElem?_toArray, List.getElem?_cons_zero, List.getElem?_cons_succ] at t0 t1
      have HT2 := Lib.hid T1
      clear T1
      go_wp2_with fail
      refine (CHG.out _ HB2.out).mono ?_; rintro e w3 ⟨vb, rfl, hvb, b3⟩
      have T1 := Blk.kept1 HT2.out b3
      have HB3 := Lib.hid (bnext HB2.out b3)
      have hvi := own_in hvb
      obtain ⟨ab, cb, rfl, h1, h2, h3, -⟩ := hvi.shape
      have H3 := Lib.hid (row_cells h3)
      have HT3 := Lib.hid T1
      clear t0 t1 HT2 HB2 b3 CHG hvb hvi h3 T1
      go_wp2
      go_loopw [25] (fun q wr => ∃ k : Nat, q = .int .i64 k ∧ k ≤ BS.length ∧ Hid (∀ j (hj : j < BS.length), j < k → R.contains BS[j] = false) ∧ Below w3.heap.size w3 wr) (fun q _ => BS.length - (intOf q).toNat)
      case atStart => exact ⟨0, rfl, Nat.zero_le _, Lib.hid (fun j _ hj => by omega), Below.refl _ _⟩
      case round =>
        obtain ⟨k, rfl, hk, HU, hB⟩ := hrel
        by_cases hlt : k < BS.length
        · obtain ⟨g, o, rfl, hg, hc⟩ := H3.out (by omega)
          have c0 := (hB.cell (p := ⟨g, o + k, none⟩) hg).trans (hc k hlt)
          have T1 := Blk.kept1 HT3.out hB
          have t1 := T1.cell 1
          simp only [List.getElem?_toArray, List.getElem?_cons_zero, List.getElem?_cons_succ] at t1
          have SW := Lib.hid (SE.out BS[k] wr (bnext HB3.out hB))
          have HBO2 := Lib.hid (HBO.out k hlt)
          have HN : Hid (R.contains BS[k] = false → ∀ j (hj : j < BS.length), j < k + 1 → R.contains BS[j] = false) := Lib.hid fun h0 j hj h => by
            by_cases e : j = k
            · subst e; exact h0
            · exact HU.out j hj (by omega)
          have HB := Lib.hid hB
          clear hc T1 H3 hB HU
          generalize BS[k] = x at *
          go_wp2_with fail
          refine SW.out.mono ?_; rintro e w4 ⟨p, rfl, b4⟩
          have HB4 := Lib.hid (bnext HB.out b4)
          clear SW b4 t1 c0
          cases hct : R.contains x with
          | true =>
            have HE := Lib.hid (HBO2.out hct)
            clear hct HN
            go_wp2
            go_ret
            exact ⟨ret_bool HE.out.symm, bnext HB3.out HB4.out⟩
          | false =>
            have HN2 := Lib.hid (HN.out hct)
            clear hct HN HBO2
            go_wp2
            exact ⟨⟨k + 1, by go_num, by omega, HN2, HB4.out⟩, by simp [intOf]; omega⟩
        · obtain rfl : k = BS.length := by omega
          have HE := Lib.hid (HY2.out HU.out)
          clear H3
          go_wp2
          go_ret
          exact ⟨ret_bool HE.out.symm, bnext HB3.out hB⟩
end Go.Proofs.YtanghmogeiiooaaGreatDoor
