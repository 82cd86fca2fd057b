/- Crash, Kept. -/
import Derived.Test.YtehjobjjlldckaaGreatDCrash
import Derived.Test.YtehjobjjlldckaaGreatRowIn
namespace Go.Proofs.YtehjobjjlldckaaGreat
set_option linter.unusedVariables false
open Go.RowKit

theorem pendL_get {p : Nat → Bool} : ∀ {n i : Nat} (h : i < (pendL p n).length), (pendL p n)[i] < n ∧ p (pendL p n)[i] = true ∧ cntT p (pendL p n)[i] = i := by
  intro n i h
  obtain ⟨h1, h2⟩ := pendL_lt p (List.getElem_mem h)
  refine ⟨h1, h2, ?_⟩
  have h3 := pendL_at p h1 h2
  obtain ⟨h4, h5⟩ := List.getElem?_eq_some_iff.1 h3
  have hnd : ∀ n, (pendL p n).Pairwise (· < ·) := fun n => by
    induction n with
    | zero => exact List.Pairwise.nil
    | succ n ih =>
      unfold pendL
      split
      · exact List.pairwise_append.2 ⟨ih, by simp, fun a ha b hb => by rw [List.mem_singleton] at hb; subst hb; exact (pendL_lt p ha).1⟩
      · exact ih
  rcases Nat.lt_trichotomy (cntT p (pendL p n)[i]) i with hl | he | hg
  · have := List.pairwise_iff_getElem.1 (hnd n) _ _ h4 h hl
    omega
  · exact he
  · have := List.pairwise_iff_getElem.1 (hnd n) _ _ h h4 hg
    omega
/-- a crash's image, as far as the first i pending blocks were looked at -/
def imgAt (S : St) (keep : Nat → Bool) (i : Nat) : Nat → ByteArray := fun b => if S.pend b && decide (cntT S.pend b < i) && keep (cntT S.pend b) then S.now b else S.was b
theorem img_zero (S : St) (keep : Nat → Bool) (b : Nat) : imgAt S keep 0 b = S.was b := by unfold imgAt; simp
theorem img_size {S : St} (h : S.ok) (keep : Nat → Bool) (i : Nat) {b : Nat} (hb : b < S.n) : (imgAt S keep i b).size = 128 := by
  unfold imgAt; split
  · exact h.now b hb
  · exact h.was b hb
theorem cnt_inj {p : Nat → Bool} {a b : Nat} (ha : p a = true) (hb : p b = true) (h : cntT p a = cntT p b) : a = b := by
  rcases Nat.lt_trichotomy a b with hl | he | hg
  · have := cntT_lt p hl ha; omega
  · exact he
  · have := cntT_lt p hg hb; omega
theorem img_yes {S : St} {keep : Nat → Bool} {i b : Nat} (hp : S.pend b = true) (hc : cntT S.pend b = i) (hk : keep i = true) (x : Nat) : imgAt S keep (i + 1) x = upd (imgAt S keep i) b (S.now b) x := by
  by_cases e : x = b
  · subst e
    rw [upd_same]; unfold imgAt; rw [hp, hc, hk]; simp
  · rw [upd_other _ e]
    unfold imgAt
    cases hx : S.pend x with
    | false => simp
    | true =>
      have hne : cntT S.pend x ≠ i := fun h => e (cnt_inj hx hp (h.trans hc.symm))
      have : decide (cntT S.pend x < i + 1) = decide (cntT S.pend x < i) := by
        by_cases h : cntT S.pend x < i
        · rw [decide_eq_true h, decide_eq_true (by omega)]
        · rw [decide_eq_false h, decide_eq_false (by omega)]
      rw [this]
theorem img_no {S : St} {keep : Nat → Bool} {i : Nat} (hk : keep i = false) (x : Nat) : imgAt S keep (i + 1) x = imgAt S keep i x := by
  unfold imgAt
  by_cases h : cntT S.pend x = i
  · rw [h, hk]; simp
  · have : decide (cntT S.pend x < i + 1) = decide (cntT S.pend x < i) := by
      by_cases h : cntT S.pend x < i
      · rw [decide_eq_true h, decide_eq_true (by omega)]
      · rw [decide_eq_false h, decide_eq_false (by omega)]
    rw [this]
theorem img_end {S : St} {keep : Nat → Bool} {x : Nat} (hx : x < S.n) : imgAt S keep (pends S).length x = crashAt S.now S.was S.pend keep x := by
  unfold imgAt crashAt
  cases hp : S.pend x with
  | false => simp
  | true =>
    have : cntT S.pend x < (pends S).length := by unfold pends; rw [pendL_length]; exact cntT_lt _ hx hp
    simp [this]
theorem keepOf_lt {K : List Bool} {i : Nat} (h : i < K.length) : keepOf K i = K[i] := by unfold keepOf; rw [List.getElem?_eq_getElem h]; rfl
theorem keepOf_ge {K : List Bool} {i : Nat} (h : K.length ≤ i) : keepOf K i = false := by unfold keepOf; rw [List.getElem?_eq_none h]; rfl
theorem sets_part {w : World} {g N b : Nat} {f h : Nat → ByteArray} (hc : CellsAt g (N * 128) (byF f) w) (hb : b < N) : CellsAt g (N * 128) (byF (upd f b (h b))) (w.setCells g (b * 128) (cellsL 128 fun j => byF h (b * 128 + j))) := by
  have hl := cellsL_length 128 fun j => byF h (b * 128 + j)
  refine hc.sets (by omega) _ (fun j hj => ?_) fun j hj hn => ?_
  · rw [cellsL_at]
    unfold byF
    rw [show (b * 128 + j) / 128 = b by omega, upd_same]
  · unfold byF
    rw [upd_other _ (by omega)]
theorem byF_congr {f g : Nat → ByteArray} {N : Nat} (h : ∀ x, x < N → f x = g x) (j : Nat) (hj : j < N * 128) : byF f j = byF g j := by unfold byF; rw [h _ (by omega)]
theorem block_below {g len cap b : Nat} (hb : b < 4096) (h1 : (b + 1) * 128 ≤ len) (h2 : len ≤ cap) (h3 : cap ≤ 9223372036854775807) (w : World) :
    Calls Tryz.prog 57 #[.slice (some ⟨g, 0, none⟩) len cap, .int .i64 (b : Int)] w fun e w' => e = .returned (.slice (some ⟨g, b * 128, none⟩) 128 (cap - b * 128)) ∧ Below w.heap.size w w' :=
  (block_any g len cap b hb h1 h2 h3 w).mono fun e w' ⟨he, hw⟩ => by subst hw; exact ⟨he, Below.refl _ _⟩

set_option maxHeartbeats 4000000 in
theorem crash_any {d lo hi : Nat} {S : St} (K : List Bool) (kv : Value) (w : World) (h : DevAt d lo hi S w) (hkv : RowIn 1 kv K.length (K.map Value.bool) w) :
    Calls Tryz.prog 23 #[.pointer (some ⟨d, 0, none⟩), kv] w fun e w' => e = .returned (.string (crashT S K)) ∧ Below w.heap.size w w' := by
  have mixed : Tryz.prog.follows .mixedOrders = true := by kernel_rfl
  have P := Lib.hid fun w1 (h1 : DevAt d lo hi S w1) => pending_any w1 h1
  obtain ⟨gn, gk, gp, cn, ck, l, h⟩ := h
  obtain ⟨c0, c1, c2, _, _, _⟩ := h.cells
  have M := Lib.hid (missing_no d w c0)
  have hn := h.ok.hi
  have hlo := h.ok.lo
  have C := Lib.hid (clone_any gk (S.n * 128) ck (byF S.was) (fun j _ => byF_one _ j) (by omega) (by omega) h.ck w h.was)
  obtain ⟨adk, capk, rfl, hk1, hk2, hk3, -⟩ := hkv.shape
  have HK3 := Lib.hid hk3
  have H := Lib.hid h
  have HO := Lib.hid h.ok
  have top := h.top
  clear h hkv c1 hk3
  go_enter Tryz.func23, Tryz.ntmps23
  go_wp2_with fail
  refine M.out.mono ?_; rintro e w' ⟨rfl, rfl⟩
  go_wp2_with fail
  refine C.out.mono ?_; rintro e w1 ⟨gi, ci, rfl, ⟨ci1, ci2⟩, hi1, gi1, gi2, b1⟩
  have P1 := Lib.hid (P.out w1 (H.out.kept1 b1).at)
  clear M C c0 c2 P
  go_wp2_with fail
  refine P1.out.mono ?_; rintro e w2 ⟨v, rfl, hv, b2⟩
  have hb2 := bnext b1 b2
  have HD := Lib.hid (H.out.kept1 hb2)
  have hi2 := hi1.kept1 b2
  have HI := Lib.hid (hi2.congr (G := byF (imgAt S (keepOf K) 0)) fun j hj => byF_congr (N := S.n) (fun x _ => (img_zero S (keepOf K) x).symm) j hj)
  obtain ⟨adL, capL, rfl, hL1, hL2, hL3⟩ := shape_of hv
  have hL2 : capL ≤ 9223372036854775807 := hL2
  have hLn : (pends S).length ≤ S.n := pendL_len _ _
  have HV := Lib.hid hv
  have HL3 := Lib.hid hL3
  obtain ⟨hs1, hs2⟩ : w1.heap.size ≤ w2.heap.size ∧ w.heap.size ≤ w2.heap.size := ⟨b2.size, hb2.size⟩
  clear P1 hi1 hi2 hv hL3 b1 b2 H
  go_wp2
  go_loopw [6, 7, 18] (fun _ _ q wr => ∃ i : Nat, q = .int .i64 i ∧ i ≤ (pends S).length ∧ Hid (CellsAt gi (S.n * 128) (byF (imgAt S (keepOf K) i)) wr) ∧ Zone gi (gi + 1) w2 wr) (fun _ _ q _ => (pends S).length - (intOf q).toNat)
  case atStart => exact ⟨0, rfl, Nat.zero_le _, HI, Zone.refl _ _ _⟩
  case round =>
    obtain ⟨i, rfl, hi, HC, hz⟩ := hrel
    by_cases hlt : i < (pends S).length
    · obtain ⟨gL, rfl, hgL, hgL2⟩ := HL3.out (by omega)
      obtain ⟨p1, p2, p3⟩ := pendL_get (p := S.pend) (n := S.n) hlt
      have q1 : wr.cell? ⟨gL, i, none⟩ = some (natV (pends S)[i]) := by
        have h1 := HV.out.cellAt i (by omega)
        have e1 : ((pends S).map natV)[i]? = some (natV (pends S)[i]) := by rw [List.getElem?_map, List.getElem?_eq_getElem hlt]; rfl
        rw [e1] at h1
        exact (World.cell?_of_block (a := ⟨gL, i, none⟩) (hz.block gL hgL2 (.inr (by omega)))).trans h1
      unfold natV at q1
      have p1 : (pends S)[i] < S.n := p1
      have P2 : Hid (S.pend (pends S)[i] = true) := Lib.hid p2
      have P3 : Hid (cntT S.pend (pends S)[i] = i) := Lib.hid p3
      clear p2 p3
      generalize (pends S)[i] = b at *
      by_cases hki : i < K.length
      · obtain ⟨gq, oq, rfl, hgq, hcq⟩ := HK3.out (by rw [List.length_map]; omega)
        have q2 : wr.cell? ⟨gq, oq + i, none⟩ = some (.bool K[i]) := by
          have h1 := hcq i (.bool K[i]) (by rw [List.getElem?_map, List.getElem?_eq_getElem hki]; rfl)
          have h2 : w2.cell? ⟨gq, oq + i, none⟩ = some (.bool K[i]) := (hb2.cell (p := ⟨gq, oq + i, none⟩) hgq).trans h1
          exact (World.cell?_of_block (a := ⟨gq, oq + i, none⟩) (hz.block gq (by show gq < _; omega) (.inl (by show gq < _; omega)))).trans h2
        have hkeep := keepOf_lt hki
        generalize K[i] = kb at *
        cases kb with
        | true =>
          have hD := HD.out.kept hz (.inl (by omega))
          have c1 : ∀ p : BelowP wr, p.to.cell? ⟨d, 1, none⟩ = some (.slice (some ⟨gn, 0, none⟩) (S.n * 128) cn) := fun p => (hD.kept1 p.h).blk.cell 1
          have B1 := Lib.hid (block_below (g := gi) (len := S.n * 128) (cap := ci) (b := b) (by omega) (by omega) ci1 ci2)
          have B2 := Lib.hid (block_below (g := gn) (len := S.n * 128) (cap := cn) (b := b) (by omega) (by omega) HD.out.cn.1 HD.out.cn.2)
          have HDr := Lib.hid hD
          have HS := Lib.hid fun x (_ : x < S.n) => img_yes (S := S) (keep := keepOf K) P2.out P3.out hkeep x
          have hgir := HC.out.1
          clear hD HK3 hcq hgq hkeep
          go_wp2
          refine wp_region_tail_below 9 mixed (by kernel_rfl) ?_
          simp only [List.take_succ_cons, List.take_zero, List.drop_succ_cons, List.drop_zero]
          repeat (go_big_quiet_step (first | (go_at_call_of 57 ci; refine calls_below (B1.out _)) | (go_at_call_of 57 cn; refine calls_below (B2.out _))))
          refine wpQuiet_nil ?_
          intro w0q hw'
          obtain ⟨⟨wq, bq⟩, hw''⟩ := hw'
          have hw2 : wq = w0q := hw''.symm
          clear hw''
          subst hw2
          have hq1 := HC.out.kept1 bq
          have hq2 := (HDr.out.kept1 bq).now
          have hcp := fun ty => run_copy_over (ty := ty) (o := b * 128) (o' := b * 128) (cap := ci - b * 128) (cap' := cn - b * 128) (n := 128) hq1 hq2 (by omega) (by omega) (fun j _ => byF_one _ _)
          have hz3 := ((hz.trans (Zone.of_below bq gi (gi + 1))).sets (Nat.le_refl gi) (Nat.lt_succ_self gi) (b * 128) (cellsL 128 fun j => byF S.now (b * 128 + j)))
          have HC3 := Lib.hid ((sets_part (h := S.now) hq1 p1).congr (G := byF (imgAt S (keepOf K) (i + 1))) fun j hj => byF_congr (N := S.n) (fun x hx => (HS.out x hx).symm) j hj)
          obtain ⟨w4, hw4⟩ : ∃ w4, w4 = wq.setCells gi (b * 128) (cellsL 128 fun j => byF S.now (b * 128 + j)) := ⟨_, rfl⟩
          rw [← hw4] at hcp hz3 HC3
          clear hw4 hq1 hq2 c1 q1 q2 HC HS HDr bq B1 B2 hgir
          go_wp2_with (simp only [hcp])
          exact ⟨⟨i + 1, by go_num, by omega, HC3, hz3⟩, by simp [intOf]; omega⟩
        | false =>
          have HC3 := Lib.hid (HC.out.congr (G := byF (imgAt S (keepOf K) (i + 1))) fun j hj => byF_congr (N := S.n) (fun x hx => (img_no (S := S) (keep := keepOf K) hkeep x).symm) j hj)
          clear HC HK3 hcq hgq hkeep
          go_wp2
          exact ⟨⟨i + 1, by go_num, by omega, HC3, hz⟩, by simp [intOf]; omega⟩
      · have hkeep := keepOf_ge (K := K) (i := i) (by omega)
        have HC3 := Lib.hid (HC.out.congr (G := byF (imgAt S (keepOf K) (i + 1))) fun j hj => byF_congr (N := S.n) (fun x hx => (img_no (S := S) (keep := keepOf K) hkeep x).symm) j hj)
        clear HC HK3 hkeep
        go_wp2
        exact ⟨⟨i + 1, by go_num, by omega, HC3, hz⟩, by simp [intOf]; omega⟩
    · obtain rfl : i = (pends S).length := by omega
      have hr := read_all (cap := ci) HC.out (fun b hb => img_size HO.out _ _ hb)
      rw [cat_congr fun x hx => img_end (S := S) (keep := keepOf K) hx] at hr
      have hbz := hz.below (B := w.heap.size) (by omega) gi1
      have hbb := (hb2.trans hbz)
      clear HC HK3 HL3
      go_wp2
      go_ret
      exact ⟨rfl, hbb⟩
theorem kept_any {d lo hi : Nat} {S : St} (w : World) (h : DevAt d lo hi S w) :
    Calls Tryz.prog 21 #[.pointer (some ⟨d, 0, none⟩)] w fun e w' => e = .returned (.string (cat S.was S.n)) ∧ Below w.heap.size w w' := by
  have e : crashT S [] = cat S.was S.n := cat_congr fun i hi => by
    unfold crashAt keepOf; simp
  have C := Lib.hid (crash_any [] (.slice none 0 0) w h (RowIn.nil 1 w))
  rw [e] at C
  clear h
  go_enter Tryz.func21, Tryz.ntmps21
  go_wp2_with fail
  refine C.out.mono ?_; rintro e w' ⟨rfl, hb⟩
  go_wp2
  go_ret
  exact ⟨rfl, hb⟩
end Go.Proofs.YtehjobjjlldckaaGreat
