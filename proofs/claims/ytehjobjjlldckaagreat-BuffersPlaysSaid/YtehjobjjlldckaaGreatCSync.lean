/- The cache's Sync. -/
import Derived.Test.YtehjobjjlldckaaGreatCMark
namespace Go.Proofs.YtehjobjjlldckaaGreat
set_option linter.unusedVariables false
open Go.RowKit

/-! ### the mathematics -/
theorem out_same {C : CS} {b : Nat} (h : hasB C true false b = false) : outC C b = (0, C) := by
  unfold hasB at h
  unfold outC
  cases e : atB C.L b with
  | none => rfl
  | some x =>
    rw [e] at h
    have hd : ¬ (x.dirty = true ∧ x.pin = false) := fun hh => by simp [hh.1] at h
    exact if_neg hd
theorem out_dirty {C : CS} {b : Int} {k : Nat} (h : hasB (outC C b).2 true false k = true) : hasB C true false k = true := by
  unfold outC at h
  cases e : atB C.L b with
  | none => rw [e] at h; exact h
  | some x =>
    rw [e] at h
    dsimp only at h
    split at h
    · split at h
      · unfold hasB at h ⊢
        dsimp only at h
        rw [atB_set C.L b offDirty (fun _ => rfl)] at h
        by_cases ek : (k : Int) = b
        · rw [if_pos ek] at h
          cases e2 : atB C.L (k : Int) with
          | none => rw [e2] at h; cases h
          | some y => rw [e2] at h; simp [offDirty] at h
        · rw [if_neg ek] at h
          exact h
      · exact h
    · exact h
theorem sync_dirty {C : CS} {b : Nat} : ∀ {k}, hasB (syncTo C k).2 true false b = true → hasB C true false b = true
  | 0, h => h
  | k + 1, h => by
    unfold syncTo at h
    split at h
    · exact sync_dirty (out_dirty h)
    · exact sync_dirty h
theorem sync_skip1 {C : CS} {k : Nat} (h : hasB C true false k = false) : syncTo C (k + 1) = syncTo C k := by
  show (if (syncTo C k).1 = 0 then outC (syncTo C k).2 k else syncTo C k) = _
  split
  · rename_i h0
    rw [out_same (by
      cases e : hasB (syncTo C k).2 true false k with
      | false => rfl
      | true => rw [sync_dirty e] at h; cases h)]
    rw [← h0]
  · rfl
theorem sync_skip {C : CS} {k : Nat} : ∀ j, (∀ b, k ≤ b → b < k + j → hasB C true false b = false) → syncTo C (k + j) = syncTo C k
  | 0, _ => rfl
  | j + 1, h => by
    rw [← Nat.add_assoc, sync_skip1 (h (k + j) (by omega) (by omega))]
    exact sync_skip j fun b h1 h2 => h b h1 (by omega)
theorem sync_skip' {C : CS} {k n : Nat} (hk : k ≤ n) (h : ∀ b, k ≤ b → b < n → hasB C true false b = false) : syncTo C n = syncTo C k := by
  obtain ⟨j, rfl⟩ : ∃ j, n = k + j := ⟨n - k, by omega⟩
  exact sync_skip j h
theorem sync_stuck {C : CS} {k : Nat} (h : (syncTo C k).1 ≠ 0) : ∀ j, syncTo C (k + j) = syncTo C k
  | 0 => rfl
  | j + 1 => by
    have ih := sync_stuck h j
    show (if (syncTo C (k + j)).1 = 0 then _ else syncTo C (k + j)) = _
    rw [ih, if_neg h]
theorem sync_stuck' {C : CS} {k n : Nat} (hk : k ≤ n) (h : (syncTo C k).1 ≠ 0) : syncTo C n = syncTo C k := by
  obtain ⟨j, rfl⟩ : ∃ j, n = k + j := ⟨n - k, by omega⟩
  exact sync_stuck h j
/-- where the i-th of a list of marks is, or the end -/
def nxt (L : List Nat) (n i : Nat) : Nat := if h : i < L.length then L[i] else n
theorem nxt_lt {p : Nat → Bool} {n i : Nat} (h : i < (pendL p n).length) : nxt (pendL p n) n i < n ∧ p (nxt (pendL p n) n i) = true := by
  unfold nxt
  rw [dif_pos h]
  exact pendL_lt p (List.getElem_mem h)
theorem nxt_le (p : Nat → Bool) (n i : Nat) : nxt (pendL p n) n i ≤ n := by
  by_cases h : i < (pendL p n).length
  · exact Nat.le_of_lt (nxt_lt h).1
  · unfold nxt; rw [dif_neg h]; exact Nat.le_refl _
theorem sorted_at {L : List Nat} (hs : L.Pairwise (· < ·)) {i j : Nat} (hj : j < L.length) (hij : i < j) : L[i] < L[j] := (List.pairwise_iff_getElem.1 hs) i j (by omega) hj hij
/-- between two of them there is none -/
theorem nxt_gap {p : Nat → Bool} {n i : Nat} (h : i < (pendL p n).length) {b : Nat} (h1 : nxt (pendL p n) n i < b) (h2 : b < nxt (pendL p n) n (i + 1)) : p b = false := by
  cases hp : p b with
  | false => rfl
  | true =>
    exfalso
    have hs := pendL_sorted p n
    have hbn : b < n := Nat.lt_of_lt_of_le h2 (nxt_le p n _)
    obtain ⟨j, hj, e⟩ := List.mem_iff_getElem.1 (pendL_mem hbn hp)
    unfold nxt at h1 h2
    rw [dif_pos h] at h1
    have hij : i < j := by
      rcases Nat.lt_or_ge i j with h | h
      · exact h
      · exfalso
        rcases Nat.eq_or_lt_of_le h with e2 | h
        · subst e2; omega
        · have := sorted_at hs (by assumption) h; omega
    by_cases h3 : i + 1 < (pendL p n).length
    · rw [dif_pos h3] at h2
      rcases Nat.eq_or_lt_of_le (show i + 1 ≤ j from hij) with e2 | h4
      · subst e2; omega
      · have := sorted_at hs hj h4; omega
    · omega
theorem nxt_zero {p : Nat → Bool} {n b : Nat} (h : b < nxt (pendL p n) n 0) : p b = false := by
  cases hp : p b with
  | false => rfl
  | true =>
    exfalso
    have hbn : b < n := Nat.lt_of_lt_of_le h (nxt_le p n _)
    obtain ⟨j, hj, e⟩ := List.mem_iff_getElem.1 (pendL_mem hbn hp)
    unfold nxt at h
    rw [dif_pos (by omega)] at h
    rcases Nat.eq_zero_or_pos j with e2 | h4
    · subst e2; omega
    · have := sorted_at (pendL_sorted p n) hj h4; omega

theorem CacheAt.kept1 {c d lo hi U : Nat} {M : Nat → Prop} {C : CS} {w w' : World} (h : CacheAt c d lo hi M U C w) (b : Below w.heap.size w w') : CacheAt c d lo hi M U C w' := by
  obtain ⟨m, o, uses, A, V, G, h, hu, e⟩ := h
  exact ⟨m, o, uses, A, V, G, h.kept1 b, hu, e⟩
theorem CacheAt.ok {c d lo hi U : Nat} {M : Nat → Prop} {C : CS} {w : World} (h : CacheAt c d lo hi M U C w) : C.ok := by
  obtain ⟨m, o, uses, A, V, G, h, hu, e⟩ := h; exact h.ok
theorem CacheAt.dev {c d lo hi U : Nat} {M : Nat → Prop} {C : CS} {w : World} (h : CacheAt c d lo hi M U C w) : DevAt d lo hi C.st w := by
  obtain ⟨m, o, uses, A, V, G, h, hu, e⟩ := h; exact h.dev
theorem CacheAt.lt {c d lo hi U : Nat} {M : Nat → Prop} {C : CS} {w : World} (h : CacheAt c d lo hi M U C w) {k : Nat} (hk : M k) : k < w.heap.size := by
  obtain ⟨m, o, uses, A, V, G, h, hu, rfl⟩ := h
  obtain ⟨q, hb⟩ := h.blk
  rcases hk with e | e | e | e
  · rw [e]; exact hb.lt
  · rw [e]; exact h.mp.lt
  · subst e
    obtain ⟨cap, hq⟩ := h.q
    obtain ⟨cur, bq, _⟩ := hq.row
    exact bq.lt
  · obtain ⟨i, hb⟩ := h.recAt e
    exact hb.lt
theorem CacheAt.zone {c d lo hi U : Nat} {M : Nat → Prop} {C : CS} {w : World} (h : CacheAt c d lo hi M U C w) {k : Nat} (hk : M k) : ¬ (lo ≤ k ∧ k < hi) := by
  obtain ⟨m, o, uses, A, V, G, h, hu, rfl⟩ := h
  exact mset_zone h hk
theorem CacheAt.more {c d lo hi U U' : Nat} {M : Nat → Prop} {C : CS} {w : World} (h : CacheAt c d lo hi M U C w) (hU : U ≤ U') : CacheAt c d lo hi M U' C w := by
  obtain ⟨m, o, uses, A, V, G, h, hu, e⟩ := h
  exact ⟨m, o, uses, A, V, G, h, by omega, e⟩
/-- the device is another one -/
theorem CacheAt.on {c d lo hi U : Nat} {M : Nat → Prop} {C : CS} {w w' : World} (h : CacheAt c d lo hi M U C w) {S : St} (hd : DevAt d lo hi S w') (z : Zone lo hi w w') (hn : S.n = C.st.n) : CacheAt c d lo hi M U (C.on S) w' := by
  obtain ⟨m, o, uses, A, V, G, h, hu, e⟩ := h
  exact ⟨m, o, uses, A, V, G, h.on hd z hn, hu, e⟩
theorem Went.zone {lo hi : Nat} {M : Nat → Prop} {w a : World} (z : Zone lo hi w a) : Went lo hi M M w a := ⟨Turn.of_zone z fun k h1 h2 => .inr ⟨h1, h2⟩, fun _ h => .inl h⟩
/-- a block that is neither the cache's nor the device's stays -/
theorem Went.free {lo hi : Nat} {M M' : Nat → Prop} {w a : World} (h : Went lo hi M M' w a) {g : Nat} (hg : g < w.heap.size) (h1 : ¬ M g) (h2 : ¬ (lo ≤ g ∧ g < hi)) : a.heap[g]? = w.heap[g]? ∧ ¬ M' g ∧ g < a.heap.size :=
  ⟨h.turn.block g hg fun ho => ho.elim h1 h2, fun hm => (h.new g hm).elim h1 fun hl => by omega, Nat.lt_of_lt_of_le hg h.turn.size⟩
def SyncRet (c d lo hi : Nat) (M : Nat → Prop) (U : Nat) (C : CS) (w : World) (e : Ending) (w' : World) : Prop :=
  ∃ M', e = .returned (.int .i64 (syncC C).1) ∧ CacheAt c d lo hi M' U (syncC C).2 w' ∧ Went lo hi M M' w w'
set_option maxRecDepth 100000 in
set_option maxHeartbeats 8000000 in
theorem sync_any {c d lo hi U : Nat} {M : Nat → Prop} {C : CS} (ha : C.st.acts ≤ 900000) (w : World) (h : CacheAt c d lo hi M U C w) :
    Calls Tryz.prog 38 #[cV c] w (SyncRet c d lo hi M U C w) := by
  have c0 : w.cell? ⟨c, 0, none⟩ = some (cV c) := by
    obtain ⟨m, o, uses, A, V, G, h, hu, rfl⟩ := h
    obtain ⟨q, hb⟩ := h.blk
    exact hb.cell 0
  have MI := Lib.hid (cmissing_no c w c0)
  have D := Lib.hid (dirty_any w h)
  have hn4 := h.ok.st.hi
  have hlen : (listB C true false).length ≤ C.st.n := pendL_len _ _
  have H := Lib.hid h
  have OUT := Lib.hid fun (b : Nat) (hb : b < C.st.n) M1 C1 w1 (ha1 : C1.st.acts ≤ 1000000) (h1 : CacheAt c d lo hi M1 U C1 w1) => out_any (b : Int) ⟨by omega, by omega⟩ ha1 w1 h1
  clear h
  go_enter Tryz.func38, Tryz.ntmps38
  go_wp2_with fail
  refine MI.out.mono ?_; rintro e w' ⟨rfl, rfl⟩
  clear MI c0
  go_wp2_with fail
  refine D.out.mono ?_; rintro e w1 ⟨v, rfl, hv, b⟩
  obtain ⟨ad, cap, rfl, s1, s2, s3⟩ := shape_of hv
  have s2 : cap ≤ 9223372036854775807 := s2
  have HV := Lib.hid hv
  have HB := Lib.hid b
  have HS3 := Lib.hid s3
  have hsz := b.size
  clear D hv b s3
  have hL : listB C true false = pendL (hasB C true false) C.st.n := rfl
  generalize hLg : listB C true false = L at *
  have HL := Lib.hid hL
  clear hL hLg
  go_wp2
  go_loopw [11] (fun q wr => ∃ (i : Nat) (M1 : Nat → Prop), q = .int .i64 i ∧ i ≤ L.length ∧ (syncTo C (nxt L C.st.n i)).1 = 0 ∧ CacheAt c d lo hi M1 U (syncTo C (nxt L C.st.n i)).2 wr ∧ Went lo hi M M1 w wr ∧
      (∀ g, ad = some ⟨g, 0, none⟩ → w1.heap.size ≤ wr.heap.size ∧ wr.heap[g]? = w1.heap[g]? ∧ ¬ M1 g)) (fun q _ => L.length - (intOf q).toNat)
  case atStart =>
    have e0 : syncTo C (nxt L C.st.n 0) = (0, C) := by
      rw [HL.out]
      exact sync_skip' (k := 0) (Nat.zero_le _) fun b _ hb => nxt_zero hb
    refine ⟨0, M, rfl, Nat.zero_le _, by rw [e0], by rw [e0]; exact H.out.kept1 HB.out, Went.below HB.out, fun g hg => ⟨Nat.le_refl _, rfl, fun hm => ?_⟩⟩
    subst hg
    have h1 := (HV.out.lt g rfl).1
    have h2 := H.out.lt hm
    omega
  case round =>
    obtain ⟨i, M1, rfl, hiL, h0, hc, hw, hg⟩ := hrel
    by_cases hlt : i < L.length
    · obtain ⟨g, rfl, hg1, hg2⟩ := HS3.out (by omega)
      obtain ⟨gsz, gb, gM⟩ := hg g rfl
      have hbL : nxt L C.st.n i = L[i] := by unfold nxt; rw [dif_pos hlt]
      have hbn := nxt_lt (p := hasB C true false) (n := C.st.n) (i := i) (by rw [← HL.out]; exact hlt)
      rw [← HL.out] at hbn
      have q1 : wr.cell? ⟨g, i, none⟩ = some (.int .i64 ((nxt L C.st.n i : Nat) : Int)) := by
        refine (World.cell?_of_block (a := ⟨g, i, none⟩) gb).trans ?_
        rw [HV.out.cellAt i (by omega), List.getElem?_map, List.getElem?_eq_getElem hlt, hbL]; rfl
      have hacts : (syncTo C (nxt L C.st.n i)).2.st.acts ≤ 1000000 := by
        have := (sync_ok H.out.ok (nxt L C.st.n i)).2.2.2
        omega
      have O := OUT.out (nxt L C.st.n i) hbn.1 M1 _ wr hacts hc
      have e1 : syncTo C (nxt L C.st.n i + 1) = outC (syncTo C (nxt L C.st.n i)).2 (nxt L C.st.n i) := by
        show (if (syncTo C (nxt L C.st.n i)).1 = 0 then _ else _) = _
        rw [if_pos h0]
      have egap : (syncTo C (nxt L C.st.n i + 1)).1 = 0 → syncTo C (nxt L C.st.n (i + 1)) = syncTo C (nxt L C.st.n i + 1) := fun _ => by
        refine sync_skip' ?_ fun b h1 h2 => ?_
        · rw [HL.out] at hlt ⊢
          by_cases h3 : i + 1 < (pendL (hasB C true false) C.st.n).length
          · have := sorted_at (pendL_sorted (hasB C true false) C.st.n) h3 (Nat.lt_succ_self i)
            unfold nxt
            rw [dif_pos hlt, dif_pos h3]; omega
          · have := (nxt_lt (p := hasB C true false) (n := C.st.n) hlt).1
            have : nxt (pendL (hasB C true false) C.st.n) C.st.n (i + 1) = C.st.n := by unfold nxt; rw [dif_neg h3]
            omega
        · rw [HL.out] at hlt h1 h2
          exact nxt_gap hlt (by omega) h2
      have estop : (syncTo C (nxt L C.st.n i + 1)).1 ≠ 0 → syncC C = syncTo C (nxt L C.st.n i + 1) := fun hne => sync_stuck' (by omega) hne
      have gz : ¬ (lo ≤ g ∧ g < hi) := by
        have := H.out.dev.top
        omega
      by_cases hcode : (syncTo C (nxt L C.st.n i + 1)).1 = 0
      · have HO : Hid (Calls Tryz.prog 37 #[cV c, .int .i64 ((nxt L C.st.n i : Nat) : Int)] wr fun e w2 => e = .returned (.int .i64 0) ∧ ∃ M2, (syncTo C (nxt L C.st.n (i + 1))).1 = 0 ∧ CacheAt c d lo hi M2 U (syncTo C (nxt L C.st.n (i + 1))).2 w2 ∧ Went lo hi M M2 w w2 ∧
            (∀ g', some (⟨g, 0, none⟩ : Addr) = some ⟨g', 0, none⟩ → w1.heap.size ≤ w2.heap.size ∧ w2.heap[g']? = w1.heap[g']? ∧ ¬ M2 g')) := Lib.hid (by
          refine O.mono ?_
          rintro e w2 ⟨M2, rfl, k1, k2⟩
          rw [← e1] at k1 ⊢
          rw [hcode]
          refine ⟨rfl, M2, by rw [egap hcode]; exact hcode, by rw [egap hcode]; exact k1, hw.trans k2, fun g' hg' => ?_⟩
          injection hg' with hg'
          injection hg' with hg' _ _
          subst hg'
          obtain ⟨f1, f2, f3⟩ := k2.free (by omega) gM gz
          exact ⟨Nat.le_trans gsz k2.turn.size, f1.trans gb, f2⟩)
        clear O OUT e1 egap estop gz h0 hc hw hg gb gM hbn hacts hcode hbL
        generalize nxt L C.st.n i = bb at *
        go_wp2_with fail
        refine HO.out.mono ?_; rintro e w2 ⟨rfl, M2, k1, k2, k3, k4⟩
        clear HO q1
        go_wp2
        exact ⟨⟨i + 1, M2, by go_num, by omega, k1, k2, k3, k4⟩, by simp [intOf]; omega⟩
      · have HO : Hid (Calls Tryz.prog 37 #[cV c, .int .i64 ((nxt L C.st.n i : Nat) : Int)] wr fun e w2 => e = .returned (.int .i64 (syncTo C (nxt L C.st.n i + 1)).1) ∧ SyncRet c d lo hi M U C w (.returned (.int .i64 (syncTo C (nxt L C.st.n i + 1)).1)) w2) := Lib.hid (by
          refine O.mono ?_
          rintro e w2 ⟨M2, rfl, k1, k2⟩
          rw [← e1] at k1 ⊢
          exact ⟨rfl, M2, by rw [estop hcode], by rw [estop hcode]; exact k1, hw.trans k2⟩)
        clear O OUT e1 egap estop gz h0 hc hw hg gb gM hbn hacts hbL
        generalize (syncTo C (nxt L C.st.n i + 1)).1 = code at *
        generalize nxt L C.st.n i = bb at *
        go_wp2_with fail
        refine HO.out.mono ?_; rintro e w2 ⟨rfl, hr⟩
        have HR := Lib.hid hr
        clear HO q1 hr
        go_wp2
        go_ret
        exact HR.out
    · obtain rfl : i = L.length := by omega
      have HR : Hid (SyncRet c d lo hi M U C w (.returned (.int .i64 0)) wr) := Lib.hid (by
        have e : nxt L C.st.n L.length = C.st.n := by unfold nxt; rw [dif_neg hlt]
        rw [e] at h0 hc
        exact ⟨M1, by show Ending.returned (.int .i64 0) = Ending.returned (.int .i64 (syncTo C C.st.n).1); rw [h0], hc, hw⟩)
      clear h0 hc hw hg OUT HS3 HV
      go_wp2
      go_ret
      exact HR.out
end Go.Proofs.YtehjobjjlldckaaGreat
