/- The document's cache: Sync, Blocks, New. -/
import Derived.Test.YtehjobjjlldckaaGreatBPlayA
import Derived.Test.YtehjobjjlldckaaGreatCNew
namespace Go.Proofs.YtehjobjjlldckaaGreat
set_option linter.unusedVariables false
open Go.RowKit

theorem setB_length (L : List Buf) (b : Int) (f : Buf → Buf) : (setB L b f).length = L.length := by unfold setB; rw [List.length_map]
/-- a cell of buffer i is another one -/
theorem RC.flip {r d lo hi g cap n i j : Nat} {C : CS} {w : World} {x : Buf} {u : Value} (h : RC r d lo hi (.slice (some ⟨g, 0, none⟩) n cap) C w) (hx : C.L[i]? = some x) (f : Buf → Buf) (hf : ∀ x, (f x).b = x.b ∧ (f x).data = x.data) (hc : (cellsB C.L).set j u = cellsB (C.L.set i (f x))) :
    RC r d lo hi (.slice (some ⟨g, 0, none⟩) n cap) { C with L := setB C.L x.b f } (w.setCell ⟨g, j, none⟩ u) ∧ Went lo hi (MR r (.slice (some ⟨g, 0, none⟩) n cap)) (MR r (.slice (some ⟨g, 0, none⟩) n cap)) w (w.setCell ⟨g, j, none⟩ u) := by
  have hl : n = C.L.length := by
    obtain ⟨ad, cap', e, -⟩ := shape_of h.row
    simp only [Value.slice.injEq] at e; exact e.2.1
  subst hl
  obtain ⟨z1, z2⟩ := h.zv g rfl
  have t : Turn (MR r (.slice (some ⟨g, 0, none⟩) C.L.length cap)) w (w.setCell ⟨g, j, none⟩ u) := (Turn.refl _ w).set (p := ⟨g, j, none⟩) (.inr rfl) u
  have t1 : Turn (fun k => k = g) w (w.setCell ⟨g, j, none⟩ u) := (Turn.refl (fun k => k = g) w).set (p := ⟨g, j, none⟩) rfl u
  obtain ⟨gn, gk, gp, cn, ck, cp, e⟩ := h.dev
  have hn : ∀ k, (lo ≤ k ∧ k < hi) → ¬ k = g := fun k hk hm => z1 (hm ▸ hk)
  refine ⟨⟨set_ok h.ok x.b f hf, h.blk.other z2 u, ?_, ⟨gn, gk, gp, cn, ck, cp, e.ok, e.blk.turn t1 (hn _ e.zd), e.now.turn t1 (hn _ e.zn), e.was.turn t1 (hn _ e.zk), e.pend.turn t1 (hn _ e.zp), e.cn, e.ck, e.cp, e.zd, e.zn, e.zk, e.zp, Nat.le_trans e.top t1.size, e.a1, e.a2, e.a3, e.a4, e.a5, e.a6⟩, h.zr, h.zv⟩, Went.of t fun k hk => .inl hk⟩
  have hr := (World.ownsRow.stored (w := w) (g := g) h.row j u).1
  show (w.setCell ⟨g, j, none⟩ u).ownsRow 0 _ 4 _ (setB C.L x.b f).length (cellsB (setB C.L x.b f))
  rw [setB_length, setB_at h.ok.un hx, ← hc]
  exact hr
def CallR (r d lo hi : Nat) (v : Value) (C' : CS) (w w' : World) : Prop := ∃ v', RC r d lo hi v' C' w' ∧ Went lo hi (MR r v) (MR r v') w w'
theorem at_index {L : List Buf} {b : Int} {x : Buf} (h : atB L b = some x) : ∃ i : Nat, L[i]? = some x ∧ (x.b : Int) = b := by
  obtain ⟨h1, h2⟩ := atB_some h
  obtain ⟨i, hi, e⟩ := List.getElem_of_mem h1
  exact ⟨i, by rw [List.getElem?_eq_getElem hi, e], h2⟩
set_option maxHeartbeats 2000000 in
theorem rcunpin_raw {r d lo hi : Nat} {v : Value} {C : CS} (b : Int) (hb : I64 b) (w : World) (h : RC r d lo hi v C w) :
    Calls Tryz.prog 43 #[.pointer (some ⟨r, 0, none⟩), .int .i64 b] w fun e w' => e = .returned (.tuple #[]) ∧ CallR r d lo hi v (unpinC C b) w w' := by
  cases hat : atB C.L b with
  | none =>
    have P := Lib.hid (rplace_none b hb hat w h)
    have HE : Hid (CallR r d lo hi v (unpinC C b) w w) := Lib.hid ⟨v, by
      have e : unpinC C b = C := by unfold unpinC; rw [setB_none _ (atB_none hat)]
      rw [e]; exact h, Went.below (Below.refl _ _)⟩
    clear h hat
    go_enter Tryz.func43, Tryz.ntmps43
    go_wp2_with fail
    refine P.out.mono ?_; rintro e w1 ⟨rfl, rfl⟩
    go_wp2
    go_end0
    exact ⟨rfl, HE.out⟩
  | some x =>
    obtain ⟨i, hx, hxb⟩ := at_index hat
    have P := Lib.hid (rplace_some b hb hxb hx w h)
    obtain ⟨hil, hxe⟩ := List.getElem?_eq_some_iff.1 hx
    obtain ⟨ad, cap, rfl, l1, l2, had⟩ := h.shape
    obtain ⟨c0, c1, c2⟩ := h.cells
    have hm := h.most
    obtain ⟨g, rfl, hg⟩ := had (by omega)
    have fz := World.ownsRow.frozenAt h.row (i * 4 + 3)
    obtain ⟨q1, q2, q3, q4⟩ := buf_cells h.row i hil
    have HF := h.flip (j := i * 4 + 3) (u := .bool false) hx offPin (fun x => ⟨rfl, rfl⟩) (by rw [cellsB_pin C.L i hil, hxe])
    rw [hxb] at HF
    have HE : Hid (CallR r d lo hi (.slice (some ⟨g, 0, none⟩) C.L.length cap) (unpinC C b) w (w.setCell ⟨g, i * 4 + 3, none⟩ (.bool false))) := Lib.hid ⟨_, HF⟩
    have hi0 : (0 : Int) ≤ (i : Int) := by omega
    clear h hat had HF hx hxe q1 q2 q3
    go_enter Tryz.func43, Tryz.ntmps43
    go_wp2_with fail
    refine P.out.mono ?_; rintro e w1 ⟨rfl, rfl⟩
    go_wp2
    go_end0
    exact ⟨rfl, HE.out⟩
set_option maxHeartbeats 2000000 in
theorem rcforget_raw {r d lo hi : Nat} {v : Value} {C : CS} (b : Int) (hb : I64 b) (w : World) (h : RC r d lo hi v C w) :
    Calls Tryz.prog 44 #[.pointer (some ⟨r, 0, none⟩), .int .i64 b] w fun e w' => e = .returned (.tuple #[]) ∧ CallR r d lo hi v (forgetC C b) w w' := by
  cases hat : atB C.L b with
  | none =>
    have P := Lib.hid (rplace_none b hb hat w h)
    have HE : Hid (CallR r d lo hi v (forgetC C b) w w) := Lib.hid ⟨v, by
      have e : forgetC C b = C := by unfold forgetC; rw [dropB_none (atB_none hat)]
      rw [e]; exact h, Went.below (Below.refl _ _)⟩
    clear h hat
    go_enter Tryz.func44, Tryz.ntmps44
    go_wp2_with fail
    refine P.out.mono ?_; rintro e w1 ⟨rfl, rfl⟩
    go_wp2
    go_end0
    exact ⟨rfl, HE.out⟩
  | some x =>
    obtain ⟨i, hx, hxb⟩ := at_index hat
    have P := Lib.hid (rplace_some b hb hxb hx w h)
    obtain ⟨hil, hxe⟩ := List.getElem?_eq_some_iff.1 hx
    have WO := Lib.hid (rwithout_any i hil w h)
    have fz : ∀ w1, Below w.heap.size w w1 → w1.frozen? ⟨r, 2, none⟩ = false := fun w1 b => (h.blk.kept1 b).frozen 2
    have cz : ∀ w1, Below w.heap.size w w1 → w1.cell? ⟨r, 2, none⟩ = some v := fun w1 b => (h.blk.kept1 b).cell 2
    obtain ⟨ad, cap, rfl, l1, l2, had⟩ := h.shape
    have hm := h.most
    have H := Lib.hid h
    have HX := Lib.hid hx
    have hi0 : (0 : Int) ≤ (i : Int) := by omega
    clear h hat had hx hxe
    go_enter Tryz.func44, Tryz.ntmps44
    go_wp2_with fail
    refine P.out.mono ?_; rintro e w1 ⟨rfl, rfl⟩
    go_wp2_with fail
    refine WO.out.mono ?_; rintro e w2 ⟨av, m9, cv, rfl, hrow, b2⟩
    have f1 := fz w2 b2
    have z1 := cz w2 b2
    have HF := H.out.less HX.out hrow b2
    rw [hxb] at HF
    have HE : Hid (CallR r d lo hi (.slice ad C.L.length cap) (forgetC C b) w (w2.setCell ⟨r, 2, none⟩ (.slice av m9 cv))) := Lib.hid ⟨_, HF⟩
    clear HF hrow b2 fz cz WO
    go_wp2
    go_end0
    exact ⟨rfl, HE.out⟩
end Go.Proofs.YtehjobjjlldckaaGreat

namespace Go.Proofs.YtehjobjjlldckaaGreat
set_option linter.unusedVariables false
open Go.RowKit

def OutR (r d lo hi : Nat) (v : Value) (C : CS) (b : Int) (w : World) (e : Ending) (w' : World) : Prop :=
  ∃ v', e = .returned (.int .i64 (outC C b).1) ∧ RC r d lo hi v' (outC C b).2 w' ∧ Went lo hi (MR r v) (MR r v') w w'
set_option maxHeartbeats 4000000 in
theorem rcout_raw {r d lo hi : Nat} {v : Value} {C : CS} (b : Int) (hb : I64 b) (ha : C.st.acts ≤ 1000000) (w : World) (h : RC r d lo hi v C w) :
    Calls Tryz.prog 45 #[.pointer (some ⟨r, 0, none⟩), .int .i64 b] w (OutR r d lo hi v C b w) := by
  have mixed : Tryz.prog.follows .mixedOrders = true := by kernel_rfl
  cases hat : atB C.L b with
  | none =>
    have P := Lib.hid (rplace_none b hb hat w h)
    have HE : Hid (OutR r d lo hi v C b w (.returned (.int .i64 0)) w) := Lib.hid (by
      have e : outC C b = (0, C) := by unfold outC; rw [hat]
      exact ⟨v, by rw [e], by rw [e]; exact h, Went.below (Below.refl _ _)⟩)
    clear h hat
    go_enter Tryz.func45, Tryz.ntmps45
    go_wp2_with fail
    refine P.out.mono ?_; rintro e w1 ⟨rfl, rfl⟩
    go_wp2
    go_ret
    exact HE.out
  | some x =>
    obtain ⟨i, hx, hxb⟩ := at_index hat
    have P := Lib.hid (rplace_some b hb hxb hx w h)
    obtain ⟨hil, hxe⟩ := List.getElem?_eq_some_iff.1 hx
    obtain ⟨ad, cap, rfl, l1, l2, had⟩ := h.shape
    obtain ⟨c0, c1, c2⟩ := h.cells
    have hm := h.most
    obtain ⟨g, rfl, hg⟩ := had (by omega)
    obtain ⟨q1, q2, q3, q4⟩ := buf_cells h.row i hil
    rw [hxe] at q1 q2 q3 q4
    have hi0 : (0 : Int) ≤ (i : Int) := by omega
    have H := Lib.hid h
    have HX := Lib.hid hx
    have HXE := Lib.hid hxe
    have hO : outC C b = if x.dirty = true ∧ x.pin = false then (if wCode C.st b x.data.size = 0 then (0, { C with st := wSt C.st b x.data, L := setB C.L b offDirty }) else (wCode C.st b x.data.size, C)) else (0, C) := by unfold outC; rw [hat]
    have HO := Lib.hid hO
    have WR := Lib.hid fun w1 (h1 : RC r d lo hi (.slice (some ⟨g, 0, none⟩) C.L.length cap) C w1) => rwrite_any b x.data ha w1 h1.dev
    have HK : Hid (∀ w', w' = w → outC C b = (0, C) → OutR r d lo hi (.slice (some ⟨g, 0, none⟩) C.L.length cap) C b w (.returned (.int .i64 0)) w') := Lib.hid (fun w' e1 e => by
      subst e1
      exact ⟨_, by rw [e], by rw [e]; exact h, Went.below (Below.refl _ _)⟩)
    clear h hat had hx hxe hO q1
    cases hd : x.dirty with
    | false =>
      rw [hd] at q3
      have HE := Lib.hid (HK.out w rfl (by rw [HO.out, hd]; rfl))
      clear HK HO WR
      go_enter Tryz.func45, Tryz.ntmps45
      go_wp2_with fail
      refine P.out.mono ?_; rintro e w1 ⟨rfl, rfl⟩
      go_wp2
      go_ret
      exact HE.out
    | true =>
      rw [hd] at q3
      cases hp : x.pin with
      | true =>
        rw [hp] at q4
        have HE := Lib.hid (HK.out w rfl (by rw [HO.out, hp]; simp))
        clear HK HO WR
        go_enter Tryz.func45, Tryz.ntmps45
        go_wp2_with fail
        refine P.out.mono ?_; rintro e w1 ⟨rfl, rfl⟩
        go_wp2
        go_ret
        exact HE.out
      | false =>
        rw [hp] at q4
        have HO2 : Hid (outC C b = if wCode C.st b x.data.size = 0 then (0, { C with st := wSt C.st b x.data, L := setB C.L b offDirty }) else (wCode C.st b x.data.size, C)) := Lib.hid (by rw [HO.out, hd, hp]; rfl)
        have k0 : ∀ p : BelowP w, p.to.cell? ⟨r, 0, none⟩ = some (.pointer (some ⟨d, 0, none⟩)) := fun p => (H.out.kept1 p.h).cells.1
        have k2 : ∀ p : BelowP w, p.to.cell? ⟨r, 2, none⟩ = some (.slice (some ⟨g, 0, none⟩) C.L.length cap) := fun p => (H.out.kept1 p.h).cells.2.2
        have k5 : ∀ p : BelowP w, p.to.cell? ⟨g, i * 4 + 1, none⟩ = some (.string x.data) := fun p => by
          have := (buf_cells (H.out.kept1 p.h).row i hil).2.1
          rw [HXE.out] at this; exact this
        clear HK HO
        go_enter Tryz.func45, Tryz.ntmps45
        go_wp2_with fail
        refine P.out.mono ?_; rintro e w1 ⟨rfl, rfl⟩
        go_wp2
        refine wp_region_tail_below 13 mixed (by kernel_rfl) ?_
        simp only [List.take_succ_cons, List.take_zero, List.drop_succ_cons, List.drop_zero]
        repeat (go_big_quiet_step (fail))
        refine wpQuiet_nil ?_
        intro w0q hw'
        obtain ⟨⟨wq, bq⟩, hw''⟩ := hw'
        have hw2 : wq = w0q := hw''.symm
        clear hw''
        subst hw2
        have H := Lib.hid (H.out.kept1 bq)
        have HBB := Lib.hid (Went.below (lo := lo) (hi := hi) (M := MR r (.slice (some ⟨g, 0, none⟩) C.L.length cap)) bq)
        clear k0 k2 k5 bq q2 q3 q4 c0 c1 c2
        go_wp2_with fail
        refine (WR.out _ H.out).mono ?_; rintro e w2 ⟨rfl, hdev, hz⟩
        have hN := H.out.on hdev hz (wSt_n _ _ _)
        have HG1 := Lib.hid (HBB.out.trans (Went.zone (M := MR r (.slice (some ⟨g, 0, none⟩) C.L.length cap)) hz))
        have HN1 := Lib.hid hN
        have z2 : w2.cell? ⟨r, 2, none⟩ = some (.slice (some ⟨g, 0, none⟩) C.L.length cap) := hN.blk.cell 2
        clear hdev hz WR HBB
        by_cases hcode : wCode C.st b x.data.size = 0
        · have HR1 : Hid (outC C b = (0, { C with st := wSt C.st b x.data, L := setB C.L b offDirty })) := Lib.hid (by rw [HO2.out, if_pos hcode])
          have f2 : w2.frozen? ⟨g, i * 4 + 2, none⟩ = false := World.ownsRow.frozenAt hN.row (i * 4 + 2)
          obtain ⟨-, -, y3, -⟩ := buf_cells (L := C.L) hN.row i hil
          have HF := hN.flip (j := i * 4 + 2) (u := .bool false) HX.out offDirty (fun x => ⟨rfl, rfl⟩) (by show (cellsB C.L).set _ _ = cellsB (C.L.set i _); rw [cellsB_dirty C.L i hil, HXE.out])
          rw [hxb] at HF
          have HZ := Lib.hid HF
          have HE : Hid (OutR r d lo hi (.slice (some ⟨g, 0, none⟩) C.L.length cap) C b w (.returned (.int .i64 0)) (w2.setCell ⟨g, i * 4 + 2, none⟩ (.bool false))) := Lib.hid ⟨_, by rw [HR1.out], by rw [HR1.out]; exact HZ.out.1, HG1.out.trans HZ.out.2⟩
          clear HF hN HO2 HZ
          rw [hcode]
          clear hcode
          go_wp2
          go_ret
          exact HE.out
        · have HR1 : Hid (outC C b = (wCode C.st b x.data.size, C)) := Lib.hid (by rw [HO2.out, if_neg hcode])
          have hs : wSt C.st b x.data = C.st := wSt_same hcode
          have t1 : (wCode C.st b x.data.size == 0) = false := by rw [beq_eq_false_iff_ne]; exact hcode
          have HE : Hid (OutR r d lo hi (.slice (some ⟨g, 0, none⟩) C.L.length cap) C b w (.returned (.int .i64 (wCode C.st b x.data.size))) w2) := Lib.hid ⟨_, by rw [HR1.out], by
            rw [HR1.out]
            have := HN1.out
            rw [hs] at this
            exact this, HG1.out⟩
          clear HO2 HR1 hs hcode hN
          generalize wCode C.st b x.data.size = code at *
          go_wp2
          go_ret
          exact HE.out
end Go.Proofs.YtehjobjjlldckaaGreat

namespace Go.Proofs.YtehjobjjlldckaaGreat
set_option linter.unusedVariables false
open Go.RowKit

theorem sync_stays {C : CS} {k : Nat} (h : (syncTo C k).1 ≠ 0) : ∀ m, syncTo C (k + m) = syncTo C k
  | 0 => rfl
  | m + 1 => by
    have e := sync_stays h m
    show (if (syncTo C (k + m)).1 = 0 then outC (syncTo C (k + m)).2 (k + m) else syncTo C (k + m)) = _
    rw [e, if_neg h]
def SyncR (r d lo hi : Nat) (v : Value) (C : CS) (w : World) (e : Ending) (w' : World) : Prop :=
  ∃ v', e = .returned (.int .i64 (syncC C).1) ∧ RC r d lo hi v' (syncC C).2 w' ∧ Went lo hi (MR r v) (MR r v') w w'
set_option maxHeartbeats 4000000 in
theorem rcsync_raw {r d lo hi : Nat} {v : Value} {C : CS} (ha : C.st.acts ≤ 900000) (w : World) (h : RC r d lo hi v C w) :
    Calls Tryz.prog 46 #[.pointer (some ⟨r, 0, none⟩)] w (SyncR r d lo hi v C w) := by
  have hn4 := h.ok.st.hi
  have H := Lib.hid h
  have HOK := Lib.hid (sync_ok h.ok)
  have OUT := Lib.hid fun (b : Nat) (hb : b < C.st.n) v1 C1 w1 (ha1 : C1.st.acts ≤ 1000000) (h1 : RC r d lo hi v1 C1 w1) => rcout_raw (b : Int) ⟨by omega, by omega⟩ ha1 w1 h1
  have BL := Lib.hid fun v1 (C1 : CS) w1 (hn : C1.st.n = C.st.n) (h1 : RC r d lo hi v1 C1 w1) => (by
    have := rblocks_any w1 h1.dev
    rw [hn] at this; exact this : Calls Tryz.prog 30 #[.pointer (some ⟨d, 0, none⟩)] w1 fun e w' => e = .returned (.int .i64 (C.st.n : Int)) ∧ w1 = w')
  clear h
  go_enter Tryz.func46, Tryz.ntmps46
  go_wp2
  go_loopw [3] (fun q wr => ∃ (b : Nat) (v' : Value), q = .int .i64 b ∧ b ≤ C.st.n ∧ (syncTo C b).1 = 0 ∧ RC r d lo hi v' (syncTo C b).2 wr ∧ Went lo hi (MR r v) (MR r v') w wr) (fun q _ => C.st.n - (intOf q).toNat)
  case atStart => exact ⟨0, v, rfl, Nat.zero_le _, rfl, H.out, Went.below (Below.refl _ _)⟩
  case round =>
    obtain ⟨b, v', rfl, hbn, h0, hr, hw⟩ := hrel
    have c0 := hr.cells.1
    have B1 := Lib.hid (BL.out v' _ wr (HOK.out b).2.1 hr)
    by_cases hlt : b < C.st.n
    · have O := OUT.out b hlt v' _ wr (by have := (HOK.out b).2.2.2; omega) hr
      have e1 : syncTo C (b + 1) = outC (syncTo C b).2 b := by show (if (syncTo C b).1 = 0 then _ else _) = _; rw [if_pos h0]
      unfold OutR at O
      rw [← e1] at O
      have O := Lib.hid O
      have HW := Lib.hid hw
      clear hr hw e1 OUT BL h0
      go_wp2_with fail
      refine (B1.out).mono ?_; rintro e w1 ⟨rfl, rfl⟩
      go_wp2_with fail
      refine O.out.mono ?_; rintro e w2 ⟨v2, rfl, h2, hw2⟩
      have HN := Lib.hid (And.intro h2 (HW.out.trans hw2))
      clear h2 hw2 O B1
      by_cases hc : (syncTo C (b + 1)).1 = 0
      · rw [hc]
        have HC := Lib.hid hc
        clear hc c0
        go_wp2
        exact ⟨⟨b + 1, v2, by go_num, by omega, HC.out, HN.out.1, HN.out.2⟩, by simp [intOf]; omega⟩
      · have es : Hid (syncC C = syncTo C (b + 1)) := Lib.hid (by
          have := sync_stays hc (C.st.n - (b + 1))
          rw [show b + 1 + (C.st.n - (b + 1)) = C.st.n by omega] at this
          exact this)
        have t1 : ((syncTo C (b + 1)).1 != 0) = true := by rw [bne_iff_ne]; exact hc
        have HE : Hid (SyncR r d lo hi v C w (.returned (.int .i64 (syncTo C (b + 1)).1)) w2) := Lib.hid ⟨v2, by rw [es.out], by rw [es.out]; exact HN.out.1, HN.out.2⟩
        clear hc c0 HN es
        generalize (syncTo C (b + 1)).1 = code at *
        go_wp2
        go_ret
        exact HE.out
    · obtain rfl : b = C.st.n := by omega
      have HE : Hid (SyncR r d lo hi v C w (.returned (.int .i64 0)) wr) := Lib.hid ⟨v', by rw [← h0]; rfl, hr, hw⟩
      clear hr hw h0 OUT BL
      go_wp2_with fail
      refine (B1.out).mono ?_; rintro e w1 ⟨rfl, rfl⟩
      go_wp2
      go_ret
      exact HE.out
theorem hasB_at (C : CS) (d p : Bool) (b : Nat) : hasB C d p b = match atB C.L b with | some x => (!d || x.dirty) && (!p || x.pin) | none => false := by
  unfold hasB; cases atB C.L b <;> rfl
set_option maxHeartbeats 4000000 in
theorem rcblocks_raw {r d lo hi : Nat} {v : Value} {C : CS} (dt pn : Bool) (w : World) (h : RC r d lo hi v C w) :
    Calls Tryz.prog 15 #[.pointer (some ⟨r, 0, none⟩), .bool dt, .bool pn] w fun e w' => ∃ v', e = .returned v' ∧ NatsAt w.heap.size v' (listB C dt pn) w' ∧ Below w.heap.size w w' := by
  have hn4 := h.ok.st.hi
  have hm := h.most
  have H := Lib.hid h
  have B := Lib.hid fun w1 (b : Below w.heap.size w w1) => rblocks_any w1 (h.dev.kept1 b)
  have PN := Lib.hid fun (b : Nat) (hb : b < C.st.n) (h0 : atB C.L b = none) w1 (bl : Below w.heap.size w w1) => rplace_none (b : Int) ⟨by omega, by omega⟩ h0 w1 (h.kept1 bl)
  have PS := Lib.hid fun (b : Nat) (hb : b < C.st.n) {x : Buf} {i : Nat} (hx : (x.b : Int) = (b : Int)) (h0 : C.L[i]? = some x) w1 (bl : Below w.heap.size w w1) => rplace_some (b : Int) ⟨by omega, by omega⟩ hx h0 w1 (h.kept1 bl)
  obtain ⟨ad, cap, rfl, l1, l2, had⟩ := h.shape
  have CZ := Lib.hid fun w1 (b : Below w.heap.size w w1) => (h.kept1 b).cells
  have RW := Lib.hid fun w1 (b : Below w.heap.size w w1) => (h.kept1 b).row
  unfold listB
  clear h
  have HA := Lib.hid had
  clear had
  go_enter Tryz.func15, Tryz.ntmps15
  go_wp2
  go_loopw [7, 8] (fun v q wr => ∃ k : Nat, q = .int .i64 k ∧ k ≤ C.st.n ∧ NatsAt w.heap.size v (pendL (hasB C dt pn) k) wr ∧ Below w.heap.size w wr) (fun _ q _ => C.st.n - (intOf q).toNat)
  case atStart => exact ⟨0, rfl, Nat.zero_le _, World.ownsRow_nil _ _ _ _, Below.refl _ _⟩
  case round =>
    obtain ⟨k, rfl, hk, hown, hb⟩ := hrel
    obtain ⟨c0, -, c2⟩ := CZ.out wr hb
    have hlen := pendL_len (hasB C dt pn) k
    have HB0 := Lib.hid hb
    by_cases hlt : k < C.st.n
    · have BB := Lib.hid (B.out wr hb)
      have hn2 : k < 9000000000 := by omega
      cases hat : atB C.L k with
      | none =>
        have P := Lib.hid (PN.out k hlt hat wr hb)
        have HY := Lib.hid (pendL_no (p := hasB C dt pn) (n := k) (by rw [hasB_at, hat]))
        have HO := Lib.hid (And.intro hown hb)
        clear hown hb hat PN PS
        go_wp2_with fail
        refine BB.out.mono ?_; rintro e w1 ⟨rfl, rfl⟩
        go_wp2_with fail
        refine P.out.mono ?_; rintro e w1 ⟨rfl, rfl⟩
        go_wp2
        exact ⟨⟨k + 1, by go_num, by omega, by rw [HY.out]; exact HO.out.1, HO.out.2⟩, by simp [intOf]; omega⟩
      | some x =>
        obtain ⟨i, hx, hxb⟩ := at_index hat
        have P := Lib.hid (PS.out k hlt hxb hx wr hb)
        obtain ⟨hil, hxe⟩ := List.getElem?_eq_some_iff.1 hx
        have hrw := RW.out wr hb
        obtain ⟨ad', cap', e', l1', l2', had'⟩ := shape_of hrw
        obtain ⟨g, hg0, -, hg⟩ := had' (by omega)
        simp only [Value.slice.injEq] at e'
        obtain ⟨e1, -, e3⟩ := e'
        subst e1
        subst e3
        subst hg0
        obtain ⟨-, -, q3, q4⟩ := buf_cells hrw i hil
        rw [hxe] at q3 q4
        have hi0 : (0 : Int) ≤ (i : Int) := by omega
        have hAt := Lib.hid (hasB_at C dt pn k)
        have HAT := Lib.hid hat
        have HO := Lib.hid (And.intro hown hb)
        have hs := hb.size
        have HW := Lib.hid hown
        clear hb hat PN PS hx hxe hrw hxb
        rcases hd : x.dirty with _ | _ <;> rcases hp : x.pin with _ | _ <;> rcases dt with _ | _ <;> rcases pn with _ | _ <;> rw [hd] at q3 <;> rw [hp] at q4
        all_goals first
          | (have HY := Lib.hid (pendL_yes (p := hasB C _ _) (n := k) (by rw [hAt.out, HAT.out]; simp [hd, hp]))
             clear hAt HAT hd hp
             go_wp2_with fail
             refine BB.out.mono ?_; rintro e w1 ⟨rfl, rfl⟩
             go_wp2_with fail
             refine P.out.mono ?_; rintro e w1 ⟨rfl, rfl⟩
             go_wp2_with (at_builtin; refine wpList_app1 rfl _ _ rfl w.heap.size _ _ k rfl (hown.alloc _) wr rfl rfl (by omega) (by rw [size_alloc]; omega) ?_)
             intro v' w2 h2 b2
             have hb3 := (HO.out.2.alloc hs (.cells #[.int .i64 (k : Int)] 3)).trans b2
             rw [← HY.out] at h2
             have HN := Lib.hid (And.intro h2 hb3)
             clear h2 hb3 b2 hown HO HW q3 q4
             go_wp2
             exact ⟨⟨k + 1, by go_num, by omega, HN.out.1, HN.out.2⟩, by simp [intOf]; omega⟩)
          | (have HY := Lib.hid (pendL_no (p := hasB C _ _) (n := k) (by rw [hAt.out, HAT.out]; simp [hd, hp]))
             clear hAt HAT hd hp hown
             go_wp2_with fail
             refine BB.out.mono ?_; rintro e w1 ⟨rfl, rfl⟩
             go_wp2_with fail
             refine P.out.mono ?_; rintro e w1 ⟨rfl, rfl⟩
             go_wp2
             exact ⟨⟨k + 1, by go_num, by omega, by rw [HY.out]; exact HO.out.1, HO.out.2⟩, by simp [intOf]; omega⟩)
    · obtain rfl : k = C.st.n := by omega
      have HO := Lib.hid (And.intro hown hb)
      clear hown hb
      go_wp2_with fail
      refine (B.out wr HB0.out).mono ?_; rintro e w1 ⟨rfl, rfl⟩
      go_wp2
      go_ret
      exact ⟨_, rfl, HO.out⟩
end Go.Proofs.YtehjobjjlldckaaGreat
