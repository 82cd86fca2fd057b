/- The cache's Get. -/
import Derived.Test.YtehjobjjlldckaaGreatCRoom
namespace Go.Proofs.YtehjobjjlldckaaGreat
set_option linter.unusedVariables false
open Go.RowKit

/-- the cache c of the device d, whose own memory is M -/
def CacheAt (c d lo hi : Nat) (M : Nat → Prop) (U : Nat) (C : CS) (w : World) : Prop := ∃ m o uses A V G, Cache c d lo hi m o uses A V G C w ∧ uses ≤ U ∧ M = MSet c m o G
section
variable {c d lo hi m uses : Nat} {o : Option Nat} {A : Nat → Nat} {V : Nat → Rec} {G : List Nat} {C : CS} {w : World}
theorem Cache.recAt (h : Cache c d lo hi m o uses A V G C w) {g : Nat} (hg : g ∈ G) : ∃ i, Blk g (recCells (V g) i) 91 w := by
  obtain ⟨gq, cap, _, hq⟩ := h.queue hg
  obtain ⟨i, hi, rfl⟩ := (h.mem g).2 hg
  exact ⟨i, hq.item i hi⟩
theorem Cache.none_of (h : Cache c d lo hi m o uses A V G C w) {b : Int} (hb : atB C.L b = none) : adrOf V G b = none := by
  rw [h.at] at hb
  cases e : adrOf V G b with
  | none => rfl
  | some g => rw [e] at hb; cases hb
theorem atB_sub {L L' : List Buf} {b : Int} (hs : ∀ y, y ∈ L' → y ∈ L) (h : atB L b = none) : atB L' b = none := by
  unfold atB
  rw [List.find?_eq_none]
  intro x hx e
  exact atB_none h x (hs x hx) (beq_iff_eq.1 e)
end
def GetRet (c d lo hi : Nat) (M : Nat → Prop) (U : Nat) (C : CS) (b : Int) (w : World) (e : Ending) (w' : World) : Prop :=
  ∃ M', e = .returned (.tuple #[.string (getC C b).1, .int .i64 (getC C b).2.1]) ∧ CacheAt c d lo hi M' (U + 1) (getC C b).2.2 w' ∧ Went lo hi M M' w w'
theorem went_use {c lo hi m gq : Nat} {G : List Nat} {g : Nat} {w w' : World} (t : Turn (MSet c m (some gq) (g :: G)) w w') : Went lo hi (MSet c m (some gq) (g :: G)) (MSet c m (some gq) (G ++ [g])) w w' :=
  Went.of t fun k hk => .inl (by
    rcases hk with e | e | e | e
    · exact .inl e
    · exact .inr (.inl e)
    · exact .inr (.inr (.inl e))
    · rcases List.mem_append.1 e with e | e
      · exact .inr (.inr (.inr (List.mem_cons_of_mem _ e)))
      · rw [List.mem_singleton] at e; exact .inr (.inr (.inr (e ▸ List.mem_cons_self ..))))
theorem mset_sub {c m : Nat} {o : Option Nat} {G G' : List Nat} (h : ∀ x, x ∈ G' → x ∈ G) {k : Nat} (hk : MSet c m o G' k) : MSet c m o G k := by
  rcases hk with e | e | e | e
  · exact .inl e
  · exact .inr (.inl e)
  · exact .inr (.inr (.inl e))
  · exact .inr (.inr (.inr (h k e)))
set_option maxRecDepth 100000 in
set_option maxHeartbeats 8000000 in
theorem get_any {c d lo hi U : Nat} {M : Nat → Prop} {C : CS} (b : Int) (hb : I64 b) (ha : C.st.acts ≤ 1000000) (hU : U ≤ 1000000000) (w : World) (h : CacheAt c d lo hi M U C w) :
    Calls Tryz.prog 33 #[cV c, .int .i64 b] w (GetRet c d lo hi M U C b w) := by
  obtain ⟨m, o, uses, A, V, G, h, hu, rfl⟩ := h
  obtain ⟨q0, hblk⟩ := h.blk
  have c0 : w.cell? ⟨c, 0, none⟩ = some (cV c) := hblk.cell 0
  have MI := Lib.hid (cmissing_no c w c0)
  have EXr := cexists_any b w hblk h.dev
  have H := Lib.hid h
  by_cases hin : 0 ≤ b ∧ b < (C.st.n : Int)
  · rw [decide_eq_true hin] at EXr
    have EX := Lib.hid EXr
    have Fr := find_any b hb w h
    clear EXr
    cases hg : adrOf V G b with
    | some g =>
      rw [hg] at Fr
      have F : Hid (Calls Tryz.prog 55 #[cV c, .int .i64 b] w fun e w' => e = .returned (.pointer (some ⟨g, 0, none⟩)) ∧ w = w') := Lib.hid Fr
      obtain ⟨gq, cap, ho, hh, hgb, hlen, hat⟩ := h.hand hg
      have hz : (V g).data.size = 128 := h.ok.size _ (atB_some hat).1
      have US := Lib.hid (use_any (by omega) w hh hz)
      have HR : Hid (∀ w', UseRet c d lo hi m gq uses V (lessG V G b) g { C with L := dropB C.L b } w (.returned (.tuple #[])) w' → GetRet c d lo hi (MSet c m o G) U C b w (.returned (.tuple #[.string (V g).data, .int .i64 0])) w' ∧ w'.cell? ⟨g, 1, none⟩ = some (.string (V g).data)) := Lib.hid (by
        rintro w' ⟨A', V', -, k1, k2, k3⟩
        have e : getC C b = ((V g).data, 0, { C with L := dropB C.L b ++ [bufOf (V g)] }) := by
          unfold getC
          rw [if_pos hin, hat]
          rfl
        refine ⟨⟨_, by rw [e], by rw [e]; exact ⟨m, some gq, uses + 1, A', V', _, k1, by omega, rfl⟩, ?_⟩, ?_⟩
        · have hw := went_use (lo := lo) (hi := hi) k3
          subst ho
          have hsub : ∀ x, x ∈ g :: lessG V G b → x ∈ G := fun x hx => by
            rcases List.mem_cons.1 hx with rfl | hx
            · exact (adr_some hg).1
            · exact (less_mem.1 hx).1
          exact ⟨hw.turn.mono fun k _ hk => hk.elim (fun hk => .inl (mset_sub hsub hk)) .inr, fun k hk => (hw.new k hk).elim (fun hk => .inl (mset_sub hsub hk)) .inr⟩
        · obtain ⟨i, hb⟩ := k1.recAt (g := g) (by simp)
          rw [← k2]
          exact hb.cell 1)
      clear h hblk Fr hh hgb hlen hat hz
      generalize (V g).data = dt at *
      go_enter Tryz.func33, Tryz.ntmps33
      go_wp2_with fail
      refine MI.out.mono ?_; rintro e w' ⟨rfl, rfl⟩
      go_wp2_with fail
      refine EX.out.mono ?_; rintro e w' ⟨rfl, rfl⟩
      go_wp2_with fail
      refine F.out.mono ?_; rintro e w' ⟨rfl, rfl⟩
      clear MI EX F c0
      go_wp2_with fail
      refine US.out.mono ?_; rintro e w1 hur
      obtain ⟨rfl⟩ : e = .returned (.tuple #[]) := by obtain ⟨_, _, e, _⟩ := hur; exact e
      obtain ⟨hr, g1⟩ := HR.out w1 hur
      have HR1 := Lib.hid hr
      clear HR hr hur US
      go_wp2
      go_ret2
      exact HR1.out
    | none =>
      rw [hg] at Fr
      have F : Hid (Calls Tryz.prog 55 #[cV c, .int .i64 b] w fun e w' => e = .returned (.pointer none) ∧ w = w') := Lib.hid Fr
      have hat : atB C.L b = none := by rw [h.at, hg]; rfl
      have R := Lib.hid (room_any ha w h)
      obtain ⟨r1, r2, r3, r4, r5, r6, r7⟩ := room_ok h.ok
      by_cases hc : (roomC C).1 = 0
      · have e : getC C b = ((roomC C).2.st.now b.toNat, 0, { (roomC C).2 with L := (roomC C).2.L ++ [⟨b.toNat, (roomC C).2.st.now b.toNat, false, false⟩] }) := by
          unfold getC
          rw [if_pos hin, hat]
          exact if_pos hc
        have hR : Hid (Calls Tryz.prog 62 #[cV c] w fun e w1 => e = .returned (.int .i64 0) ∧ ∃ o' A' V' G', Cache c d lo hi m o' uses A' V' G' (roomC C).2 w1 ∧ Went lo hi (MSet c m o G) (MSet c m o' G') w w1) := Lib.hid (by
          refine R.out.mono ?_
          rintro e w1 ⟨o', A', V', G', rfl, k1, k2⟩
          rw [hc]
          exact ⟨rfl, o', A', V', G', k1, k2⟩)
        have HE := Lib.hid e
        have hn := r2
        have HM := Lib.hid (And.intro (r4 hc) r3)
        have HS := Lib.hid (atB_sub r5 hat)
        clear h hblk Fr R r1 r2 r3 r4 r5 r6 r7 e hat
        generalize (roomC C).2 = C1 at *
        go_enter Tryz.func33, Tryz.ntmps33
        go_wp2_with fail
        refine MI.out.mono ?_; rintro e w' ⟨rfl, rfl⟩
        go_wp2_with fail
        refine EX.out.mono ?_; rintro e w' ⟨rfl, rfl⟩
        go_wp2_with fail
        refine F.out.mono ?_; rintro e w' ⟨rfl, rfl⟩
        clear MI EX F c0
        go_wp2_with fail
        refine hR.out.mono ?_; rintro e w1 ⟨rfl, o1, A1, V1, G1, k1, k2⟩
        obtain ⟨q1, hblk1⟩ := k1.blk
        have c2 : w1.cell? ⟨c, 2, none⟩ = some (.func (.func 28) #[.pointer (some ⟨d, 0, none⟩)] #[]) := hblk1.cell 2
        have RD := read_any b w1 k1.dev
        have e1 : rText C1.st b = C1.st.now b.toNat := by unfold rText; rw [if_pos (by rw [hn]; exact hin)]
        have e2 : rCode C1.st b = 0 := by unfold rCode; rw [if_pos (by rw [hn]; exact hin)]
        rw [e1, e2] at RD
        have RD := Lib.hid RD
        have hz : (C1.st.now b.toNat).size = 128 := k1.ok.st.now _ (by omega)
        have ebn : ((b.toNat : Nat) : Int) = b := by omega
        have hl1 := k1.len
        have AD := add_any (b := b.toNat) w1 k1 (by omega) (by rw [ebn]; exact k1.none_of HS.out) (by have := HM.out.1; have := HM.out.2; omega)
        rw [ebn] at AD
        have AD := Lib.hid AD
        have HW1 := Lib.hid k2
        have HZ := Lib.hid hz
        clear k1 k2 hblk1 hR hz hl1 HM HS
        go_wp2_with fail
        refine RD.out.mono ?_; rintro e w' ⟨rfl, rfl⟩
        clear RD c2
        go_wp2_with fail
        refine AD.out.mono ?_; rintro e w2 ⟨gq, cap, B, rfl, hh, t2, hfar⟩
        clear AD e1 e2
        unfold ptrV
        have HWs := Lib.hid (HW1.out.turn.size)
        generalize hg2 : w1.heap.size = g at *
        have HG2 := Lib.hid hg2
        clear hg2
        obtain ⟨i, hin2, hAi⟩ := hh.place
        have hbg : Blk g (recCells (upd V1 g (newRec b.toNat) g) i) 91 w2 := by have := hh.q.item i hin2; rwa [hAi] at this
        have g1 : w2.cell? ⟨g, 1, none⟩ = some (.string (upd V1 g (newRec b.toNat) g).data) := hbg.cell 1
        have f1 := hbg.frozen 1
        generalize hdt : C1.st.now b.toNat = dt at *
        have t3 : Turn (fun k => k = g) w2 (w2.setCell ⟨g, 1, none⟩ (.string dt)) := (Turn.refl (fun k => k = g) w2).set (p := ⟨g, 1, none⟩) rfl _
        have hh3 := hh.record (r := ⟨b.toNat, dt, false, false, 0⟩) hin2 hAi (w' := w2.setCell ⟨g, 1, none⟩ (.string dt)) (by
          have := hbg.set 1 (.string dt)
          rw [upd_same] at this
          exact this) t3 (by rw [upd_same]) (by show 0 < _; omega)
        have US := use_any (by omega) _ hh3 (by rw [upd_same]; exact HZ.out)
        have HR : Hid (∀ w', UseRet c d lo hi m gq uses (upd (upd V1 g (newRec b.toNat)) g ⟨b.toNat, dt, false, false, 0⟩) G1 g C1 (w2.setCell ⟨g, 1, none⟩ (.string dt)) (.returned (.tuple #[])) w' → GetRet c d lo hi (MSet c m o G) U C b w (.returned (.tuple #[.string dt, .int .i64 0])) w' ∧ w'.cell? ⟨g, 1, none⟩ = some (.string dt)) := Lib.hid (by
          rintro w' ⟨A', V', -, k1, k2, k3⟩
          rw [upd_same] at k1 k2
          refine ⟨⟨_, by rw [HE.out], by rw [HE.out]; exact ⟨m, some gq, uses + 1, A', V', _, k1, by omega, rfl⟩, HW1.out.trans ?_⟩, ?_⟩
          · have hw := went_use (lo := lo) (hi := hi) k3
            have hsz1 : w2.heap.size = (w2.setCell ⟨g, 1, none⟩ (.string dt)).heap.size := (size_set _ _ _).symm
            have hsz2 := t2.size
            have e3 := HG2.out
            have hbig : ∀ k, MSet c m (some gq) (g :: G1) k → MSet c m o1 G1 k ∨ w1.heap.size ≤ k := fun k hk => by
              rcases hk with e | e | e | e
              · exact .inl (.inl e)
              · exact .inl (.inr (.inl e))
              · rcases hfar with e2 | e2
                · exact .inl (.inr (.inr (.inl (e2.trans e))))
                · injection e with e; exact .inr (by omega)
              · rcases List.mem_cons.1 e with e | e
                · exact .inr (by omega)
                · exact .inl (.inr (.inr (.inr e)))
            refine ⟨?_, fun k hk => (hw.new k hk).elim (fun hk => hbig k hk) fun hl => .inr (by omega)⟩
            have h12 : Turn (Own lo hi (MSet c m o1 G1)) w1 w2 := t2.mono fun k _ hk => .inl hk
            refine (h12.then t3 fun k hk e => absurd hk (by omega)).then hw.turn fun k hk ho => ?_
            rcases ho with hm | hz
            · rcases hbig k hm with h1 | h1
              · exact .inl h1
              · omega
            · exact .inr hz
          · obtain ⟨j, hb⟩ := k1.recAt (g := g) (by simp)
            have h1 : w'.cell? ⟨g, 1, none⟩ = some (.string (V' g).data) := hb.cell 1
            rw [k2] at h1
            exact h1)
        have US := Lib.hid US
        clear hh hh3 hbg t2 t3 hfar HG2 HWs hAi
        go_wp2_with fail
        refine US.out.mono ?_; rintro e w3 hur
        obtain ⟨rfl⟩ : e = .returned (.tuple #[]) := by obtain ⟨_, _, e, _⟩ := hur; exact e
        obtain ⟨hr, g3⟩ := HR.out w3 hur
        have HR1 := Lib.hid hr
        clear HR hr hur US g1 f1
        go_wp2
        go_ret2
        exact HR1.out
      · have e : getC C b = (⟨#[]⟩, (roomC C).1, C) := by
          unfold getC
          rw [if_pos hin, hat]
          exact if_neg hc
        have hR : Hid (Calls Tryz.prog 62 #[cV c] w fun e w1 => e = .returned (.int .i64 (roomC C).1) ∧ GetRet c d lo hi (MSet c m o G) U C b w (.returned (.tuple #[.string ⟨#[]⟩, .int .i64 (roomC C).1])) w1) := Lib.hid (by
          refine R.out.mono ?_
          rintro e w1 ⟨o', A', V', G', rfl, k1, k2⟩
          rw [r6 hc] at k1
          exact ⟨rfl, _, by rw [show getC C b = _ from by assumption], by rw [show getC C b = _ from by assumption]; exact ⟨m, o', uses, A', V', G', k1, by omega, rfl⟩, k2⟩)
        clear h hblk Fr R r1 r2 r3 r4 r5 r6 r7 e hat
        generalize (roomC C).1 = code at *
        go_enter Tryz.func33, Tryz.ntmps33
        go_wp2_with fail
        refine MI.out.mono ?_; rintro e w' ⟨rfl, rfl⟩
        go_wp2_with fail
        refine EX.out.mono ?_; rintro e w' ⟨rfl, rfl⟩
        go_wp2_with fail
        refine F.out.mono ?_; rintro e w' ⟨rfl, rfl⟩
        clear MI EX F c0
        go_wp2_with fail
        refine hR.out.mono ?_; rintro e w1 ⟨rfl, hr⟩
        have HR := Lib.hid hr
        clear hr hR
        go_wp2
        go_ret2
        exact HR.out
  · rw [decide_eq_false hin] at EXr
    have EX := Lib.hid EXr
    have HR : Hid (GetRet c d lo hi (MSet c m o G) U C b w (.returned (.tuple #[.string ⟨#[]⟩, .int .i64 60])) w) := Lib.hid (by
      have e : getC C b = (⟨#[]⟩, 60, C) := by unfold getC; rw [if_neg hin]
      exact ⟨_, by rw [e], by rw [e]; exact ⟨m, o, uses, A, V, G, h, by omega, rfl⟩, Went.below (Below.refl _ _)⟩)
    clear h hblk EXr
    go_enter Tryz.func33, Tryz.ntmps33
    go_wp2_with fail
    refine MI.out.mono ?_; rintro e w' ⟨rfl, rfl⟩
    go_wp2_with fail
    refine EX.out.mono ?_; rintro e w' ⟨rfl, rfl⟩
    go_wp2
    go_ret2
    exact HR.out
end Go.Proofs.YtehjobjjlldckaaGreat
