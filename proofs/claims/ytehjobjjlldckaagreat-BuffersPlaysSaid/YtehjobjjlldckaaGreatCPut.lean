/- The cache's Put. -/
import Derived.Test.YtehjobjjlldckaaGreatCGet
import Derived.Test.YtehjobjjlldckaaGreatCShelf
namespace Go.Proofs.YtehjobjjlldckaaGreat
set_option linter.unusedVariables false
open Go.RowKit

theorem clone_str (s : ByteArray) (hs : s.size ≤ 281474976710656) (w : World) : Calls Tryz.prog 64 #[.string s] w fun e w' => e = .returned (.string s) ∧ Below w.heap.size w w' := by
  have CL := Lib.hid (Any.stringslite_Clone Tryz.cloneStr s w hs)
  go_enter Tryz.func64, Tryz.ntmps64
  go_wp2_with fail
  refine CL.out.mono ?_; rintro e w1 ⟨rfl, b⟩
  go_wp2
  go_ret
  exact ⟨rfl, b⟩
section
variable {c d lo hi m gq cap uses : Nat} {A : Nat → Nat} {V0 V : Nat → Rec} {G : List Nat} {g : Nat} {C : CS} {w w' : World}
theorem Hand.kept1 (h : Hand c d lo hi m gq cap uses A V0 V G g C w) (b : Below w.heap.size w w') : Hand c d lo hi m gq cap uses A V0 V G g C w' :=
  ⟨h.ok, h.dev.kept1 b, h.q.kept1 b, h.heap, h.oth, h.mp.turn (Turn.of_below b fun _ => False) (fun h => h), h.list, h.mem, h.gG, h.rise, h.most, h.new, h.room, h.blt, h.parts⟩
theorem Hand.recAt (h : Hand c d lo hi m gq cap uses A V0 V G g C w) : ∃ i, i < G.length + 1 ∧ A i = g ∧ Blk g (recCells (V g) i) 91 w := by
  obtain ⟨i, hin, hA⟩ := h.place
  have := h.q.item i hin
  rw [hA] at this
  exact ⟨i, hin, hA, this⟩
theorem Hand.used_small (h : Hand c d lo hi m gq cap uses A V0 V G g C w) : (V g).used < 2305843009213693952 := by
  obtain ⟨i, hin, hA⟩ := h.place
  have := h.q.used i hin
  rwa [hA] at this
abbrev putW (w : World) (g : Nat) (s : ByteArray) (p : Bool) : World := ((w.setCell ⟨g, 1, none⟩ (.string s)).setCell ⟨g, 2, none⟩ (.bool true)).setCell ⟨g, 3, none⟩ (.bool p)
theorem Hand.putHand (h : Hand c d lo hi m gq cap uses A V0 V G g C w) (s : ByteArray) (p : Bool) :
    Hand c d lo hi m gq cap uses A V0 (upd V g ⟨(V g).b, s, true, p, (V g).used⟩) G g C (putW w g s p) ∧ Turn (fun k => k = g) w (putW w g s p) := by
  obtain ⟨i, hin, hA, hb⟩ := h.recAt
  have t : Turn (fun k => k = g) w (putW w g s p) := (((Turn.refl (fun k => k = g) w).set (p := ⟨g, 1, none⟩) rfl _).set (p := ⟨g, 2, none⟩) rfl _).set (p := ⟨g, 3, none⟩) rfl _
  exact ⟨h.record hin hA (((hb.set 1 _).set 2 _).set 3 _) t rfl h.used_small, t⟩
end
def PutRet (c d lo hi : Nat) (M : Nat → Prop) (U : Nat) (C : CS) (b : Int) (s : ByteArray) (pin : Bool) (w : World) (e : Ending) (w' : World) : Prop :=
  ∃ M', e = .returned (.int .i64 (putC C b s pin).1) ∧ CacheAt c d lo hi M' (U + 1) (putC C b s pin).2 w' ∧ Went lo hi M M' w w'
set_option maxRecDepth 100000 in
set_option maxHeartbeats 16000000 in
theorem put_any {c d lo hi U : Nat} {M : Nat → Prop} {C : CS} (b : Int) (hb : I64 b) (s : ByteArray) (pin : Bool) (ha : C.st.acts ≤ 1000000) (hU : U ≤ 1000000000) (w : World) (h : CacheAt c d lo hi M U C w) :
    Calls Tryz.prog 31 #[cV c, .int .i64 b, .string s, .bool pin] w (PutRet c d lo hi M U C b s pin w) := by
  obtain ⟨m, o, uses, A, V, G, h, hu, rfl⟩ := h
  obtain ⟨q0, hblk⟩ := h.blk
  have c0 : w.cell? ⟨c, 0, none⟩ = some (cV c) := hblk.cell 0
  have MI := Lib.hid (cmissing_no c w c0)
  have EXr := cexists_any b w hblk h.dev
  have H := Lib.hid h
  by_cases hin : 0 ≤ b ∧ b < (C.st.n : Int)
  · rw [decide_eq_true hin] at EXr
    have EX := Lib.hid EXr
    clear EXr
    by_cases hs : s.size = 128
    · have ts : ((s.size : Int) != 128) = false := by rw [bne_eq_false_iff_eq]; omega
      have HSZ := Lib.hid hs
      have hs1 : s.size ≤ 128 := by omega
      have Fr := find_any b hb w h
      cases hg : adrOf V G b with
      | some g =>
        rw [hg] at Fr
        have F : Hid (Calls Tryz.prog 55 #[cV c, .int .i64 b] w fun e w' => e = .returned (.pointer (some ⟨g, 0, none⟩)) ∧ w = w') := Lib.hid Fr
        obtain ⟨gq, cap, ho, hh, hgb, hlen, hat⟩ := h.hand hg
        have HR : Hid (∀ w3 w5 p, p = (pin || (V g).pin) → Below w.heap.size w w3 → Turn (fun k => k = g) w3 (putW w3 g s p) → UseRet c d lo hi m gq uses (upd V g ⟨(V g).b, s, true, p, (V g).used⟩) (lessG V G b) g { C with L := dropB C.L b } (putW w3 g s p) (.returned (.tuple #[])) w5 → PutRet c d lo hi (MSet c m o G) U C b s pin w (.returned (.int .i64 0)) w5) := Lib.hid (by
          rintro w3 w5 p hp bd t3 ⟨A', V', -, k1, k2, k3⟩
          rw [upd_same] at k1
          have ebn : b.toNat = (V g).b := by omega
          have e : putC C b s pin = (0, { C with L := dropB C.L b ++ [⟨(V g).b, s, true, p⟩] }) := by
            unfold putC
            rw [if_pos hin, if_pos hs, hat, hp, ← ebn]
            rfl
          have hw := went_use (lo := lo) (hi := hi) k3
          subst ho
          have hgG := (adr_some hg).1
          have hsub : ∀ x, x ∈ g :: lessG V G b → x ∈ G := fun x hx => by
            rcases List.mem_cons.1 hx with rfl | hx
            · exact hgG
            · exact (less_mem.1 hx).1
          refine ⟨_, by rw [e], by rw [e]; exact ⟨m, some gq, uses + 1, A', V', _, k1, by omega, rfl⟩, ?_, fun k hk => ?_⟩
          · refine ((Turn.of_below bd (Own lo hi (MSet c m (some gq) G))).then t3 fun k _ hk => .inl (.inr (.inr (.inr (by rw [hk]; exact hgG))))).then hw.turn fun k _ hk => hk.elim (fun hk => .inl (mset_sub hsub hk)) .inr
          · refine (hw.new k hk).elim (fun hk => .inl (mset_sub hsub hk)) fun hl => .inr ?_
            have := bd.size
            have := t3.size
            omega)
        clear h hblk Fr hgb hlen hat hs
        generalize ({ C with L := dropB C.L b } : CS) = C2 at *
        generalize lessG V G b = G2 at *
        cases hp0 : (V g).pin with
        | true =>
          have HPQ : Hid (true = (pin || (V g).pin)) := Lib.hid (by rw [hp0, Bool.or_true])
          go_enter Tryz.func31, Tryz.ntmps31
          go_wp2_with fail
          refine MI.out.mono ?_; rintro e w' ⟨rfl, rfl⟩
          go_wp2_with fail
          refine EX.out.mono ?_; rintro e w' ⟨rfl, rfl⟩
          go_wp2_with fail
          refine F.out.mono ?_; rintro e w' ⟨rfl, rfl⟩
          clear MI EX F c0
          obtain ⟨i, hin2, hAi, hbg⟩ := hh.recAt
          have HH := Lib.hid hh
          clear hh
          have CL := Lib.hid (clone_str s (by omega) w)
          clear hbg
          go_wp2_with fail
          refine CL.out.mono ?_; rintro e w3 ⟨rfl, bd⟩
          have hh3 := HH.out.kept1 bd
          obtain ⟨j, hj, hAj, hbg⟩ := hh3.recAt
          have g1 : w3.cell? ⟨g, 1, none⟩ = some (.string (V g).data) := hbg.cell 1
          have g2 : w3.cell? ⟨g, 2, none⟩ = some (.bool (V g).dirty) := hbg.cell 2
          have g3 : w3.cell? ⟨g, 3, none⟩ = some (.bool (V g).pin) := hbg.cell 3
          rw [hp0] at g3
          have f1 := hbg.frozen 1
          have f2 := hbg.frozen 2
          have f3 := hbg.frozen 3
          obtain ⟨hh4, t4⟩ := hh3.putHand s true
          have US := Lib.hid (use_any (by omega) _ hh4 (by rw [upd_same]; exact HSZ.out))
          have HX := Lib.hid (And.intro bd t4)
          clear hbg hh3 hh4 t4 bd hAj HH CL hAi
          go_wp2_with fail
          refine US.out.mono ?_; rintro e w5 hur
          obtain ⟨rfl⟩ : e = .returned (.tuple #[]) := by obtain ⟨_, _, e, _⟩ := hur; exact e
          have HF := Lib.hid (HR.out w3 w5 true HPQ.out HX.out.1 HX.out.2 hur)
          clear hur US g1 g2 g3 f1 f2 f3 HX HR
          go_wp2
          go_ret
          exact HF.out
        | false =>
          have HPQ : Hid (pin = (pin || (V g).pin)) := Lib.hid (by rw [hp0, Bool.or_false])
          go_enter Tryz.func31, Tryz.ntmps31
          go_wp2_with fail
          refine MI.out.mono ?_; rintro e w' ⟨rfl, rfl⟩
          go_wp2_with fail
          refine EX.out.mono ?_; rintro e w' ⟨rfl, rfl⟩
          go_wp2_with fail
          refine F.out.mono ?_; rintro e w' ⟨rfl, rfl⟩
          clear MI EX F c0
          obtain ⟨i, hin2, hAi, hbg⟩ := hh.recAt
          have HH := Lib.hid hh
          clear hh
          have CL := Lib.hid (clone_str s (by omega) w)
          clear hbg
          go_wp2_with fail
          refine CL.out.mono ?_; rintro e w3 ⟨rfl, bd⟩
          have hh3 := HH.out.kept1 bd
          obtain ⟨j, hj, hAj, hbg⟩ := hh3.recAt
          have g1 : w3.cell? ⟨g, 1, none⟩ = some (.string (V g).data) := hbg.cell 1
          have g2 : w3.cell? ⟨g, 2, none⟩ = some (.bool (V g).dirty) := hbg.cell 2
          have g3 : w3.cell? ⟨g, 3, none⟩ = some (.bool (V g).pin) := hbg.cell 3
          rw [hp0] at g3
          have f1 := hbg.frozen 1
          have f2 := hbg.frozen 2
          have f3 := hbg.frozen 3
          obtain ⟨hh4, t4⟩ := hh3.putHand s pin
          have US := Lib.hid (use_any (by omega) _ hh4 (by rw [upd_same]; exact HSZ.out))
          have HX := Lib.hid (And.intro bd t4)
          clear hbg hh3 hh4 t4 bd hAj HH CL hAi
          go_wp2_with fail
          refine US.out.mono ?_; rintro e w5 hur
          obtain ⟨rfl⟩ : e = .returned (.tuple #[]) := by obtain ⟨_, _, e, _⟩ := hur; exact e
          have HF := Lib.hid (HR.out w3 w5 pin HPQ.out HX.out.1 HX.out.2 hur)
          clear hur US g1 g2 g3 f1 f2 f3 HX HR
          go_wp2
          go_ret
          exact HF.out
      | none =>
        rw [hg] at Fr
        have F : Hid (Calls Tryz.prog 55 #[cV c, .int .i64 b] w fun e w' => e = .returned (.pointer none) ∧ w = w') := Lib.hid Fr
        have hat : atB C.L b = none := by rw [h.at, hg]; rfl
        have R := Lib.hid (room_any ha w h)
        obtain ⟨r1, r2, r3, r4, r5, r6, r7⟩ := room_ok h.ok
        by_cases hc : (roomC C).1 = 0
        · have e : putC C b s pin = (0, { (roomC C).2 with L := (roomC C).2.L ++ [⟨b.toNat, s, true, pin⟩] }) := by
            unfold putC
            rw [if_pos hin, if_pos hs, hat]
            exact if_pos hc
          have hR : Hid (Calls Tryz.prog 62 #[cV c] w fun e w1 => e = .returned (.int .i64 0) ∧ ∃ o' A' V' G', Cache c d lo hi m o' uses A' V' G' (roomC C).2 w1 ∧ Went lo hi (MSet c m o G) (MSet c m o' G') w w1) := Lib.hid (by
            refine R.out.mono ?_
            rintro e w1 ⟨o', A', V', G', rfl, k1, k2⟩
            rw [hc]
            exact ⟨rfl, o', A', V', G', k1, k2⟩)
          have HE := Lib.hid e
          have hn := r2
          have HM := Lib.hid (And.intro (r4 hc) r3)
          have HS := Lib.hid (atB_sub r5 hat)
          clear h hblk Fr R r1 r2 r3 r4 r5 r6 r7 e hat
          generalize (roomC C).2 = C1 at *
          go_enter Tryz.func31, Tryz.ntmps31
          go_wp2_with fail
          refine MI.out.mono ?_; rintro e w' ⟨rfl, rfl⟩
          go_wp2_with fail
          refine EX.out.mono ?_; rintro e w' ⟨rfl, rfl⟩
          go_wp2_with fail
          refine F.out.mono ?_; rintro e w' ⟨rfl, rfl⟩
          clear MI EX F c0 hs
          go_wp2_with fail
          refine hR.out.mono ?_; rintro e w1 ⟨rfl, o1, A1, V1, G1, k1, k2⟩
          have ebn : ((b.toNat : Nat) : Int) = b := by omega
          have hl1 := k1.len
          have AD := add_any (b := b.toNat) w1 k1 (by omega) (by rw [ebn]; exact k1.none_of HS.out) (by have := HM.out.1; have := HM.out.2; omega)
          rw [ebn] at AD
          have AD := Lib.hid AD
          have HW1 := Lib.hid k2
          clear k1 k2 hR hl1 HM HS
          go_wp2_with fail
          refine AD.out.mono ?_; rintro e w2 ⟨gq, cap, B, rfl, hh, t2, hfar⟩
          clear AD
          unfold ptrV
          generalize hg2 : w1.heap.size = g at *
          have HG2 := Lib.hid hg2
          clear hg2
          have hp0 : (upd V1 g (newRec b.toNat) g).pin = false := by rw [upd_same]
          have hpb : (upd V1 g (newRec b.toNat) g).b = b.toNat := by rw [upd_same]
          have HR : Hid (∀ w3 w5 p, p = pin → Below w2.heap.size w2 w3 → Turn (fun k => k = g) w3 (putW w3 g s p) → UseRet c d lo hi m gq uses (upd (upd V1 g (newRec b.toNat)) g ⟨(upd V1 g (newRec b.toNat) g).b, s, true, p, (upd V1 g (newRec b.toNat) g).used⟩) G1 g C1 (putW w3 g s p) (.returned (.tuple #[])) w5 → PutRet c d lo hi (MSet c m o G) U C b s pin w (.returned (.int .i64 0)) w5) := Lib.hid (by
            rintro w3 w5 p rfl bd t3 ⟨A', V', -, k1, k2, k3⟩
            rw [upd_same, hpb] at k1
            have hw := went_use (lo := lo) (hi := hi) k3
            have s3 := bd.size
            have s4 := t3.size
            have s2 := t2.size
            have e3 := HG2.out
            have hbig : ∀ k, MSet c m (some gq) (g :: G1) k → MSet c m o1 G1 k ∨ w1.heap.size ≤ k := fun k hk => by
              rcases hk with e | e | e | e
              · exact .inl (.inl e)
              · exact .inl (.inr (.inl e))
              · rcases hfar with e2 | e2
                · exact .inl (.inr (.inr (.inl (e2.trans e))))
                · injection e with e; exact .inr (by omega)
              · rcases List.mem_cons.1 e with e | e
                · exact .inr (by omega)
                · exact .inl (.inr (.inr (.inr e)))
            refine ⟨_, by rw [HE.out], by rw [HE.out]; exact ⟨m, some gq, uses + 1, A', V', _, k1, by omega, rfl⟩, HW1.out.trans ⟨?_, fun k hk => (hw.new k hk).elim (fun hk => hbig k hk) fun hl => .inr (by omega)⟩⟩
            have h12 : Turn (Own lo hi (MSet c m o1 G1)) w1 w2 := t2.mono fun k _ hk => .inl hk
            refine ((h12.next bd).then t3 fun k hk e => absurd hk (by omega)).then hw.turn fun k hk ho => ?_
            rcases ho with hm | hz
            · rcases hbig k hm with h1 | h1
              · exact .inl h1
              · omega
            · exact .inr hz)
          clear t2 hfar HG2 hpb HW1 HE
          generalize upd V1 g (newRec b.toNat) = V2 at *
          obtain ⟨i, hin2, hAi, hbg⟩ := hh.recAt
          have HH := Lib.hid hh
          clear hh
          have CL := Lib.hid (clone_str s (by omega) w2)
          clear hbg
          go_wp2_with fail
          refine CL.out.mono ?_; rintro e w3 ⟨rfl, bd⟩
          have hh3 := HH.out.kept1 bd
          obtain ⟨j, hj, hAj, hbg⟩ := hh3.recAt
          have g1 : w3.cell? ⟨g, 1, none⟩ = some (.string (V2 g).data) := hbg.cell 1
          have g2 : w3.cell? ⟨g, 2, none⟩ = some (.bool (V2 g).dirty) := hbg.cell 2
          have g3 : w3.cell? ⟨g, 3, none⟩ = some (.bool (V2 g).pin) := hbg.cell 3
          rw [hp0] at g3
          have f1 := hbg.frozen 1
          have f2 := hbg.frozen 2
          have f3 := hbg.frozen 3
          obtain ⟨hh4, t4⟩ := hh3.putHand s pin
          have US := Lib.hid (use_any (by omega) _ hh4 (by rw [upd_same]; exact HSZ.out))
          have HX := Lib.hid (And.intro bd t4)
          clear hbg hh3 hh4 t4 bd hAj HH CL hAi
          go_wp2_with fail
          refine US.out.mono ?_; rintro e w5 hur
          obtain ⟨rfl⟩ : e = .returned (.tuple #[]) := by obtain ⟨_, _, e, _⟩ := hur; exact e
          have HF := Lib.hid (HR.out w3 w5 pin rfl HX.out.1 HX.out.2 hur)
          clear hur US g1 g2 g3 f1 f2 f3 HX HR
          go_wp2
          go_ret
          exact HF.out
        · have e : putC C b s pin = ((roomC C).1, C) := by
            unfold putC
            rw [if_pos hin, if_pos hs, hat]
            exact if_neg hc
          have hR : Hid (Calls Tryz.prog 62 #[cV c] w fun e w1 => e = .returned (.int .i64 (roomC C).1) ∧ PutRet c d lo hi (MSet c m o G) U C b s pin w (.returned (.int .i64 (roomC C).1)) w1) := Lib.hid (by
            refine R.out.mono ?_
            rintro e w1 ⟨o', A', V', G', rfl, k1, k2⟩
            rw [r6 hc] at k1
            exact ⟨rfl, _, by rw [show putC C b s pin = _ from by assumption], by rw [show putC C b s pin = _ from by assumption]; exact ⟨m, o', uses, A', V', G', k1, by omega, rfl⟩, k2⟩)
          clear h hblk Fr R r1 r2 r3 r4 r5 r6 r7 e hat hs
          generalize (roomC C).1 = code at *
          go_enter Tryz.func31, Tryz.ntmps31
          go_wp2_with fail
          refine MI.out.mono ?_; rintro e w' ⟨rfl, rfl⟩
          go_wp2_with fail
          refine EX.out.mono ?_; rintro e w' ⟨rfl, rfl⟩
          go_wp2_with fail
          refine F.out.mono ?_; rintro e w' ⟨rfl, rfl⟩
          clear MI EX F c0
          go_wp2_with fail
          refine hR.out.mono ?_; rintro e w1 ⟨rfl, hr⟩
          have HR := Lib.hid hr
          clear hr hR
          go_wp2
          go_ret
          exact HR.out
    · have ts : ((s.size : Int) != 128) = true := by rw [bne_iff_ne]; omega
      have HR : Hid (PutRet c d lo hi (MSet c m o G) U C b s pin w (.returned (.int .i64 2)) w) := Lib.hid (by
        have e : putC C b s pin = (2, C) := by unfold putC; rw [if_pos hin, if_neg hs]
        exact ⟨_, by rw [e], by rw [e]; exact ⟨m, o, uses, A, V, G, h, by omega, rfl⟩, Went.below (Below.refl _ _)⟩)
      clear h hblk hs
      go_enter Tryz.func31, Tryz.ntmps31
      go_wp2_with fail
      refine MI.out.mono ?_; rintro e w' ⟨rfl, rfl⟩
      go_wp2_with fail
      refine EX.out.mono ?_; rintro e w' ⟨rfl, rfl⟩
      go_wp2
      go_ret
      exact HR.out
  · rw [decide_eq_false hin] at EXr
    have EX := Lib.hid EXr
    have HR : Hid (PutRet c d lo hi (MSet c m o G) U C b s pin w (.returned (.int .i64 60)) w) := Lib.hid (by
      have e : putC C b s pin = (60, C) := by unfold putC; rw [if_neg hin]
      exact ⟨_, by rw [e], by rw [e]; exact ⟨m, o, uses, A, V, G, h, by omega, rfl⟩, Went.below (Below.refl _ _)⟩)
    clear h hblk EXr
    go_enter Tryz.func31, Tryz.ntmps31
    go_wp2_with fail
    refine MI.out.mono ?_; rintro e w' ⟨rfl, rfl⟩
    go_wp2_with fail
    refine EX.out.mono ?_; rintro e w' ⟨rfl, rfl⟩
    go_wp2
    go_ret
    exact HR.out
end Go.Proofs.YtehjobjjlldckaaGreat
