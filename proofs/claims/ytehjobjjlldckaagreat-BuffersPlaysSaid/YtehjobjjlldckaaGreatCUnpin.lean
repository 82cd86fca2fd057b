/- The cache's Unpin, Out, Has, Forget. -/
import Derived.Test.YtehjobjjlldckaaGreatCGet
namespace Go.Proofs.YtehjobjjlldckaaGreat
set_option linter.unusedVariables false
open Go.RowKit

theorem pequal_none (w : World) (p : Addr) : ∀ d, (Op.equalIn (d + 1) 80 (.pointer (some p)) (.pointer none)).run Tryz.prog w = .ok false w := fun d => by
  simp [Op.equalIn, run_underlying Tryz.underlying80]
section
variable {c d lo hi m uses : Nat} {o : Option Nat} {A : Nat → Nat} {V : Nat → Rec} {G : List Nat} {C : CS} {w w' : World}
theorem setB_bufs (V : Nat → Rec) (G : List Nat) (b : Int) (f : Buf → Buf) : setB (bufs V G) b f = G.map fun g => if ((V g).b : Int) = b then f (bufOf (V g)) else bufOf (V g) := by
  unfold setB bufs; rw [List.map_map]; rfl
/-- one buffer has other marks: its block and its last use stay -/
theorem Cache.marks (h : Cache c d lo hi m o uses A V G C w) {g : Nat} {b : Int} (hg : adrOf V G b = some g) {gq cap : Nat} {B : Nat → Nat} {r : Rec} {f : Buf → Buf} (ho : o = some gq) (hf : bufOf r = f (bufOf (V g))) (hrb : r.b = (V g).b) (hru : r.used = (V g).used) (hfd : ∀ x, (f x).b = x.b ∧ (f x).data = x.data)
    (hq : QAt c (cellsC c d m C.most uses) gq cap G.length B (upd V g r) w') (hh : heapTo (kV (upd V g r)) B G.length) (hs : sameTo A B G.length) {S : St} (hd : DevAt d lo hi S w') (hS : S.n = C.st.n) (hm : MapAt m G.length (adrOf V G) w') :
    Cache c d lo hi m (some gq) uses B (upd V g r) G { st := S, most := C.most, L := setB C.L b f } w' := by
  obtain ⟨hgG, hgb⟩ := adr_some hg
  subst ho
  have hne : ∀ x, x ≠ g → upd V g r x = V x := fun x hx => upd_other _ hx _
  have hu : ∀ x, (upd V g r x).used = (V x).used := fun x => by
    by_cases e : x = g
    · subst e; rw [upd_same]; exact hru
    · rw [hne x e]
  have hb : ∀ x, (upd V g r x).b = (V x).b := fun x => by
    by_cases e : x = g
    · subst e; rw [upd_same]; exact hrb
    · rw [hne x e]
  refine ⟨on_ok (set_ok h.ok b f hfd) hd.ok hS, hd, ⟨cap, hq⟩, hh, by rw [show adrOf (upd V g r) G = adrOf V G from funext fun k => adr_congr (fun x _ => hb x) k]; exact hm, ?_, fun x => ?_, ?_, fun x hx => by rw [hu]; exact h.most x hx, h.parts⟩
  · show setB C.L b f = _
    rw [h.list, setB_bufs]
    unfold bufs
    refine List.map_congr_left fun x hx => ?_
    by_cases e : x = g
    · subst e
      rw [if_pos hgb, upd_same, hf]
    · rw [hne x e, if_neg]
      intro e2
      exact e (b_inj h.un hx hgG (by omega))
  · rw [← h.mem x]
    constructor
    · rintro ⟨i, hi, rfl⟩
      obtain ⟨j, hj, e⟩ := same_mem hs hi
      exact ⟨j, hj, e.symm⟩
    · rintro ⟨i, hi, rfl⟩
      obtain ⟨j, hj, e⟩ := same_mem (same_symm hs) hi
      exact ⟨j, hj, e.symm⟩
  · refine List.Pairwise.imp ?_ h.rise
    intro a b hab
    rw [hu, hu]; exact hab
theorem set_none {L : List Buf} {b : Int} (h : atB L b = none) (f : Buf → Buf) : setB L b f = L := by
  unfold setB
  have : ∀ x, x ∈ L → (fun x : Buf => if (x.b : Int) = b then f x else x) x = x := fun x hx => if_neg (atB_none h x hx)
  rw [List.map_congr_left this]; simp
end
theorem mset_zone {c d lo hi m uses : Nat} {o : Option Nat} {A : Nat → Nat} {V : Nat → Rec} {G : List Nat} {C : CS} {w : World} (h : Cache c d lo hi m o uses A V G C w) {k : Nat} (hk : MSet c m o G k) : ¬ (lo ≤ k ∧ k < hi) := by
  rcases hk with e | e | e | e
  · rw [e]; exact h.parts.zc
  · rw [e]; exact h.parts.zm
  · exact h.parts.zo k e
  · exact h.parts.zg k e
def UnpinRet (c d lo hi : Nat) (M : Nat → Prop) (U : Nat) (C : CS) (b : Int) (w : World) (e : Ending) (w' : World) : Prop :=
  ∃ M', e = .returned (.tuple #[]) ∧ CacheAt c d lo hi M' U (unpinC C b) w' ∧ Went lo hi M M' w w'
set_option maxRecDepth 100000 in
set_option maxHeartbeats 8000000 in
theorem unpin_any {c d lo hi U : Nat} {M : Nat → Prop} {C : CS} (b : Int) (hb : I64 b) (w : World) (h : CacheAt c d lo hi M U C w) :
    Calls Tryz.prog 35 #[cV c, .int .i64 b] w (UnpinRet c d lo hi M U C b w) := by
  obtain ⟨m, o, uses, A, V, G, h, hu, rfl⟩ := h
  have Fr := find_any b hb w h
  cases hg : adrOf V G b with
  | none =>
    rw [hg] at Fr
    have F : Hid (Calls Tryz.prog 55 #[cV c, .int .i64 b] w fun e w' => e = .returned (.pointer none) ∧ w = w') := Lib.hid Fr
    have HR : Hid (UnpinRet c d lo hi (MSet c m o G) U C b w (.returned (.tuple #[])) w) := Lib.hid (by
      have e : unpinC C b = C := by unfold unpinC; rw [set_none (by rw [h.at, hg]; rfl)]
      exact ⟨_, rfl, by rw [e]; exact ⟨m, o, uses, A, V, G, h, hu, rfl⟩, Went.below (Below.refl _ _)⟩)
    clear h Fr
    go_enter Tryz.func35, Tryz.ntmps35
    go_wp2_with fail
    refine F.out.mono ?_; rintro e w' ⟨rfl, rfl⟩
    go_wp2
    go_end0
    exact HR.out
  | some g =>
    rw [hg] at Fr
    have F : Hid (Calls Tryz.prog 55 #[cV c, .int .i64 b] w fun e w' => e = .returned (.pointer (some ⟨g, 0, none⟩)) ∧ w = w') := Lib.hid Fr
    obtain ⟨hgG, hgb⟩ := adr_some hg
    obtain ⟨gq, cap, ho, hq⟩ := h.queue hgG
    obtain ⟨i, hin, hA⟩ := (h.mem g).2 hgG
    have hbg := hq.item i hin
    rw [hA] at hbg
    have g3 : w.cell? ⟨g, 3, none⟩ = some (.bool (V g).pin) := hbg.cell 3
    have f3 := hbg.frozen 3
    obtain ⟨w2, hw2⟩ : ∃ w2, w2 = w.setCell ⟨g, 3, none⟩ (.bool false) := ⟨_, rfl⟩
    have b2 : Blk g (recCells { V g with pin := false } i) 91 w2 := by rw [hw2]; exact hbg.set 3 _
    have t2 : Turn (fun k => k = g) w w2 := by rw [hw2]; exact (Turn.refl (fun k => k = g) w).set (p := ⟨g, 3, none⟩) rfl _
    have hq2 : QAt c (cellsC c d m C.most uses) gq cap G.length A (upd V g { V g with pin := false }) w2 := by
      have := hq.record (r := { V g with pin := false }) hin (by rw [hA]; exact b2) (by rw [hA]; exact t2) (h.small hgG)
      rwa [hA] at this
    have g5 : w2.cell? ⟨g, 5, none⟩ = some (.int .i64 (i : Int)) := b2.cell 5
    have hv : ∀ k, k < G.length → k ≠ i → kV V (A k) = kV (upd V g { V g with pin := false }) (A k) := fun k hk hne => by
      have hne2 : A k ≠ g := fun e => hne (hq.inj k i hk hin (e.trans hA.symm))
      unfold kV; rw [upd_other _ hne2]
    have FX := fix_any i hin w2.drew (hq2.kept1 (Below.refl _ _).drew) h.heap hv
    have HR : Hid (∀ w4, FixRet c (cellsC c d m C.most uses) gq cap G.length A (upd V g { V g with pin := false }) w2.drew (.returned (.tuple #[])) w4 → UnpinRet c d lo hi (MSet c m o G) U C b w (.returned (.tuple #[])) w4) := Lib.hid (by
      rintro w4 ⟨B, -, q4, hh4, hw4⟩
      have hsub : ∀ k, QSet gq G.length A k → MSet c m o G k := fun k hk => by
        rcases hk with e | ⟨j, hj, e⟩
        · exact .inr (.inr (.inl (by rw [ho, e])))
        · exact .inr (.inr (.inr ((h.mem k).1 ⟨j, hj, e.symm⟩)))
      have tall : Turn (MSet c m o G) w w4 := ((t2.mono fun k _ hk => .inr (.inr (.inr (by rw [hk]; exact hgG)))).drew).then hw4.turn fun k _ hk => hsub k hk
      have tg : Turn (fun k => k = gq ∨ k ∈ G) w w4 := ((t2.mono fun k _ hk => .inr (by rw [hk]; exact hgG)).drew).then hw4.turn fun k _ hk => by
        rcases hk with e | ⟨j, hj, e⟩
        · exact .inl e
        · exact .inr ((h.mem k).1 ⟨j, hj, e.symm⟩)
      have hm4 := h.mp.turn tg (by
        rintro (e | e)
        · exact h.parts.om (by rw [ho, e])
        · exact h.parts.gm _ e rfl)
      have hc := h.marks hg (r := { V g with pin := false }) (f := offPin) ho rfl rfl rfl (fun x => ⟨rfl, rfl⟩) q4 hh4 hw4.same (dev_turn h.dev tall fun k hk => mset_zone h hk) rfl hm4
      refine ⟨MSet c m (some gq) G, rfl, ⟨m, some gq, uses, B, _, G, hc, hu, rfl⟩, Went.of tall fun k hk => .inl (by rw [ho]; exact hk)⟩)
    have FX := Lib.hid FX
    clear h Fr hq hbg b2 t2 hq2 hv hA
    go_enter Tryz.func35, Tryz.ntmps35
    go_wp2_with fail
    refine F.out.mono ?_; rintro e w' ⟨rfl, rfl⟩
    clear F
    go_wp2
    rw [← hw2]
    clear hw2 g3 f3
    go_still_tail 8, (by kernel_rfl)
    change wpList _ _ _ _ _ w2.drew
    generalize w2.drew = w3 at *
    clear g5
    go_wp2_with fail
    refine FX.out.mono ?_; rintro e w4 hfx
    obtain ⟨rfl⟩ : e = .returned (.tuple #[]) := by obtain ⟨_, e, _⟩ := hfx; exact e
    have HF := Lib.hid (HR.out w4 hfx)
    clear hfx HR FX
    go_wp2
    go_end0
    exact HF.out
def OutRetC (c d lo hi : Nat) (M : Nat → Prop) (U : Nat) (C : CS) (b : Int) (w : World) (e : Ending) (w' : World) : Prop :=
  ∃ M', e = .returned (.int .i64 (outC C b).1) ∧ CacheAt c d lo hi M' U (outC C b).2 w' ∧ Went lo hi M M' w w'
set_option maxRecDepth 100000 in
set_option maxHeartbeats 8000000 in
theorem out_any {c d lo hi U : Nat} {M : Nat → Prop} {C : CS} (b : Int) (hb : I64 b) (ha : C.st.acts ≤ 1000000) (w : World) (h : CacheAt c d lo hi M U C w) :
    Calls Tryz.prog 37 #[cV c, .int .i64 b] w (OutRetC c d lo hi M U C b w) := by
  obtain ⟨m, o, uses, A, V, G, h, hu, rfl⟩ := h
  obtain ⟨q0, hblk⟩ := h.blk
  have c0 : w.cell? ⟨c, 0, none⟩ = some (cV c) := hblk.cell 0
  have MI := Lib.hid (cmissing_no c w c0)
  have Fr := find_any b hb w h
  have HR0 : Hid ((outC C b).1 = 0 → (outC C b).2 = C → OutRetC c d lo hi (MSet c m o G) U C b w (.returned (.int .i64 0)) w) := Lib.hid (fun e1 e2 => by
    exact ⟨_, by rw [e1], by rw [e2]; exact ⟨m, o, uses, A, V, G, h, hu, rfl⟩, Went.below (Below.refl _ _)⟩)
  cases hg : adrOf V G b with
  | none =>
    rw [hg] at Fr
    have F : Hid (Calls Tryz.prog 55 #[cV c, .int .i64 b] w fun e w' => e = .returned (.pointer none) ∧ w = w') := Lib.hid Fr
    have e : outC C b = (0, C) := by unfold outC; rw [h.at, hg]; rfl
    have HR := Lib.hid (HR0.out (by rw [e]) (by rw [e]))
    clear h hblk Fr HR0 e
    go_enter Tryz.func37, Tryz.ntmps37
    go_wp2_with fail
    refine MI.out.mono ?_; rintro e w' ⟨rfl, rfl⟩
    go_wp2_with fail
    refine F.out.mono ?_; rintro e w' ⟨rfl, rfl⟩
    go_wp2
    go_ret
    exact HR.out
  | some g =>
    rw [hg] at Fr
    have F : Hid (Calls Tryz.prog 55 #[cV c, .int .i64 b] w fun e w' => e = .returned (.pointer (some ⟨g, 0, none⟩)) ∧ w = w') := Lib.hid Fr
    obtain ⟨hgG, hgb⟩ := adr_some hg
    obtain ⟨gq, cap, ho, hq⟩ := h.queue hgG
    obtain ⟨i, hin, hA⟩ := (h.mem g).2 hgG
    have hbg := hq.item i hin
    rw [hA] at hbg
    have g3 : w.cell? ⟨g, 3, none⟩ = some (.bool (V g).pin) := hbg.cell 3
    have hat : atB C.L b = some (bufOf (V g)) := by rw [h.at, hg]; rfl
    cases hp : (V g).pin with
    | true =>
      rw [hp] at g3
      have e : outC C b = (0, C) := by
        unfold outC; rw [hat]
        exact if_neg fun hh => by have := hh.2; rw [show (bufOf (V g)).pin = true from hp] at this; cases this
      have HR := Lib.hid (HR0.out (by rw [e]) (by rw [e]))
      clear h hblk Fr HR0 e hq hbg hA hat
      go_enter Tryz.func37, Tryz.ntmps37
      go_wp2_with fail
      refine MI.out.mono ?_; rintro e w' ⟨rfl, rfl⟩
      go_wp2_with fail
      refine F.out.mono ?_; rintro e w' ⟨rfl, rfl⟩
      go_wp2
      go_ret
      exact HR.out
    | false =>
      rw [hp] at g3
      have K := clean_raw (r := V g) (p := i) ha w hq.blk h.dev hbg (h.parts.zg g hgG)
      have HR : Hid (∀ e w2, CleanRet d lo hi g i C.st (V g) w e w2 → e = .returned (.int .i64 (outC C b).1) ∧ OutRetC c d lo hi (MSet c m o G) U C b w (.returned (.int .i64 (outC C b).1)) w2) := Lib.hid (by
        rintro e w2 ⟨rfl, k1, k2, k3⟩
        have ebn : ((V g).b : Int) = b := hgb
        have hcode : (outC C b).1 = cleanCode C.st (V g) ∧ (outC C b).2 = { st := cleanSt C.st (V g), most := C.most, L := setB C.L b fun x => { x with dirty := (cleanRec C.st (V g)).dirty } } := by
          unfold outC cleanCode cleanSt cleanRec
          rw [hat]
          have hsame : setB C.L b (fun x => { x with dirty := (V g).dirty }) = C.L := by
            rw [h.list, setB_bufs]
            unfold bufs
            refine List.map_congr_left fun x hx => ?_
            by_cases e : ((V x).b : Int) = b
            · rw [if_pos e]
              have : x = g := b_inj h.un hx hgG (by omega)
              subst this; rfl
            · rw [if_neg e]
          by_cases hd : (V g).dirty = true
          · have hdp : (bufOf (V g)).dirty = true ∧ (bufOf (V g)).pin = false := ⟨hd, hp⟩
            rw [if_pos hd, if_pos hd, if_pos hd]
            show (if (bufOf (V g)).dirty = true ∧ (bufOf (V g)).pin = false then _ else _ : Int × CS).1 = _ ∧ (if (bufOf (V g)).dirty = true ∧ (bufOf (V g)).pin = false then _ else _ : Int × CS).2 = _
            rw [if_pos hdp]
            rw [ebn]
            by_cases hw : wCode C.st b (V g).data.size = 0
            · have hw2 : wCode C.st b (bufOf (V g)).data.size = 0 := hw
              rw [if_pos hw2]
              refine ⟨hw.symm, ?_⟩
              show ({ C with st := wSt C.st b (V g).data, L := setB C.L b offDirty } : CS) = { st := wSt C.st b (V g).data, most := C.most, L := setB C.L b fun x => { x with dirty := wCode C.st b (V g).data.size != 0 } }
              rw [hw]; rfl
            · have hw2 : ¬ wCode C.st b (bufOf (V g)).data.size = 0 := hw
              rw [if_neg hw2]
              refine ⟨rfl, ?_⟩
              have : (wCode C.st b (V g).data.size != 0) = true := by rw [bne_iff_ne]; exact hw
              show C = { st := wSt C.st b (V g).data, most := C.most, L := setB C.L b fun x => { x with dirty := wCode C.st b (V g).data.size != 0 } }
              rw [this, wSt_same hw, ← hd, hsame]
          · rw [if_neg hd, if_neg hd, if_neg hd]
            have hdp : ¬ ((bufOf (V g)).dirty = true ∧ (bufOf (V g)).pin = false) := fun hh => hd hh.1
            show (if (bufOf (V g)).dirty = true ∧ (bufOf (V g)).pin = false then _ else _ : Int × CS).1 = _ ∧ (if (bufOf (V g)).dirty = true ∧ (bufOf (V g)).pin = false then _ else _ : Int × CS).2 = _
            rw [if_neg hdp]
            refine ⟨rfl, ?_⟩
            show C = { st := C.st, most := C.most, L := setB C.L b fun x => { x with dirty := (V g).dirty } }
            rw [hsame]
        have hrb : (cleanRec C.st (V g)).b = (V g).b ∧ (cleanRec C.st (V g)).used = (V g).used ∧ (cleanRec C.st (V g)).pin = (V g).pin ∧ bufOf (cleanRec C.st (V g)) = { bufOf (V g) with dirty := (cleanRec C.st (V g)).dirty } := by
          unfold cleanRec
          split
          · exact ⟨rfl, rfl, rfl, rfl⟩
          · exact ⟨rfl, rfl, rfl, rfl⟩
        rw [hcode.1]
        refine ⟨rfl, MSet c m (some gq) G, by rw [hcode.1], ?_, ?_⟩
        · rw [hcode.2]
          have hno : ∀ k, (lo ≤ k ∧ k < hi) → ¬ MSet c m o G k := fun k hz hm => mset_zone h hm hz
          have tz : ∀ x, x ≠ g → MSet c m o G x → ¬ (x = g ∨ (lo ≤ x ∧ x < hi)) := fun x hx hm hh => hh.elim hx fun hz => hno x hz hm
          have hq2 : QAt c (cellsC c d m C.most uses) gq cap G.length A (upd V g (cleanRec C.st (V g))) w2 := by
            have hcA := hq.ca i hin
            rw [hA] at hcA
            obtain ⟨cur, bq, s, eq⟩ := hq.row
            have hgq : MSet c m o G gq := .inr (.inr (.inl ho))
            refine ⟨hq.blk.turn k3 (tz c (Ne.symm hcA.1) (.inl rfl)), hq.hole, ⟨cur, bq.turn k3 (tz gq (Ne.symm hcA.2) hgq), s, eq⟩, hq.le, hq.hi, hq.small, fun k hk => ?_, hq.inj, hq.cq, hq.ca, fun k hk => ?_⟩
            · by_cases ek : A k = g
              · have : k = i := hq.inj k i hk hin (ek.trans hA.symm)
                subst this
                rw [ek, upd_same]; exact k2
              · rw [upd_other _ ek]
                exact (hq.item k hk).turn k3 (tz _ ek (.inr (.inr (.inr ((h.mem _).1 ⟨k, hk, rfl⟩)))))
            · by_cases ek : A k = g
              · rw [ek, upd_same, hrb.2.1]; exact h.small hgG
              · rw [upd_other _ ek]; exact hq.used k hk
          have hh2 : heapTo (kV (upd V g (cleanRec C.st (V g)))) A G.length := fun k h0 hk => by
            have hkey : ∀ x, kV (upd V g (cleanRec C.st (V g))) x = kV V x := fun x => by
              unfold kV
              by_cases e : x = g
              · subst e; rw [upd_same]; unfold keyR; rw [hrb.2.1, hrb.2.2.1]
              · rw [upd_other _ e]
            rw [hkey, hkey]; exact h.heap k h0 hk
          exact ⟨m, some gq, uses, A, _, G, h.marks hg (f := fun x => { x with dirty := (cleanRec C.st (V g)).dirty }) ho hrb.2.2.2 hrb.1 hrb.2.1 (fun x => ⟨rfl, rfl⟩) hq2 hh2 (same_refl _ _) k1 (cleanSt_n _ _) (h.mp.turn k3 (tz m (Ne.symm (h.parts.gm g hgG)) (.inr (.inl rfl)))), hu, rfl⟩
        · exact ⟨k3.mono fun k _ hk => hk.elim (fun e => .inl (.inr (.inr (.inr (by rw [e]; exact hgG))))) .inr, fun k hk => .inl (by rw [ho]; exact hk)⟩)
      have K := Lib.hid K
      clear h hblk Fr HR0 hq hbg hA hat
      unfold ptrV at K
      generalize (outC C b).1 = code at *
      go_enter Tryz.func37, Tryz.ntmps37
      go_wp2_with fail
      refine MI.out.mono ?_; rintro e w' ⟨rfl, rfl⟩
      go_wp2_with fail
      refine F.out.mono ?_; rintro e w' ⟨rfl, rfl⟩
      clear MI F c0
      go_wp2_with fail
      refine K.out.mono ?_; rintro e w2 hcl
      obtain ⟨rfl, hR⟩ := HR.out e w2 hcl
      have HRR := Lib.hid hR
      clear hR hcl HR K g3
      go_wp2
      go_ret
      exact HRR.out
theorem has_raw {c d lo hi U : Nat} {M : Nat → Prop} {C : CS} (b : Int) (hb : I64 b) (w : World) (h : CacheAt c d lo hi M U C w) :
    Calls Tryz.prog 19 #[cV c, .int .i64 b] w fun e w' => e = .returned (.bool (atB C.L b).isSome) ∧ w = w' := by
  obtain ⟨m, o, uses, A, V, G, h, hu, rfl⟩ := h
  have Fr := Lib.hid (find_any b hb w h)
  have e : (atB C.L b).isSome = (adrOf V G b).isSome := by rw [h.at]; cases adrOf V G b <;> rfl
  rw [e]
  clear h e
  cases hg : adrOf V G b with
  | none =>
    rw [hg] at Fr
    have F : Hid (Calls Tryz.prog 55 #[cV c, .int .i64 b] w fun e w' => e = .returned (.pointer none) ∧ w = w') := Fr
    go_enter Tryz.func19, Tryz.ntmps19
    go_wp2_with fail
    refine F.out.mono ?_; rintro e w' ⟨rfl, rfl⟩
    go_wp2
    go_ret
    exact ⟨rfl, rfl⟩
  | some g =>
    rw [hg] at Fr
    have F : Hid (Calls Tryz.prog 55 #[cV c, .int .i64 b] w fun e w' => e = .returned (.pointer (some ⟨g, 0, none⟩)) ∧ w = w') := Fr
    go_enter Tryz.func19, Tryz.ntmps19
    go_wp2_with fail
    refine F.out.mono ?_; rintro e w' ⟨rfl, rfl⟩
    go_wp2
    go_ret
    exact ⟨rfl, rfl⟩
theorem has_is (C : CS) (b : Nat) : (atB C.L b).isSome = hasB C false false b := by
  unfold hasB
  cases atB C.L b <;> rfl
end Go.Proofs.YtehjobjjlldckaaGreat
