/- The cache's makeRoom. -/
import Derived.Test.YtehjobjjlldckaaGreatCAdd
namespace Go.Proofs.YtehjobjjlldckaaGreat
set_option linter.unusedVariables false
open Go.RowKit

structure Went (lo hi : Nat) (M M' : Nat → Prop) (w w' : World) : Prop where
  turn : Turn (Own lo hi M) w w'
  new : ∀ k, M' k → M k ∨ w.heap.size ≤ k
theorem Went.trans {lo hi : Nat} {M M' M'' : Nat → Prop} {w a b : World} (h : Went lo hi M M' w a) (k : Went lo hi M' M'' a b) : Went lo hi M M'' w b :=
  ⟨h.turn.then k.turn fun i hi ho => ho.elim (fun hm => (h.new i hm).elim .inl fun hl => absurd hi (by omega)) .inr, fun i hm => (k.new i hm).elim (fun hm => h.new i hm) fun hl => .inr (Nat.le_trans h.turn.size hl)⟩
theorem Went.below {lo hi : Nat} {M : Nat → Prop} {w a : World} (b : Below w.heap.size w a) : Went lo hi M M w a := ⟨Turn.of_below b _, fun _ h => .inl h⟩
theorem Went.of {lo hi : Nat} {M M' : Nat → Prop} {w a : World} (t : Turn M w a) (hn : ∀ k, M' k → M k ∨ w.heap.size ≤ k) : Went lo hi M M' w a := ⟨t.mono fun _ _ h => .inl h, hn⟩
theorem find_first {V : Nat → Rec} : ∀ {G : List Nat} {a : Nat}, (G.Pairwise fun a b => (V a).used < (V b).used) → a ∈ G → (V a).pin = false → (∀ x, x ∈ G → (V x).pin = false → (V a).used ≤ (V x).used) → freeB (bufs V G) = some (bufOf (V a))
  | [], _, _, h, _, _ => by cases h
  | y :: G, a, hp, ha, h0, hm => by
    rw [List.pairwise_cons] at hp
    unfold freeB bufs
    rw [List.map_cons, List.find?_cons]
    by_cases e : y = a
    · subst e
      have : (!(bufOf (V y)).pin) = true := by show (!(V y).pin) = true; rw [h0]; rfl
      rw [this]
    · have ha2 : a ∈ G := by
        rcases List.mem_cons.1 ha with e2 | h
        · exact absurd e2.symm e
        · exact h
      have hy : (V y).pin = true := by
        cases hy : (V y).pin with
        | true => rfl
        | false =>
          have h1 := hm y (List.mem_cons_self ..) hy
          have h2 := hp.1 a ha2
          omega
      have : (!(bufOf (V y)).pin) = false := by show (!(V y).pin) = false; rw [hy]; rfl
      rw [this]
      exact find_first hp.2 ha2 h0 fun x hx => hm x (List.mem_cons_of_mem _ hx)
section
variable {c d lo hi m uses : Nat} {o : Option Nat} {A : Nat → Nat} {V : Nat → Rec} {G : List Nat} {C : CS} {w : World}
theorem Cache.small (h : Cache c d lo hi m o uses A V G C w) {g : Nat} (hg : g ∈ G) : (V g).used < 2305843009213693952 := by
  obtain ⟨gq, cap, _, hq⟩ := h.queue hg
  obtain ⟨i, hi, rfl⟩ := (h.mem g).2 hg
  exact hq.used i hi
theorem Cache.all_pinned (h : Cache c d lo hi m o uses A V G C w) (h0 : 0 < G.length) (hp : (V (A 0)).pin = true) : freeB C.L = none := by
  rw [h.list]
  unfold freeB bufs
  rw [List.find?_eq_none]
  intro y hy
  obtain ⟨g, hg, rfl⟩ := List.mem_map.1 hy
  obtain ⟨i, hi, rfl⟩ := (h.mem g).2 hg
  have h1 := heap_least h.heap i hi
  have h2 := h.small hg
  unfold kV keyR at h1
  rw [hp] at h1
  show ¬ (!(V (A i)).pin) = true
  cases e : (V (A i)).pin with
  | true => simp
  | false => rw [e] at h1; simp at h1; omega
theorem Cache.first_free (h : Cache c d lo hi m o uses A V G C w) (h0 : 0 < G.length) (hp : (V (A 0)).pin = false) : freeB C.L = some (bufOf (V (A 0))) := by
  rw [h.list]
  refine find_first h.rise ((h.mem _).1 ⟨0, h0, rfl⟩) hp fun x hx hxp => ?_
  obtain ⟨i, hi, rfl⟩ := (h.mem x).2 hx
  have h1 := heap_least h.heap i hi
  unfold kV keyR at h1
  rw [hp, hxp] at h1
  simp at h1
  omega
/-- the first one has gone -/
theorem Cache.gone (h : Cache c d lo hi m o uses A V G C w) {k : Nat} (hk : G.length = k + 1) {i : Nat} (hik : i < G.length) {gq cap : Nat} (ho : o = some gq) {B : Nat → Nat} {w2 w3 : World}
    (hq0 : QAt c (cellsC c d m C.most uses) gq cap G.length A V w)
    (hq : QAt c (cellsC c d m C.most uses) gq cap k B V w2) (hh : heapTo (kV V) B k) (hs : sameTo A B (k + 1)) (hB : B k = A i) {S : St} (hd : DevAt d lo hi S w2) (hS : S.n = C.st.n)
    (hm : MapAt m k (updO (adrOf V G) (V (A i)).b none) w3) (t : Turn (fun j => j = m) w2 w3) :
    Cache c d lo hi m (some gq) uses B V (lessG V G (V (A i)).b) { st := S, most := C.most, L := dropB C.L (V (A i)).b } w3 := by
  have hg : A i ∈ G := (h.mem _).1 ⟨i, hik, rfl⟩
  have hx : atB C.L (V (A i)).b = some (bufOf (V (A i))) := by rw [h.at, adr_mem h.un hg]; rfl
  have hlen : (lessG V G (V (A i)).b).length = k := by
    obtain ⟨h1, h2⟩ := atB_some hx
    have := dropB_length h.ok.un h1
    rw [show ((bufOf (V (A i))).b) = (V (A i)).b from rfl, h.list, dropB_bufs, bufs_length, bufs_length] at this
    omega
  subst ho
  have hinj : ∀ a b, a < k + 1 → b < k + 1 → B a = B b → a = b := same_inj hs fun a b ha hb e => hq0.inj a b (by omega) (by omega) e
  have hd3 : DevAt d lo hi S w3 := dev_turn hd t fun j hj => by rw [hj]; exact h.parts.zm
  have hmem : ∀ x, (∃ j, j < k ∧ B j = x) ↔ x ∈ lessG V G (V (A i)).b := fun x => by
    rw [less_mem]
    constructor
    · rintro ⟨j, hj, rfl⟩
      obtain ⟨l, hl, e⟩ := same_mem hs (k := j) (by omega)
      have hm2 : B j ∈ G := by rw [e]; exact (h.mem _).1 ⟨l, by omega, rfl⟩
      refine ⟨hm2, fun e2 => ?_⟩
      have e3 : B j = A i := b_inj h.un hm2 hg (by omega)
      have := hinj j k (by omega) (by omega) (by rw [e3, hB])
      omega
    · rintro ⟨hx, hne⟩
      obtain ⟨l, hl, rfl⟩ := (h.mem x).2 hx
      obtain ⟨j, hj, e⟩ := same_mem (same_symm hs) (k := l) (by omega)
      refine ⟨j, ?_, e.symm⟩
      rcases Nat.lt_or_ge j k with h1 | h1
      · exact h1
      · exfalso
        have : j = k := by omega
        subst this
        rw [e, hB] at hne
        exact hne rfl
  refine ⟨on_ok (drop_ok h.ok _) hd3.ok hS, hd3, ⟨cap, by rw [hlen]; exact hq.turn t (Ne.symm h.parts.mc) (fun e => h.parts.om (by rw [e])) (fun j hj => h.parts.gm _ (less_mem.1 ((hmem _).1 ⟨j, hj, rfl⟩)).1)⟩, by rw [hlen]; exact hh, ?_, ?_, by rw [hlen]; exact hmem, List.Pairwise.sublist List.filter_sublist h.rise, fun x hx => h.most x (less_mem.1 hx).1, h.parts.sub fun x hx => (less_mem.1 hx).1⟩
  · rw [hlen]
    refine hm.congr fun b hb => ?_
    by_cases e : b = ((V (A i)).b : Int)
    · subst e
      rw [updO_same]
      unfold adrOf lessG
      rw [List.find?_filter]
      symm
      rw [List.find?_eq_none]
      intro y hy
      by_cases e2 : ((V y).b : Int) = ((V (A i)).b : Int)
      · rw [e2]; simp
      · rw [beq_eq_false_iff_ne.2 e2]; simp
    · rw [updO_other _ _ e]
      unfold adrOf lessG
      rw [List.find?_filter]
      congr 1
      funext y
      by_cases e2 : ((V y).b : Int) = b
      · rw [e2]
        have : (b != ((V (A i)).b : Int)) = true := by rw [bne_iff_ne]; exact e
        rw [this]; simp
      · rw [beq_eq_false_iff_ne.2 e2]; simp
  · show dropB C.L _ = _
    rw [h.list, dropB_bufs]
/-- .. and came back -/
theorem Cache.back (h : Cache c d lo hi m o uses A V G C w) {k : Nat} (hk : G.length = k + 1) {gq gq2 cap2 : Nat} (ho : o = some gq) {B : Nat → Nat} {w2 w3 : World}
    (hq : QAt c (cellsC c d m C.most uses) gq2 cap2 (k + 1) B V w3) (hh : heapTo (kV V) B (k + 1)) (hs : sameTo A B (k + 1)) (hd : DevAt d lo hi C.st w3)
    (hm : MapAt m (k + 1) (adrOf V G) w3) (hfar : gq = gq2 ∨ w2.heap.size ≤ gq2) (hsz : w.heap.size ≤ w2.heap.size) : Cache c d lo hi m (some gq2) uses B V G C w3 := by
  subst ho
  refine ⟨h.ok, hd, ⟨cap2, by rw [hk]; exact hq⟩, by rw [hk]; exact hh, by rw [hk]; exact hm, h.list, fun x => ?_, h.rise, h.most, ?_⟩
  · rw [← h.mem x, hk]
    constructor
    · rintro ⟨i, hi, rfl⟩
      obtain ⟨j, hj, e⟩ := same_mem hs hi
      exact ⟨j, hj, e.symm⟩
    · rintro ⟨i, hi, rfl⟩
      obtain ⟨j, hj, e⟩ := same_mem (same_symm hs) hi
      exact ⟨j, hj, e.symm⟩
  · rcases hfar with rfl | hf
    · exact h.parts
    · have hml := h.mp.lt
      have htop := h.dev.top
      exact ⟨h.parts.mc, (fun e => by injection e with e; omega), h.parts.gm, h.parts.zc, h.parts.zm, (fun k e => by injection e with e; omega), h.parts.zg⟩
end
theorem room_eq {C : CS} {r : Rec} (h : freeB C.L = some (bufOf r)) (hl : ¬ C.L.length < C.most) : (cleanCode C.st r = 0 → roomC C = (0, ⟨cleanSt C.st r, C.most, dropB C.L r.b⟩)) ∧ (cleanCode C.st r ≠ 0 → roomC C = (cleanCode C.st r, C) ∧ cleanSt C.st r = C.st ∧ cleanRec C.st r = r) := by
  unfold roomC cleanCode cleanSt cleanRec
  rw [if_neg hl, h]
  by_cases hd : r.dirty = true
  · have hd2 : (bufOf r).dirty = true := hd
    rw [if_pos hd, if_pos hd, if_pos hd]
    refine ⟨fun h0 => ?_, fun h0 => ⟨?_, wSt_same h0, ?_⟩⟩
    · show (if (bufOf r).dirty = true then _ else _) = _
      rw [if_pos hd2]
      exact if_pos h0
    · show (if (bufOf r).dirty = true then _ else _) = _
      rw [if_pos hd2]
      exact if_neg h0
    · have : (wCode C.st r.b r.data.size != 0) = true := by rw [bne_iff_ne]; exact h0
      rw [this, ← hd]
  · rw [if_neg hd, if_neg hd, if_neg hd]
    refine ⟨fun _ => ?_, fun h0 => absurd rfl h0⟩
    show (if (bufOf r).dirty = true then _ else _) = _
    exact if_neg hd
theorem cleanSt_n (S : St) (r : Rec) : (cleanSt S r).n = S.n := by
  unfold cleanSt
  split
  · exact wSt_n _ _ _
  · rfl
/-- what making room leaves -/
def RoomRet (c d lo hi m uses : Nat) (o : Option Nat) (G : List Nat) (C : CS) (w : World) (e : Ending) (w' : World) : Prop :=
  ∃ o' A' V' G', e = .returned (.int .i64 (roomC C).1) ∧ Cache c d lo hi m o' uses A' V' G' (roomC C).2 w' ∧ Went lo hi (MSet c m o G) (MSet c m o' G') w w'
set_option maxRecDepth 100000 in
set_option maxHeartbeats 8000000 in
theorem room_any {c d lo hi m uses : Nat} {o : Option Nat} {A : Nat → Nat} {V : Nat → Rec} {G : List Nat} {C : CS} (ha : C.st.acts ≤ 1000000) (w : World) (h : Cache c d lo hi m o uses A V G C w) :
    Calls Tryz.prog 62 #[cV c] w (RoomRet c d lo hi m uses o G C w) := by
  have mixed : Tryz.prog.follows .mixedOrders = true := by kernel_rfl
  obtain ⟨q0, hblk⟩ := h.blk
  have hok := h.ok
  have hl := hok.len
  rw [h.len] at hl
  have hi256 := hok.hi
  have hlo := hok.lo
  have d4 : ∀ q, (w.drewN q).cell? ⟨c, 4, none⟩ = some (.int .i64 (C.most : Int)) := fun _ => hblk.cell 4
  have d5 : ∀ q, (w.drewN q).cell? ⟨c, 5, none⟩ = some (.map (some m)) := fun _ => hblk.cell 5
  have dl : ∀ q ty, (Builtin.len_ #[64] ty #[.map (some m)]).run Tryz.prog (w.drewN q) = .ok (.int .i64 (G.length : Int)) (w.drewN q) := fun q ty => (h.mp.turn (Turn.of_below (below_drewN (Below.refl _ _) q) fun _ => False) (fun h => h)).len ty
  by_cases hfull : G.length < C.most
  · have HE : Hid (∀ w', Below w.heap.size w w' → RoomRet c d lo hi m uses o G C w (.returned (.int .i64 0)) w') := Lib.hid (fun w' b => by
      have e : roomC C = (0, C) := by unfold roomC; rw [if_pos (by rw [h.len]; exact hfull)]
      refine ⟨o, A, V, G, by rw [e], by rw [e]; exact h.kept1 b, Went.below b⟩)
    clear h hblk
    go_enter Tryz.func62, Tryz.ntmps62
    go_wp2
    go_quiet (fail)
    go_wp2
    go_ret
    exact HE.out _ (below_drewN (Below.refl _ _) _)
  · have hle : C.most ≤ G.length := by omega
    obtain ⟨k, hk⟩ : ∃ k, G.length = k + 1 := ⟨G.length - 1, by omega⟩
    have hg0 : A 0 ∈ G := (h.mem _).1 ⟨0, by omega, rfl⟩
    obtain ⟨gq, cap, ho, hq⟩ := h.queue hg0
    have H := Lib.hid h
    have hb0 := hq.item 0 (by omega)
    obtain ⟨z0, z1, z2, z3, z4, z5⟩ := rec_cells hb0
    have s6 : ∀ q, (w.drewN q).cell? ⟨c, 6, none⟩ = some (.slice (some ⟨gq, 0, none⟩) G.length cap) := fun _ => hq.var
    have r0 : ∀ q, (w.drewN q).cell? ⟨gq, 0, none⟩ = some (ptrV (A 0)) := fun _ => hq.at (by omega)
    have p3 : ∀ q, (w.drewN q).cell? ⟨A 0, 3, none⟩ = some (.bool (V (A 0)).pin) := fun _ => z3
    have hn0 : (0 : Int) < (G.length : Int) := by omega
    have hqle := hq.le
    have hqhi := hq.hi
    clear z0 z1 z2 z3 z4 z5
    cases hp : (V (A 0)).pin with
    | true =>
      rw [hp] at p3
      have HE : Hid (∀ w', Below w.heap.size w w' → RoomRet c d lo hi m uses o G C w (.returned (.int .i64 70)) w') := Lib.hid (fun w' b => by
        have e : roomC C = (70, C) := by unfold roomC; rw [if_neg (by rw [h.len]; omega), h.all_pinned (by omega) hp]
        refine ⟨o, A, V, G, by rw [e], by rw [e]; exact h.kept1 b, Went.below b⟩)
      clear h hblk hq hb0 H
      unfold ptrV at *
      generalize A 0 = g at *
      go_enter Tryz.func62, Tryz.ntmps62
      go_wp2
      go_quiet (fail)
      go_wp2
      go_ret
      exact HE.out _ (below_drewN (Below.refl _ _) _)
    | false =>
      rw [hp] at p3
      have ta := assert_buf
      have hfree := h.first_free (by omega) hp
      have HP := Lib.hid fun w1 (h1 : QAt c (cellsC c d m C.most uses) gq cap (k + 1) A V w1) => pop_any (c := c) (K := cellsC c d m C.most uses) (gq := gq) (cap := cap) (A := A) (V := V) k w1 h1 (by rw [← hk]; exact h.heap)
      have HQ := Lib.hid hq
      clear h hblk hq hb0
      have HFR := Lib.hid hfree
      clear hfree
      generalize hgA : A 0 = g at *
      have HG := Lib.hid hgA
      have HK := Lib.hid hk
      clear hgA hk
      unfold ptrV at r0
      go_enter Tryz.func62, Tryz.ntmps62
      go_wp2
      go_quiet (fail)
      have bd : Below w.heap.size w (w.drewN nq) := below_drewN (Below.refl _ _) _
      have hkq : QAt c (cellsC c d m C.most uses) gq cap (k + 1) A V (w.drewN nq) := by rw [← HK.out]; exact HQ.out.kept1 bd
      have P1 : Hid (Calls Tryz.prog 75 #[hV c] (w.drewN nq) fun e w1 => ∃ B, e = .returned (.iface 80 (.pointer (some ⟨g, 0, none⟩))) ∧ QAt c (cellsC c d m C.most uses) gq cap k B V w1 ∧ heapTo (kV V) B k ∧ sameTo A B (k + 1) ∧ B k = g ∧ Blk g (recCells (V g) k) 91 w1 ∧ Turn (fun j => j = c ∨ j = gq ∨ j ∈ G) w w1) := Lib.hid (by
        have hk := HK.out
        refine (HP.out _ hkq).mono ?_
        rintro e w1 ⟨B, rfl, p1, p2, p3, p4, p5, p6⟩
        rw [HG.out] at p4 p5 ⊢
        refine ⟨B, rfl, p1, p2, p3, p4, p5, ?_⟩
        refine (Turn.of_below bd (fun j => j = c ∨ j = gq ∨ j ∈ G)).then p6 fun j _ hj => ?_
        rcases hj with e | e | ⟨i, hi, e⟩
        · exact .inl e
        · exact .inr (.inl e)
        · exact .inr (.inr ((H.out.mem j).1 ⟨i, by omega, e.symm⟩)))
      clear bd HP dl d4 d5 hkq
      go_wp2_with fail
      refine P1.out.mono ?_; rintro e w1 ⟨B, rfl, q1, hh1, hs1, hB1, bg1, t1⟩
      clear s6 r0 p3 P1
      have hk := HK.out
      have hgz := H.out.parts.zg g hg0
      have hcz : ∀ j, (j = c ∨ j = gq ∨ j ∈ G) → ¬ (lo ≤ j ∧ j < hi) := fun j hj => by
        rcases hj with e | e | e
        · rw [e]; exact H.out.parts.zc
        · exact H.out.parts.zo j (by rw [ho, e])
        · exact H.out.parts.zg j e
      have hcm : ¬ (m = c ∨ m = gq ∨ m ∈ G) := by
        rintro (e | e | e)
        · exact H.out.parts.mc e
        · exact H.out.parts.om (by rw [ho, e])
        · exact H.out.parts.gm m e rfl
      have hown : ∀ j, (j = c ∨ j = gq ∨ j ∈ G) → MSet c m o G j := fun j hj => by
        rcases hj with e | e | e
        · exact .inl e
        · exact .inr (.inr (.inl (by rw [ho, e])))
        · exact .inr (.inr (.inr e))
      have hd1 := dev_turn H.out.dev t1 hcz
      have K := Lib.hid (clean_raw (r := V g) (p := k) ha w1 q1.blk hd1 bg1 hgz)
      obtain ⟨rq1, rq2⟩ := room_eq HFR.out (by rw [H.out.len]; omega)
      have hinj : ∀ i, i < k → B i ≠ g := fun i hi e => by
        have hi2 := same_inj hs1 (fun a b ha hb e => HQ.out.inj a b (by omega) (by omega) e) i k (by omega) (by omega) (by rw [e, hB1])
        omega
      have hgc : g ≠ c ∧ g ≠ gq := by have := HQ.out.ca 0 (by omega); rwa [HG.out] at this
      have hgu : (V g).used < 2305843009213693952 := H.out.small hg0
      have hun : adrOf V G (V g).b = some g := adr_mem H.out.un hg0
      have hgb : (V g).b < C.st.n := H.out.ok.blk (bufOf (V g)) (by rw [H.out.list]; exact List.mem_map_of_mem (f := (fun g => bufOf (V g))) hg0)
      have hn4 := H.out.ok.st.hi
      have hbI : I64 ((V g).b : Int) := ⟨by omega, by omega⟩
      by_cases hcode : cleanCode C.st (V g) = 0
      · have hK : Hid (Calls Tryz.prog 69 #[cV c, .pointer (some ⟨g, 0, none⟩)] w1 fun e w2 => e = .returned (.int .i64 0) ∧ QAt c (cellsC c d m C.most uses) gq cap k B V w2 ∧ DevAt d lo hi (cleanSt C.st (V g)) w2 ∧ (∃ r : Rec, r.b = (V g).b ∧ Blk g (recCells r k) 91 w2) ∧ MapAt m G.length (adrOf V G) w2 ∧ Turn (Own lo hi (MSet c m o G)) w w2) := Lib.hid (by
          refine K.out.mono ?_
          rintro e w2 ⟨rfl, hd2, bg2, t2⟩
          rw [hcode]
          refine ⟨rfl, q1.turn t2 (fun hm => hm.elim (fun e => hgc.1 e.symm) H.out.parts.zc) (fun hm => hm.elim (fun e => hgc.2 e.symm) (H.out.parts.zo _ ho)) (fun i hi hm => hm.elim (hinj i hi) ?_), hd2, ⟨_, ?_, bg2⟩, ?_, ?_⟩
          · obtain ⟨j, hj, e⟩ := same_mem hs1 (k := i) (by omega)
            rw [e]
            exact H.out.parts.zg _ ((H.out.mem _).1 ⟨j, by omega, rfl⟩)
          · unfold cleanRec; split <;> rfl
          · exact (H.out.mp.turn t1 hcm).turn t2 (fun hm => hm.elim (fun e => H.out.parts.gm g hg0 e.symm) H.out.parts.zm)
          · refine (t1.mono (N := Own lo hi (MSet c m o G)) fun j _ hj => .inl (hown j hj)).then t2 fun j _ hm => hm.elim (fun e => .inl (.inr (.inr (.inr (by rw [e]; exact hg0))))) .inr)
        have HR : Hid (∀ w2 w3, QAt c (cellsC c d m C.most uses) gq cap k B V w2 → DevAt d lo hi (cleanSt C.st (V g)) w2 → Turn (Own lo hi (MSet c m o G)) w w2 → MapAt m k (updO (adrOf V G) (V g).b none) w3 → Turn (fun j => j = m) w2 w3 → RoomRet c d lo hi m uses o G C w (.returned (.int .i64 0)) w3) := Lib.hid (by
          intro w2 w3 k1 k2 k3 k4 k5
          have hcg := H.out.gone hk (i := 0) (by omega) ho HQ.out k1 hh1 hs1 (by rw [hB1, HG.out]) k2 (cleanSt_n _ _) (by rw [HG.out]; exact k4) k5
          rw [HG.out] at hcg
          rw [← ho] at hcg
          refine ⟨o, B, V, lessG V G (V g).b, by rw [rq1 hcode], by rw [rq1 hcode]; exact hcg, k3.then k5 fun j _ hj => .inl (.inr (.inl hj)), fun j hj => .inl ?_⟩
          rcases hj with e | e | e | e
          · exact .inl e
          · exact .inr (.inl e)
          · exact .inr (.inr (.inl e))
          · exact .inr (.inr (.inr (less_mem.1 e).1)))
        have HKK : Hid (k = if (adrOf V G (V g).b).isSome then G.length - 1 else G.length) := Lib.hid (by rw [hun]; show k = G.length - 1; omega)
        clear K rq1 rq2 q1 hh1 hs1 hB1 bg1 t1 hd1 hinj hcode hcz hcm hown hun hk HQ HFR
        go_wp2_with fail
        refine hK.out.mono ?_; rintro e w2 ⟨rfl, q2, hd2, ⟨r, hrb, bg2⟩, hm2, t2⟩
        have c5 : w2.cell? ⟨c, 5, none⟩ = some (.map (some m)) := q2.blk.cell 5
        have g0 : w2.cell? ⟨g, 0, none⟩ = some (.int .i64 ((V g).b : Int)) := by rw [← hrb]; exact bg2.cell 0
        have bd := (Below.refl w2.heap.size w2).drew
        have HX : Hid (QAt c (cellsC c d m C.most uses) gq cap k B V w2.drew ∧ DevAt d lo hi (cleanSt C.st (V g)) w2.drew ∧ Turn (Own lo hi (MSet c m o G)) w w2.drew) := Lib.hid ⟨q2.kept1 bd, hd2.kept1 bd, t2.drew⟩
        have hm3 := hm2.turn (Turn.of_below bd fun _ => False) (fun h => h)
        clear hK q2 hd2 bg2 hm2 t2 bd hrb
        go_wp2
        go_still_tail 8, (by kernel_rfl)
        change wpList _ _ _ _ _ w2.drew
        generalize w2.drew = w3 at *
        clear c5 g0
        go_wp2_with (at_delete; refine wpList_mapDel rfl _ _ rfl hm3 ((V g).b : Int) hbI rfl rfl k HKK ?_)
        intro w4 hm4 t4
        have HR4 := Lib.hid (HR.out w3 w4 HX.out.1 HX.out.2.1 HX.out.2.2 hm4 t4)
        clear HR HX hm3 hm4 t4
        go_wp2
        go_ret
        exact HR4.out
      · obtain ⟨rq3, rq4, rq5⟩ := rq2 hcode
        have hK : Hid (Calls Tryz.prog 69 #[cV c, .pointer (some ⟨g, 0, none⟩)] w1 fun e w2 => e = .returned (.int .i64 (cleanCode C.st (V g))) ∧ QAt c (cellsC c d m C.most uses) gq cap k B V w2 ∧ DevAt d lo hi C.st w2 ∧ Blk g (recCells (V g) k) 91 w2 ∧ MapAt m (k + 1) (adrOf V G) w2 ∧ Turn (Own lo hi (MSet c m o G)) w w2) := Lib.hid (by
          refine K.out.mono ?_
          rintro e w2 ⟨rfl, hd2, bg2, t2⟩
          rw [rq4] at hd2
          rw [rq5] at bg2
          refine ⟨rfl, q1.turn t2 (fun hm => hm.elim (fun e => hgc.1 e.symm) H.out.parts.zc) (fun hm => hm.elim (fun e => hgc.2 e.symm) (H.out.parts.zo _ ho)) (fun i hi hm => hm.elim (hinj i hi) ?_), hd2, bg2, ?_, ?_⟩
          · obtain ⟨j, hj, e⟩ := same_mem hs1 (k := i) (by omega)
            rw [e]
            exact H.out.parts.zg _ ((H.out.mem _).1 ⟨j, by omega, rfl⟩)
          · rw [← hk]
            exact (H.out.mp.turn t1 hcm).turn t2 (fun hm => hm.elim (fun e => H.out.parts.gm g hg0 e.symm) H.out.parts.zm)
          · refine (t1.mono (N := Own lo hi (MSet c m o G)) fun j _ hj => .inl (hown j hj)).then t2 fun j _ hm => hm.elim (fun e => .inl (.inr (.inr (.inr (by rw [e]; exact hg0))))) .inr)
        have HPB : Hid (∀ w2, QAt c (cellsC c d m C.most uses) gq cap k B V w2 → DevAt d lo hi C.st w2 → Blk g (recCells (V g) k) 91 w2 → MapAt m (k + 1) (adrOf V G) w2 → Turn (Own lo hi (MSet c m o G)) w w2 →
            Calls Tryz.prog 76 #[hV c, .iface 80 (.pointer (some ⟨g, 0, none⟩))] w2 fun e w3 => e = .returned (.tuple #[]) ∧ RoomRet c d lo hi m uses o G C w (.returned (.int .i64 (cleanCode C.st (V g)))) w3) := Lib.hid (by
          intro w2 k1 k2 k3 k4 k5
          refine (push_any (o := some gq) (A := B) (V := V) (by omega) w2 ⟨cap, k1⟩ hh1 k3 hgc.1 (fun e => by injection e with e; exact hgc.2 e.symm) hinj hgu).mono ?_
          rintro e w3 ⟨gq2, cap2, D, rfl, p1, p2, p3, p4, p5⟩
          refine ⟨rfl, ?_⟩
          have hBg : upd B k g = B := funext fun j => by
            by_cases e : j = k
            · subst e; rw [upd_same, hB1]
            · rw [upd_other _ e]
          rw [hBg] at p3
          have hno : ∀ j, (j = c ∨ j = g ∨ some gq = some j ∨ ∃ i, i < k ∧ j = B i) → (j = c ∨ j = gq ∨ j ∈ G) := fun j hj => by
            rcases hj with e | e | e | ⟨i, hi, e⟩
            · exact .inl e
            · exact .inr (.inr (by rw [e]; exact hg0))
            · injection e with e; exact .inr (.inl e.symm)
            · obtain ⟨l, hl, e2⟩ := same_mem hs1 (k := i) (by omega)
              exact .inr (.inr ((H.out.mem j).1 ⟨l, by omega, by rw [e, e2]⟩))
          have hd3 := dev_turn k2 p4 fun j hj => hcz j (hno j hj)
          have hm3 := k4.turn p4 fun hj => hcm (hno m hj)
          have hfar : gq = gq2 ∨ w2.heap.size ≤ gq2 := p5.imp (fun e => by injection e) id
          have hbk := H.out.back hk ho p1 p2 (same_trans hs1 p3) hd3 hm3 hfar k5.size
          refine ⟨some gq2, D, V, G, by rw [rq3], by rw [rq3]; exact hbk, k5.then p4 fun j _ hj => .inl (hown j (hno j hj)), fun j hj => ?_⟩
          rcases hj with e | e | e | e
          · exact .inl (.inl e)
          · exact .inl (.inr (.inl e))
          · injection e with e
            rcases hfar with e2 | e2
            · exact .inl (.inr (.inr (.inl (by rw [ho, e2, e]))))
            · exact .inr (by have := k5.size; omega)
          · exact .inl (.inr (.inr (.inr e))))
        clear K rq1 rq2 rq3 rq4 rq5 q1 hh1 hs1 hB1 bg1 t1 hd1 hinj hcz hcm hown hun hk HQ HFR
        generalize cleanCode C.st (V g) = code at *
        go_wp2_with fail
        refine hK.out.mono ?_; rintro e w2 ⟨rfl, q2, hd2, bg2, hm2, t2⟩
        have P2 := Lib.hid (HPB.out w2 q2 hd2 bg2 hm2 t2)
        clear hK HPB q2 hd2 bg2 hm2 t2
        go_wp2_with fail
        refine P2.out.mono ?_; rintro e w3 ⟨rfl, hR⟩
        have HR := Lib.hid hR
        clear P2 hR
        go_wp2
        go_ret
        exact HR.out
end Go.Proofs.YtehjobjjlldckaaGreat
