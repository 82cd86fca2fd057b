/- The cache's find, use. -/
import Derived.Test.YtehjobjjlldckaaGreatCCache
namespace Go.Proofs.YtehjobjjlldckaaGreat
set_option linter.unusedVariables false
open Go.RowKit

theorem find_any {c d lo hi m uses : Nat} {o : Option Nat} {A : Nat → Nat} {V : Nat → Rec} {G : List Nat} {C : CS} (b : Int) (hb : I64 b) (w : World) (h : Cache c d lo hi m o uses A V G C w) :
    Calls Tryz.prog 55 #[cV c, .int .i64 b] w fun e w' => e = .returned (ptrO (adrOf V G b)) ∧ w = w' := by
  obtain ⟨q, hblk⟩ := h.blk
  have c0 : w.cell? ⟨c, 0, none⟩ = some (cV c) := hblk.cell 0
  have c5 : w.cell? ⟨c, 5, none⟩ = some (.map (some m)) := hblk.cell 5
  have L := h.mp.look hb
  have M := Lib.hid (cmissing_no c w c0)
  clear h hblk
  generalize adrOf V G b = x at *
  go_enter Tryz.func55, Tryz.ntmps55
  go_wp2_with fail
  refine M.out.mono ?_; rintro e w' ⟨rfl, rfl⟩
  go_wp2
  go_ret
  exact ⟨rfl, rfl⟩
/-- what a use leaves -/
def UseRet (c d lo hi m gq uses : Nat) (V : Nat → Rec) (G : List Nat) (g : Nat) (C : CS) (w : World) (e : Ending) (w' : World) : Prop :=
  ∃ A V', e = .returned (.tuple #[]) ∧ Cache c d lo hi m (some gq) (uses + 1) A V' (G ++ [g]) { C with L := C.L ++ [bufOf (V g)] } w' ∧ (V' g).data = (V g).data ∧ Turn (MSet c m (some gq) (g :: G)) w w'
theorem Hand.used {c d lo hi m gq cap cap2 uses : Nat} {A B : Nat → Nat} {V0 V : Nat → Rec} {G : List Nat} {g : Nat} {C : CS} {w w' : World} (h : Hand c d lo hi m gq cap uses A V0 V G g C w) (hz : (V g).data.size = 128)
    (hq : QAt c (cellsC c d m C.most (uses + 1)) gq cap2 (G.length + 1) B (upd V g { V g with used := uses + 1 }) w') (hh : heapTo (kV (upd V g { V g with used := uses + 1 })) B (G.length + 1)) (hs : sameTo A B (G.length + 1)) (t : Turn (fun k => k = c ∨ k = gq ∨ k ∈ g :: G) w w') :
    Cache c d lo hi m (some gq) (uses + 1) B (upd V g { V g with used := uses + 1 }) (G ++ [g]) { C with L := C.L ++ [bufOf (V g)] } w' := by
  have hne : ∀ x, x ∈ G → upd V g { V g with used := uses + 1 } x = V x := fun x hx => upd_other _ (fun (e : x = g) => h.gG (e ▸ hx)) _
  have hl : (G ++ [g]).length = G.length + 1 := by simp
  have hno : ∀ k, (k = c ∨ k = gq ∨ k ∈ g :: G) → ¬ (lo ≤ k ∧ k < hi) := by
    rintro k (rfl | rfl | hk)
    · exact h.parts.zc
    · exact h.parts.zo _ rfl
    · exact h.parts.zg _ hk
  have hL : C.L ++ [bufOf (V g)] = bufs (upd V g { V g with used := uses + 1 }) (G ++ [g]) := by
    unfold bufs
    rw [List.map_append, List.map_cons, List.map_nil, upd_same, h.list]
    congr 1
    exact (bufs_congr fun x hx => by rw [hne x hx])
  refine ⟨?_, dev_turn h.dev t hno, ⟨cap2, by rw [hl]; exact hq⟩, by rw [hl]; exact hh, ?_, hL, fun x => ?_, ?_, fun x hx => ?_, h.parts.sub fun x hx => ?_⟩
  · refine snoc_ok h.ok (by rw [h.list, bufs_length]; exact h.room) h.blt hz fun y hy => ?_
    rw [h.list] at hy
    obtain ⟨x, hx, rfl⟩ := List.mem_map.1 hy
    exact h.new x hx
  · rw [hl]
    refine (h.mp.turn t ?_).congr fun k hk => ?_
    · rintro (e | e | e)
      · exact h.parts.mc e
      · exact h.parts.om (by rw [e])
      · exact h.parts.gm _ e rfl
    · have e1 : adrOf (upd V g { V g with used := uses + 1 }) (G ++ [g]) = adrOf V (G ++ [g]) := funext fun b => adr_congr (fun x hx => by
        by_cases e : x = g
        · subst e; rw [upd_same]
        · rw [upd_other _ e]) b
      rw [e1]
      unfold adrOf
      rw [List.find?_append]
      by_cases e : k = ((V g).b : Int)
      · subst e
        rw [updO_same]
        have : (G.find? fun x => ((V x).b : Int) == ((V g).b : Int)) = none := List.find?_eq_none.2 fun x hx hb => h.new x hx (by have := beq_iff_eq.1 hb; omega)
        rw [this]; simp
      · rw [updO_other _ _ e]
        have : List.find? (fun x => ((V x).b : Int) == k) [g] = none := by
          rw [List.find?_cons, beq_eq_false_iff_ne.2 (Ne.symm e)]; rfl
        rw [this]; simp
  · rw [hl, List.mem_append, List.mem_singleton, ← h.mem x]
    constructor
    · rintro ⟨i, hi2, rfl⟩
      obtain ⟨j, hj, e⟩ := same_mem hs hi2
      exact ⟨j, hj, e.symm⟩
    · rintro ⟨i, hi2, rfl⟩
      obtain ⟨j, hj, e⟩ := same_mem (same_symm hs) hi2
      exact ⟨j, hj, e.symm⟩
  · rw [List.pairwise_append]
    refine ⟨?_, List.pairwise_singleton _ _, fun a ha b hb => ?_⟩
    · refine List.Pairwise.imp_of_mem ?_ h.rise
      intro a b ha hb hab
      rw [hne a ha, hne b hb]; exact hab
    · rw [List.mem_singleton] at hb
      subst hb
      rw [hne a ha, upd_same]
      have := h.most a ha
      show _ < uses + 1
      omega
  · rcases List.mem_append.1 hx with hx | hx
    · rw [hne x hx]; have := h.most x hx; omega
    · rw [List.mem_singleton] at hx
      subst hx
      rw [upd_same]; exact Nat.le_refl _
  · rcases List.mem_append.1 hx with hx | hx
    · exact List.mem_cons_of_mem _ hx
    · rw [List.mem_singleton] at hx
      subst hx; exact List.mem_cons_self ..
set_option maxRecDepth 100000 in
set_option maxHeartbeats 4000000 in
theorem use_any {c d lo hi m gq cap uses : Nat} {A : Nat → Nat} {V0 V : Nat → Rec} {G : List Nat} {g : Nat} {C : CS} (hu : uses ≤ 1000000000) (w : World) (h : Hand c d lo hi m gq cap uses A V0 V G g C w) (hz : (V g).data.size = 128) :
    Calls Tryz.prog 65 #[cV c, ptrV g] w (UseRet c d lo hi m gq uses V G g C w) := by
  obtain ⟨i, hin, hA⟩ := h.place
  have hq := h.q
  have hg : Blk g (recCells (V g) i) 91 w := by have := hq.item i hin; rwa [hA] at this
  have hgc : g ≠ c := by have := (hq.ca i hin).1; rwa [hA] at this
  have c7 : w.cell? ⟨c, 7, none⟩ = some (.int .i64 (uses : Int)) := hq.blk.cell 7
  have f7 := hq.blk.frozen 7
  have g4 : w.cell? ⟨g, 4, none⟩ = some (.int .i64 ((V g).used : Int)) := hg.cell 4
  have gf := hg.frozen 4
  have HE : Hid (∀ w2, w2 = (w.setCell ⟨c, 7, none⟩ (.int .i64 ((uses : Int) + 1))).setCell ⟨g, 4, none⟩ (.int .i64 ((uses : Int) + 1)) → QAt c (cellsC c d m C.most (uses + 1)) gq cap (G.length + 1) A (upd V g { V g with used := uses + 1 }) w2 ∧ Blk g (recCells { V g with used := uses + 1 } i) 91 w2 ∧ Turn (fun k => k = c ∨ k = gq ∨ k ∈ g :: G) w w2) := Lib.hid (by
    rintro w2 rfl
    have e : ((uses : Int) + 1) = ((uses + 1 : Nat) : Int) := by omega
    rw [e]
    have hq1 := hq.tick (u := uses + 1)
    have hg1 : Blk g (recCells (V g) i) 91 (w.setCell ⟨c, 7, none⟩ (.int .i64 ((uses + 1 : Nat) : Int))) := hg.other (p := ⟨c, 7, none⟩) (Ne.symm hgc) _
    have hg2 : Blk g (recCells { V g with used := uses + 1 } i) 91 ((w.setCell ⟨c, 7, none⟩ (.int .i64 ((uses + 1 : Nat) : Int))).setCell ⟨g, 4, none⟩ (.int .i64 ((uses + 1 : Nat) : Int))) := hg1.set 4 _
    have t2 := (Turn.refl (fun k => k = g) (w.setCell ⟨c, 7, none⟩ (.int .i64 ((uses + 1 : Nat) : Int)))).set (p := ⟨g, 4, none⟩) rfl (.int .i64 ((uses + 1 : Nat) : Int))
    refine ⟨?_, hg2, ((Turn.refl (fun k => k = c ∨ k = gq ∨ k ∈ g :: G) w).set (p := ⟨c, 7, none⟩) (.inl rfl) _).set (p := ⟨g, 4, none⟩) (.inr (.inr (List.mem_cons_self ..))) _⟩
    have := hq1.record (r := { V g with used := uses + 1 }) hin (by rw [hA]; exact hg2) (by rw [hA]; exact t2) (by show uses + 1 < _; omega)
    rwa [hA] at this)
  have hv : ∀ k, k < G.length + 1 → k ≠ i → kV V0 (A k) = kV (upd V g { V g with used := uses + 1 }) (A k) := fun k hk hne => by
    have hne2 : A k ≠ g := fun e => hne (hq.inj k i hk hin (e.trans hA.symm))
    rw [h.oth k hk hne2]; unfold kV; rw [upd_other _ hne2]
  have HF := Lib.hid fun w2 h2 => fix_any (c := c) (K := cellsC c d m C.most (uses + 1)) (gq := gq) (cap := cap) (n := G.length + 1) (A := A) (V0 := V0) (V := upd V g { V g with used := uses + 1 }) i hin w2 h2 h.heap hv
  have hi256 := hq.small
  have H := Lib.hid h
  have HZ := Lib.hid hz
  clear hq hg h hz hv hA
  unfold ptrV
  go_enter Tryz.func65, Tryz.ntmps65
  go_wp2
  obtain ⟨w2, hw2⟩ : ∃ w2, w2 = (w.setCell ⟨c, 7, none⟩ (.int .i64 ((uses : Int) + 1))).setCell ⟨g, 4, none⟩ (.int .i64 ((uses : Int) + 1)) := ⟨_, rfl⟩
  rw [← hw2]
  obtain ⟨q2, b2, t2⟩ := HE.out w2 hw2
  have g5 : w2.cell? ⟨g, 5, none⟩ = some (.int .i64 (i : Int)) := b2.cell 5
  have F1 := Lib.hid (HF.out w2.drew (q2.kept1 (Below.refl _ _).drew))
  have HT2 : Hid (Turn (fun k => k = c ∨ k = gq ∨ k ∈ g :: G) w w2.drew) := Lib.hid t2.drew
  clear q2 b2 t2 hw2 HE HF c7 f7 g4 gf
  go_still_tail 8, (by kernel_rfl)
  change wpList _ _ _ _ _ w2.drew
  generalize w2.drew = w3 at *
  clear g5
  go_wp2_with fail
  refine F1.out.mono ?_; rintro e w4 ⟨B, rfl, q4, hh4, hw4⟩
  have HR : Hid (UseRet c d lo hi m gq uses V G g C w (.returned (.tuple #[])) w4) := Lib.hid (by
    have ht : Turn (fun k => k = c ∨ k = gq ∨ k ∈ g :: G) w w4 := HT2.out.then hw4.turn fun k _ hk => by
      rcases hk with e | ⟨j, hj, e⟩
      · exact .inr (.inl e)
      · have := (H.out.mem k).1 ⟨j, hj, e.symm⟩
        exact .inr (.inr (this.elim (List.mem_cons_of_mem _) fun e => e ▸ List.mem_cons_self ..))
    refine ⟨B, _, rfl, H.out.used HZ.out q4 hh4 hw4.same ht, by rw [upd_same], ht.mono fun k _ hk => ?_⟩
    rcases hk with e | e | e
    · exact .inl e
    · exact .inr (.inr (.inl (by rw [e])))
    · exact .inr (.inr (.inr e)))
  clear F1 q4 hh4 hw4 HT2
  go_wp2
  go_end0
  exact HR.out
end Go.Proofs.YtehjobjjlldckaaGreat
