/- The queue's own Push and Pop. -/
import Derived.Test.YtehjobjjlldckaaGreatCHeap2
import Derived.Test.YtehjobjjlldckaaGreatPush
namespace Go.Proofs.YtehjobjjlldckaaGreat
set_option linter.unusedVariables false
open Go.RowKit

theorem ptr_info : (Tryz.prog.info? 80).map (fun i => (i.zero, i.size, i.bytes)) = some (some (.pointer none), 1, 8) := by kernel_rfl
theorem assert_buf (v : Value) (w : World) : (Instr.typeAssert (.iface 80 v) 20 80 false).run Tryz.prog w = .ok v w := by
  simp [Instr.typeAssert, run_underlying Tryz.underlying80]
set_option maxHeartbeats 1000000 in
theorem qpop_any {c : Nat} {K : Value → Array Value} {gq cap : Nat} {A : Nat → Nat} {V : Nat → Rec} (k : Nat) (w : World) (h : QAt c K gq cap (k + 1) A V w) :
    Calls Tryz.prog 120 #[.pointer (some ⟨c, 6, none⟩)] w fun e w' => e = .returned (.iface 80 (ptrV (A k))) ∧ QAt c K gq cap k A V w' ∧ Blk (A k) (recCells (V (A k)) k) 91 w' ∧ Turn (fun j => j = c ∨ j = gq) w w' := by
  obtain ⟨cur, bq, hs, hq⟩ := h.row
  have hk := hq k (Nat.lt_succ_self k)
  have sm := h.small
  have hle := h.le
  have hcap := h.hi
  have hcq := h.cq
  have v0 := h.var
  have vf := h.blk.frozen 6
  have r0 := (bq.cell k).trans hk
  have rf := bq.frozen k
  have v1 : (w.setCell ⟨gq, k, none⟩ (.pointer none)).cell? ⟨c, 6, none⟩ = some (.slice (some ⟨gq, 0, none⟩) (k + 1) cap) := ((h.blk.other (p := ⟨gq, k, none⟩) (Ne.symm hcq) _).cell 6).trans (h.hole.at' _)
  have HE : Hid (∀ w2, w2 = (w.setCell ⟨gq, k, none⟩ (.pointer none)).setCell ⟨c, 6, none⟩ (.slice (some ⟨gq, 0, none⟩) k cap) → QAt c K gq cap k A V w2 ∧ Blk (A k) (recCells (V (A k)) k) 91 w2 ∧ Turn (fun j => j = c ∨ j = gq) w w2) := Lib.hid (by
    rintro w2 rfl
    have hA : ∀ i, i < k + 1 → Blk (A i) (recCells (V (A i)) i) 91 ((w.setCell ⟨gq, k, none⟩ (.pointer none)).setCell ⟨c, 6, none⟩ (.slice (some ⟨gq, 0, none⟩) k cap)) := fun i hi => ((h.item i hi).other (p := ⟨gq, k, none⟩) (Ne.symm (h.ca i hi).2) _).other (p := ⟨c, 6, none⟩) (Ne.symm (h.ca i hi).1) _
    refine ⟨⟨?_, h.hole, ⟨_, (bq.set k _).other (p := ⟨c, 6, none⟩) hcq _, by simp [hs], fun j hj => ?_⟩, by omega, h.hi, by omega, fun i hi => hA i (by omega), fun i j hi hj => h.inj i j (by omega) (by omega), h.cq, fun i hi => h.ca i (by omega), fun i hi => h.used i (by omega)⟩, hA k (Nat.lt_succ_self k), ?_⟩
    · have := (h.blk.other (p := ⟨gq, k, none⟩) (Ne.symm hcq) (.pointer none)).set 6 (.slice (some ⟨gq, 0, none⟩) k cap)
      rwa [h.hole.set] at this
    · rw [Array.getElem?_setIfInBounds_ne (by omega)]; exact hq j (by omega)
    · exact ((Turn.refl (fun j => j = c ∨ j = gq) w).set (p := ⟨gq, k, none⟩) (.inr rfl) _).set (p := ⟨c, 6, none⟩) (.inl rfl) _)
  clear h bq hs hq hk
  unfold ptrV at *
  generalize A k = g at *
  go_enter Tryz.func120, Tryz.ntmps120
  go_wp2
  go_ret
  exact ⟨rfl, HE.out _ rfl⟩
set_option maxHeartbeats 1000000 in
theorem qpush_raw (c : Nat) (K : Value → Array Value) (v : Value) (n : Nat) (xs : List Value) (g p : Nat) (r : Rec) (hn : n ≤ 256) (w : World) (hown : w.ownsRow 0 80 1 v n xs) (hb : Blk c (K v) 68 w) (hK : Hole K)
    (hg : Blk g (recCells r p) 91 w) (hgc : g ≠ c) (hcv : ∀ k, v.ownBlock = some k → k ≠ c ∧ k ≠ g) :
    Calls Tryz.prog 121 #[.pointer (some ⟨c, 6, none⟩), .iface 80 (ptrV g)] w fun e w' => e = .returned (.tuple #[]) ∧ ∃ v', w'.ownsRow 0 80 1 v' (n + 1) (xs ++ [ptrV g]) ∧
      Blk c (K v') 68 w' ∧ Blk g (recCells r n) 91 w' ∧ Stays v v' w.heap.size ∧ Turn (fun j => j = c ∨ j = g ∨ v.ownBlock = some j) w w' := by
  have ta := assert_buf
  obtain ⟨ad, cap, rfl, h1, h2, -⟩ := shape_of hown
  have h2 : cap ≤ 9223372036854775807 := h2
  have v0 : w.cell? ⟨c, 6, none⟩ = some (.slice ad n cap) := (hb.cell 6).trans (hK.at' _)
  have g5 : w.cell? ⟨g, 5, none⟩ = some (.int .i64 (p : Int)) := hg.cell 5
  have gf := hg.frozen 5
  obtain ⟨w1, hw1⟩ : ∃ w1, w1 = w.setCell ⟨g, 5, none⟩ (.int .i64 (n : Int)) := ⟨_, rfl⟩
  have hb1 : Blk c (K (.slice ad n cap)) 68 w1 := by rw [hw1]; exact hb.other (p := ⟨g, 5, none⟩) hgc _
  have hg1 : Blk g (recCells r n) 91 w1 := by rw [hw1]; exact hg.set 5 _
  have ho1 : w1.ownsRow 0 80 1 (.slice ad n cap) n xs := by
    rw [hw1]
    refine hown.kept (row := some g) ⟨rfl, rfl, rfl, by simp [World.setCell], fun k hk hne => Below.heap_setCell _ _ _ _ fun e => hne (by rw [e])⟩ ?_
    cases hv : (Value.slice ad n cap).ownBlock with
    | none => exact .inl rfl
    | some k => exact .inr fun e => (hcv k hv).2 (by injection e)
  have t1 : Turn (fun j => j = c ∨ j = g ∨ (Value.slice ad n cap).ownBlock = some j) w w1 := by rw [hw1]; exact (Turn.refl (fun j => j = c ∨ j = g ∨ (Value.slice ad n cap).ownBlock = some j) w).set (p := ⟨g, 5, none⟩) (.inr (.inl rfl)) _
  have s1 : w1.heap.size = w.heap.size := by rw [hw1]; exact size_set _ _ _
  have v1 : w1.cell? ⟨c, 6, none⟩ = some (.slice ad n cap) := (hb1.cell 6).trans (hK.at' _)
  have HX := Lib.hid (And.intro hb1 (And.intro hg1 (And.intro t1 (And.intro s1 ho1))))
  have hoa := ho1.alloc (.cells #[ptrV g] 80)
  have hs0 : (0 : Nat) ≤ (w1.alloc (.cells #[ptrV g] 80)).heap.size := Nat.zero_le _
  have HV := Lib.hid hcv
  clear hb1 hg1 t1 s1 hown hb hg ho1 hcv
  subst hw1
  obtain ⟨B, HB⟩ : ∃ B, Hid (((w.setCell ⟨g, 5, none⟩ (.int .i64 (n : Int))).alloc (.cells #[ptrV g] 80)).heap.size = B) := ⟨_, rfl⟩
  unfold ptrV at *
  go_enter Tryz.func121, Tryz.ntmps121
  go_wp2_with (at_builtin; refine wpList_push rfl _ _ 66 80 rfl 0 (.pointer none) 8 Tryz.underlying66 ptr_info rfl (by decide) _ _ _ rfl (by omega) hoa (w.setCell ⟨g, 5, none⟩ (.int .i64 (n : Int))) (.pointer (some ⟨g, 0, none⟩)) rfl w.heap.size (Lib.hid (size_set _ _ _)) rfl rfl hs0 B HB ?_)
  intro v' x1 k1 k2 k3
  obtain ⟨ad1, cap1, hv1, -, -, -⟩ := shape_of k1
  subst hv1
  obtain ⟨hb1, hg1, t1, s1, ho1⟩ := HX.out
  generalize w.setCell ⟨g, 5, none⟩ (.int .i64 (n : Int)) = w1 at *
  have hba := hb1.kept1 (balloc1 w1 (.cells #[.pointer (some ⟨g, 0, none⟩)] 80))
  have hga := hg1.kept1 (balloc1 w1 (.cells #[.pointer (some ⟨g, 0, none⟩)] 80))
  have ta := t1.alloc (.cells #[.pointer (some ⟨g, 0, none⟩)] 80)
  have kb : Blk c (K (.slice ad n cap)) 68 x1 := (k2.block c hba.lt fun e => (HV.out c e.symm).1 rfl).trans hba
  have kg : Blk g (recCells r n) 91 x1 := (k2.block g hga.lt fun e => (HV.out g e.symm).2 rfl).trans hga
  have tx : Turn (fun j => j = c ∨ j = g ∨ (Value.slice ad n cap).ownBlock = some j) w x1 := ta.trans ⟨k2.os, k2.tape, k2.output, k2.size, fun k hk hn => k2.block k hk fun e => hn (.inr (.inr e.symm))⟩
  have hlc : c < w1.heap.size := hb1.lt
  have hlg : g < w1.heap.size := hg1.lt
  have x6 : x1.cell? ⟨c, 6, none⟩ = some (.slice ad n cap) := (kb.cell 6).trans (hK.at' _)
  have xf := kb.frozen 6
  have hv' : ∀ k, (Value.slice ad1 (n + 1) cap1).ownBlock = some k → k ≠ c := fun k hk => by
    rcases k3 with k3 | k3
    · exact (HV.out k (k3.symm.trans hk)).1
    · have h := k3 k hk
      have hB := HB.out
      rw [size_alloc] at hB
      omega
  have HZ : Hid ((x1.setCell ⟨c, 6, none⟩ (.slice ad1 (n + 1) cap1)).ownsRow 0 80 1 (.slice ad1 (n + 1) cap1) (n + 1) (xs ++ [.pointer (some ⟨g, 0, none⟩)]) ∧
      Blk c (K (.slice ad1 (n + 1) cap1)) 68 (x1.setCell ⟨c, 6, none⟩ (.slice ad1 (n + 1) cap1)) ∧ Blk g (recCells r n) 91 (x1.setCell ⟨c, 6, none⟩ (.slice ad1 (n + 1) cap1)) ∧
      Stays (.slice ad n cap) (.slice ad1 (n + 1) cap1) w.heap.size ∧ Turn (fun j => j = c ∨ j = g ∨ (Value.slice ad n cap).ownBlock = some j) w (x1.setCell ⟨c, 6, none⟩ (.slice ad1 (n + 1) cap1))) := Lib.hid (by
    refine ⟨?_, ?_, kg.other (p := ⟨c, 6, none⟩) (Ne.symm hgc) _, ?_, tx.set (p := ⟨c, 6, none⟩) (.inl rfl) _⟩
    · refine k1.kept (row := some c) ⟨rfl, rfl, rfl, by simp [World.setCell], fun k hk hne => Below.heap_setCell _ _ _ _ fun e => hne (by rw [e])⟩ ?_
      cases hv : (Value.slice ad1 (n + 1) cap1).ownBlock with
      | none => exact .inl rfl
      | some k => exact .inr fun e => hv' k hv (by injection e)
    · have := kb.set 6 (.slice ad1 (n + 1) cap1)
      rwa [hK.set] at this
    · rcases k3 with k3 | k3
      · exact .inl k3
      · refine .inr fun k hk => ?_
        have h := k3 k hk
        have hB := HB.out
        rw [size_alloc] at hB
        omega)
  clear HX HB k1 k2 k3 hb1 hg1 t1 s1 ho1 hba hga ta kb kg tx hv' hoa HV
  go_wp2
  go_end0
  exact ⟨rfl, _, HZ.out⟩
end Go.Proofs.YtehjobjjlldckaaGreat
