/- The document's Flush, Pending, Crash, Kept. -/
import Derived.Test.YtehjobjjlldckaaGreatDRef
import Derived.Test.YtehjobjjlldckaaGreatDCrash
import Derived.Test.YtehjobjjlldckaaGreatRowIn
namespace Go.Proofs.YtehjobjjlldckaaGreat
set_option linter.unusedVariables false
open Go.RowKit

/-- a flush, i blocks of it done -/
def part (S : St) (i : Nat) : St := { S.acted with was := fun j => if j < i then S.now j else S.was j, pend := fun j => if j < i then false else S.pend j }
theorem part_ok {S : St} (h : S.ok) (i : Nat) : (part S i).ok := by
  refine ⟨h.lo, h.hi, h.now, fun b hb => ?_, (acted_ok h).left, fun b hb hp => ?_⟩
  · show (if b < i then S.now b else S.was b).size = 128
    split
    · exact h.now b hb
    · exact h.was b hb
  · have hp : (if b < i then false else S.pend b) = false := hp
    show S.now b = if b < i then S.now b else S.was b
    split at hp
    · rename_i h1; rw [if_pos h1]
    · rename_i h1; rw [if_neg h1]; exact h.same b hb hp
def half (S : St) (i : Nat) : St := { part S i with was := upd (part S i).was i (S.now i) }
theorem half_ok {S : St} (h : S.ok) {i : Nat} (hi : i < S.n) : (half S i).ok := by
  have hp := part_ok h i
  refine ⟨h.lo, h.hi, h.now, fun b hb => ?_, (acted_ok h).left, fun b hb hq => ?_⟩
  · show (upd (part S i).was i (S.now i) b).size = 128
    by_cases e : b = i
    · subst e; rw [upd_same]; exact h.now b hb
    · rw [upd_other _ e]; exact hp.was b hb
  · show S.now b = upd (part S i).was i (S.now i) b
    by_cases e : b = i
    · subst e; rw [upd_same]
    · rw [upd_other _ e]; exact hp.same b hb hq
theorem part_step {S : St} (h : S.ok) {i : Nat} (hi : i < S.n) : St.ok { half S i with pend := upd (half S i).pend i false } ∧ (∀ b, upd (half S i).was i (S.now i) b = (half S i).was b) ∧ (∀ b, b < S.n → (half S i).was b = (part S (i + 1)).was b) ∧ (∀ b, b < S.n → upd (half S i).pend i false b = (part S (i + 1)).pend b) := by
  have h2 : ∀ b, b < S.n → (half S i).was b = (part S (i + 1)).was b := fun b hb => by
    show upd (part S i).was i (S.now i) b = if b < i + 1 then S.now b else S.was b
    by_cases e : b = i
    · subst e; rw [upd_same, if_pos (Nat.lt_succ_self b)]
    · rw [upd_other _ e]
      show (if b < i then S.now b else S.was b) = _
      by_cases e2 : b < i
      · rw [if_pos e2, if_pos (by omega)]
      · rw [if_neg e2, if_neg (by omega)]
  have h3 : ∀ b, b < S.n → upd (half S i).pend i false b = (part S (i + 1)).pend b := fun b hb => by
    show upd (part S i).pend i false b = if b < i + 1 then false else S.pend b
    by_cases e : b = i
    · subst e; rw [upd_same, if_pos (Nat.lt_succ_self b)]
    · rw [upd_other _ e]
      show (if b < i then false else S.pend b) = _
      by_cases e2 : b < i
      · rw [if_pos e2, if_pos (by omega)]
      · rw [if_neg e2, if_neg (by omega)]
  have hp := part_ok h (i + 1)
  refine ⟨⟨h.lo, h.hi, h.now, (half_ok h hi).was, (acted_ok h).left, fun b hb hq => ?_⟩, fun b => ?_, h2, h3⟩
  · have hq : upd (half S i).pend i false b = false := hq
    rw [h3 b hb] at hq
    show S.now b = (half S i).was b
    rw [h2 b hb]
    exact hp.same b hb hq
  · by_cases e : b = i
    · subst e; rw [upd_same]; show _ = upd _ b _ b; rw [upd_same]
    · rw [upd_other _ e]
theorem rflush_no {d lo hi : Nat} {S : St} (h0 : S.left = 0) (w : World) (h : RefAt d lo hi S w) :
    Calls Tryz.prog 48 #[.pointer (some ⟨d, 0, none⟩)] w fun e w' => e = .returned (.int .i64 61) ∧ w = w' := by
  obtain ⟨gn, gk, gp, cn, ck, cp, h⟩ := h
  have A := Lib.hid (ract_no w h h0)
  clear h h0
  go_enter Tryz.func48, Tryz.ntmps48
  go_wp2_with fail
  refine A.out.mono ?_; rintro e w' ⟨rfl, rfl⟩
  go_wp2
  go_ret
  exact ⟨rfl, rfl⟩
set_option maxHeartbeats 1000000 in
set_option maxRecDepth 100000 in
theorem rflush_ok {d lo hi : Nat} {S : St} (h0 : S.left ≠ 0) (ha : S.acts ≤ 1000000) (w : World) (h : RefAt d lo hi S w) :
    Calls Tryz.prog 48 #[.pointer (some ⟨d, 0, none⟩)] w fun e w' => e = .returned (.int .i64 0) ∧ RefAt d lo hi S.flushed w' ∧ Zone lo hi w w' := by
  obtain ⟨gn, gk, gp, cn, ck, cp, h⟩ := h
  have A := Lib.hid (ract_yes w h h0 ha)
  have HO := Lib.hid h.ok
  have hn := h.ok.hi
  clear h h0 ha
  go_enter Tryz.func48, Tryz.ntmps48
  go_wp2_with fail
  refine A.out.mono ?_; rintro e w1 ⟨rfl, h1, z1⟩
  have h1 : Ref d lo hi gn gk gp cn ck cp (part S 0) w1 := h1.congr (part_ok HO.out 0) rfl rfl rfl (fun _ _ => rfl) (fun _ _ => rfl) (fun _ _ => rfl)
  clear A
  go_wp2
  go_loopw [3] (fun q wr => ∃ i : Nat, q = .int .i64 i ∧ i ≤ S.n ∧ Ref d lo hi gn gk gp cn ck cp (part S i) wr ∧ Zone lo hi w wr) (fun q _ => S.n - (intOf q).toNat)
  case atStart => exact ⟨0, rfl, Nat.zero_le _, h1, z1⟩
  case round =>
    clear h1 z1
    obtain ⟨i, rfl, hiI, h1, z1⟩ := hrel
    have c0 : wr.cell? ⟨d, 0, none⟩ = some (.slice (some ⟨gn, 0, none⟩) S.n cn) := h1.blk.cell 0
    have c1 : wr.cell? ⟨d, 1, none⟩ = some (.slice (some ⟨gk, 0, none⟩) S.n ck) := h1.blk.cell 1
    by_cases hlt : i < S.n
    · have q1 : wr.cell? ⟨gn, i, none⟩ = some (.string (S.now i)) := (h1.now.2 i hlt).1
      obtain ⟨q2, q3⟩ : wr.cell? ⟨gk, i, none⟩ = some (.string ((part S i).was i)) ∧ wr.frozen? ⟨gk, i, none⟩ = false := h1.was.2 i hlt
      have H1 := Lib.hid h1
      have Z1 := Lib.hid z1
      have HPS := Lib.hid (part_step HO.out hlt)
      have HH := Lib.hid (half_ok HO.out hlt)
      clear h1 z1
      go_wp2
      go_still_tail 13, (by kernel_rfl)
      change wpList _ _ _ _ _ wr.drew
      have h2 : Ref d lo hi gn gk gp cn ck cp (part S i) wr.drew := H1.out.kept1 (Below.refl _ _).drew
      have z2 : Zone lo hi w wr.drew := Z1.out.drew
      clear c0 c1 q1 q2 q3 H1 Z1
      generalize wr.drew = w2 at *
      obtain ⟨q2, q3⟩ : w2.cell? ⟨gk, i, none⟩ = some (.string ((part S i).was i)) ∧ w2.frozen? ⟨gk, i, none⟩ = false := h2.was.2 i hlt
      have h3 : Ref d lo hi gn gk gp cn ck cp (half S i) (w2.setCell ⟨gk, i, none⟩ (.string (S.now i))) := h2.setWas hlt (S.now i) HH.out
      have z3 := z2.set (p := ⟨gk, i, none⟩) h2.zk.1 h2.zk.2 (.string (S.now i))
      have c2 : (w2.setCell ⟨gk, i, none⟩ (.string (S.now i))).cell? ⟨d, 2, none⟩ = some (.slice (some ⟨gp, 0, none⟩) S.n cp) := h3.blk.cell 2
      obtain ⟨q4, q5⟩ : (w2.setCell ⟨gk, i, none⟩ (.string (S.now i))).cell? ⟨gp, i, none⟩ = some (.bool ((half S i).pend i)) ∧ (w2.setCell ⟨gk, i, none⟩ (.string (S.now i))).frozen? ⟨gp, i, none⟩ = false := h3.pend.2 i hlt
      have H3 := Lib.hid h3
      have Z3 := Lib.hid z3
      clear h2 h3 z2 z3
      go_wp2
      have h3 := H3.out
      have h4 := (h3.setPend hlt false HPS.out.1).congr (part_ok HO.out (i + 1)) rfl rfl rfl (fun _ _ => rfl) (fun b hb => HPS.out.2.2.1 b hb) (fun b hb => HPS.out.2.2.2 b hb)
      exact ⟨⟨i + 1, by go_num, by omega, h4, Z3.out.set (p := ⟨gp, i, none⟩) h3.zp.1 h3.zp.2 _⟩, by simp [intOf]; omega⟩
    · obtain rfl : i = S.n := by omega
      have h4 : Ref d lo hi gn gk gp cn ck cp S.flushed wr := h1.congr (flushed_ok HO.out) rfl rfl rfl (fun _ _ => rfl) (fun b hb => by show (if b < S.n then S.now b else S.was b) = S.now b; rw [if_pos (show b < S.n from hb)]) (fun b hb => by show (if b < S.n then false else S.pend b) = false; rw [if_pos (show b < S.n from hb)])
      clear h1
      go_wp2
      go_ret
      exact ⟨rfl, h4.at, z1⟩
theorem rflush_any {d lo hi : Nat} {S : St} (ha : S.acts ≤ 1000000) (w : World) (h : RefAt d lo hi S w) :
    Calls Tryz.prog 48 #[.pointer (some ⟨d, 0, none⟩)] w fun e w' => e = .returned (.int .i64 (fCode S)) ∧ RefAt d lo hi (fSt S) w' ∧ Zone lo hi w w' := by
  by_cases h0 : S.left = 0
  · have e : fCode S = 61 := by unfold fCode; rw [if_pos h0]
    have e2 : fSt S = S := by unfold fSt; rw [if_pos h0]
    rw [e, e2]
    exact (rflush_no h0 w h).mono fun e w' ⟨he, hw⟩ => by subst hw; exact ⟨he, h, Zone.refl _ _ _⟩
  · have e : fCode S = 0 := by unfold fCode; rw [if_neg h0]
    have e2 : fSt S = S.flushed := by unfold fSt; rw [if_neg h0]
    rw [e, e2]
    exact rflush_ok h0 ha w h
set_option maxHeartbeats 1000000 in
theorem rpending_any {d lo hi : Nat} {S : St} (w : World) (h : RefAt d lo hi S w) :
    Calls Tryz.prog 18 #[.pointer (some ⟨d, 0, none⟩)] w fun e w' => ∃ v, e = .returned v ∧ NatsAt w.heap.size v (pends S) w' ∧ Below w.heap.size w w' := by
  obtain ⟨gn, gk, gp, cn, ck, cp, h⟩ := h
  have c2 : w.cell? ⟨d, 2, none⟩ = some (.slice (some ⟨gp, 0, none⟩) S.n cp) := h.blk.cell 2
  have hd := h.blk.lt
  have hn := h.ok.hi
  have HP := Lib.hid h.pend
  have hgp : gp < w.heap.size := h.pend.1
  obtain ⟨hcp1, hcp2⟩ := h.cp
  unfold pends
  clear h
  generalize S.n = n at *
  generalize S.pend = p at *
  go_enter Tryz.func18, Tryz.ntmps18
  go_wp2
  go_loopw [3, 4] (fun v q wr => ∃ k : Nat, q = .int .i64 k ∧ k ≤ n ∧ NatsAt w.heap.size v (pendL p k) wr ∧ Below w.heap.size w wr) (fun _ q _ => n - (intOf q).toNat)
  case atStart => exact ⟨0, rfl, Nat.zero_le _, World.ownsRow_nil _ _ _ _, Below.refl _ _⟩
  case round =>
    obtain ⟨k, rfl, hk, hown, hb⟩ := hrel
    have c2 : wr.cell? ⟨d, 2, none⟩ = some (.slice (some ⟨gp, 0, none⟩) n cp) := (hb.cell (p := ⟨d, 2, none⟩) hd).trans c2
    by_cases hlt : k < n
    · have q1 : wr.cell? ⟨gp, k, none⟩ = some (.bool (p k)) := (hb.cell (p := ⟨gp, k, none⟩) hgp).trans (HP.out.2 k hlt).1
      have hlen := pendL_len p k
      cases hp : p k with
      | true =>
        rw [hp] at q1
        have HY := Lib.hid (pendL_yes hp)
        clear hp
        have hs := hb.size
        go_wp2_with (at_builtin; refine wpList_app1 rfl _ _ rfl w.heap.size _ _ k rfl (hown.alloc _) wr rfl rfl (by omega) (by rw [size_alloc]; omega) ?_)
        intro v' w2 h2 b2
        have hb3 := (hb.alloc hs (.cells #[.int .i64 (k : Int)] 3)).trans b2
        rw [← HY.out] at h2
        clear hown hb b2 q1
        go_wp2
        exact ⟨⟨k + 1, by go_num, by omega, h2, hb3⟩, by simp [intOf]; omega⟩
      | false =>
        rw [hp] at q1
        rw [← pendL_no hp] at hown
        clear hp
        go_wp2
        exact ⟨⟨k + 1, by go_num, by omega, hown, hb⟩, by simp [intOf]; omega⟩
    · obtain rfl : k = n := by omega
      go_wp2
      go_ret
      exact ⟨_, rfl, hown, hb⟩
end Go.Proofs.YtehjobjjlldckaaGreat
