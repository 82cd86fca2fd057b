/- The document's device in memory; its act, Write, Flush, Arm, Read, Dead, Blocks. -/
import Derived.Test.YtehjobjjlldckaaGreatDSt
import Derived.StillTailTactics
namespace Go.Proofs.YtehjobjjlldckaaGreat
set_option linter.unusedVariables false
open Go.RowKit

def refCells (gn gk gp cn ck cp : Nat) (n : Nat) (l : Int) (acts : Nat) : Array Value :=
  #[.slice (some ⟨gn, 0, none⟩) n cn, .slice (some ⟨gk, 0, none⟩) n ck, .slice (some ⟨gp, 0, none⟩) n cp, .int .i64 l, .int .i64 (acts : Int)]
def strF (f : Nat → ByteArray) : Nat → Value := fun j => .string (f j)
def boolF (p : Nat → Bool) : Nat → Value := fun j => .bool (p j)
structure Ref (d lo hi gn gk gp cn ck cp : Nat) (S : St) (w : World) : Prop where
  ok : S.ok
  blk : Blk d (refCells gn gk gp cn ck cp S.n S.left S.acts) 53 w
  now : CellsAt gn S.n (strF S.now) w
  was : CellsAt gk S.n (strF S.was) w
  pend : CellsAt gp S.n (boolF S.pend) w
  cn : S.n ≤ cn ∧ cn ≤ 9223372036854775807
  ck : S.n ≤ ck ∧ ck ≤ 9223372036854775807
  cp : S.n ≤ cp ∧ cp ≤ 9223372036854775807
  zd : lo ≤ d ∧ d < hi
  zn : lo ≤ gn ∧ gn < hi
  zk : lo ≤ gk ∧ gk < hi
  zp : lo ≤ gp ∧ gp < hi
  top : hi ≤ w.heap.size
  a1 : d ≠ gn
  a2 : d ≠ gk
  a3 : d ≠ gp
  a4 : gn ≠ gk
  a5 : gn ≠ gp
  a6 : gk ≠ gp
def RefAt (d lo hi : Nat) (S : St) (w : World) : Prop := ∃ gn gk gp cn ck cp, Ref d lo hi gn gk gp cn ck cp S w
section
variable {d lo hi gn gk gp cn ck cp : Nat} {S : St} {w w' : World}
theorem Ref.at (h : Ref d lo hi gn gk gp cn ck cp S w) : RefAt d lo hi S w := ⟨_, _, _, _, _, _, h⟩
theorem Ref.kept {lo' hi' : Nat} (h : Ref d lo hi gn gk gp cn ck cp S w) (z : Zone lo' hi' w w') (hz : hi ≤ lo' ∨ hi' ≤ lo) : Ref d lo hi gn gk gp cn ck cp S w' := by
  have zd := h.zd; have zn := h.zn; have zk := h.zk; have zp := h.zp
  exact ⟨h.ok, h.blk.kept z (by omega), h.now.kept z (by omega), h.was.kept z (by omega), h.pend.kept z (by omega), h.cn, h.ck, h.cp, zd, zn, zk, zp, Nat.le_trans h.top z.size, h.a1, h.a2, h.a3, h.a4, h.a5, h.a6⟩
theorem Ref.kept1 (h : Ref d lo hi gn gk gp cn ck cp S w) (b : Below w.heap.size w w') : Ref d lo hi gn gk gp cn ck cp S w' :=
  h.kept (Zone.of_below b hi hi) (.inl (Nat.le_refl _))
theorem RefAt.kept {lo' hi' : Nat} (h : RefAt d lo hi S w) (z : Zone lo' hi' w w') (hz : hi ≤ lo' ∨ hi' ≤ lo) : RefAt d lo hi S w' := by
  obtain ⟨_, _, _, _, _, _, h⟩ := h; exact (h.kept z hz).at
theorem RefAt.kept1 (h : RefAt d lo hi S w) (b : Below w.heap.size w w') : RefAt d lo hi S w' := by
  obtain ⟨_, _, _, _, _, _, h⟩ := h; exact (h.kept1 b).at
theorem RefAt.top (h : RefAt d lo hi S w) : hi ≤ w.heap.size := by obtain ⟨_, _, _, _, _, _, h⟩ := h; exact h.top
theorem RefAt.ok (h : RefAt d lo hi S w) : S.ok := by obtain ⟨_, _, _, _, _, _, h⟩ := h; exact h.ok
/-- the same state, where it counts -/
theorem Ref.congr {T : St} (h : Ref d lo hi gn gk gp cn ck cp S w) (ht : T.ok) (hn : T.n = S.n) (hl : T.left = S.left) (ha : T.acts = S.acts) (h1 : ∀ b, b < S.n → S.now b = T.now b) (h2 : ∀ b, b < S.n → S.was b = T.was b) (h3 : ∀ b, b < S.n → S.pend b = T.pend b) : Ref d lo hi gn gk gp cn ck cp T w := by
  refine ⟨ht, by rw [hn, hl, ha]; exact h.blk, by rw [hn]; exact h.now.congr fun j hj => congrArg Value.string (h1 j hj), by rw [hn]; exact h.was.congr fun j hj => congrArg Value.string (h2 j hj), by rw [hn]; exact h.pend.congr fun j hj => congrArg Value.bool (h3 j hj), by rw [hn]; exact h.cn, by rw [hn]; exact h.ck, by rw [hn]; exact h.cp, h.zd, h.zn, h.zk, h.zp, h.top, h.a1, h.a2, h.a3, h.a4, h.a5, h.a6⟩
/-- block b's text is another one -/
theorem Ref.setNow (h : Ref d lo hi gn gk gp cn ck cp S w) {b : Nat} (hb : b < S.n) (s : ByteArray) (hok : St.ok { S with now := upd S.now b s }) : Ref d lo hi gn gk gp cn ck cp { S with now := upd S.now b s } (w.setCell ⟨gn, b, none⟩ (.string s)) :=
  ⟨hok, h.blk.other (Ne.symm h.a1) _, (h.now.set hb (.string s)).congr fun j _ => by
    show upd (strF S.now) b (.string s) j = strF (upd S.now b s) j
    unfold strF
    by_cases e : j = b
    · subst e; rw [upd_same, upd_same]
    · rw [upd_other _ e, upd_other _ e], h.was.other h.a4 _, h.pend.other h.a5 _, h.cn, h.ck, h.cp, h.zd, h.zn, h.zk, h.zp, by have := h.top; simpa [World.setCell] using this, h.a1, h.a2, h.a3, h.a4, h.a5, h.a6⟩
theorem Ref.setWas (h : Ref d lo hi gn gk gp cn ck cp S w) {b : Nat} (hb : b < S.n) (s : ByteArray) (hok : St.ok { S with was := upd S.was b s }) : Ref d lo hi gn gk gp cn ck cp { S with was := upd S.was b s } (w.setCell ⟨gk, b, none⟩ (.string s)) :=
  ⟨hok, h.blk.other (Ne.symm h.a2) _, h.now.other (Ne.symm h.a4) _, (h.was.set hb (.string s)).congr fun j _ => by
    show upd (strF S.was) b (.string s) j = strF (upd S.was b s) j
    unfold strF
    by_cases e : j = b
    · subst e; rw [upd_same, upd_same]
    · rw [upd_other _ e, upd_other _ e], h.pend.other h.a6 _, h.cn, h.ck, h.cp, h.zd, h.zn, h.zk, h.zp, by have := h.top; simpa [World.setCell] using this, h.a1, h.a2, h.a3, h.a4, h.a5, h.a6⟩
theorem Ref.setPend (h : Ref d lo hi gn gk gp cn ck cp S w) {b : Nat} (hb : b < S.n) (q : Bool) (hok : St.ok { S with pend := upd S.pend b q }) : Ref d lo hi gn gk gp cn ck cp { S with pend := upd S.pend b q } (w.setCell ⟨gp, b, none⟩ (.bool q)) :=
  ⟨hok, h.blk.other (Ne.symm h.a3) _, h.now.other (Ne.symm h.a5) _, h.was.other (Ne.symm h.a6) _, (h.pend.set hb (.bool q)).congr fun j _ => by
    show upd (boolF S.pend) b (.bool q) j = boolF (upd S.pend b q) j
    unfold boolF
    by_cases e : j = b
    · subst e; rw [upd_same, upd_same]
    · rw [upd_other _ e, upd_other _ e], h.cn, h.ck, h.cp, h.zd, h.zn, h.zk, h.zp, by have := h.top; simpa [World.setCell] using this, h.a1, h.a2, h.a3, h.a4, h.a5, h.a6⟩
end
theorem ract_no {d lo hi gn gk gp cn ck cp : Nat} {S : St} (w : World) (h : Ref d lo hi gn gk gp cn ck cp S w) (h0 : S.left = 0) :
    Calls Tryz.prog 73 #[.pointer (some ⟨d, 0, none⟩)] w fun e w' => e = .returned (.bool false) ∧ w = w' := by
  have c3 : w.cell? ⟨d, 3, none⟩ = some (.int .i64 0) := by rw [← h0]; exact h.blk.cell 3
  clear h h0
  go_enter Tryz.func73, Tryz.ntmps73
  go_wp2
  go_ret
  exact ⟨rfl, rfl⟩
theorem ract_yes {d lo hi gn gk gp cn ck cp : Nat} {S : St} (w : World) (h : Ref d lo hi gn gk gp cn ck cp S w) (h0 : S.left ≠ 0) (ha : S.acts ≤ 1000000) :
    Calls Tryz.prog 73 #[.pointer (some ⟨d, 0, none⟩)] w fun e w' => e = .returned (.bool true) ∧ Ref d lo hi gn gk gp cn ck cp S.acted w' ∧ Zone lo hi w w' := by
  have c3 : w.cell? ⟨d, 3, none⟩ = some (.int .i64 S.left) := h.blk.cell 3
  have c4 : w.cell? ⟨d, 4, none⟩ = some (.int .i64 (S.acts : Int)) := h.blk.cell 4
  have f3 := h.blk.frozen 3
  have f4 := h.blk.frozen 4
  obtain ⟨l1, l2⟩ := h.ok.left
  have hw : ∀ w2, Blk d (refCells gn gk gp cn ck cp S.n (lessOne S.left) (S.acts + 1)) 53 w2 → w2.heap.size = w.heap.size → (∀ k, k ≠ d → w2.heap[k]? = w.heap[k]?) → Ref d lo hi gn gk gp cn ck cp S.acted w2 := fun w2 hb hs hk =>
    ⟨acted_ok h.ok, hb, h.now.eq_block (by omega) (hk _ (Ne.symm h.a1)), h.was.eq_block (by omega) (hk _ (Ne.symm h.a2)), h.pend.eq_block (by omega) (hk _ (Ne.symm h.a3)), h.cn, h.ck, h.cp, h.zd, h.zn, h.zk, h.zp, by have := h.top; omega, h.a1, h.a2, h.a3, h.a4, h.a5, h.a6⟩
  have HW := Lib.hid hw
  have HB := Lib.hid h.blk
  have HZ := Lib.hid h.zd
  clear hw h
  by_cases hp : 0 < S.left
  · have e : lessOne S.left = S.left - 1 := by unfold lessOne; rw [if_pos hp]
    rw [e] at HW
    clear e
    go_enter Tryz.func73, Tryz.ntmps73
    go_wp2
    go_ret
    refine ⟨rfl, HW.out _ ?_ (by simp [World.setCell]) (fun k hk => by rw [Below.heap_setCell _ _ _ _ (by simpa using hk), Below.heap_setCell _ _ _ _ (by simpa using hk)]), ((Zone.refl _ _ _).set HZ.out.1 HZ.out.2 _).set HZ.out.1 HZ.out.2 _⟩
    exact ((HB.out.set 3 _).set 4 _)
  · have e : lessOne S.left = S.left := by unfold lessOne; rw [if_neg hp]
    rw [e] at HW
    clear e
    go_enter Tryz.func73, Tryz.ntmps73
    go_wp2
    go_ret
    refine ⟨rfl, HW.out _ ?_ (by simp [World.setCell]) (fun k hk => by rw [Below.heap_setCell _ _ _ _ (by simpa using hk)]), (Zone.refl _ _ _).set HZ.out.1 HZ.out.2 _⟩
    exact (HB.out.set 4 _)
theorem rarm_any {d lo hi : Nat} {S : St} (n : Int) (hn : I64 n) (w : World) (h : RefAt d lo hi S w) :
    Calls Tryz.prog 47 #[.pointer (some ⟨d, 0, none⟩), .int .i64 n] w fun e w' => e = .returned (.tuple #[]) ∧ RefAt d lo hi (S.armed n) w' ∧ Zone lo hi w w' := by
  obtain ⟨gn, gk, gp, cn, ck, cp, h⟩ := h
  have c3 : w.cell? ⟨d, 3, none⟩ = some (.int .i64 S.left) := h.blk.cell 3
  have f3 := h.blk.frozen 3
  have H := Lib.hid h
  have e : (w.setCell ⟨d, 3, none⟩ (.int .i64 (noLess n))).heap.size = w.heap.size := by simp [World.setCell]
  have HE : Hid (Ref d lo hi gn gk gp cn ck cp (S.armed n) (w.setCell ⟨d, 3, none⟩ (.int .i64 (noLess n))) ∧ Zone lo hi w (w.setCell ⟨d, 3, none⟩ (.int .i64 (noLess n)))) :=
    Lib.hid ⟨⟨armed_ok h.ok hn.2, h.blk.set 3 _, h.now.other h.a1 _, h.was.other h.a2 _, h.pend.other h.a3 _, h.cn, h.ck, h.cp, h.zd, h.zn, h.zk, h.zp, by have := h.top; omega, h.a1, h.a2, h.a3, h.a4, h.a5, h.a6⟩, (Zone.refl _ _ _).set h.zd.1 h.zd.2 _⟩
  clear h e
  by_cases h0 : n < 0
  · have e : noLess n = -1 := by unfold noLess; rw [if_pos h0]
    rw [e] at HE
    clear e
    have hm : n ≤ -1 := by omega
    by_cases h1 : n < -1
    · go_enter Tryz.func47, Tryz.ntmps47
      go_wp2
      go_end0
      exact ⟨rfl, HE.out.1.at, HE.out.2⟩
    · obtain rfl : n = -1 := by omega
      go_enter Tryz.func47, Tryz.ntmps47
      go_wp2
      go_end0
      exact ⟨rfl, HE.out.1.at, HE.out.2⟩
  · have e : noLess n = n := by unfold noLess; rw [if_neg h0]
    rw [e] at HE
    clear e
    have hm : -1 < n := by omega
    go_enter Tryz.func47, Tryz.ntmps47
    go_wp2
    go_end0
    exact ⟨rfl, HE.out.1.at, HE.out.2⟩
theorem rblocks_any {d lo hi : Nat} {S : St} (w : World) (h : RefAt d lo hi S w) :
    Calls Tryz.prog 30 #[.pointer (some ⟨d, 0, none⟩)] w fun e w' => e = .returned (.int .i64 (S.n : Int)) ∧ w = w' := by
  obtain ⟨gn, gk, gp, cn, ck, cp, h⟩ := h
  have c0 : w.cell? ⟨d, 0, none⟩ = some (.slice (some ⟨gn, 0, none⟩) S.n cn) := h.blk.cell 0
  clear h
  go_enter Tryz.func30, Tryz.ntmps30
  go_wp2
  go_ret
  exact ⟨rfl, rfl⟩
theorem rread_any {d lo hi : Nat} {S : St} (b : Int) (w : World) (h : RefAt d lo hi S w) :
    Calls Tryz.prog 72 #[.pointer (some ⟨d, 0, none⟩), .int .i64 b] w fun e w' => e = .returned (.tuple #[.string (rText S b), .int .i64 (rCode S b)]) ∧ w = w' := by
  obtain ⟨gn, gk, gp, cn, ck, cp, h⟩ := h
  have c0 : w.cell? ⟨d, 0, none⟩ = some (.slice (some ⟨gn, 0, none⟩) S.n cn) := h.blk.cell 0
  have hn := h.ok.hi
  by_cases hb : 0 ≤ b ∧ b < (S.n : Int)
  · obtain ⟨k, rfl⟩ := Int.eq_ofNat_of_zero_le hb.1
    have hk : k < S.n := by omega
    have e1 : rText S (k : Int) = S.now k := by unfold rText; rw [if_pos hb]; rfl
    have e2 : rCode S (k : Int) = 0 := by unfold rCode; rw [if_pos hb]
    rw [e1, e2]
    have q : w.cell? ⟨gn, k, none⟩ = some (.string (S.now k)) := (h.now.2 k hk).1
    have k0 : ¬ (k : Int) < 0 := by omega
    have k1 : (k : Int) < (S.n : Int) := by omega
    clear h hb e1 e2
    generalize S.now k = t at *
    go_enter Tryz.func72, Tryz.ntmps72
    go_wp2
    go_ret2
    exact ⟨rfl, rfl⟩
  · have e1 : rText S b = ⟨#[]⟩ := by unfold rText; rw [if_neg hb]
    have e2 : rCode S b = 60 := by unfold rCode; rw [if_neg hb]
    rw [e1, e2]
    clear h e1 e2
    by_cases hb0 : b < 0
    · go_enter Tryz.func72, Tryz.ntmps72
      go_wp2
      go_ret2
      exact ⟨rfl, rfl⟩
    · have k0 : 0 ≤ b := by omega
      have k1 : (S.n : Int) ≤ b := by omega
      go_enter Tryz.func72, Tryz.ntmps72
      go_wp2
      go_ret2
      exact ⟨rfl, rfl⟩
theorem rwrite_ok {d lo hi : Nat} {S : St} (b : Nat) (s : ByteArray) (hb : b < S.n) (hs : s.size = 128) (h0 : S.left ≠ 0) (ha : S.acts ≤ 1000000) (w : World) (h : RefAt d lo hi S w) :
    Calls Tryz.prog 49 #[.pointer (some ⟨d, 0, none⟩), .int .i64 (b : Int), .string s] w fun e w' => e = .returned (.int .i64 0) ∧ RefAt d lo hi (S.wrote b s) w' ∧ Zone lo hi w w' := by
  obtain ⟨gn, gk, gp, cn, ck, cp, h⟩ := h
  have c0 : w.cell? ⟨d, 0, none⟩ = some (.slice (some ⟨gn, 0, none⟩) S.n cn) := h.blk.cell 0
  have hn := h.ok.hi
  have A := Lib.hid (ract_yes w h h0 ha)
  have ht : ((s.size : Int) != 128) = false := by rw [bne_eq_false_iff_eq]; omega
  have k0 : ¬ (b : Int) < 0 := by omega
  have HS := Lib.hid hs
  have HO := Lib.hid h.ok
  clear h h0 hs ha
  go_enter Tryz.func49, Tryz.ntmps49
  go_wp2_with fail
  refine A.out.mono ?_; rintro e w1 ⟨rfl, h1, z1⟩
  clear c0 A
  have c0 : w1.cell? ⟨d, 0, none⟩ = some (.slice (some ⟨gn, 0, none⟩) S.n cn) := h1.blk.cell 0
  have c2 : w1.cell? ⟨d, 2, none⟩ = some (.slice (some ⟨gp, 0, none⟩) S.n cp) := h1.blk.cell 2
  obtain ⟨p1, p2⟩ := h1.now.2 b hb
  have hok1 : St.ok { S.acted with now := upd S.now b s, pend := upd S.pend b true } := wrote_ok HO.out hb HS.out
  have H1 := Lib.hid h1
  obtain ⟨q1, q2⟩ := h1.pend.2 b hb
  have b1 : Blk d _ _ (w1.setCell ⟨gn, b, none⟩ (.string s)) := h1.blk.other (Ne.symm h1.a1) _
  have c2' : (w1.setCell ⟨gn, b, none⟩ (.string s)).cell? ⟨d, 2, none⟩ = some (.slice (some ⟨gp, 0, none⟩) S.n cp) := b1.cell 2
  have pn := h1.pend.other h1.a5 (.string s) (p := ⟨gn, b, none⟩)
  obtain ⟨q3, q4⟩ := pn.2 b hb
  clear h1 b1 pn hok1
  go_wp2
  go_ret
  have h1 := H1.out
  have e1 : Ref d lo hi gn gk gp cn ck cp (S.wrote b s) ((w1.setCell ⟨gn, b, none⟩ (.string s)).setCell ⟨gp, b, none⟩ (.bool true)) := by
    refine ⟨wrote_ok HO.out hb HS.out, (h1.blk.other (Ne.symm h1.a1) _).other (Ne.symm h1.a3) _, ?_, (h1.was.other h1.a4 _).other (Ne.symm h1.a6) _, ?_, h1.cn, h1.ck, h1.cp, h1.zd, h1.zn, h1.zk, h1.zp, by have := h1.top; simpa [World.setCell] using this, h1.a1, h1.a2, h1.a3, h1.a4, h1.a5, h1.a6⟩
    · refine ((h1.now.set hb (.string s)).other (Ne.symm h1.a5) _).congr fun j _ => ?_
      show upd (strF S.now) b (.string s) j = strF (upd S.now b s) j
      unfold strF
      by_cases e : j = b
      · subst e; rw [upd_same, upd_same]
      · rw [upd_other _ e, upd_other _ e]
    · refine ((h1.pend.other h1.a5 _).set hb (.bool true)).congr fun j _ => ?_
      show upd (boolF S.pend) b (.bool true) j = boolF (upd S.pend b true) j
      unfold boolF
      by_cases e : j = b
      · subst e; rw [upd_same, upd_same]
      · rw [upd_other _ e, upd_other _ e]
  exact ⟨rfl, e1.at, (z1.set h1.zn.1 h1.zn.2 _).set h1.zp.1 h1.zp.2 _⟩
theorem rwrite_off {d lo hi : Nat} {S : St} (b : Int) (s : ByteArray) (hc : wCode S b s.size ≠ 0) (w : World) (h : RefAt d lo hi S w) :
    Calls Tryz.prog 49 #[.pointer (some ⟨d, 0, none⟩), .int .i64 b, .string s] w fun e w' => e = .returned (.int .i64 (wCode S b s.size)) ∧ w = w' := by
  obtain ⟨gn, gk, gp, cn, ck, cp, h⟩ := h
  have c0 : w.cell? ⟨d, 0, none⟩ = some (.slice (some ⟨gn, 0, none⟩) S.n cn) := h.blk.cell 0
  have hn := h.ok.hi
  by_cases hb0 : b < 0
  · have e : wCode S b s.size = 60 := by unfold wCode; rw [if_pos (.inl hb0)]
    rw [e]
    clear hc h e
    go_enter Tryz.func49, Tryz.ntmps49
    go_wp2
    go_ret
    exact ⟨rfl, rfl⟩
  · have k0 : 0 ≤ b := by omega
    by_cases hb1 : (S.n : Int) ≤ b
    · have e : wCode S b s.size = 60 := by unfold wCode; rw [if_pos (.inr hb1)]
      rw [e]
      clear hc h e
      go_enter Tryz.func49, Tryz.ntmps49
      go_wp2
      go_ret
      exact ⟨rfl, rfl⟩
    · have k1 : b < (S.n : Int) := by omega
      have hb2 : ¬ (b < 0 ∨ (S.n : Int) ≤ b) := by omega
      by_cases hs : s.size = 128
      · have ht : ((s.size : Int) != 128) = false := by rw [bne_eq_false_iff_eq]; omega
        by_cases h0 : S.left = 0
        · have A := Lib.hid (ract_no w h h0)
          have e : wCode S b s.size = 61 := by unfold wCode; rw [if_neg hb2, if_neg (by omega), if_pos h0]
          rw [e]
          clear hc h e hs h0 hb2
          go_enter Tryz.func49, Tryz.ntmps49
          go_wp2_with fail
          refine A.out.mono ?_; rintro e w' ⟨rfl, rfl⟩
          go_wp2
          go_ret
          exact ⟨rfl, rfl⟩
        · exact absurd (wCode_zero k0 k1 hs h0) hc
      · have ht : ((s.size : Int) != 128) = true := by rw [bne_iff_ne]; omega
        have e : wCode S b s.size = 2 := by unfold wCode; rw [if_neg hb2, if_pos hs]
        rw [e]
        clear hc h e hs hb2
        go_enter Tryz.func49, Tryz.ntmps49
        go_wp2
        go_ret
        exact ⟨rfl, rfl⟩
theorem rwrite_any {d lo hi : Nat} {S : St} (b : Int) (s : ByteArray) (ha : S.acts ≤ 1000000) (w : World) (h : RefAt d lo hi S w) :
    Calls Tryz.prog 49 #[.pointer (some ⟨d, 0, none⟩), .int .i64 b, .string s] w fun e w' => e = .returned (.int .i64 (wCode S b s.size)) ∧ RefAt d lo hi (wSt S b s) w' ∧ Zone lo hi w w' := by
  by_cases hc : wCode S b s.size = 0
  · obtain ⟨h1, h2, h3, h4⟩ := wCode_yes hc
    obtain ⟨k, rfl⟩ := Int.eq_ofNat_of_zero_le h1
    have e2 : wSt S (k : Int) s = S.wrote k s := by unfold wSt; rw [if_pos hc]; rfl
    rw [hc, e2]
    exact rwrite_ok k s (by omega) h3 h4 ha w h
  · have e2 : wSt S b s = S := by unfold wSt; rw [if_neg hc]
    rw [e2]
    exact (rwrite_off b s hc w h).mono fun e w' ⟨he, hw⟩ => by subst hw; exact ⟨he, h, Zone.refl _ _ _⟩
end Go.Proofs.YtehjobjjlldckaaGreat
