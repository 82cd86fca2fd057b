/- The document's Open. -/
import Derived.Test.YtgdnlkoncajaoaaDRNew2
namespace Go.Proofs.Ytgdnlkoncajaoaa
set_option linter.unusedVariables false
open Go.RowKit

/-- an image laid, i blocks of it -/
def opnF (s : ByteArray) (i : Nat) : Nat → ByteArray := fun j => if j < i then blkOf 128 s j else zeros
def opn (n : Nat) (s : ByteArray) (i k : Nat) : St := ⟨n, opnF s i, opnF s k, fun _ => false, -1, 0⟩
theorem opnF_size {n : Nat} {s : ByteArray} (hs : s.size = n * 128) (i : Nat) {b : Nat} (hb : b < n) : (opnF s i b).size = 128 := by
  unfold opnF; split
  · exact blkOf_size hs hb
  · exact zeros_size
theorem opnF_step (s : ByteArray) (i j : Nat) : upd (opnF s i) i (blkOf 128 s i) j = opnF s (i + 1) j := by
  unfold opnF
  by_cases e : j = i
  · subst e; rw [upd_same, if_pos (Nat.lt_succ_self j)]
  · rw [upd_other _ e]
    by_cases e2 : j < i
    · rw [if_pos e2, if_pos (by omega)]
    · rw [if_neg e2, if_neg (by omega)]
/-- as far as the document's device goes: what is pending is not looked at while it is laid -/
def opnP (n : Nat) (s : ByteArray) (i k : Nat) : St := ⟨n, opnF s i, opnF s k, fun _ => true, -1, 0⟩
/-- the device while it is laid: its texts need not be kept -/
structure Lay (d lo hi gn gk gp cn ck cp n : Nat) (f g : Nat → ByteArray) (w : World) : Prop where
  blk : Blk d (refCells gn gk gp cn ck cp n (-1) 0) 47 w
  now : CellsAt gn n (strF f) w
  was : CellsAt gk n (strF g) w
  pend : CellsAt gp n (boolF fun _ => false) w
  cn : n ≤ cn ∧ cn ≤ 9223372036854775807
  ck : n ≤ ck ∧ ck ≤ 9223372036854775807
  cp : n ≤ cp ∧ cp ≤ 9223372036854775807
  zd : lo ≤ d ∧ d < hi
  zn : lo ≤ gn ∧ gn < hi
  zk : lo ≤ gk ∧ gk < hi
  zp : lo ≤ gp ∧ gp < hi
  top : hi ≤ w.heap.size
  a1 : d ≠ gn
  a2 : d ≠ gk
  a3 : d ≠ gp
  a4 : gn ≠ gk
  a5 : gn ≠ gp
  a6 : gk ≠ gp
section
variable {d lo hi gn gk gp cn ck cp n : Nat} {f g f' g' : Nat → ByteArray} {w : World}
theorem Lay.now' (h : Lay d lo hi gn gk gp cn ck cp n f g w) {b : Nat} (hb : b < n) (s : ByteArray) (he : ∀ j, upd f b s j = f' j) : Lay d lo hi gn gk gp cn ck cp n f' g (w.setCell ⟨gn, b, none⟩ (.string s)) :=
  ⟨h.blk.other (Ne.symm h.a1) _, (h.now.set hb (.string s)).congr fun j _ => by
    unfold strF
    rw [← he j]
    by_cases e : j = b
    · subst e; rw [upd_same, upd_same]
    · rw [upd_other _ e, upd_other _ e], h.was.other h.a4 _, h.pend.other h.a5 _, h.cn, h.ck, h.cp, h.zd, h.zn, h.zk, h.zp, by have := h.top; simpa [World.setCell] using this, h.a1, h.a2, h.a3, h.a4, h.a5, h.a6⟩
theorem Lay.was' (h : Lay d lo hi gn gk gp cn ck cp n f g w) {b : Nat} (hb : b < n) (s : ByteArray) (he : ∀ j, upd g b s j = g' j) : Lay d lo hi gn gk gp cn ck cp n f g' (w.setCell ⟨gk, b, none⟩ (.string s)) :=
  ⟨h.blk.other (Ne.symm h.a2) _, h.now.other (Ne.symm h.a4) _, (h.was.set hb (.string s)).congr fun j _ => by
    unfold strF
    rw [← he j]
    by_cases e : j = b
    · subst e; rw [upd_same, upd_same]
    · rw [upd_other _ e, upd_other _ e], h.pend.other h.a6 _, h.cn, h.ck, h.cp, h.zd, h.zn, h.zk, h.zp, by have := h.top; simpa [World.setCell] using this, h.a1, h.a2, h.a3, h.a4, h.a5, h.a6⟩
theorem Lay.drew (h : Lay d lo hi gn gk gp cn ck cp n f g w) : Lay d lo hi gn gk gp cn ck cp n f g w.drew :=
  ⟨h.blk, h.now, h.was, h.pend, h.cn, h.ck, h.cp, h.zd, h.zn, h.zk, h.zp, h.top, h.a1, h.a2, h.a3, h.a4, h.a5, h.a6⟩
theorem Lay.kept1 {w' : World} (h : Lay d lo hi gn gk gp cn ck cp n f g w) (b : Below w.heap.size w w') : Lay d lo hi gn gk gp cn ck cp n f g w' :=
  ⟨h.blk.kept1 b, h.now.kept1 b, h.was.kept1 b, h.pend.kept1 b, h.cn, h.ck, h.cp, h.zd, h.zn, h.zk, h.zp, Nat.le_trans h.top b.size, h.a1, h.a2, h.a3, h.a4, h.a5, h.a6⟩
theorem Ref.lay (h : Ref d lo hi gn gk gp cn ck cp (freshSt n f) w) : Lay d lo hi gn gk gp cn ck cp n f f w :=
  ⟨h.blk, h.now, h.was, h.pend, h.cn, h.ck, h.cp, h.zd, h.zn, h.zk, h.zp, h.top, h.a1, h.a2, h.a3, h.a4, h.a5, h.a6⟩
theorem Lay.ref (h : Lay d lo hi gn gk gp cn ck cp n f f w) (hok : (freshSt n f).ok) : Ref d lo hi gn gk gp cn ck cp (freshSt n f) w :=
  ⟨hok, h.blk, h.now, h.was, h.pend, h.cn, h.ck, h.cp, h.zd, h.zn, h.zk, h.zp, h.top, h.a1, h.a2, h.a3, h.a4, h.a5, h.a6⟩
theorem Lay.congr (h : Lay d lo hi gn gk gp cn ck cp n f g w) (h1 : ∀ j, j < n → f j = f' j) (h2 : ∀ j, j < n → g j = g' j) : Lay d lo hi gn gk gp cn ck cp n f' g' w :=
  ⟨h.blk, h.now.congr fun j hj => congrArg Value.string (h1 j hj), h.was.congr fun j hj => congrArg Value.string (h2 j hj), h.pend, h.cn, h.ck, h.cp, h.zd, h.zn, h.zk, h.zp, h.top, h.a1, h.a2, h.a3, h.a4, h.a5, h.a6⟩
end
set_option maxHeartbeats 2000000 in
theorem ropen_yes (n : Nat) (s : ByteArray) (h1 : 1 ≤ n) (h2 : n ≤ 4096) (hs : s.size = n * 128) (w : World) :
    Calls Try.prog 36 #[.string s] w fun e w' => ∃ r, e = .returned (.tuple #[.pointer (some ⟨r, 0, none⟩), .int .i64 0]) ∧ RefAt r w.heap.size w'.heap.size (freshSt n (blkOf 128 s)) w' ∧ Below w.heap.size w w' := by
  have mixed : Try.prog.follows .mixedOrders = true := by kernel_rfl
  have N := Lib.hid (rnew_yes n h1 h2 w)
  have t2 : (s.size : Int) % 128 = 0 := by omega
  have t3 : ((s.size : Int) / 128) = (n : Int) := by omega
  have HS := Lib.hid hs
  have hs2 : ((s.size : Int)) = (n : Int) * 128 := by omega
  clear hs
  go_enter Try.func36, Try.ntmps36
  go_wp2_with fail
  refine N.out.mono ?_; rintro e w1 ⟨r, rfl, ⟨gn, gk, gp, cn, ck, cp, hR⟩, hb⟩
  have HL := Lib.hid (hR.lay.congr (f' := opnF s 0) (g' := opnF s 0) (fun j _ => rfl) (fun j _ => rfl))
  have HB := Lib.hid hb
  have hsz := hb.size
  clear hR N hb
  go_wp2
  go_loopw [6] (fun q wr => ∃ i : Nat, q = .int .i64 i ∧ i ≤ n ∧ Lay r w.heap.size w1.heap.size gn gk gp cn ck cp n (opnF s i) (opnF s i) wr ∧ Zone w.heap.size w1.heap.size w1 wr) (fun q _ => n - (intOf q).toNat)
  case atStart => exact ⟨0, rfl, Nat.zero_le _, HL.out, Zone.refl _ _ _⟩
  case round =>
    obtain ⟨i, rfl, hi, hL, hz⟩ := hrel
    have c0 : wr.cell? ⟨r, 0, none⟩ = some (.slice (some ⟨gn, 0, none⟩) n cn) := hL.blk.cell 0
    by_cases hlt : i < n
    · obtain ⟨q1, q2⟩ : wr.cell? ⟨gn, i, none⟩ = some (.string (opnF s i i)) ∧ wr.frozen? ⟨gn, i, none⟩ = false := hL.now.2 i hlt
      have HLr := Lib.hid hL
      have HZ := Lib.hid hz
      have z1 : (i + 1) * 128 ≤ s.size := by have := HS.out; omega
      have z2 : ((i : Int) + 1) * 128 ≤ (n : Int) * 128 := by omega
      have z3 : ((i : Int) + 1) * 128 ≤ (s.size : Int) := by omega
      have d0 : ∀ p : BelowP wr, p.to.cell? ⟨r, 0, none⟩ = some (.slice (some ⟨gn, 0, none⟩) n cn) := fun p => (hL.blk.kept1 p.h).cell 0
      have wa : IntKind.i64.wrap ((i : Int) * 128) = (i : Int) * 128 := IntWalk.i64_in _ (by omega)
      have wb : IntKind.i64.wrap ((i : Int) + 1) = (i : Int) + 1 := IntWalk.i64_in _ (by omega)
      have wc : IntKind.i64.wrap (((i : Int) + 1) * 128) = ((i : Int) + 1) * 128 := IntWalk.i64_in _ (by omega)
      clear hL hz HL
      go_wp2
      refine wp_region_tail_below 13 mixed (by kernel_rfl) ?_
      simp only [List.take_succ_cons, List.take_zero, List.drop_succ_cons, List.drop_zero]
      repeat (go_big_quiet_step (fail))
      refine wpQuiet_nil ?_
      intro w0q hw'
      obtain ⟨⟨wq, bq⟩, hw''⟩ := hw'
      have hw2 : wq = w0q := hw''.symm
      clear hw''
      subst hw2
      have hL1 := HLr.out.kept1 bq
      have hz1 : Zone w.heap.size w1.heap.size w1 wq := HZ.out.trans (Zone.of_below bq _ _)
      obtain ⟨q1, q2⟩ : wq.cell? ⟨gn, i, none⟩ = some (.string (opnF s i i)) ∧ wq.frozen? ⟨gn, i, none⟩ = false := hL1.now.2 i hlt
      have hstep := Lib.hid (opnF_step s i)
      have ht : s.extract (i * 128) ((i + 1) * 128) = blkOf 128 s i := rfl
      generalize s.extract (i * 128) ((i + 1) * 128) = t at *
      rw [← ht] at hstep
      have hL2 : Lay r w.heap.size w1.heap.size gn gk gp cn ck cp n (opnF s (i + 1)) (opnF s i) (wq.setCell ⟨gn, i, none⟩ (.string t)) := hL1.now' hlt t hstep.out
      have hz2 : Zone w.heap.size w1.heap.size w1 (wq.setCell ⟨gn, i, none⟩ (.string t)) := hz1.set (p := ⟨gn, i, none⟩) hL1.zn.1 hL1.zn.2 _
      have HL2 := Lib.hid hL2
      have HZ2 := Lib.hid hz2
      clear hL1 hz1 hL2 hz2 ht d0 HLr HZ bq
      obtain ⟨w4, hw4⟩ : ∃ w4, wq.setCell ⟨gn, i, none⟩ (.string t) = w4 := ⟨_, rfl⟩
      rw [hw4] at HL2 HZ2
      go_wp2
      have hL4 := HL2.out
      have d1 : ∀ p : BelowP w4, p.to.cell? ⟨r, 0, none⟩ = some (.slice (some ⟨gn, 0, none⟩) n cn) := fun p => (hL4.blk.kept1 p.h).cell 0
      have d2 : ∀ p : BelowP w4, p.to.cell? ⟨r, 1, none⟩ = some (.slice (some ⟨gk, 0, none⟩) n ck) := fun p => (hL4.blk.kept1 p.h).cell 1
      have d3 : ∀ p : BelowP w4, p.to.cell? ⟨gn, i, none⟩ = some (.string t) := fun p => by
        rw [((hL4.kept1 p.h).now.2 i hlt).1, strF, ← hstep.out i, upd_same]
      clear hL4 hw4 q1 q2 c0
      refine wp_region_tail_below 13 mixed (by kernel_rfl) ?_
      simp only [List.take_succ_cons, List.take_zero, List.drop_succ_cons, List.drop_zero]
      repeat (go_big_quiet_step (fail))
      refine wpQuiet_nil ?_
      intro w0q hw'
      obtain ⟨⟨wq, bq⟩, hw''⟩ := hw'
      have hw2 : wq = w0q := hw''.symm
      clear hw''
      subst hw2
      have hL5 := HL2.out.kept1 bq
      have hz5 : Zone w.heap.size w1.heap.size w1 wq := HZ2.out.trans (Zone.of_below bq _ _)
      obtain ⟨q1, q2⟩ : wq.cell? ⟨gk, i, none⟩ = some (.string (opnF s i i)) ∧ wq.frozen? ⟨gk, i, none⟩ = false := hL5.was.2 i hlt
      have HL6 := Lib.hid (hL5.was' hlt t hstep.out)
      have HZ6 := Lib.hid (hz5.set (p := ⟨gk, i, none⟩) hL5.zk.1 hL5.zk.2 (.string t))
      clear hL5 hz5 d1 d2 d3 HL2 HZ2 bq
      go_wp2
      exact ⟨⟨i + 1, by go_num, by omega, HL6.out, HZ6.out⟩, by simp [intOf]; omega⟩
    · obtain rfl : i = n := by omega
      have hR := (hL.congr (f' := blkOf 128 s) (g' := blkOf 128 s) (fun j hj => by unfold opnF; rw [if_pos hj]) (fun j hj => by unfold opnF; rw [if_pos hj])).ref (fresh_ok h1 h2 fun b hb => blkOf_size HS.out hb)
      have hzs := hz.size
      have hR2 : RefAt r w.heap.size wr.heap.size (freshSt i (blkOf 128 s)) wr := by
        have zd := hR.zd; have zn := hR.zn; have zk := hR.zk; have zp := hR.zp
        exact ⟨gn, gk, gp, cn, ck, cp, hR.ok, hR.blk, hR.now, hR.was, hR.pend, hR.cn, hR.ck, hR.cp, by omega, by omega, by omega, by omega, Nat.le_refl _, hR.a1, hR.a2, hR.a3, hR.a4, hR.a5, hR.a6⟩
      have HR := Lib.hid hR2
      have HBB := Lib.hid (HB.out.trans (hz.below hsz (Nat.le_refl _)))
      clear hR hR2 hL hz HL
      go_wp2
      go_ret2
      exact ⟨r, rfl, HR.out, HBB.out⟩
theorem ropen_no (s : ByteArray) (h : s.size = 0 ∨ s.size % 128 ≠ 0 ∨ 4096 < s.size / 128) (hs : s.size ≤ maxLen) (w : World) :
    Calls Try.prog 36 #[.string s] w fun e w' => e = .returned (.tuple #[.pointer none, .int .i64 2]) ∧ w = w' := by
  unfold maxLen at hs
  by_cases h3 : s.size % 128 = 0
  · have t2 : (s.size : Int) % 128 = 0 := by omega
    have N := Lib.hid (rnew_no ((s.size : Int) / 128) (by omega))
    clear h h3
    go_enter Try.func36, Try.ntmps36
    go_wp2_with fail
    refine (N.out _).mono ?_; rintro e w' ⟨rfl, rfl⟩
    go_wp2
    go_ret2
    exact ⟨rfl, rfl⟩
  · have t2 : ((s.size : Int) % 128 != 0) = true := by rw [bne_iff_ne]; omega
    clear h h3
    go_enter Try.func36, Try.ntmps36
    go_wp2
    go_ret2
    exact ⟨rfl, rfl⟩
end Go.Proofs.Ytgdnlkoncajaoaa
