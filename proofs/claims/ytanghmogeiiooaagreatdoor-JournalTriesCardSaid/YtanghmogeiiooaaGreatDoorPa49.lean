import Derived.Test.YtanghmogeiiooaaGreatDoorPa47
import Derived.Test.YtanghmogeiiooaaGreatDoorPa48
import Derived.Test.YtanghmogeiiooaaGreatDoorPa22
import Derived.Test.YtanghmogeiiooaaGreatDoorPa41
set_option linter.unusedVariables false
set_option linter.unusedSimpArgs false
set_option linter.constructorNameAsVariable false
/- step, where its transaction fits. -/
namespace Go.Proofs.YtanghmogeiiooaaGreatDoor
set_option linter.unusedVariables false
set_option linter.unusedSimpArgs false
open Go.RowKit

/-- how a step ends, with the array that it answers -/
def Stepped (B wd d lo hi g b l i m t da : Nat) (S : St) (N : Nat) (want : Nat → Nat) (c : Int) (r : Nat → Nat) (w : World) : Prop :=
  (c = 0 ∧ ∃ S' p' q' used' ts' home', S'.acts ≤ S.acts + 80 ∧ (S.left < 0 → S'.left < 0) ∧ q' + ts'.length ≤ N ∧ LwMem B wd d lo hi g b l i m t da S' p' q' used' ts' home' r w) ∨
  (c = 61 ∧ ¬ S.left < 0 ∧ (∀ k, r k < 256) ∧ ∃ S' home', (S'.acts ≤ S.acts + 80 ∧ S'.n = S.n) ∧ DevAt d lo hi S' w ∧ WldAt wd b l i m t d g home' want w ∧ ∀ S'', Left S' S'' → Tells S'' l b da N want ∨ Tells S'' l b da N r)
section
variable {B wd d lo hi g b l i m t da lo2 hi2 N : Nat} {S : St} {want r home : Nat → Nat} {c : Int} {w w' : World}
theorem Stepped.keptZ (h : Stepped B wd d lo hi g b l i m t da S N want c r w) (z : Zone lo2 hi2 w w') (hg : g < lo2) (hh : hi ≤ lo2) (hw : wd < lo2) : Stepped B wd d lo hi g b l i m t da S N want c r w' := by
  rcases h with ⟨h1, S', p', q', u', ts', ho', a1, a2, a3, a4⟩ | ⟨h1, h2, h3, S', ho', a1, a2, a3, a4⟩
  · exact .inl ⟨h1, S', p', q', u', ts', ho', a1, a2, a3, a4.keptZ z hg⟩
  · exact .inr ⟨h1, h2, h3, S', ho', a1, a2.kept z (.inl hh), Blk.kept a3 z (.inl hw), a4⟩
theorem LawZ.then {lo3 hi3 : Nat} (h : LawZ lo hi g wd w w') {a : World} (z : Zone lo3 hi3 w' a) (hl : w.heap.size ≤ lo3) : LawZ lo hi g wd w a :=
  ⟨z.os.trans h.os, z.tape.trans h.tape, z.output.trans h.output, Nat.le_trans h.size z.size, fun k hk h1 h2 h3 => (z.block k (Nat.lt_of_lt_of_le hk h.size) (.inl (by omega))).trans (h.block k hk h1 h2 h3)⟩
set_option maxHeartbeats 4000000 in
set_option maxRecDepth 100000 in
theorem WldAt.setWant (h : WldAt wd b l i m t d g home want w) (f : Nat → Nat) : WldAt wd b l i m t d g home f (w.setCells wd 23 (arr12 f).toList) := by
  have h0 := Blk.set h 23 (.int .u8 (f 0 : Int))
  have h1 := Blk.set h0 24 (.int .u8 (f 1 : Int))
  have h2 := Blk.set h1 25 (.int .u8 (f 2 : Int))
  have h3 := Blk.set h2 26 (.int .u8 (f 3 : Int))
  have h4 := Blk.set h3 27 (.int .u8 (f 4 : Int))
  have h5 := Blk.set h4 28 (.int .u8 (f 5 : Int))
  have h6 := Blk.set h5 29 (.int .u8 (f 6 : Int))
  have h7 := Blk.set h6 30 (.int .u8 (f 7 : Int))
  have h8 := Blk.set h7 31 (.int .u8 (f 8 : Int))
  have h9 := Blk.set h8 32 (.int .u8 (f 9 : Int))
  have h10 := Blk.set h9 33 (.int .u8 (f 10 : Int))
  have h11 := Blk.set h10 34 (.int .u8 (f 11 : Int))
  simp only [List.setIfInBounds_toArray, List.set_cons_zero, List.set_cons_succ] at h11
  exact h11
theorem WldAt.wantThere (h : WldAt wd b l i m t d g home want w) : w.there wd 23 12 := fun j hj => ⟨by rw [h.wantAt hj]; rfl, Blk.frozen h (23 + j)⟩
end
theorem blk_range {g : Nat} {cs : Array Value} {T : TypeId} {w : World} (h : Blk g cs T w) : w.rangeAt g 0 cs.toList := fun j v hj => by
  rw [Nat.zero_add, Blk.cell h, ← Array.getElem?_toList]; exact hj
theorem wpList_store_txnZ {ops : Array Oper} {rest : List Oper} {o : Oper} {a : Act} {w : World} {Q : Exit → Act → World → Prop} (hgd : o.guard = none) (x y : Operand) (ho : o.op = .store 64 x y)
    {g : Nat} (a1 a2 : Option Addr) (n1 n2 c1 c2 : Nat) (hx : a.eval x = .pointer (some ⟨g, 0, none⟩)) (hy : a.eval y = .agg #[.slice a1 n1 c1, .slice a2 n2 c2])
    (old : Array Value) (hold : old.size = 2) (hg : Blk g old 64 w)
    (h : ∀ w2, Blk g #[.slice a1 n1 c1, .slice a2 n2 c2] 64 w2 → Zone g (g + 1) w w2 → wpList Tryz.prog ops Q rest (a.put o.dst undef) w2) : wpList Tryz.prog ops Q (o :: rest) a w :=
  wpList_store_row hgd _ x y ho g #[.slice a1 n1 c1, .slice a2 n2 c2] hx hy _ _ hg txn_sz hold (by simp [Value.oneCell'])
    (h _ (setRow_heap w g _ _ _ _ hg) ⟨rfl, rfl, rfl, by simp, fun j _ hj => setRow_other w g j _ (by omega)⟩)
set_option maxRecDepth 100000 in
set_option maxHeartbeats 4000000 in
theorem step_fits {B wd d lo hi g b l i m t da p q used : Nat} {S : St} {ts : List Tx} {home want : Nat → Nat} (hok : okN b l i m t) (hf : Fit12 l b da) (hda : da = 1 + l + m + t) (ha : S.acts ≤ 800 * 1000) (hq : q + ts.length + 1 < 18446744073709551615) (x : StepX) (hx3 : x.kind % 4 ≠ 3)
    (hfit : used + sizeT (stepL da (chgB x.chg) fun k => (x.fill + k) % 256).length (stepR da (chgB x.chg) (chgB x.rev)).length ≤ l - 1) (vc vr : Value) (w : World) (h : LwMem B wd d lo hi g b l i m t da S p q used ts home want w) (hx : StepIn x vc vr w) (ht : Tab w) :
    Calls Tryz.prog 10 #[.pointer (some ⟨wd, 0, none⟩), stepV x vc vr] w fun e w' => LawZ lo hi g wd w w' ∧ ∃ (c : Int) (r : Nat → Nat), e = .returned (.tuple #[.agg (arr12 r), .int .i64 c]) ∧ Stepped B wd d lo hi g b l i m t da S (q + ts.length + 1) want c r w' := by
  have mixed : Tryz.prog.follows .mixedOrders = true := by kernel_rfl
  have gs : Tryz.prog.stoodInHeld 45 = false := by kernel_rfl
  have gt : Tryz.prog.stoodInHeld 64 = false := by kernel_rfl
  have hgl := Blk.lt h.log
  have o1 := h.o1; have o2 := h.o2; have olh := h.dev.lohi
  obtain ⟨sb, hsb⟩ : ∃ sb, w.heap.size = sb := ⟨_, rfl⟩
  obtain ⟨wA, hwA⟩ : ∃ wA, w.alloc (.cells (stepC x vc vr) 45) = wA := ⟨_, rfl⟩
  obtain ⟨wB, hwB⟩ : ∃ wB, wA.alloc (.cells #[.int .u8 0, .int .u8 0, .int .u8 0, .int .u8 0, .int .u8 0, .int .u8 0, .int .u8 0, .int .u8 0, .int .u8 0, .int .u8 0, .int .u8 0, .int .u8 0] 36) = wB := ⟨_, rfl⟩
  have sA : wA.heap.size = sb + 1 := by rw [← hwA, size_alloc, hsb]
  have sB : wB.heap.size = sb + 2 := by rw [← hwB, size_alloc, sA]
  have bA : Below w.heap.size w wA := by rw [← hwA]; exact balloc1 _ _
  have bB : Below wA.heap.size wA wB := by rw [← hwB]; exact balloc1 _ _
  have kA : Blk sb (stepC x vc vr) 45 wB := by
    have : Blk sb (stepC x vc vr) 45 wA := by rw [← hwA, ← hsb]; exact Blk.new _ _ _
    exact this.kept1 bB
  have kB : Blk (sb + 1) (arr12 fun _ => 0) 36 wB := by rw [← hwB, ← sA]; exact Blk.new _ _ _
  have bwB : Below w.heap.size w wB := bnext bA bB
  have MB := h.kept1 bwB
  have TX := Lib.hid (txn_any hf hda x vc vr wB MB (hx.kept bwB))
  have CM := Lib.hid fun va vb vd w' hm ht hc hr hd => commit_lw (B := B) (wd := wd) (d := d) (lo := lo) (hi := hi) (g := g) (i := i) (m := m) (t := t) (p := p) (q := q) (used := used) (ts := ts) (home := home) (want := want) (nx := fun k => (x.fill + k) % 256) (chg := chgB x.chg) (rev := chgB x.rev) (data := x.data) (f := x.fill) hok hf ha hq va vb vd w' hm ht hc hr hd
  obtain ⟨n1, hn1⟩ : ∃ n1, nextOf (chgB x.chg) (chgB x.rev) (fun k => (x.fill + k) % 256) home want = n1 := ⟨_, rfl⟩
  have hn1b : ∀ k, n1 k < 256 := fun k => by rw [← hn1]; exact next_lt (fun k => Nat.mod_lt _ (by omega)) h.bh h.bw k
  unfold Committed at CM
  rw [hn1] at TX CM
  have HK := Lib.hid kB
  have e0 := kA.cell 0
  have e1 := kA.cell 1
  have e2 := kA.cell 2
  have e3 := kA.cell 3
  have e4 := kA.cell 4
  simp only [List.getElem?_toArray, List.getElem?_cons_zero, List.getElem?_cons_succ] at e0 e1 e2 e3 e4
  obtain ⟨kk, hkk⟩ : ∃ kk, x.kind % 4 = kk := ⟨_, rfl⟩
  have hk2 : (x.kind : Int) % 4 = (kk : Int) := by omega
  have hk3 : ((kk : Int) == 3) = false := by rw [beq_eq_false_iff_ne]; omega
  have HWA := Lib.hid hwA
  have HWB := Lib.hid hwB
  have HSA := Lib.hid sA
  have HSB := Lib.hid hsb
  have HBB := Lib.hid bwB
  have HMB := Lib.hid MB
  have HT := Lib.hid ht
  have HFT := Lib.hid hfit
  have hbw := h.bw; have hbh := h.bh; have hbot := h.bot
  have HN1 := Lib.hid hn1b
  have HBW := Lib.hid (And.intro hbw (And.intro hbh hbot))
  obtain ⟨ac, cc, rfl, c1, c2⟩ := u8In_len hx.vc
  obtain ⟨ar, cr, rfl, r1, r2⟩ := u8In_len hx.vr
  clear h hx hwA hwB sA bA bB kA kB bwB MB hok hf hda hsb hn1 hn1b ht hfit hbw hbh hbot hkk
  go_enter Tryz.func10, Tryz.ntmps10
  go_upto_region 1 with fail
  rw [HWA.out]
  try rw [HSA.out]
  rw [HWB.out]
  try rw [HSB.out]
  go_wp2_with fail
  refine TX.out.mono ?_; rintro e w3 ⟨va, vb, vd, rfl, hva, hvb, hvd, b3⟩
  obtain ⟨a1, c3, ev, -⟩ := shape_of hva
  obtain ⟨a2, c4, eb, -⟩ := shape_of hvb
  obtain ⟨a3, c5, ed, -⟩ := shape_of hvd
  generalize hna : (stepL da (chgB x.chg) fun k => (x.fill + k) % 256).length = na at ev
  generalize hnb : (stepR da (chgB x.chg) (chgB x.rev)).length = nb at eb
  generalize hnd : (stepD da x.data x.fill).length = nd at ed
  subst ev eb ed
  have HW3 := Lib.hid (show sb + 2 ≤ w3.heap.size by have := b3.size; omega)
  have HTB := Lib.hid (Blk.kept1 (Blk.new #[.slice none 0 0, .slice none 0 0] 64 w3) (balloc1 _ (.cells #[.int .u8 0, .int .u8 0, .int .u8 0, .int .u8 0, .int .u8 0, .int .u8 0, .int .u8 0, .int .u8 0, .int .u8 0, .int .u8 0, .int .u8 0, .int .u8 0] 36)))
  have HNB := Lib.hid (Blk.new #[.int .u8 0, .int .u8 0, .int .u8 0, .int .u8 0, .int .u8 0, .int .u8 0, .int .u8 0, .int .u8 0, .int .u8 0, .int .u8 0, .int .u8 0, .int .u8 0] 36 (w3.alloc (.cells #[.slice none 0 0, .slice none 0 0] 64)))
  rw [size_alloc] at HNB
  have HB3 := Lib.hid b3
  have HVA := Lib.hid hva
  have HVB := Lib.hid hvb
  have HVD := Lib.hid hvd
  clear hva hvb hvd b3 hna hnb hnd e0 e1 e2 e3 e4 TX
  go_wp2_with (first | (refine wpList_store_txnZ rfl _ _ rfl a1 a2 na nb c3 c4 rfl rfl _ rfl HTB.out ?_; intro w5 k5 z5; have HN5 := Lib.hid (HNB.out.kept z5 (.inr (Nat.le_refl _)))) | (refine wpList_store_nextZ rfl _ _ rfl n1 rfl rfl _ rfl HN5.out ?_; intro w6 k6 z6))
  have b36 : Below w3.heap.size w3 w6 := ((balloc (balloc1 w3 _) _).trans (z5.below (B := w3.heap.size) (by rw [size_alloc, size_alloc]; omega) (Nat.le_refl _))).trans (z6.below (B := w3.heap.size) (by have := z5.size; rw [size_alloc, size_alloc] at this; omega) (by omega))
  have HK5 := Lib.hid (k5.kept z6 (.inl (Nat.lt_succ_self _)))
  have HM6 := Lib.hid ((HMB.out.kept1 HB3.out).kept1 b36)
  have HR6 := Lib.hid ((HK.out.kept1 HB3.out).kept1 b36)
  have HV6 := Lib.hid (And.intro (row_kept HVA.out b36) (And.intro (row_kept HVB.out b36) (row_kept HVD.out b36)))
  have HB6 := Lib.hid (bnext (bnext HBB.out HB3.out) b36)
  have HK6 := Lib.hid k6
  have hs6 := b36.size
  clear HTB HNB k5 z5 HN5 k6 z6 b36 HVA HVB HVD HMB HK HB3
  have g10 := fun p : BelowP w6 => (HM6.out.kept1 p.h).wld.log
  have t0 := fun p : BelowP w6 => (HK5.out.kept1 p.h).cell 0
  have t1 := fun p : BelowP w6 => (HK5.out.kept1 p.h).cell 1
  simp only [List.getElem?_toArray, List.getElem?_cons_zero, List.getElem?_cons_succ] at t0 t1
  try simp only [Act.put]
  refine wp_region_tail_below 6 mixed (by kernel_rfl) ?_
  simp only [List.take_succ_cons, List.take_zero, List.drop_succ_cons, List.drop_zero]
  repeat (go_big_quiet_step (fail))
  refine wpQuiet_nil ?_
  intro w0q hw'
  obtain ⟨⟨wq, bq⟩, hw''⟩ := hw'
  have hw2 : wq = w0q := hw''.symm
  clear hw''
  subst hw2
  have HCQ := Lib.hid (CM.out _ _ _ wq (HM6.out.kept1 bq) (tabOf HT.out (bnext HB6.out bq)) (ownRow_in (row_kept HV6.out.1 bq)) (ownRow_in (row_kept HV6.out.2.1 bq)) (ownRow_in (row_kept HV6.out.2.2 bq)))
  have HBq := Lib.hid (bnext HB6.out bq)
  have HRq := Lib.hid (HR6.out.kept1 bq)
  have HNq := Lib.hid (HK6.out.kept1 bq)
  have hsq := bq.size
  clear g10 t0 t1 bq HM6 HK5 HR6 HV6 HB6 HK6 CM
  go_wp2_with fail
  refine HCQ.out.mono ?_; rintro e w7 ⟨z7, ⟨rfl, -, S', a1', a2', hn7⟩ | ⟨rfl, hno, -⟩ | ⟨rfl, hnl, S', a1', hd7, hw7, ht7⟩⟩
  · have HR7 := Lib.hid (z7.blk HRq.out (.inr (by have := HSB.out; omega)) (by have := HSB.out; omega))
    have HB7 := Lib.hid (z7.blk HNq.out (.inr (by have := HSB.out; have := HW3.out; omega)) (by have := HSB.out; have := HW3.out; omega))
    have zs := zone_sets wd w7 23 (arr12 n1).toList
    obtain ⟨w8, hw8⟩ : ∃ w8, w7.setCells wd 23 (arr12 n1).toList = w8 := ⟨_, rfl⟩
    have hwl8 := hn7.wld.setWant n1
    rw [hw8] at zs hwl8
    have HTH := Lib.hid hn7.wld.wantThere
    have HBR := Lib.hid (blk_range HB7.out)
    have hwdw : wd < sb := by have := HSB.out; omega
    have HR8 := Lib.hid (HR7.out.kept zs (.inr (by omega)))
    have HB8 := Lib.hid (HB7.out.kept zs (.inr (by have := HW3.out; omega)))
    have hL8 : LwMem B wd d lo hi g b l i m t da S' p q (used + sizeT (stepL da (chgB x.chg) fun k => (x.fill + k) % 256).length (stepR da (chgB x.chg) (chgB x.rev)).length) (ts ++ [⟨stepL da (chgB x.chg) fun k => (x.fill + k) % 256, stepR da (chgB x.chg) (chgB x.rev)⟩]) home n1 w8 :=
      ⟨hwl8, hn7.dev.kept zs (.inr (by omega)), Blk.kept hn7.log zs (.inr (by omega)), hn7.pure, HBW.out.2.1, HN1.out, HBW.out.2.2, o1, o2⟩
    have hZ8 : LawZ lo hi g wd w w8 := ((LawZ.of_below HBq.out).trans (.of_logz z7)).trans (.of_one zs)
    have HFIN := Lib.hid fun (w9 : World) (z9 : Zone (sb + 1) (sb + 1 + 1) w8 w9) => And.intro (hZ8.then z9 (by have := HSB.out; omega)) (show Stepped B wd d lo hi g b l i m t da S (q + ts.length + 1) want 0 n1 w9 from .inl ⟨rfl, S', _, _, _, _, _, by omega, a2', by rw [List.length_append]; exact Nat.le_refl _, hL8.keptZ z9 (by have := HSB.out; omega)⟩)
    have HW8 := Lib.hid hw8
    clear zs hw8 hwl8 hL8 hZ8 hn7 z7 HCQ HBq HRq HNq a1' a2' HR7
    go_upto_region 13 with (first | (refine wpList_load_mid rfl _ _ rfl (w3.heap.size + 1) 0 rfl (arr12 n1).toList _ HBR.out Tryz.underlying36 rfl arr12_info ?_) | (refine wpList_store_mid rfl _ _ _ rfl wd 23 (arr12 n1) rfl rfl HTH.out arr12_info (by simp [Value.oneCell']) ?_))
    rw [HW8.out]
    clear HW8 HTH HBR HB7
    have HBR8 := Lib.hid (blk_range HB8.out)
    clear HB8
    go_wp2_with (first | (refine wpList_load_mid rfl _ _ rfl (w3.heap.size + 1) 0 rfl (arr12 n1).toList _ HBR8.out Tryz.underlying36 rfl arr12_info ?_) | (refine wpList_store_nextZ rfl _ _ rfl n1 rfl rfl _ rfl HR8.out ?_; intro w9 k9 z9; have HF9 := Lib.hid (HFIN.out w9 z9)))
    exact bodyPost_ret (results_ct (P := Tryz.prog) rfl _ _ (sb + 1) (arr12 n1) _ rfl k9 Tryz.underlying36 rfl arr12_info _ rfl) rfl ⟨HF9.out.1, _, n1, rfl, HF9.out.2⟩
  · have := HFT.out
    omega
  · have HR8 := Lib.hid (z7.blk HRq.out (.inr (by have := HSB.out; omega)) (by have := HSB.out; omega))
    have HB8 := Lib.hid (z7.blk HNq.out (.inr (by have := HSB.out; have := HW3.out; omega)) (by have := HSB.out; have := HW3.out; omega))
    have hZ8 : LawZ lo hi g wd w w7 := (LawZ.of_below HBq.out).trans (.of_logz z7)
    obtain ⟨w8, hw8⟩ : ∃ w8, w7 = w8 := ⟨_, rfl⟩
    rw [hw8] at HR8 HB8 hZ8 hd7 hw7
    have HFIN := Lib.hid fun (w9 : World) (z9 : Zone (sb + 1) (sb + 1 + 1) w8 w9) => And.intro (hZ8.then z9 (by have := HSB.out; omega)) (show Stepped B wd d lo hi g b l i m t da S (q + ts.length + 1) want 61 n1 w9 from .inr ⟨rfl, by omega, HN1.out, S', home, by omega, hd7.kept z9 (.inl (by have := HSB.out; omega)), Blk.kept hw7 z9 (.inl (by have := HSB.out; omega)), ht7⟩)
    have HW8 := Lib.hid hw8
    clear hw8 hZ8 hd7 hw7 ht7 z7 HCQ HBq HRq HNq a1' hnl
    go_upto_region 13 with fail
    rw [HW8.out]
    clear HW8
    have HBR8 := Lib.hid (blk_range HB8.out)
    clear HB8
    go_wp2_with (first | (refine wpList_load_mid rfl _ _ rfl (w3.heap.size + 1) 0 rfl (arr12 n1).toList _ HBR8.out Tryz.underlying36 rfl arr12_info ?_) | (refine wpList_store_nextZ rfl _ _ rfl n1 rfl rfl _ rfl HR8.out ?_; intro w9 k9 z9; have HF9 := Lib.hid (HFIN.out w9 z9)))
    exact bodyPost_ret (results_ct (P := Tryz.prog) rfl _ _ (sb + 1) (arr12 n1) _ rfl k9 Tryz.underlying36 rfl arr12_info _ rfl) rfl ⟨HF9.out.1, _, n1, rfl, HF9.out.2⟩
end Go.Proofs.YtanghmogeiiooaaGreatDoor

/- step, where its transaction does not fit at first. -/
namespace Go.Proofs.YtanghmogeiiooaaGreatDoor
set_option linter.unusedVariables false
set_option linter.unusedSimpArgs false
open Go.RowKit

theorem tells_up {S : St} {l b da N : Nat} {f : Nat → Nat} (h : Tells S l b da N f) : Tells S l b da (N + 1) f := by
  obtain ⟨p, q, used, ts, h1, ⟨h2, h3⟩, h4⟩ := h
  exact ⟨p, q, used, ts, h1, ⟨by omega, h3⟩, h4⟩
set_option maxRecDepth 100000 in
set_option maxHeartbeats 4000000 in
theorem step_full {B wd d lo hi g b l i m t da p q used : Nat} {S : St} {ts : List Tx} {home want : Nat → Nat} (hok : okN b l i m t) (hf : Fit12 l b da) (hda : da = 1 + l + m + t) (ha : S.acts ≤ 700 * 1000) (hq : q + ts.length + 1 < 18446744073709551615) (x : StepX) (hx3 : x.kind % 4 ≠ 3)
    (hfull : l - 1 < used + sizeT (stepL da (chgB x.chg) fun k => (x.fill + k) % 256).length (stepR da (chgB x.chg) (chgB x.rev)).length) (vc vr : Value) (w : World) (h : LwMem B wd d lo hi g b l i m t da S p q used ts home want w) (hx : ∀ w', LawZ lo hi g wd w w' → StepIn x vc vr w') (ht : ∀ w', LawZ lo hi g wd w w' → Tab w') :
    Calls Tryz.prog 10 #[.pointer (some ⟨wd, 0, none⟩), stepV x vc vr] w fun e w' => LawZ lo hi g wd w w' ∧ ∃ (c : Int) (r : Nat → Nat), e = .returned (.tuple #[.agg (arr12 r), .int .i64 c]) ∧ Stepped B wd d lo hi g b l i m t da S (q + ts.length + 1) want c r w' := by
  have mixed : Tryz.prog.follows .mixedOrders = true := by kernel_rfl
  have gs : Tryz.prog.stoodInHeld 45 = false := by kernel_rfl
  have gt : Tryz.prog.stoodInHeld 64 = false := by kernel_rfl
  have hgl := Blk.lt h.log
  have o1 := h.o1; have o2 := h.o2; have olh := h.dev.lohi
  obtain ⟨sb, hsb⟩ : ∃ sb, w.heap.size = sb := ⟨_, rfl⟩
  obtain ⟨wA, hwA⟩ : ∃ wA, w.alloc (.cells (stepC x vc vr) 45) = wA := ⟨_, rfl⟩
  obtain ⟨wB, hwB⟩ : ∃ wB, wA.alloc (.cells #[.int .u8 0, .int .u8 0, .int .u8 0, .int .u8 0, .int .u8 0, .int .u8 0, .int .u8 0, .int .u8 0, .int .u8 0, .int .u8 0, .int .u8 0, .int .u8 0] 36) = wB := ⟨_, rfl⟩
  have sA : wA.heap.size = sb + 1 := by rw [← hwA, size_alloc, hsb]
  have sB : wB.heap.size = sb + 2 := by rw [← hwB, size_alloc, sA]
  have bA : Below w.heap.size w wA := by rw [← hwA]; exact balloc1 _ _
  have bB : Below wA.heap.size wA wB := by rw [← hwB]; exact balloc1 _ _
  have kA : Blk sb (stepC x vc vr) 45 wB := by
    have : Blk sb (stepC x vc vr) 45 wA := by rw [← hwA, ← hsb]; exact Blk.new _ _ _
    exact this.kept1 bB
  have kB : Blk (sb + 1) (arr12 fun _ => 0) 36 wB := by rw [← hwB, ← sA]; exact Blk.new _ _ _
  have bwB : Below w.heap.size w wB := bnext bA bB
  have MB := h.kept1 bwB
  have TX := Lib.hid (txn_any hf hda x vc vr wB MB ((hx w (.refl w)).kept bwB))
  have CM := Lib.hid fun va vb vd w' hm ht hc hr hd => commit_lw (S := S) (B := B) (wd := wd) (d := d) (lo := lo) (hi := hi) (g := g) (i := i) (m := m) (t := t) (p := p) (q := q) (used := used) (ts := ts) (home := home) (want := want) (nx := fun k => (x.fill + k) % 256) (chg := chgB x.chg) (rev := chgB x.rev) (data := x.data) (f := x.fill) hok hf (by omega) hq va vb vd w' hm ht hc hr hd
  have SE := Lib.hid fun w' hm => settle_any (B := B) (wd := wd) (d := d) (lo := lo) (hi := hi) (g := g) (i := i) (m := m) (t := t) (S := S) (p := p) (q := q) (used := used) (ts := ts) (home := home) (want := want) hok hf hda (by omega) w' hm
  have TX2 := Lib.hid fun S' p' q' ts' w' (hm : LwMem B wd d lo hi g b l i m t da S' p' q' 0 ts' want want w') hx' => txn_any hf hda x vc vr w' hm hx'
  have CM2 := Lib.hid fun S' p' q' ts' va vb vd w' (ha' : S'.acts ≤ 800 * 1000) (hq' : q' + ts'.length + 1 < 18446744073709551615) (hm : LwMem B wd d lo hi g b l i m t da S' p' q' 0 ts' want want w') ht hc hr hd => commit_lw (nx := fun k => (x.fill + k) % 256) (chg := chgB x.chg) (rev := chgB x.rev) (data := x.data) (f := x.fill) hok hf ha' hq' va vb vd w' hm ht hc hr hd
  obtain ⟨n2, hn2⟩ : ∃ n2, nextOf (chgB x.chg) (chgB x.rev) (fun k => (x.fill + k) % 256) want want = n2 := ⟨_, rfl⟩
  have hn2b : ∀ k, n2 k < 256 := fun k => by rw [← hn2]; exact next_lt (fun k => Nat.mod_lt _ (by omega)) h.bw h.bw k
  have HSZ := Lib.hid (step_size da (chgB x.chg) (chgB x.rev) fun k => (x.fill + k) % 256)
  have hl128 := hf.hl
  obtain ⟨n1, hn1⟩ : ∃ n1, nextOf (chgB x.chg) (chgB x.rev) (fun k => (x.fill + k) % 256) home want = n1 := ⟨_, rfl⟩
  have hn1b : ∀ k, n1 k < 256 := fun k => by rw [← hn1]; exact next_lt (fun k => Nat.mod_lt _ (by omega)) h.bh h.bw k
  unfold Committed at CM CM2
  rw [hn1] at TX CM
  rw [hn2] at TX2 CM2
  have HK := Lib.hid kB
  have HKA := Lib.hid kA
  have HN2 := Lib.hid hn2b
  have e0 := kA.cell 0
  have e1 := kA.cell 1
  have e2 := kA.cell 2
  have e3 := kA.cell 3
  have e4 := kA.cell 4
  simp only [List.getElem?_toArray, List.getElem?_cons_zero, List.getElem?_cons_succ] at e0 e1 e2 e3 e4
  obtain ⟨kk, hkk⟩ : ∃ kk, x.kind % 4 = kk := ⟨_, rfl⟩
  have hk2 : (x.kind : Int) % 4 = (kk : Int) := by omega
  have hk3 : ((kk : Int) == 3) = false := by rw [beq_eq_false_iff_ne]; omega
  have HWA := Lib.hid hwA
  have HWB := Lib.hid hwB
  have HSA := Lib.hid sA
  have HSB := Lib.hid hsb
  have HBB := Lib.hid bwB
  have HMB := Lib.hid MB
  have HT := Lib.hid (ht w (.refl w))
  have HTT := Lib.hid ht
  have HX := Lib.hid hx
  have HFT := Lib.hid hfull
  have hbw := h.bw; have hbh := h.bh; have hbot := h.bot
  have HNN := Lib.hid h.pure.n
  have HN1 := Lib.hid hn1b
  have HBW := Lib.hid (And.intro hbw (And.intro hbh hbot))
  obtain ⟨ac, cc, rfl, c1, c2⟩ := u8In_len (hx w (.refl w)).vc
  obtain ⟨ar, cr, rfl, r1, r2⟩ := u8In_len (hx w (.refl w)).vr
  clear h hx hwA hwB sA bA bB kA kB bwB MB hok hf hda hsb hn1 hn1b hn2 hn2b ht hfull hbw hbh hbot hkk
  go_enter Tryz.func10, Tryz.ntmps10
  go_upto_region 1 with fail
  rw [HWA.out]
  try rw [HSA.out]
  rw [HWB.out]
  try rw [HSB.out]
  go_wp2_with fail
  refine TX.out.mono ?_; rintro e w3 ⟨va, vb, vd, rfl, hva, hvb, hvd, b3⟩
  obtain ⟨a1, c3, ev, -⟩ := shape_of hva
  obtain ⟨a2, c4, eb, -⟩ := shape_of hvb
  obtain ⟨a3, c5, ed, -⟩ := shape_of hvd
  generalize hna : (stepL da (chgB x.chg) fun k => (x.fill + k) % 256).length = na at ev
  generalize hnb : (stepR da (chgB x.chg) (chgB x.rev)).length = nb at eb
  generalize hnd : (stepD da x.data x.fill).length = nd at ed
  subst ev eb ed
  have HW3 := Lib.hid (show sb + 2 ≤ w3.heap.size by have := b3.size; omega)
  have HTB := Lib.hid (Blk.kept1 (Blk.new #[.slice none 0 0, .slice none 0 0] 64 w3) (balloc1 _ (.cells #[.int .u8 0, .int .u8 0, .int .u8 0, .int .u8 0, .int .u8 0, .int .u8 0, .int .u8 0, .int .u8 0, .int .u8 0, .int .u8 0, .int .u8 0, .int .u8 0] 36)))
  have HNB := Lib.hid (Blk.new #[.int .u8 0, .int .u8 0, .int .u8 0, .int .u8 0, .int .u8 0, .int .u8 0, .int .u8 0, .int .u8 0, .int .u8 0, .int .u8 0, .int .u8 0, .int .u8 0] 36 (w3.alloc (.cells #[.slice none 0 0, .slice none 0 0] 64)))
  rw [size_alloc] at HNB
  have HB3 := Lib.hid b3
  have HVA := Lib.hid hva
  have HVB := Lib.hid hvb
  have HVD := Lib.hid hvd
  clear hva hvb hvd b3 hna hnb hnd e0 e1 e2 e3 e4 TX
  go_wp2_with (first | (refine wpList_store_txnZ rfl _ _ rfl a1 a2 na nb c3 c4 rfl rfl _ rfl HTB.out ?_; intro w5 k5 z5; have HN5 := Lib.hid (HNB.out.kept z5 (.inr (Nat.le_refl _)))) | (refine wpList_store_nextZ rfl _ _ rfl n1 rfl rfl _ rfl HN5.out ?_; intro w6 k6 z6))
  have b36 : Below w3.heap.size w3 w6 := ((balloc (balloc1 w3 _) _).trans (z5.below (B := w3.heap.size) (by rw [size_alloc, size_alloc]; omega) (Nat.le_refl _))).trans (z6.below (B := w3.heap.size) (by have := z5.size; rw [size_alloc, size_alloc] at this; omega) (by omega))
  have HK5 := Lib.hid (k5.kept z6 (.inl (Nat.lt_succ_self _)))
  have HM6 := Lib.hid ((HMB.out.kept1 HB3.out).kept1 b36)
  have HR6 := Lib.hid ((HK.out.kept1 HB3.out).kept1 b36)
  have HV6 := Lib.hid (And.intro (row_kept HVA.out b36) (And.intro (row_kept HVB.out b36) (row_kept HVD.out b36)))
  have HA6 := Lib.hid ((HKA.out.kept1 HB3.out).kept1 b36)
  have HB6 := Lib.hid (bnext (bnext HBB.out HB3.out) b36)
  have HK6 := Lib.hid k6
  have hs6 := b36.size
  clear HTB HNB k5 z5 HN5 k6 z6 b36 HVA HVB HVD HMB HK HKA HB3
  have g10 := fun p : BelowP w6 => (HM6.out.kept1 p.h).wld.log
  have t0 := fun p : BelowP w6 => (HK5.out.kept1 p.h).cell 0
  have t1 := fun p : BelowP w6 => (HK5.out.kept1 p.h).cell 1
  simp only [List.getElem?_toArray, List.getElem?_cons_zero, List.getElem?_cons_succ] at t0 t1
  try simp only [Act.put]
  refine wp_region_tail_below 6 mixed (by kernel_rfl) ?_
  simp only [List.take_succ_cons, List.take_zero, List.drop_succ_cons, List.drop_zero]
  repeat (go_big_quiet_step (fail))
  refine wpQuiet_nil ?_
  intro w0q hw'
  obtain ⟨⟨wq, bq⟩, hw''⟩ := hw'
  have hw2 : wq = w0q := hw''.symm
  clear hw''
  subst hw2
  have HCQ := Lib.hid (CM.out _ _ _ wq (HM6.out.kept1 bq) (tabOf HT.out (bnext HB6.out bq)) (ownRow_in (row_kept HV6.out.1 bq)) (ownRow_in (row_kept HV6.out.2.1 bq)) (ownRow_in (row_kept HV6.out.2.2 bq)))
  have HBq := Lib.hid (bnext HB6.out bq)
  have HRq := Lib.hid (HR6.out.kept1 bq)
  have HAq := Lib.hid (HA6.out.kept1 bq)
  have H5q := Lib.hid (HK5.out.kept1 bq)
  have HNq := Lib.hid (HK6.out.kept1 bq)
  have hsq := bq.size
  clear g10 t0 t1 bq HM6 HK5 HR6 HA6 HV6 HB6 HK6 CM
  go_wp2_with fail
  refine HCQ.out.mono ?_; rintro e w7 ⟨z7, ⟨rfl, hyes, -⟩ | ⟨rfl, hno, hM7⟩ | ⟨rfl, hnl, S', a1', hd7, hw7, ht7⟩⟩
  · have := HFT.out
    omega
  · have hZ7 : LawZ lo hi g wd w w7 := (LawZ.of_below HBq.out).trans (.of_logz z7)
    have up7 : ∀ (k : Nat) (cs : Array Value) (T : TypeId), sb ≤ k → Blk k cs T wq → Blk k cs T w7 := fun k cs T hk hb => z7.blk hb (.inr (by have := HSB.out; omega)) (by have := HSB.out; omega)
    have A7 := Lib.hid (up7 _ _ _ (Nat.le_refl _) HAq.out)
    have R7 := Lib.hid (up7 _ _ _ (Nat.le_succ _) HRq.out)
    have T7 := Lib.hid (up7 _ _ _ (by have := HW3.out; omega) H5q.out)
    have N7 := Lib.hid (up7 _ _ _ (by have := HW3.out; omega) HNq.out)
    have HS := Lib.hid (SE.out w7 hM7)
    have hs7 := z7.size
    have HZ7 := Lib.hid hZ7
    clear up7 z7 hM7 HCQ HBq HRq HNq HAq H5q SE hno hZ7
    go_wp2_with fail
    refine HS.out.mono ?_; rintro e w8 ⟨z8, ⟨rfl, S', p', q', ts', a1', a2', a3', hM8⟩ | ⟨rfl, hnl, S', a1', hd8, hw8, ht8⟩⟩
    · have HNM := Lib.hid hM8.pure.n
      have up8 : ∀ (k : Nat) (cs : Array Value) (T : TypeId), sb ≤ k → Blk k cs T w7 → Blk k cs T w8 := fun k cs T hk hb => z8.blk hb (.inr (by have := HSB.out; omega)) (by have := HSB.out; omega) (by have := HSB.out; omega)
      have A8 := up8 _ _ _ (Nat.le_refl _) A7.out
      have R8 := Lib.hid (up8 _ _ _ (Nat.le_succ _) R7.out)
      have T8 := Lib.hid (up8 _ _ _ (by have := HW3.out; omega) T7.out)
      have N8 := Lib.hid (up8 _ _ _ (by have := HW3.out; omega) N7.out)
      have HZ8 := Lib.hid (HZ7.out.trans z8)
      have TXB := Lib.hid (TX2.out S' p' q' ts' w8 hM8 (HX.out _ HZ8.out))
      have e0 := A8.cell 0
      have e1 := A8.cell 1
      have e2 := A8.cell 2
      have e3 := A8.cell 3
      have e4 := A8.cell 4
      simp only [List.getElem?_toArray, List.getElem?_cons_zero, List.getElem?_cons_succ] at e0 e1 e2 e3 e4
      have HM8 := Lib.hid hM8
      have hs8 := z8.size
      clear up8 A8 hM8 z8 HS HZ7 A7 R7 T7 N7 TX2 HX
      go_wp2_with fail
      refine TXB.out.mono ?_; rintro e wa ⟨va2, vb2, vd2, rfl, hva, hvb, hvd, b3⟩
      obtain ⟨f1, d3, ev, -⟩ := shape_of hva
      obtain ⟨f2, d4, eb, -⟩ := shape_of hvb
      obtain ⟨f3, d5, ed, -⟩ := shape_of hvd
      generalize hna : (stepL da (chgB x.chg) fun k => (x.fill + k) % 256).length = ma at ev
      generalize hnb : (stepR da (chgB x.chg) (chgB x.rev)).length = mb at eb
      generalize hnd : (stepD da x.data x.fill).length = md at ed
      subst ev eb ed
      have T9 := Lib.hid (T8.out.kept1 b3)
      have N9 := Lib.hid (N8.out.kept1 b3)
      have hn8 := N8.out.lt
      have M9 := Lib.hid (HM8.out.kept1 b3)
      have R9 := Lib.hid (R8.out.kept1 b3)
      have HZ9 := Lib.hid (HZ8.out.trans (.of_below b3))
      have HVA := Lib.hid hva
      have HVB := Lib.hid hvb
      have HVD := Lib.hid hvd
      clear hva hvb hvd b3 hna hnb hnd e0 e1 e2 e3 e4 TXB T8 N8 HM8 R8 HZ8
      go_wp2_with (first | (refine wpList_store_txnZ rfl _ _ rfl f1 f2 ma mb d3 d4 rfl rfl _ rfl T9.out ?_; intro w5b k5 z5; have N5 := Lib.hid (N9.out.kept z5 (.inr (Nat.le_refl _)))) | (refine wpList_store_nextZ rfl _ _ rfl n2 rfl rfl _ rfl N5.out ?_; intro w6b k6 z6))
      have hw3 := HW3.out
      have hsbw := HSB.out
      have HK5 := Lib.hid (k5.kept z6 (.inl (Nat.lt_succ_self _)))
      have HM6 := Lib.hid ((M9.out.keptZ z5 (by omega)).keptZ z6 (by omega))
      have HR6 := Lib.hid ((R9.out.kept z5 (.inl (by omega))).kept z6 (.inl (by omega)))
      have HV6 := Lib.hid (And.intro (row_zone (row_zone HVA.out z5 (by omega)) z6 (by omega)) (And.intro (row_zone (row_zone HVB.out z5 (by omega)) z6 (by omega)) (row_zone (row_zone HVD.out z5 (by omega)) z6 (by omega))))
      have HZ6 := Lib.hid ((HZ9.out.then z5 (by omega)).then z6 (by omega))
      have HK6 := Lib.hid k6
      clear k5 z5 N5 k6 z6 HVA HVB HVD T9 N9 M9 R9 HZ9
      have g10 := fun p : BelowP w6b => (HM6.out.kept1 p.h).wld.log
      have t0 := fun p : BelowP w6b => (HK5.out.kept1 p.h).cell 0
      have t1 := fun p : BelowP w6b => (HK5.out.kept1 p.h).cell 1
      simp only [List.getElem?_toArray, List.getElem?_cons_zero, List.getElem?_cons_succ] at t0 t1
      try simp only [Act.put]
      refine wp_region_tail_below 6 mixed (by kernel_rfl) ?_
      simp only [List.take_succ_cons, List.take_zero, List.drop_succ_cons, List.drop_zero]
      repeat (go_big_quiet_step (fail))
      refine wpQuiet_nil ?_
      intro w0q hw'
      obtain ⟨⟨wq, bq⟩, hw''⟩ := hw'
      have hw2 : wq = w0q := hw''.symm
      clear hw''
      subst hw2
      have hZq : LawZ lo hi g wd w wq := HZ6.out.trans (.of_below bq)
      have HCQ := Lib.hid (CM2.out S' p' q' ts' _ _ _ wq (by omega) (by omega) (HM6.out.kept1 bq) (HTT.out _ hZq) (ownRow_in (row_kept HV6.out.1 bq)) (ownRow_in (row_kept HV6.out.2.1 bq)) (ownRow_in (row_kept HV6.out.2.2 bq)))
      have HZq := Lib.hid hZq
      have HRq := Lib.hid (HR6.out.kept1 bq)
      have HNq := Lib.hid (HK6.out.kept1 bq)
      clear g10 t0 t1 bq HM6 HK5 HR6 HV6 HK6 CM2 hZq HZ6
      go_wp2_with fail
      refine HCQ.out.mono ?_; rintro e w7b ⟨z7, ⟨rfl, -, S2, b1', b2', hn7⟩ | ⟨rfl, hno, -⟩ | ⟨rfl, hnl, S2, b1', hd7, hw7, ht7⟩⟩
      · have HR7 := Lib.hid (z7.blk HRq.out (.inr (by omega)) (by omega))
        have HB7 := Lib.hid (z7.blk HNq.out (.inr (by omega)) (by omega))
        have zs := zone_sets wd w7b 23 (arr12 n2).toList
        obtain ⟨w8b, hw8⟩ : ∃ w8, w7b.setCells wd 23 (arr12 n2).toList = w8 := ⟨_, rfl⟩
        have hwl8 := hn7.wld.setWant n2
        rw [hw8] at zs hwl8
        have HTH := Lib.hid hn7.wld.wantThere
        have HBR := Lib.hid (blk_range HB7.out)
        have hwdw : wd < sb := by omega
        have HR8 := Lib.hid (HR7.out.kept zs (.inr (by omega)))
        have HB8 := Lib.hid (HB7.out.kept zs (.inr (by omega)))
        have hL8 : LwMem B wd d lo hi g b l i m t da S2 p' q' (0 + sizeT (stepL da (chgB x.chg) fun k => (x.fill + k) % 256).length (stepR da (chgB x.chg) (chgB x.rev)).length) (ts' ++ [⟨stepL da (chgB x.chg) fun k => (x.fill + k) % 256, stepR da (chgB x.chg) (chgB x.rev)⟩]) want n2 w8b :=
          ⟨hwl8, hn7.dev.kept zs (.inr (by omega)), Blk.kept hn7.log zs (.inr (by omega)), hn7.pure, HBW.out.1, HN2.out, HBW.out.2.2, o1, o2⟩
        have hZ8 : LawZ lo hi g wd w w8b := (HZq.out.trans (.of_logz z7)).trans (.of_one zs)
        have HFIN := Lib.hid fun (w9 : World) (z9 : Zone (sb + 1) (sb + 1 + 1) w8b w9) => And.intro (hZ8.then z9 (by omega)) (show Stepped B wd d lo hi g b l i m t da S (q + ts.length + 1) want 0 n2 w9 from .inl ⟨rfl, S2, _, _, _, _, _, by omega, fun hlt => b2' (a2' hlt), by rw [List.length_append, List.length_singleton]; omega, hL8.keptZ z9 (by omega)⟩)
        have HW8 := Lib.hid hw8
        clear zs hw8 hwl8 hL8 hZ8 hn7 z7 HCQ HRq HNq HR7
        go_upto_region 13 with (first | (refine wpList_load_mid rfl _ _ rfl (w3.heap.size + 1) 0 rfl (arr12 n2).toList _ HBR.out Tryz.underlying36 rfl arr12_info ?_) | (refine wpList_store_mid rfl _ _ _ rfl wd 23 (arr12 n2) rfl rfl HTH.out arr12_info (by simp [Value.oneCell']) ?_))
        rw [HW8.out]
        clear HW8 HTH HBR HB7
        have HBR8 := Lib.hid (blk_range HB8.out)
        clear HB8
        go_wp2_with (first | (refine wpList_load_mid rfl _ _ rfl (w3.heap.size + 1) 0 rfl (arr12 n2).toList _ HBR8.out Tryz.underlying36 rfl arr12_info ?_) | (refine wpList_store_nextZ rfl _ _ rfl n2 rfl rfl _ rfl HR8.out ?_; intro w9 k9 z9; have HF9 := Lib.hid (HFIN.out w9 z9)))
        exact bodyPost_ret (results_ct (P := Tryz.prog) rfl _ _ (sb + 1) (arr12 n2) _ rfl k9 Tryz.underlying36 rfl arr12_info _ rfl) rfl ⟨HF9.out.1, _, n2, rfl, HF9.out.2⟩
      · have := HSZ.out
        omega
      · have HR8 := Lib.hid (z7.blk HRq.out (.inr (by omega)) (by omega))
        have HB8 := Lib.hid (z7.blk HNq.out (.inr (by omega)) (by omega))
        have hZ8 : LawZ lo hi g wd w w7b := HZq.out.trans (.of_logz z7)
        have HFIN := Lib.hid fun (w9 : World) (z9 : Zone (sb + 1) (sb + 1 + 1) w7b w9) => And.intro (hZ8.then z9 (by omega)) (show Stepped B wd d lo hi g b l i m t da S (q + ts.length + 1) want 61 n2 w9 from .inr ⟨rfl, fun hlt => by have := a2' hlt; omega, HN2.out, S2, want, (by have h1 := HNN.out; have h2 := HNM.out; omega), hd7.kept z9 (.inl (by omega)), Blk.kept hw7 z9 (.inl (by omega)), fun S'' hL => by have := ht7 S'' hL; rw [a3'] at this; exact this⟩)
        clear hZ8 hd7 hw7 ht7 z7 HCQ HRq HNq
        go_upto_region 13 with fail
        have HBR8 := Lib.hid (blk_range HB8.out)
        clear HB8
        go_wp2_with (first | (refine wpList_load_mid rfl _ _ rfl (w3.heap.size + 1) 0 rfl (arr12 n2).toList _ HBR8.out Tryz.underlying36 rfl arr12_info ?_) | (refine wpList_store_nextZ rfl _ _ rfl n2 rfl rfl _ rfl HR8.out ?_; intro w9 k9 z9; have HF9 := Lib.hid (HFIN.out w9 z9)))
        exact bodyPost_ret (results_ct (P := Tryz.prog) rfl _ _ (sb + 1) (arr12 n2) _ rfl k9 Tryz.underlying36 rfl arr12_info _ rfl) rfl ⟨HF9.out.1, _, n2, rfl, HF9.out.2⟩
    · have R8 := Lib.hid (z8.blk R7.out (.inr (by have := HSB.out; omega)) (by have := HSB.out; omega) (by have := HSB.out; omega))
      have HR8 := R8
      have HWR8 := Lib.hid hw8.wantRange
      have hZ8 := HZ7.out.trans z8
      have HFIN := Lib.hid fun (w9 : World) (z9 : Zone (sb + 1) (sb + 1 + 1) w8 w9) => And.intro (hZ8.then z9 (by have := HSB.out; omega)) (show Stepped B wd d lo hi g b l i m t da S (q + ts.length + 1) want 61 want w9 from .inr ⟨rfl, by omega, HBW.out.1, S', home, by omega, hd8.kept z9 (.inl (by have := HSB.out; omega)), Blk.kept hw8 z9 (.inl (by have := HSB.out; omega)), fun S'' hL => .inl (tells_up (ht8 S'' hL))⟩)
      clear R8 hw8 hd8 ht8 z8 hZ8 HS A7 T7 N7 TX2 CM2
      go_wp2_with (first | (refine wpList_load_mid rfl _ _ rfl wd 23 rfl (arr12 want).toList _ HWR8.out Tryz.underlying36 rfl arr12_info ?_) | (refine wpList_store_nextZ rfl _ _ rfl want rfl rfl _ rfl HR8.out ?_; intro w9 k9 z9; have HF9 := Lib.hid (HFIN.out w9 z9)))
      exact bodyPost_ret (results_ct (P := Tryz.prog) rfl _ _ (sb + 1) (arr12 want) _ rfl k9 Tryz.underlying36 rfl arr12_info _ rfl) rfl ⟨HF9.out.1, _, want, rfl, HF9.out.2⟩
  · have HR8 := Lib.hid (z7.blk HRq.out (.inr (by have := HSB.out; omega)) (by have := HSB.out; omega))
    have HB8 := Lib.hid (z7.blk HNq.out (.inr (by have := HSB.out; have := HW3.out; omega)) (by have := HSB.out; have := HW3.out; omega))
    have hZ8 : LawZ lo hi g wd w w7 := (LawZ.of_below HBq.out).trans (.of_logz z7)
    obtain ⟨w8, hw8⟩ : ∃ w8, w7 = w8 := ⟨_, rfl⟩
    rw [hw8] at HR8 HB8 hZ8 hd7 hw7
    have HFIN := Lib.hid fun (w9 : World) (z9 : Zone (sb + 1) (sb + 1 + 1) w8 w9) => And.intro (hZ8.then z9 (by have := HSB.out; omega)) (show Stepped B wd d lo hi g b l i m t da S (q + ts.length + 1) want 61 n1 w9 from .inr ⟨rfl, by omega, HN1.out, S', home, by omega, hd7.kept z9 (.inl (by have := HSB.out; omega)), Blk.kept hw7 z9 (.inl (by have := HSB.out; omega)), ht7⟩)
    have HW8 := Lib.hid hw8
    clear hw8 hZ8 hd7 hw7 ht7 z7 HCQ HBq HRq HNq a1' hnl
    go_upto_region 13 with fail
    rw [HW8.out]
    clear HW8
    have HBR8 := Lib.hid (blk_range HB8.out)
    clear HB8
    go_wp2_with (first | (refine wpList_load_mid rfl _ _ rfl (w3.heap.size + 1) 0 rfl (arr12 n1).toList _ HBR8.out Tryz.underlying36 rfl arr12_info ?_) | (refine wpList_store_nextZ rfl _ _ rfl n1 rfl rfl _ rfl HR8.out ?_; intro w9 k9 z9; have HF9 := Lib.hid (HFIN.out w9 z9)))
    exact bodyPost_ret (results_ct (P := Tryz.prog) rfl _ _ (sb + 1) (arr12 n1) _ rfl k9 Tryz.underlying36 rfl arr12_info _ rfl) rfl ⟨HF9.out.1, _, n1, rfl, HF9.out.2⟩
end Go.Proofs.YtanghmogeiiooaaGreatDoor

/- step, whichever it is. -/
namespace Go.Proofs.YtanghmogeiiooaaGreatDoor
set_option linter.unusedVariables false
open Go.RowKit

theorem stepw_any {B wd d lo hi g b l i m t da p q used : Nat} {S : St} {ts : List Tx} {home want : Nat → Nat} (hok : okN b l i m t) (hf : Fit12 l b da) (hda : da = 1 + l + m + t) (ha : S.acts ≤ 700 * 1000) (hq : q + ts.length + 1 < 18446744073709551615) (x : StepX)
    (vc vr : Value) (w : World) (h : LwMem B wd d lo hi g b l i m t da S p q used ts home want w) (hx : ∀ w', LawZ lo hi g wd w w' → StepIn x vc vr w') (ht : ∀ w', LawZ lo hi g wd w w' → Tab w') :
    Calls Tryz.prog 10 #[.pointer (some ⟨wd, 0, none⟩), stepV x vc vr] w fun e w' => LawZ lo hi g wd w w' ∧ ∃ (c : Int) (r : Nat → Nat), e = .returned (.tuple #[.agg (arr12 r), .int .i64 c]) ∧ Stepped B wd d lo hi g b l i m t da S (q + ts.length + 1) want c r w' := by
  by_cases hx3 : x.kind % 4 = 3
  · refine (step_three hok hf hda (by omega) x hx3 vc vr w h (hx w (.refl w))).mono ?_
    rintro e w' ⟨z, c, he, hs⟩
    refine ⟨z, c, want, he, ?_⟩
    rcases hs with ⟨h0, S', p', q', ts', a1, a2, a3, a4⟩ | ⟨h0, a0, S', a1, a2, a3, a4⟩
    · have hc : c = 0 := by cases h0; rfl
      exact .inl ⟨hc, S', p', q', 0, ts', want, by omega, a2, by omega, a4⟩
    · have hc : c = 61 := by cases h0; rfl
      exact .inr ⟨hc, a0, h.bw, S', home, by omega, a2, a3, fun S'' hL => .inl (tells_up (a4 S'' hL))⟩
  · by_cases hfit : used + sizeT (stepL da (chgB x.chg) fun k => (x.fill + k) % 256).length (stepR da (chgB x.chg) (chgB x.rev)).length ≤ l - 1
    · exact step_fits hok hf hda (by omega) hq x hx3 hfit vc vr w h (hx w (.refl w)) (ht w (.refl w))
    · exact step_full hok hf hda ha hq x hx3 (by omega) vc vr w h hx ht
/-- the device, whatever is told of it, and whatever a failure leaves: the blocks as they were committed -/
theorem Wd.fails {S S' : St} {l b da p q used : Nat} {ts : List Tx} {home want : Nat → Nat} (hf : Fit12 l b da) (h : Wd S l b da p q used ts home want) (hL : Left S S') : Tells S' l b da (q + ts.length) want :=
  h.writes_left hf 0 hL
theorem Wd.armed {S : St} {l b da p q used : Nat} {ts : List Tx} {home want : Nat → Nat} (hl : 128 ≤ l ∧ l ≤ 512) (h : Wd S l b da p q used ts home want) (a : Int) : Wd (S.armed a) l b da p q used ts home want :=
  ⟨h.n, h.log.same hl fun x _ _ => rfl, ⟨h.homes.text, h.homes.net⟩, h.clean, h.sizes⟩
theorem replD_len (S : St) (b l : Nat) (r : List Tx × Nat) : (replD S b l r).length ≤ b + 3 := by
  unfold replD
  have : (writesD (homeL b (net r.1))).length ≤ b := by
    unfold writesD homeL
    rw [List.length_map]
    exact Nat.le_trans (List.length_filterMap_le _ _) (by rw [List.length_range]; exact Nat.le_refl _)
  rw [List.length_append]
  show _ + 3 ≤ _
  omega
theorem replay_pend (S : St) (b l : Nat) (r : List Tx × Nat) (x : Nat) : (runD S (replD S b l r)).pend x = false := by
  unfold replD
  rw [show ∀ (A : List Deed) (c : Deed), A ++ [.flush, c, .flush] = (A ++ [.flush, c]) ++ [.flush] from fun A c => by simp, runD_append]
  rfl
theorem pends_none {S : St} (h : ∀ x, S.pend x = false) : pends S = [] := by
  have : ∀ n, pendL S.pend n = [] := fun n => by
    induction n with
    | zero => rfl
    | succ n ih => unfold pendL; rw [if_neg (by rw [h n]; decide), ih]
  exact this _
/-- a replay of what is told, on a device that does not fail -/
theorem replay_tells {b l i m t da d lo hi N : Nat} (hok : okN b l i m t) (hf : Fit12 l b da) {S : St} (hn : S.n = b) (hc : Clean S) (hl : S.left < 0) (ha : S.acts ≤ 800 * 1000) (hpd : ∀ x, S.pend x = false) (hN : N < 18446744073709551615) {f : Nat → Nat} (h : Tells S l b da N f) (w : World) (hd : DevAt d lo hi S w) (ht : Tab w) :
    Calls Tryz.prog 13 #[.pointer (some ⟨d, 0, none⟩), lay b l i m t] w fun e w' => ∃ ad n cp S1 p q, e = .returned (.tuple #[.slice ad n cp, .int .i64 0]) ∧ DevAt d lo hi S1 w' ∧ Zone lo hi w w' ∧ S1.left < 0 ∧ S1.acts ≤ S.acts + (b + 3) ∧ q ≤ N ∧ (∀ x, S1.pend x = false) ∧ Wd S1 l b da p q 0 [] f f := by
  obtain ⟨r, hr, hcase⟩ := h.back hf hn hc hN
  rcases hcase with ⟨h0, p, q, hq, hw⟩ | ⟨h0, hfine, p, q, hq, hw⟩
  · exact (jreplay_empty d lo hi b l i m t hok hn w hd ht r hr h0).mono fun e w' ⟨he, hb⟩ => ⟨none, 0, 0, S, p, q, he, hd.kept1 hb, Zone.of_below hb lo hi, hl, by omega, hq, hpd, hw⟩
  · refine (jreplay_ok d lo hi b l i m t hok hn (by omega) w hd ht r hr h0).mono ?_
    rintro e w' ⟨v, he, hv, hd', z⟩
    rw [deeds_live hfine (.inl hl)] at he hd'
    obtain ⟨ad, cp, hs⟩ := hv.shape
    have hlen := replD_len S b l r
    refine ⟨ad, r.1.length, cp, runD S (replD S b l r), p, q, ?_, hd', z, by rw [runD_left_all hl]; exact hl, by rw [runD_acts]; omega, hq, replay_pend S b l r, hw⟩
    rw [he, ← hs]; rfl
end Go.Proofs.YtanghmogeiiooaaGreatDoor

/- JournalPower: the log goes on behind a replay. -/
namespace Go.Proofs.YtanghmogeiiooaaGreatDoor
set_option linter.unusedVariables false
open Go.RowKit

theorem commit_one {b l i m t da d lo hi g p q : Nat} (hok : okN b l i m t) (hf : Fit12 l b da) {S : St} (hl : S.left < 0) (ha : S.acts ≤ 800 * 1000) {f : Nat → Nat} (hq : q ≤ 1000) (hw : Wd S l b da p q 0 [] f f) (va : Value) (w : World) (hd : DevAt d lo hi S w) (hgh : hi ≤ g)
    (hlg : LogAt g d b l i 1 (1 + l) m (1 + l + m) t (1 + l + m + t) (((p + 0) % (l - 1) : Nat) : Int) ((l - 1 - 0 : Nat) : Int) (q + 0) 0 w) (hc : ChgsIn va (mkL da [rep 9]) w) (ht : Tab w) :
    Calls Tryz.prog 19 #[.pointer (some ⟨g, 0, none⟩), .agg #[va, .slice none 0 0], .slice none 0 0] w fun e w' => e = .returned (.int .i64 0) ∧ LogZ lo hi g w w' := by
  have hl' := hf.hl
  have hr := hf.room
  have hb4 := hf.hb
  have hn := hw.n
  have hk := mkL_txn hf (B := [rep 9]) (by simp) (fun s hs => by rw [List.mem_singleton.1 hs]; exact rep_size _)
  have hlen : (mkL da [rep 9]).length = 1 := mkL_length da [rep 9]
  have hmod : (p + 0) % (l - 1) < l - 1 := Nat.mod_lt _ (by omega)
  have hz : sizeT 1 0 ≤ 14 := (size12 (n := 1) (by omega)).2
  have hfine := commit_fine (n := S.n) (slot := (p + 0) % (l - 1)) (seq := q + 0) hl' (by omega) (by omega) (by omega) (by omega) hk (D := []) rfl
  have K := jcommit_ok lo hi g d b l i m t hok (S := S) (by omega) ((p + 0) % (l - 1)) (l - 1 - 0) (by omega) (by omega) (q + 0) (by omega) (mkL da [rep 9]) [] [] (by simp) va (.slice none 0 0) (.slice none 0 0) w hd hgh hlg hc (RowIn.nil 1 w) (RowIn.nil 2 w) ht hk rfl
    (by rw [hlen]; show sizeT 1 0 ≤ l - 1 - 0; omega)
  rw [deeds_live hfine (.inl hl)] at K
  refine K.mono ?_
  rintro e w' ⟨he, hd', z, hlog⟩
  exact ⟨he, z⟩
theorem acts_below {d lo hi : Nat} {S : St} (w : World) (h : DevAt d lo hi S w) :
    Calls Tryz.prog 15 #[.pointer (some ⟨d, 0, none⟩)] w fun e w' => e = .returned (.int .i64 (S.acts : Int)) ∧ Below w.heap.size w w' :=
  (acts_any w h).mono fun e w' ⟨h1, h2⟩ => ⟨h1, h2 ▸ Below.refl _ _⟩
end Go.Proofs.YtanghmogeiiooaaGreatDoor

/- JournalPower and its kin: a device opened of what a crash leaves; what the law holds. -/
namespace Go.Proofs.YtanghmogeiiooaaGreatDoor
set_option linter.unusedVariables false
set_option linter.unusedSimpArgs false
open Go.RowKit

theorem arr12_blk {g : Nat} {f : Nat → Nat} {w : World} (h : Blk g (arr12 f) 36 w) : w.rangeAt g 0 (arr12 f).toList := blk_range h
theorem open_crash {d lo hi : Nat} {S : St} (K : List Bool) (w0 : World) (h : DevAt d lo hi S w0) (w : World) :
    Calls Tryz.prog 11 #[.string (crashT S K)] w fun e w' => ∃ d', e = .returned (.tuple #[.pointer (some ⟨d', 0, none⟩), .int .i64 0]) ∧ DevAt d' w.heap.size w'.heap.size (freshSt S.n (blkOf 128 (crashT S K))) w' ∧ Below w.heap.size w w' :=
  open_yes S.n _ h.ok.lo h.ok.hi (cat_size fun i hi => crash_size (h.ok.now i hi) (h.ok.was i hi)) w
theorem wld8 {wd b l i m t d g : Nat} {home want : Nat → Nat} {w : World} {dz : Int} (h : WldAt wd b l i m t d g home want w) (e : 1 + (l : Int) + (m : Int) + (t : Int) = dz) : w.cell? ⟨wd, 8, none⟩ = some (.int .i64 dz) := by
  subst e; exact Blk.cell h 8
theorem chg_at {cb : Nat} {c : Int} {z : ByteArray} {w : World} (h : Blk cb #[.int .i64 c, .string z] 61 w) : ChgsIn (.slice (some ⟨cb, 0, none⟩) 1 1) [(c, z)] w :=
  ⟨rfl, some ⟨cb, 0, none⟩, 1, rfl, Nat.le_refl _, by unfold maxLen; omega, fun _ => ⟨cb, 0, rfl, h.lt, fun k u hk => by
    rw [Nat.zero_add, Blk.cell h k, List.getElem?_toArray]; exact hk⟩, fun h => by cases h⟩
theorem tells_to {S : St} {l b da N M : Nat} {f : Nat → Nat} (hNM : N ≤ M) (h : Tells S l b da N f) : Tells S l b da M f := by
  obtain ⟨p, q, used, ts, h1, ⟨h2, h3⟩, h4⟩ := h
  exact ⟨p, q, used, ts, h1, ⟨by omega, h3⟩, h4⟩
/-- what the law holds: its world, its blocks of the input, the bytes that the blocks may have -/
structure PwMem (w0 : World) (wd d lo hi g b l i m t da zb pb : Nat) (at' : Nat) (kv : Value) (N A : Nat) (home want perhaps : Nat → Nat) (S : St) (w : World) : Prop where
  dev : DevAt d lo hi S w
  wld : WldAt wd b l i m t d g home want w
  per : Blk pb (arr12 perhaps) 36 w
  opt : Blk (zb + 1) #[.int .u16 (at' : Int), kv] 27 w
  below : Below w0.heap.size w0 w
  n : S.n = b
  acts : S.acts ≤ A
  wants : ∀ k, want k < 256
  pers : ∀ k, perhaps k < 256
  tells : ∀ S'', Left S S'' → Tells S'' l b da N want ∨ Tells S'' l b da N perhaps
theorem PwMem.kept1 {w0 : World} {wd d lo hi g b l i m t da zb pb at' : Nat} {kv : Value} {N A : Nat} {home want perhaps : Nat → Nat} {S : St} {w w' : World} (h : PwMem w0 wd d lo hi g b l i m t da zb pb at' kv N A home want perhaps S w) (hb : Below w.heap.size w w') : PwMem w0 wd d lo hi g b l i m t da zb pb at' kv N A home want perhaps S w' :=
  ⟨h.dev.kept1 hb, h.wld.kept1 hb, h.per.kept1 hb, h.opt.kept1 hb, bnext h.below hb, h.n, h.acts, h.wants, h.pers, h.tells⟩
end Go.Proofs.YtanghmogeiiooaaGreatDoor

/- JournalTries: what it is handed, and what it holds between its loops. -/
namespace Go.Proofs.YtanghmogeiiooaaGreatDoor
set_option linter.unusedVariables false
open Go.RowKit

/-- a row of failures: at which act, and what is kept -/
def FailsIn (vo : Value) (m : Nat) (A : Nat → Nat) (K : Nat → List Bool) (w : World) : Prop :=
  ∃ (ad : Option Addr) (cap : Nat), vo = .slice ad m cap ∧ m ≤ cap ∧ cap ≤ 9223372036854775807 ∧ (0 < m → ∃ g o, ad = some ⟨g, o, none⟩ ∧ g < w.heap.size ∧ ∃ KV : Nat → Value,
    ∀ i, i < m → w.cell? ⟨g, o + i * 2, none⟩ = some (.int .u16 (A i : Int)) ∧ w.cell? ⟨g, o + i * 2 + 1, none⟩ = some (KV i) ∧ A i < 65536 ∧ RowIn 1 (KV i) (K i).length ((K i).map Value.bool) w)
theorem FailsIn.kept {vo : Value} {m : Nat} {A : Nat → Nat} {K : Nat → List Bool} {w w' : World} (h : FailsIn vo m A K w) (hb : Below w.heap.size w w') : FailsIn vo m A K w' := by
  obtain ⟨ad, cap, e, h1, h2, h3⟩ := h
  refine ⟨ad, cap, e, h1, h2, fun hp => ?_⟩
  obtain ⟨g, o, e2, hg, KV, hc⟩ := h3 hp
  refine ⟨g, o, e2, Nat.lt_of_lt_of_le hg hb.size, KV, fun i hi => ?_⟩
  obtain ⟨c1, c2, c3, c4⟩ := hc i hi
  exact ⟨(hb.cell (p := ⟨g, o + i * 2, none⟩) hg).trans c1, (hb.cell (p := ⟨g, o + i * 2 + 1, none⟩) hg).trans c2, c3, c4.kept hb⟩
/-- what the law holds behind some steps: its world, the bytes that the blocks may have -/
structure TrMem (w0 : World) (wd d lo hi g b l i m t da pb : Nat) (N A : Nat) (home want perhaps : Nat → Nat) (S : St) (w : World) : Prop where
  dev : DevAt d lo hi S w
  wld : WldAt wd b l i m t d g home want w
  per : Blk pb (arr12 perhaps) 36 w
  below : Below w0.heap.size w0 w
  n : S.n = b
  acts : S.acts ≤ A
  wants : ∀ k, want k < 256
  pers : ∀ k, perhaps k < 256
  tells : ∀ S'', Left S S'' → Tells S'' l b da N want ∨ Tells S'' l b da N perhaps
theorem TrMem.kept1 {w0 : World} {wd d lo hi g b l i m t da pb : Nat} {N A : Nat} {home want perhaps : Nat → Nat} {S : St} {w w' : World} (h : TrMem w0 wd d lo hi g b l i m t da pb N A home want perhaps S w) (hb : Below w.heap.size w w') : TrMem w0 wd d lo hi g b l i m t da pb N A home want perhaps S w' :=
  ⟨h.dev.kept1 hb, h.wld.kept1 hb, h.per.kept1 hb, bnext h.below hb, h.n, h.acts, h.wants, h.pers, h.tells⟩
/-- a device whose blocks have these bytes, and no transactions -/
theorem Wd.of_has {S : St} {l b da p q : Nat} {f want : Nat → Nat} (h : Wd S l b da p q 0 [] f f) (hh : hasB S da want = true) : Wd S l b da p q 0 [] want want :=
  ⟨h.n, h.log, ⟨hasB_get hh, fun k hk => .inr ⟨rfl, rfl⟩⟩, h.clean, h.sizes⟩
/-- the law's world, its device, log and homes taken anew -/
theorem WldAt.renew {wd b l i m t d g d2 g2 : Nat} {home want : Nat → Nat} {w : World} (h : WldAt wd b l i m t d g home want w) :
    WldAt wd b l i m t d2 g2 want want (((w.setCell ⟨wd, 9, none⟩ (.pointer (some ⟨d2, 0, none⟩))).setCell ⟨wd, 10, none⟩ (.pointer (some ⟨g2, 0, none⟩))).setCells wd 11 (arr12 want).toList) := by
  have h1 := Blk.set h 9 (.pointer (some ⟨d2, 0, none⟩))
  have h2 := Blk.set h1 10 (.pointer (some ⟨g2, 0, none⟩))
  have h3 : WldAt wd b l i m t d2 g2 home want ((w.setCell ⟨wd, 9, none⟩ (.pointer (some ⟨d2, 0, none⟩))).setCell ⟨wd, 10, none⟩ (.pointer (some ⟨g2, 0, none⟩))) := h2
  exact h3.setHome want
theorem renew_zone (wd : Nat) (w : World) (v1 v2 : Value) (vs : List Value) : Zone wd (wd + 1) w (((w.setCell ⟨wd, 9, none⟩ v1).setCell ⟨wd, 10, none⟩ v2).setCells wd 11 vs) :=
  (((Zone.refl wd (wd + 1) w).set (p := ⟨wd, 9, none⟩) (Nat.le_refl _) (Nat.lt_succ_self _) v1).set (p := ⟨wd, 10, none⟩) (Nat.le_refl _) (Nat.lt_succ_self _) v2).sets (Nat.le_refl _) (Nat.lt_succ_self _) 11 vs
end Go.Proofs.YtanghmogeiiooaaGreatDoor

/- A replay on a device that may fail: what is told stays told. -/
namespace Go.Proofs.YtanghmogeiiooaaGreatDoor
set_option linter.unusedVariables false
open Go.RowKit

/-- what a replay that is cut off leaves tells what was told -/
theorem replay_left {S S' : St} {l b da p q used N : Nat} {ts : List Tx} {f : Nat → Nat} (hf : Fit12 l b da) (hn : S.n = b) (hc : Clean S) (hN : N < 18446744073709551615) (hne : ts ≠ [])
    (h1 : LogInv S l (hmB b 1 l) p q ts used) (hq : q + ts.length ≤ N) (hz : Full128 ts)
    (h2 : ∀ k, k < 12 → net ts ((da + k : Nat) : Int) = some (rep (f k)) ∨ (net ts ((da + k : Nat) : Int) = none ∧ rText S ((da + k : Nat) : Int) = rep (f k)))
    (k : Nat) (hL : Left (runD S ((replD S b l (ts, used)).take k)) S') : Tells S' l b da N f := by
  have hl := hf.hl
  have hr := hf.room
  have hda := hf.hda
  have htop := hf.htop
  have hh := net_home hl h1
  have hs := h1.seq
  have hp := h1.pos
  have hlen := List.length_pos_iff.2 hne
  have hmod : (p + used) % (l - 1) < l - 1 := Nat.mod_lt _ (by omega)
  rw [replD_is hl h1] at hL
  have hnd : ((homeL b (net ts)).map Prod.fst).Nodup := (homeL_up (m := net ts) b).imp fun h => by omega
  have hW : ∀ c ∈ homeL b (net ts), 0 ≤ c.1 ∧ c.1 < (S.n : Int) ∧ c.2.size = 128 ∧ ¬ (1 ≤ c.1 ∧ c.1 < 1 + (l : Int)) := fun c hc => by
    obtain ⟨a1, a2, a3, a4⟩ := hh c hc
    obtain ⟨t, ht, hm⟩ := net_from a4
    exact ⟨a1, by omega, hz t ht _ hm, a3⟩
  have hbk : blk (headR ((p + used) % (l - 1)) (q + ts.length)) ≠ blk (headR p q) := head_ne (by omega) (by omega) (by omega) (by omega) (by omega)
  rcases Go.Proofs.YtanghmogeiiooaaGreatDoor.settle_left hc hl (by omega) h1 hW hnd hbk k hL with ⟨hl2, ht⟩ | ⟨hl2, hin, hout⟩
  · refine ⟨p, q, used, ts, hl2, ⟨hq, hz⟩, fun j hj => ?_⟩
    rcases h2 j hj with e | ⟨e1, e2⟩
    · exact .inl e
    · refine .inr ⟨e1, ?_⟩
      rcases ht (da + j) (by omega) (by omega) with e | ⟨d, hd, e⟩
      · rw [e, e2]
      · have := (hh _ hd).2.2.2
        rw [e1] at this; cases this
  · refine ⟨(p + used) % (l - 1), q + ts.length, 0, [], hl2, ⟨hq, full_nil⟩, fun j hj => .inr ⟨rfl, ?_⟩⟩
    rcases h2 j hj with e | ⟨e1, e2⟩
    · exact hin _ (homeL_mem (by omega) e)
    · rw [hout (da + j) (by omega) (by omega) (fun hx => ?_), e2]
      obtain ⟨c, hcm, e⟩ := List.mem_map.1 hx
      have := (hh _ hcm).2.2.2
      rw [e, e1] at this; cases this
/-- a replay of what is told, on a device that may fail, or not -/
theorem replay_fails {b l i m t da d lo hi N : Nat} (hok : okN b l i m t) (hf : Fit12 l b da) {S : St} (hn : S.n = b) (hc : Clean S) (ha : S.acts ≤ 800 * 1000) (hN : N < 18446744073709551615) {f : Nat → Nat} (h : Tells S l b da N f) (w : World) (hd : DevAt d lo hi S w) (ht : Tab w) :
    Calls Tryz.prog 13 #[.pointer (some ⟨d, 0, none⟩), lay b l i m t] w fun e w' => ∃ ad n cp c S1, e = .returned (.tuple #[.slice ad n cp, .int .i64 c]) ∧ DevAt d lo hi S1 w' ∧ Zone lo hi w w' ∧ (c = 0 ∨ (c = 61 ∧ n = 0)) ∧ S1.n = b ∧ S1.acts ≤ S.acts + (b + 3) ∧ ∀ S', Left S1 S' → Tells S' l b da N f := by
  have hl := hf.hl
  have hr := hf.room
  have h0 := h
  obtain ⟨p, q, used, ts, h1, ⟨hq, hz⟩, h2⟩ := h
  have hk := h1.is hl
  by_cases he : ts = []
  · obtain ⟨r, hr1, hcase⟩ := h0.back hf hn hc hN
    have er : r = (ts, used) := by rw [hk] at hr1; exact (Option.some.inj hr1).symm
    rcases hcase with ⟨hr0, p2, q2, hq2, hw⟩ | ⟨hr0, -⟩
    · refine (jreplay_empty d lo hi b l i m t hok hn w hd ht r hr1 hr0).mono fun e w' ⟨he, hb⟩ => ?_
      refine ⟨none, 0, 0, 0, S, he, hd.kept1 hb, Zone.of_below hb lo hi, .inl rfl, hn, by omega, fun S' hL => ?_⟩
      have := hw.fails hf hL
      obtain ⟨p3, q3, u3, t3, b1, ⟨b2, b3⟩, b4⟩ := this
      exact ⟨p3, q3, u3, t3, b1, ⟨by simp at b2; omega, b3⟩, b4⟩
    · rw [er] at hr0; exact absurd he hr0
  · refine (jreplay_ok d lo hi b l i m t hok hn (by omega) w hd ht (ts, used) hk he).mono ?_
    rintro e w' ⟨v, hev, hv, hd', z⟩
    obtain ⟨ad, cp, hsh⟩ := hv.shape
    have hfine := replay_fine hl hn (by omega) h1 hz
    have hlen := replD_len S b l (ts, used)
    rcases deeds_two hfine with e2 | ⟨k, hk2, e2⟩
    · rw [e2] at hev hd'
      refine ⟨ad, ts.length, cp, 0, _, ?_, hd', z, .inl rfl, (runD_n _ _).trans hn, by rw [runD_acts]; omega, fun S' hL => ?_⟩
      · rw [hev, ← hsh]; rfl
      · exact replay_left hf hn hc hN he h1 hq hz h2 (replD S b l (ts, used)).length (by rw [List.take_length]; exact hL)
    · rw [e2] at hev hd'
      refine ⟨none, 0, 0, 61, _, ?_, hd', z, .inr ⟨rfl, rfl⟩, (runD_n _ _).trans hn, by rw [runD_acts, List.length_take]; omega, fun S' hL => ?_⟩
      · rw [hev, onlyOk_no (by decide : (61 : Int) ≠ 0)]
      · exact replay_left hf hn hc hN he h1 hq hz h2 k hL
end Go.Proofs.YtanghmogeiiooaaGreatDoor

/- JournalTwice: a device opened of what is kept; a device that is armed tells the same. -/
namespace Go.Proofs.YtanghmogeiiooaaGreatDoor
set_option linter.unusedVariables false
open Go.RowKit

theorem open_kept2 {d lo hi : Nat} {S : St} (w0 : World) (h : DevAt d lo hi S w0) (w : World) :
    Calls Tryz.prog 11 #[.string (cat S.was S.n)] w fun e w' => ∃ d', e = .returned (.tuple #[.pointer (some ⟨d', 0, none⟩), .int .i64 0]) ∧ DevAt d' w.heap.size w'.heap.size (freshSt S.n (blkOf 128 (cat S.was S.n))) w' ∧ Below w.heap.size w w' :=
  open_yes S.n _ h.ok.lo h.ok.hi (cat_len h.ok.was) w
theorem Tells.armed {S : St} {l b da N : Nat} {f : Nat → Nat} (hl : 128 ≤ l ∧ l ≤ 512) (h : Tells S l b da N f) (a : Int) : Tells (S.armed a) l b da N f := by
  obtain ⟨p, q, used, ts, h1, h2, h3⟩ := h
  exact ⟨p, q, used, ts, h1.same hl fun x _ _ => rfl, h2, h3⟩
end Go.Proofs.YtanghmogeiiooaaGreatDoor
