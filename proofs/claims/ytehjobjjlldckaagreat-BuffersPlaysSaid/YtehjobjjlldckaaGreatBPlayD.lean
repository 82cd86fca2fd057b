/- The walk of BuffersPlays. -/
import Derived.Test.YtehjobjjlldckaaGreatCDoes
import Derived.Test.YtehjobjjlldckaaGreatBPlayC
import Derived.Test.YtehjobjjlldckaaGreatDRef2
import Derived.Test.YtehjobjjlldckaaGreatCStep
import Derived.Test.YtehjobjjlldckaaGreatDRNew2
import Derived.Test.YtehjobjjlldckaaGreatDCrash2
import Derived.Deep.RegionHeld3
namespace Go.Proofs.YtehjobjjlldckaaGreat
set_option linter.unusedVariables false
open Go.RowKit

def DidRet (c d lo hi : Nat) (M : Nat → Prop) (U : Nat) (C : CS) (R : ByteArray × Int × CS) (w : World) (e : Ending) (w' : World) : Prop :=
  ∃ M', e = .returned (.tuple #[.string R.1, .int .i64 R.2.1]) ∧ CacheRt c d lo hi M' (U + 1) R.2.2 w' ∧ Went lo hi M M' w w'
set_option maxHeartbeats 2000000 in
theorem did_0 {c d lo hi U : Nat} {M : Nat → Prop} {C : CS} (x : ActC) (hx : x.ok) (hk : (x.kind : Int) % 13 = 0) (ha : C.st.acts ≤ 800000) (hU : U ≤ 900000000) (w : World) (h : CacheRt c d lo hi M U C w) :
    Calls Tryz.prog 11 #[cV c, .pointer (some ⟨d, 0, none⟩), actV x] w (DidRet c d lo hi M U C (getC C x.b) w) := by
  have hb := hx.b
  have h1 := h.kept1 (balloc1 w (.cells #[.int .u8 (x.kind : Int), .int .i64 x.b, .int .i64 x.n, .int .u8 (x.fill : Int), .bool x.pin, .string x.data] 43))
  have G := Lib.hid (rcget_any x.b hb (by omega) (by omega) _ h1)
  clear h h1
  generalize hR : getC C x.b = R at *
  have HR := Lib.hid hR
  clear hR
  go_enter Tryz.func11, Tryz.ntmps11
  go_wp2_with fail
  refine G.out.mono ?_; rintro e w2 ⟨M', rfl, h2, hw⟩
  have HZ := Lib.hid (And.intro h2 (went_boxed hw))
  clear G h2 hw
  go_wp2
  go_ret2
  exact ⟨M', rfl, HZ.out⟩
set_option maxHeartbeats 2000000 in
theorem did_1 {c d lo hi U : Nat} {M : Nat → Prop} {C : CS} (x : ActC) (hx : x.ok) (hk : (x.kind : Int) % 13 = 1) (ha : C.st.acts ≤ 800000) (hU : U ≤ 900000000) (w : World) (h : CacheRt c d lo hi M U C w) :
    Calls Tryz.prog 11 #[cV c, .pointer (some ⟨d, 0, none⟩), actV x] w (DidRet c d lo hi M U C (getC C x.b) w) := by
  have hb := hx.b
  have h1 := h.kept1 (balloc1 w (.cells #[.int .u8 (x.kind : Int), .int .i64 x.b, .int .i64 x.n, .int .u8 (x.fill : Int), .bool x.pin, .string x.data] 43))
  have G := Lib.hid (rcget_any x.b hb (by omega) (by omega) _ h1)
  clear h h1
  generalize hR : getC C x.b = R at *
  have HR := Lib.hid hR
  clear hR
  go_enter Tryz.func11, Tryz.ntmps11
  go_wp2_with fail
  refine G.out.mono ?_; rintro e w2 ⟨M', rfl, h2, hw⟩
  have HZ := Lib.hid (And.intro h2 (went_boxed hw))
  clear G h2 hw
  go_wp2
  go_ret2
  exact ⟨M', rfl, HZ.out⟩
set_option maxHeartbeats 2000000 in
theorem did_2 {c d lo hi U : Nat} {M : Nat → Prop} {C : CS} (x : ActC) (hx : x.ok) (hk : (x.kind : Int) % 13 = 2) (ha : C.st.acts ≤ 800000) (hU : U ≤ 900000000) (w : World) (h : CacheRt c d lo hi M U C w) :
    Calls Tryz.prog 11 #[cV c, .pointer (some ⟨d, 0, none⟩), actV x] w (DidRet c d lo hi M U C (getC C x.b) w) := by
  have hb := hx.b
  have h1 := h.kept1 (balloc1 w (.cells #[.int .u8 (x.kind : Int), .int .i64 x.b, .int .i64 x.n, .int .u8 (x.fill : Int), .bool x.pin, .string x.data] 43))
  have G := Lib.hid (rcget_any x.b hb (by omega) (by omega) _ h1)
  clear h h1
  generalize hR : getC C x.b = R at *
  have HR := Lib.hid hR
  clear hR
  go_enter Tryz.func11, Tryz.ntmps11
  go_wp2_with fail
  refine G.out.mono ?_; rintro e w2 ⟨M', rfl, h2, hw⟩
  have HZ := Lib.hid (And.intro h2 (went_boxed hw))
  clear G h2 hw
  go_wp2
  go_ret2
  exact ⟨M', rfl, HZ.out⟩
set_option maxHeartbeats 2000000 in
theorem did_3 {c d lo hi U : Nat} {M : Nat → Prop} {C : CS} (x : ActC) (hx : x.ok) (hk : (x.kind : Int) % 13 = 3) (ha : C.st.acts ≤ 800000) (hU : U ≤ 900000000) (w : World) (h : CacheRt c d lo hi M U C w) :
    Calls Tryz.prog 11 #[cV c, .pointer (some ⟨d, 0, none⟩), actV x] w (DidRet c d lo hi M U C ((⟨#[]⟩, putC C x.b (whatC x) x.pin)) w) := by
  have hb := hx.b
  have h1 := h.kept1 (balloc1 w (.cells #[.int .u8 (x.kind : Int), .int .i64 x.b, .int .i64 x.n, .int .u8 (x.fill : Int), .bool x.pin, .string x.data] 43))
  have mixed : Tryz.prog.follows .mixedOrders = true := by kernel_rfl
  have hf := hx.fill
  obtain ⟨w2, hw2⟩ : ∃ w2, (w.alloc (.cells #[.int .u8 (x.kind : Int), .int .i64 x.b, .int .i64 x.n, .int .u8 (x.fill : Int), .bool x.pin, .string x.data] 43)) = w2 := ⟨_, rfl⟩
  have HBk : Hid (Blk w.heap.size #[.int .u8 (x.kind : Int), .int .i64 x.b, .int .i64 x.n, .int .u8 (x.fill : Int), .bool x.pin, .string x.data] 43 w2) := Lib.hid (by rw [← hw2]; exact Blk.new _ _ _)
  rw [hw2] at h1
  have H1 := Lib.hid h1
  have P := Lib.hid fun wq (hq : CacheRt c d lo hi M U C wq) => rcput_any x.b hb (whatC x) x.pin (by omega) (by omega) wq hq
  have HBW : Hid (Below w.heap.size w w2) := Lib.hid (by rw [← hw2]; exact balloc1 _ _)
  have WA := Lib.hid fun w => what_any x hf w
  have kb : ∀ p : BelowP w2, p.to.cell? ⟨w.heap.size, 0, none⟩ = some (.int .u8 (x.kind : Int)) ∧ p.to.cell? ⟨w.heap.size, 1, none⟩ = some (.int .i64 x.b) ∧ p.to.cell? ⟨w.heap.size, 2, none⟩ = some (.int .i64 x.n) ∧ p.to.cell? ⟨w.heap.size, 3, none⟩ = some (.int .u8 (x.fill : Int)) ∧ p.to.cell? ⟨w.heap.size, 4, none⟩ = some (.bool x.pin) ∧ p.to.cell? ⟨w.heap.size, 5, none⟩ = some (.string x.data) := fun p => act_blk (HBk.out.kept1 p.h)
  have k0 := fun p => (kb p).1
  have k1 := fun p => (kb p).2.1
  have k2 := fun p => (kb p).2.2.1
  have k3 := fun p => (kb p).2.2.2.1
  have k4 := fun p => (kb p).2.2.2.2.1
  have k5 := fun p => (kb p).2.2.2.2.2
  obtain ⟨j0, -, -, -, -, -⟩ := kb ⟨w2, Below.refl _ _⟩
  have j0 : w2.cell? ⟨w.heap.size, 0, none⟩ = some (.int .u8 (x.kind : Int)) := j0
  clear h h1 kb hx
  go_enter Tryz.func11, Tryz.ntmps11
  go_wp2
  refine wp_region_tail_below 7 mixed (by kernel_rfl) ?_
  simp only [List.take_succ_cons, List.take_zero, List.drop_succ_cons, List.drop_zero]
  repeat (go_big_quiet_step (first | (go_at_call 34; refine calls_below (WA.out _))))
  refine wpQuiet_nil ?_
  intro w0q hw'
  obtain ⟨⟨wq, bq⟩, hw''⟩ := hw'
  have hw2 : wq = w0q := hw''.symm
  clear hw''
  subst hw2
  have F := Lib.hid (P.out wq (H1.out.kept1 bq))
  have HB2 := Lib.hid ((Went.below (lo := lo) (hi := hi) (M := M) HBW.out).trans (Went.below (bq.mono (Nat.le_refl _))))
  clear k0 k1 k2 k3 k4 k5 j0 WA hw2 P bq
  go_wp2_with fail
  refine F.out.mono ?_; rintro e w3 ⟨M', rfl, h3, hw3⟩
  have HZ := Lib.hid (And.intro h3 (HB2.out.trans hw3))
  clear F h3 hw3 HB2
  generalize putC C x.b (whatC x) x.pin = R at *
  go_wp2
  go_ret2
  exact ⟨M', rfl, HZ.out⟩
set_option maxHeartbeats 2000000 in
theorem did_4 {c d lo hi U : Nat} {M : Nat → Prop} {C : CS} (x : ActC) (hx : x.ok) (hk : (x.kind : Int) % 13 = 4) (ha : C.st.acts ≤ 800000) (hU : U ≤ 900000000) (w : World) (h : CacheRt c d lo hi M U C w) :
    Calls Tryz.prog 11 #[cV c, .pointer (some ⟨d, 0, none⟩), actV x] w (DidRet c d lo hi M U C ((⟨#[]⟩, putC C x.b (whatC x) x.pin)) w) := by
  have hb := hx.b
  have h1 := h.kept1 (balloc1 w (.cells #[.int .u8 (x.kind : Int), .int .i64 x.b, .int .i64 x.n, .int .u8 (x.fill : Int), .bool x.pin, .string x.data] 43))
  have mixed : Tryz.prog.follows .mixedOrders = true := by kernel_rfl
  have hf := hx.fill
  obtain ⟨w2, hw2⟩ : ∃ w2, (w.alloc (.cells #[.int .u8 (x.kind : Int), .int .i64 x.b, .int .i64 x.n, .int .u8 (x.fill : Int), .bool x.pin, .string x.data] 43)) = w2 := ⟨_, rfl⟩
  have HBk : Hid (Blk w.heap.size #[.int .u8 (x.kind : Int), .int .i64 x.b, .int .i64 x.n, .int .u8 (x.fill : Int), .bool x.pin, .string x.data] 43 w2) := Lib.hid (by rw [← hw2]; exact Blk.new _ _ _)
  rw [hw2] at h1
  have H1 := Lib.hid h1
  have P := Lib.hid fun wq (hq : CacheRt c d lo hi M U C wq) => rcput_any x.b hb (whatC x) x.pin (by omega) (by omega) wq hq
  have HBW : Hid (Below w.heap.size w w2) := Lib.hid (by rw [← hw2]; exact balloc1 _ _)
  have WA := Lib.hid fun w => what_any x hf w
  have kb : ∀ p : BelowP w2, p.to.cell? ⟨w.heap.size, 0, none⟩ = some (.int .u8 (x.kind : Int)) ∧ p.to.cell? ⟨w.heap.size, 1, none⟩ = some (.int .i64 x.b) ∧ p.to.cell? ⟨w.heap.size, 2, none⟩ = some (.int .i64 x.n) ∧ p.to.cell? ⟨w.heap.size, 3, none⟩ = some (.int .u8 (x.fill : Int)) ∧ p.to.cell? ⟨w.heap.size, 4, none⟩ = some (.bool x.pin) ∧ p.to.cell? ⟨w.heap.size, 5, none⟩ = some (.string x.data) := fun p => act_blk (HBk.out.kept1 p.h)
  have k0 := fun p => (kb p).1
  have k1 := fun p => (kb p).2.1
  have k2 := fun p => (kb p).2.2.1
  have k3 := fun p => (kb p).2.2.2.1
  have k4 := fun p => (kb p).2.2.2.2.1
  have k5 := fun p => (kb p).2.2.2.2.2
  obtain ⟨j0, -, -, -, -, -⟩ := kb ⟨w2, Below.refl _ _⟩
  have j0 : w2.cell? ⟨w.heap.size, 0, none⟩ = some (.int .u8 (x.kind : Int)) := j0
  clear h h1 kb hx
  go_enter Tryz.func11, Tryz.ntmps11
  go_wp2
  refine wp_region_tail_below 7 mixed (by kernel_rfl) ?_
  simp only [List.take_succ_cons, List.take_zero, List.drop_succ_cons, List.drop_zero]
  repeat (go_big_quiet_step (first | (go_at_call 34; refine calls_below (WA.out _))))
  refine wpQuiet_nil ?_
  intro w0q hw'
  obtain ⟨⟨wq, bq⟩, hw''⟩ := hw'
  have hw2 : wq = w0q := hw''.symm
  clear hw''
  subst hw2
  have F := Lib.hid (P.out wq (H1.out.kept1 bq))
  have HB2 := Lib.hid ((Went.below (lo := lo) (hi := hi) (M := M) HBW.out).trans (Went.below (bq.mono (Nat.le_refl _))))
  clear k0 k1 k2 k3 k4 k5 j0 WA hw2 P bq
  go_wp2_with fail
  refine F.out.mono ?_; rintro e w3 ⟨M', rfl, h3, hw3⟩
  have HZ := Lib.hid (And.intro h3 (HB2.out.trans hw3))
  clear F h3 hw3 HB2
  generalize putC C x.b (whatC x) x.pin = R at *
  go_wp2
  go_ret2
  exact ⟨M', rfl, HZ.out⟩
set_option maxHeartbeats 2000000 in
theorem did_5 {c d lo hi U : Nat} {M : Nat → Prop} {C : CS} (x : ActC) (hx : x.ok) (hk : (x.kind : Int) % 13 = 5) (ha : C.st.acts ≤ 800000) (hU : U ≤ 900000000) (w : World) (h : CacheRt c d lo hi M U C w) :
    Calls Tryz.prog 11 #[cV c, .pointer (some ⟨d, 0, none⟩), actV x] w (DidRet c d lo hi M U C ((⟨#[]⟩, putC C x.b (whatC x) x.pin)) w) := by
  have hb := hx.b
  have h1 := h.kept1 (balloc1 w (.cells #[.int .u8 (x.kind : Int), .int .i64 x.b, .int .i64 x.n, .int .u8 (x.fill : Int), .bool x.pin, .string x.data] 43))
  have mixed : Tryz.prog.follows .mixedOrders = true := by kernel_rfl
  have hf := hx.fill
  obtain ⟨w2, hw2⟩ : ∃ w2, (w.alloc (.cells #[.int .u8 (x.kind : Int), .int .i64 x.b, .int .i64 x.n, .int .u8 (x.fill : Int), .bool x.pin, .string x.data] 43)) = w2 := ⟨_, rfl⟩
  have HBk : Hid (Blk w.heap.size #[.int .u8 (x.kind : Int), .int .i64 x.b, .int .i64 x.n, .int .u8 (x.fill : Int), .bool x.pin, .string x.data] 43 w2) := Lib.hid (by rw [← hw2]; exact Blk.new _ _ _)
  rw [hw2] at h1
  have H1 := Lib.hid h1
  have P := Lib.hid fun wq (hq : CacheRt c d lo hi M U C wq) => rcput_any x.b hb (whatC x) x.pin (by omega) (by omega) wq hq
  have HBW : Hid (Below w.heap.size w w2) := Lib.hid (by rw [← hw2]; exact balloc1 _ _)
  have WA := Lib.hid fun w => what_any x hf w
  have kb : ∀ p : BelowP w2, p.to.cell? ⟨w.heap.size, 0, none⟩ = some (.int .u8 (x.kind : Int)) ∧ p.to.cell? ⟨w.heap.size, 1, none⟩ = some (.int .i64 x.b) ∧ p.to.cell? ⟨w.heap.size, 2, none⟩ = some (.int .i64 x.n) ∧ p.to.cell? ⟨w.heap.size, 3, none⟩ = some (.int .u8 (x.fill : Int)) ∧ p.to.cell? ⟨w.heap.size, 4, none⟩ = some (.bool x.pin) ∧ p.to.cell? ⟨w.heap.size, 5, none⟩ = some (.string x.data) := fun p => act_blk (HBk.out.kept1 p.h)
  have k0 := fun p => (kb p).1
  have k1 := fun p => (kb p).2.1
  have k2 := fun p => (kb p).2.2.1
  have k3 := fun p => (kb p).2.2.2.1
  have k4 := fun p => (kb p).2.2.2.2.1
  have k5 := fun p => (kb p).2.2.2.2.2
  obtain ⟨j0, -, -, -, -, -⟩ := kb ⟨w2, Below.refl _ _⟩
  have j0 : w2.cell? ⟨w.heap.size, 0, none⟩ = some (.int .u8 (x.kind : Int)) := j0
  clear h h1 kb hx
  go_enter Tryz.func11, Tryz.ntmps11
  go_wp2
  refine wp_region_tail_below 7 mixed (by kernel_rfl) ?_
  simp only [List.take_succ_cons, List.take_zero, List.drop_succ_cons, List.drop_zero]
  repeat (go_big_quiet_step (first | (go_at_call 34; refine calls_below (WA.out _))))
  refine wpQuiet_nil ?_
  intro w0q hw'
  obtain ⟨⟨wq, bq⟩, hw''⟩ := hw'
  have hw2 : wq = w0q := hw''.symm
  clear hw''
  subst hw2
  have F := Lib.hid (P.out wq (H1.out.kept1 bq))
  have HB2 := Lib.hid ((Went.below (lo := lo) (hi := hi) (M := M) HBW.out).trans (Went.below (bq.mono (Nat.le_refl _))))
  clear k0 k1 k2 k3 k4 k5 j0 WA hw2 P bq
  go_wp2_with fail
  refine F.out.mono ?_; rintro e w3 ⟨M', rfl, h3, hw3⟩
  have HZ := Lib.hid (And.intro h3 (HB2.out.trans hw3))
  clear F h3 hw3 HB2
  generalize putC C x.b (whatC x) x.pin = R at *
  go_wp2
  go_ret2
  exact ⟨M', rfl, HZ.out⟩
set_option maxHeartbeats 2000000 in
theorem did_6 {c d lo hi U : Nat} {M : Nat → Prop} {C : CS} (x : ActC) (hx : x.ok) (hk : (x.kind : Int) % 13 = 6) (ha : C.st.acts ≤ 800000) (hU : U ≤ 900000000) (w : World) (h : CacheRt c d lo hi M U C w) :
    Calls Tryz.prog 11 #[cV c, .pointer (some ⟨d, 0, none⟩), actV x] w (DidRet c d lo hi M U C ((⟨#[]⟩, 0, unpinC C x.b)) w) := by
  have hb := hx.b
  have h1 := h.kept1 (balloc1 w (.cells #[.int .u8 (x.kind : Int), .int .i64 x.b, .int .i64 x.n, .int .u8 (x.fill : Int), .bool x.pin, .string x.data] 43))
  have G := Lib.hid (rcunpin_any x.b hb _ h1)
  clear h h1
  go_enter Tryz.func11, Tryz.ntmps11
  go_wp2_with fail
  refine G.out.mono ?_; rintro e w2 ⟨M', rfl, h2, hw⟩
  have HZ := Lib.hid (And.intro (h2.more (Nat.le_succ U)) (went_boxed hw))
  clear G h2 hw
  go_wp2
  go_ret2
  exact ⟨M', rfl, HZ.out⟩
set_option maxHeartbeats 2000000 in
theorem did_7 {c d lo hi U : Nat} {M : Nat → Prop} {C : CS} (x : ActC) (hx : x.ok) (hk : (x.kind : Int) % 13 = 7) (ha : C.st.acts ≤ 800000) (hU : U ≤ 900000000) (w : World) (h : CacheRt c d lo hi M U C w) :
    Calls Tryz.prog 11 #[cV c, .pointer (some ⟨d, 0, none⟩), actV x] w (DidRet c d lo hi M U C ((⟨#[]⟩, 0, forgetC C x.b)) w) := by
  have hb := hx.b
  have h1 := h.kept1 (balloc1 w (.cells #[.int .u8 (x.kind : Int), .int .i64 x.b, .int .i64 x.n, .int .u8 (x.fill : Int), .bool x.pin, .string x.data] 43))
  have G := Lib.hid (rcforget_any x.b hb _ h1)
  clear h h1
  go_enter Tryz.func11, Tryz.ntmps11
  go_wp2_with fail
  refine G.out.mono ?_; rintro e w2 ⟨M', rfl, h2, hw⟩
  have HZ := Lib.hid (And.intro (h2.more (Nat.le_succ U)) (went_boxed hw))
  clear G h2 hw
  go_wp2
  go_ret2
  exact ⟨M', rfl, HZ.out⟩
set_option maxHeartbeats 2000000 in
theorem did_8 {c d lo hi U : Nat} {M : Nat → Prop} {C : CS} (x : ActC) (hx : x.ok) (hk : (x.kind : Int) % 13 = 8) (ha : C.st.acts ≤ 800000) (hU : U ≤ 900000000) (w : World) (h : CacheRt c d lo hi M U C w) :
    Calls Tryz.prog 11 #[cV c, .pointer (some ⟨d, 0, none⟩), actV x] w (DidRet c d lo hi M U C ((⟨#[]⟩, outC C x.b)) w) := by
  have hb := hx.b
  have h1 := h.kept1 (balloc1 w (.cells #[.int .u8 (x.kind : Int), .int .i64 x.b, .int .i64 x.n, .int .u8 (x.fill : Int), .bool x.pin, .string x.data] 43))
  have G := Lib.hid (rcout_any x.b hb (by omega) _ h1)
  clear h h1
  go_enter Tryz.func11, Tryz.ntmps11
  go_wp2_with fail
  refine G.out.mono ?_; rintro e w2 ⟨M', rfl, h2, hw⟩
  have HZ := Lib.hid (And.intro (h2.more (Nat.le_succ U)) (went_boxed hw))
  clear G h2 hw
  generalize outC C x.b = R at *
  go_wp2
  go_ret2
  exact ⟨M', rfl, HZ.out⟩
set_option maxHeartbeats 2000000 in
theorem did_9 {c d lo hi U : Nat} {M : Nat → Prop} {C : CS} (x : ActC) (hx : x.ok) (hk : (x.kind : Int) % 13 = 9) (ha : C.st.acts ≤ 800000) (hU : U ≤ 900000000) (w : World) (h : CacheRt c d lo hi M U C w) :
    Calls Tryz.prog 11 #[cV c, .pointer (some ⟨d, 0, none⟩), actV x] w (DidRet c d lo hi M U C ((⟨#[]⟩, syncC C)) w) := by
  have hb := hx.b
  have h1 := h.kept1 (balloc1 w (.cells #[.int .u8 (x.kind : Int), .int .i64 x.b, .int .i64 x.n, .int .u8 (x.fill : Int), .bool x.pin, .string x.data] 43))
  have G := Lib.hid (rcsync_any (by omega) _ h1)
  clear h h1
  go_enter Tryz.func11, Tryz.ntmps11
  go_wp2_with fail
  refine G.out.mono ?_; rintro e w2 ⟨M', rfl, h2, hw⟩
  have HZ := Lib.hid (And.intro (h2.more (Nat.le_succ U)) (went_boxed hw))
  clear G h2 hw
  generalize syncC C = R at *
  go_wp2
  go_ret2
  exact ⟨M', rfl, HZ.out⟩
set_option maxHeartbeats 2000000 in
theorem did_10 {c d lo hi U : Nat} {M : Nat → Prop} {C : CS} (x : ActC) (hx : x.ok) (hk : (x.kind : Int) % 13 = 10) (ha : C.st.acts ≤ 800000) (hU : U ≤ 900000000) (w : World) (h : CacheRt c d lo hi M U C w) :
    Calls Tryz.prog 11 #[cV c, .pointer (some ⟨d, 0, none⟩), actV x] w (DidRet c d lo hi M U C ((⟨#[]⟩, 0, C.on (C.st.armed x.n))) w) := by
  have hb := hx.b
  have h1 := h.kept1 (balloc1 w (.cells #[.int .u8 (x.kind : Int), .int .i64 x.b, .int .i64 x.n, .int .u8 (x.fill : Int), .bool x.pin, .string x.data] 43))
  have G := Lib.hid (rarm_any x.n hx.n _ h1.dev)
  have H1 := Lib.hid h1
  clear h h1
  go_enter Tryz.func11, Tryz.ntmps11
  go_wp2_with fail
  refine G.out.mono ?_; rintro e w2 ⟨rfl, h2, hz⟩
  have HZ := Lib.hid (And.intro ((H1.out.on h2 hz rfl).more (Nat.le_succ U)) (went_boxed (Went.zone (M := M) hz)))
  clear G h2 hz H1
  go_wp2
  go_ret2
  exact ⟨M, rfl, HZ.out⟩
set_option maxHeartbeats 2000000 in
theorem did_11 {c d lo hi U : Nat} {M : Nat → Prop} {C : CS} (x : ActC) (hx : x.ok) (hk : (x.kind : Int) % 13 = 11) (ha : C.st.acts ≤ 800000) (hU : U ≤ 900000000) (w : World) (h : CacheRt c d lo hi M U C w) :
    Calls Tryz.prog 11 #[cV c, .pointer (some ⟨d, 0, none⟩), actV x] w (DidRet c d lo hi M U C ((⟨#[]⟩, fCode C.st, C.on (fSt C.st))) w) := by
  have hb := hx.b
  have h1 := h.kept1 (balloc1 w (.cells #[.int .u8 (x.kind : Int), .int .i64 x.b, .int .i64 x.n, .int .u8 (x.fill : Int), .bool x.pin, .string x.data] 43))
  have G := Lib.hid (rflush_any (by omega) _ h1.dev)
  have H1 := Lib.hid h1
  clear h h1
  go_enter Tryz.func11, Tryz.ntmps11
  go_wp2_with fail
  refine G.out.mono ?_; rintro e w2 ⟨rfl, h2, hz⟩
  have HZ := Lib.hid (And.intro ((H1.out.on h2 hz (fSt_n _)).more (Nat.le_succ U)) (went_boxed (Went.zone (M := M) hz)))
  clear G h2 hz H1
  generalize fCode C.st = code at *
  go_wp2
  go_ret2
  exact ⟨M, rfl, HZ.out⟩
set_option maxHeartbeats 2000000 in
theorem did_12 {c d lo hi U : Nat} {M : Nat → Prop} {C : CS} (x : ActC) (hx : x.ok) (hk : (x.kind : Int) % 13 = 12) (ha : C.st.acts ≤ 800000) (hU : U ≤ 900000000) (w : World) (h : CacheRt c d lo hi M U C w) :
    Calls Tryz.prog 11 #[cV c, .pointer (some ⟨d, 0, none⟩), actV x] w (DidRet c d lo hi M U C ((⟨#[]⟩, wCode C.st x.b 128, C.on (wSt C.st x.b (rep x.fill)))) w) := by
  have hb := hx.b
  have h1 := h.kept1 (balloc1 w (.cells #[.int .u8 (x.kind : Int), .int .i64 x.b, .int .i64 x.n, .int .u8 (x.fill : Int), .bool x.pin, .string x.data] 43))
  have mixed : Tryz.prog.follows .mixedOrders = true := by kernel_rfl
  have hf := hx.fill
  obtain ⟨w2, hw2⟩ : ∃ w2, (w.alloc (.cells #[.int .u8 (x.kind : Int), .int .i64 x.b, .int .i64 x.n, .int .u8 (x.fill : Int), .bool x.pin, .string x.data] 43)) = w2 := ⟨_, rfl⟩
  have HBk : Hid (Blk w.heap.size #[.int .u8 (x.kind : Int), .int .i64 x.b, .int .i64 x.n, .int .u8 (x.fill : Int), .bool x.pin, .string x.data] 43 w2) := Lib.hid (by rw [← hw2]; exact Blk.new _ _ _)
  rw [hw2] at h1
  have H1 := Lib.hid h1
  have P : Hid (∀ wq, CacheRt c d lo hi M U C wq → Calls Tryz.prog 49 #[.pointer (some ⟨d, 0, none⟩), .int .i64 x.b, .string (rep x.fill)] wq fun e w' => e = .returned (.int .i64 (wCode C.st x.b 128)) ∧ RefAt d lo hi (wSt C.st x.b (rep x.fill)) w' ∧ Zone lo hi wq w') := Lib.hid fun wq hq => by
    have := rwrite_any x.b (rep x.fill) (by omega) wq hq.dev
    rwa [rep_size] at this
  have HBW : Hid (Below w.heap.size w w2) := Lib.hid (by rw [← hw2]; exact balloc1 _ _)
  have WA := Lib.hid fun w => fill_of x.fill hf w
  have kb : ∀ p : BelowP w2, p.to.cell? ⟨w.heap.size, 0, none⟩ = some (.int .u8 (x.kind : Int)) ∧ p.to.cell? ⟨w.heap.size, 1, none⟩ = some (.int .i64 x.b) ∧ p.to.cell? ⟨w.heap.size, 2, none⟩ = some (.int .i64 x.n) ∧ p.to.cell? ⟨w.heap.size, 3, none⟩ = some (.int .u8 (x.fill : Int)) ∧ p.to.cell? ⟨w.heap.size, 4, none⟩ = some (.bool x.pin) ∧ p.to.cell? ⟨w.heap.size, 5, none⟩ = some (.string x.data) := fun p => act_blk (HBk.out.kept1 p.h)
  have k1 := fun p => (kb p).2.1
  have k3 := fun p => (kb p).2.2.2.1
  obtain ⟨j0, -, -, -, -, -⟩ := kb ⟨w2, Below.refl _ _⟩
  have j0 : w2.cell? ⟨w.heap.size, 0, none⟩ = some (.int .u8 (x.kind : Int)) := j0
  clear h h1 kb hx
  go_enter Tryz.func11, Tryz.ntmps11
  go_wp2
  refine wp_region_tail_below 6 mixed (by kernel_rfl) ?_
  simp only [List.take_succ_cons, List.take_zero, List.drop_succ_cons, List.drop_zero]
  repeat (go_big_quiet_step (first | (go_at_call 32; refine calls_below (WA.out _))))
  refine wpQuiet_nil ?_
  intro w0q hw'
  obtain ⟨⟨wq, bq⟩, hw''⟩ := hw'
  have hw2 : wq = w0q := hw''.symm
  clear hw''
  subst hw2
  have F := Lib.hid (P.out wq (H1.out.kept1 bq))
  have HB2 := Lib.hid (And.intro (H1.out.kept1 bq) ((Went.below (lo := lo) (hi := hi) (M := M) HBW.out).trans (Went.below (bq.mono (Nat.le_refl _)))))
  clear k1 k3 j0 WA hw2 P bq
  go_wp2_with fail
  refine F.out.mono ?_; rintro e w3 ⟨rfl, h3, hz⟩
  have HZ := Lib.hid (And.intro ((HB2.out.1.on h3 hz (wSt_n _ _ _)).more (Nat.le_succ U)) (HB2.out.2.trans (Went.zone (M := M) hz)))
  clear F h3 hz HB2
  generalize wCode C.st x.b 128 = code at *
  go_wp2
  go_ret2
  exact ⟨M, rfl, HZ.out⟩
theorem did_any {c d lo hi U : Nat} {M : Nat → Prop} {C : CS} (x : ActC) (hx : x.ok) (ha : C.st.acts ≤ 800000) (hU : U ≤ 900000000) (w : World) (h : CacheRt c d lo hi M U C w) :
    Calls Tryz.prog 11 #[cV c, .pointer (some ⟨d, 0, none⟩), actV x] w (DidRet c d lo hi M U C (doesR C x) w) := by
  have hk : x.kind % 13 < 13 := Nat.mod_lt _ (by omega)
  have hR : ∀ k, x.kind % 13 = k → doesR C x = doesR C x := fun _ _ => rfl
  unfold doesR
  by_cases h0 : x.kind % 13 = 0
  · rw [h0]; exact did_0 x hx (by omega) ha hU w h
  by_cases h1 : x.kind % 13 = 1
  · rw [h1]; exact did_1 x hx (by omega) ha hU w h
  by_cases h2 : x.kind % 13 = 2
  · rw [h2]; exact did_2 x hx (by omega) ha hU w h
  by_cases h3 : x.kind % 13 = 3
  · rw [h3]; exact did_3 x hx (by omega) ha hU w h
  by_cases h4 : x.kind % 13 = 4
  · rw [h4]; exact did_4 x hx (by omega) ha hU w h
  by_cases h5 : x.kind % 13 = 5
  · rw [h5]; exact did_5 x hx (by omega) ha hU w h
  by_cases h6 : x.kind % 13 = 6
  · rw [h6]; exact did_6 x hx (by omega) ha hU w h
  by_cases h7 : x.kind % 13 = 7
  · rw [h7]; exact did_7 x hx (by omega) ha hU w h
  by_cases h8 : x.kind % 13 = 8
  · rw [h8]; exact did_8 x hx (by omega) ha hU w h
  by_cases h9 : x.kind % 13 = 9
  · rw [h9]; exact did_9 x hx (by omega) ha hU w h
  by_cases h10 : x.kind % 13 = 10
  · rw [h10]; exact did_10 x hx (by omega) ha hU w h
  by_cases h11 : x.kind % 13 = 11
  · rw [h11]; exact did_11 x hx (by omega) ha hU w h
  by_cases h12 : x.kind % 13 = 12
  · rw [h12]; exact did_12 x hx (by omega) ha hU w h
  omega
end Go.Proofs.YtehjobjjlldckaaGreat

namespace Go.Proofs.YtehjobjjlldckaaGreat
set_option linter.unusedVariables false
open Go.RowKit

structure Two (c d B hi : Nat) (M : Nat → Prop) (U : Nat) (C : CS) (r d2 lo2 hi2 : Nat) (N : Nat → Prop) (D : CS) (w0 w : World) : Prop where
  p : Run c d B hi M U C w0 w
  q : CacheRt r d2 lo2 hi2 N U D w
  a : ∀ k, N k → ¬ M k ∧ ¬ (B ≤ k ∧ k < hi) ∧ B ≤ k
  z : ∀ k, lo2 ≤ k → k < hi2 → ¬ M k ∧ ¬ (B ≤ k ∧ k < hi)
  lo : B ≤ lo2
section
variable {c d B hi U r d2 lo2 hi2 : Nat} {M N : Nat → Prop} {C D : CS} {w0 w w' : World}
theorem Two.kept1 (h : Two c d B hi M U C r d2 lo2 hi2 N D w0 w) (b : Below w.heap.size w w') : Two c d B hi M U C r d2 lo2 hi2 N D w0 w' := ⟨h.p.kept1 b, h.q.kept1 b, h.a, h.z, h.lo⟩
theorem Two.does (h : Two c d B hi M U C r d2 lo2 hi2 N D w0 w) (x : ActC) (hx : x.ok) (ha : C.st.acts ≤ 800000) (hU : U ≤ 900000000) :
    Calls Tryz.prog 10 #[cV c, .pointer (some ⟨d, 0, none⟩), actV x] w fun e w' => e = .returned (.tuple #[.string (doesR C x).1, .int .i64 (doesR C x).2.1]) ∧ ∃ M', Two c d B hi M' (U + 1) (doesR C x).2.2 r d2 lo2 hi2 N D w0 w' ∧ Below B w w' := by
  refine (does_any x hx ha hU w h.p.cache).mono ?_
  rintro e w' ⟨M', rfl, h1, h2⟩
  refine ⟨rfl, M', ⟨h.p.went h1 h2, h.q.turn h2.turn (fun k hk hn => hk.elim (h.a k hn).1 (h.a k hn).2.1) (fun k hk hz => hk.elim (h.z k hz.1 hz.2).1 (h.z k hz.1 hz.2).2), fun k hn => ⟨fun hm => (h2.new k hm).elim (h.a k hn).1 fun hl => by have := h.q.lt hn; omega, (h.a k hn).2⟩, fun k h3 h4 => ⟨fun hm => (h2.new k hm).elim (h.z k h3 h4).1 fun hl => by have : hi2 ≤ w.heap.size := h.q.dev.top; omega, (h.z k h3 h4).2⟩, h.lo⟩, ?_⟩
  exact h2.turn.below h.p.base fun k hk ho => ho.elim (fun hm => by have := h.p.young k hm; omega) fun hz => by omega
theorem Two.did (h : Two c d B hi M U C r d2 lo2 hi2 N D w0 w) (x : ActC) (hx : x.ok) (ha : D.st.acts ≤ 800000) (hU : U ≤ 900000000) :
    Calls Tryz.prog 11 #[cV r, .pointer (some ⟨d2, 0, none⟩), actV x] w fun e w' => e = .returned (.tuple #[.string (doesR D x).1, .int .i64 (doesR D x).2.1]) ∧ ∃ N', Two c d B hi M U C r d2 lo2 hi2 N' (doesR D x).2.2 w0 w' ∧ Below B w w' := by
  refine (did_any x hx ha hU w h.q).mono ?_
  rintro e w' ⟨N', rfl, h1, h2⟩
  have hbl : Below B w w' := h2.turn.below h.p.base fun k hk ho => ho.elim (fun hn => by have := (h.a k hn).2.2; omega) fun hz => by have := h.lo; omega
  have hc : CacheAt c d B hi M U C w' := h.p.cache.turn h2.turn (fun k hk hm => hk.elim (fun hn => (h.a k hn).1 hm) fun hz => (h.z k hz.1 hz.2).1 hm) (fun k hk hz => hk.elim (fun hn => (h.a k hn).2.1 hz) fun hz2 => (h.z k hz2.1 hz2.2).2 hz)
  have htop : hi ≤ w.heap.size := h.p.dev.top
  refine ⟨rfl, N', ⟨⟨hc, h.p.below.trans hbl, h.p.young⟩, h1, fun k hn => ?_, h.z, h.lo⟩, hbl⟩
  rcases h2.new k hn with ho | hl
  · exact h.a k ho
  · exact ⟨fun hm => by have := h.p.cache.lt hm; omega, by omega, Nat.le_trans h.p.base hl⟩
end
theorem pend_in {p : Nat → Bool} {n i : Nat} (h : i < n) (hp : p i = true) : i ∈ pendL p n := List.mem_of_getElem? (pendL_at p h hp)
theorem has_list {C : CS} (h : C.ok) (k : Int) : ((listB C false false).any fun x => (x : Int) == k) = (atB C.L k).isSome := by
  rw [Bool.eq_iff_iff, List.any_eq_true]
  constructor
  · rintro ⟨x, hx, e⟩
    obtain ⟨h1, h2⟩ := pendL_lt _ hx
    have e : (x : Int) = k := beq_iff_eq.1 e
    subst e
    rw [has_is]; exact h2
  · intro hs
    obtain ⟨y, hy⟩ := Option.isSome_iff_exists.1 hs
    obtain ⟨h1, h2⟩ := atB_some hy
    refine ⟨y.b, pend_in (h.blk y h1) ?_, beq_iff_eq.2 h2⟩
    rw [← has_is, h2]; exact hs
theorem bool_made_info : (Tryz.prog.info? 4).map (fun i => (i.zero, i.size, i.bytes)) = some (some (.bool false), 1, 1) := by kernel_rfl
set_option maxHeartbeats 2000000 in
theorem all_any (n : Nat) (hn : n ≤ 4096) (w : World) :
    Calls Tryz.prog 24 #[.int .i64 (n : Int)] w fun e w' => ∃ v, e = .returned v ∧ RowIn 1 v (List.replicate n true).length ((List.replicate n true).map Value.bool) w' ∧ Below w.heap.size w w' := by
  have hmk := bools_made n hn w
  have H0 : Hid (CellsAt w.heap.size n (fun j => .bool (decide (j < 0))) (w.alloc (.cells (madeCells #[.bool false] n) 4)) ∧ Below w.heap.size w (w.alloc (.cells (madeCells #[.bool false] n) 4))) := Lib.hid ⟨CellsAt.alloc_new _ _ _ _ _ fun j hj => by rw [madeCells_at _ _ _ hj]; simp, balloc1 _ _⟩
  have HF : Hid (∀ w', CellsAt w.heap.size n (fun j => .bool (decide (j < n))) w' → RowIn 1 (.slice (some ⟨w.heap.size, 0, none⟩) n n) (List.replicate n true).length ((List.replicate n true).map Value.bool) w') := Lib.hid fun w' hc => by
    refine ⟨by simp, some ⟨w.heap.size, 0, none⟩, n, by simp, by simp, by unfold maxLen; omega, fun _ => ⟨w.heap.size, 0, rfl, hc.1, fun k u hk => ?_⟩, fun h => by cases h⟩
    have hkl := (List.getElem?_eq_some_iff.1 hk).1
    simp at hkl
    rw [Nat.zero_add, (hc.2 k hkl).1, ← hk]
    simp [hkl]
  go_enter Tryz.func24, Tryz.ntmps24
  go_wp2
  generalize (w.alloc (.cells (madeCells #[.bool false] n) 4)) = wa at *
  go_loopw [4] (fun q wr => ∃ i : Nat, q = .int .i64 i ∧ i ≤ n ∧ CellsAt w.heap.size n (fun j => .bool (decide (j < i))) wr ∧ Below w.heap.size w wr) (fun q _ => n - (intOf q).toNat)
  case atStart => exact ⟨0, rfl, Nat.zero_le _, H0.out.1, H0.out.2⟩
  case round =>
    obtain ⟨i, rfl, hi, hc, hb⟩ := hrel
    by_cases hlt : i < n
    · obtain ⟨q1, q2⟩ := hc.2 i hlt
      have HC : Hid (CellsAt w.heap.size n (fun j => .bool (decide (j < i + 1))) (wr.setCell ⟨w.heap.size, i, none⟩ (.bool true))) := Lib.hid ((hc.set hlt (.bool true)).congr fun j hj => by
        by_cases e : j = i
        · subst e; rw [upd_same]; simp
        · rw [upd_other _ e]
          have : (j < i) = (j < i + 1) := propext ⟨fun h => by omega, fun h => by omega⟩
          simp only [this])
      have HB := Lib.hid (hb.setCell (p := ⟨w.heap.size, i, none⟩) (Nat.le_refl _) (.bool true))
      clear hc hb hmk
      go_wp2
      exact ⟨⟨i + 1, by go_num, by omega, HC.out, HB.out⟩, by simp [intOf]; omega⟩
    · obtain rfl : i = n := by omega
      have HO := Lib.hid (And.intro (HF.out wr hc) hb)
      clear hc hb hmk
      go_wp2
      go_ret
      exact ⟨_, rfl, HO.out⟩
end Go.Proofs.YtehjobjjlldckaaGreat

namespace Go.Proofs.YtehjobjjlldckaaGreat
set_option linter.unusedVariables false
open Go.RowKit

/-- what a look at both goes by -/
structure Look (c d B hi : Nat) (M : Nat → Prop) (U : Nat) (r d2 lo2 hi2 : Nat) (N : Nat → Prop) (C : CS) (v1 v2 : Value) (w0 wb w : World) : Prop where
  two : Two c d B hi M U C r d2 lo2 hi2 N C w0 w
  pd : NatsIn v1 (listB C true false) w
  pp : NatsIn v2 (listB C false true) w
  c4 : w.cell? ⟨d2, 4, none⟩ = some (.int .i64 (C.st.acts : Int))
  below : Below wb.heap.size wb w
theorem Look.kept1 {c d B hi U r d2 lo2 hi2 : Nat} {M N : Nat → Prop} {C : CS} {v1 v2 : Value} {w0 wb w w' : World} (h : Look c d B hi M U r d2 lo2 hi2 N C v1 v2 w0 wb w) (b : Below w.heap.size w w') : Look c d B hi M U r d2 lo2 hi2 N C v1 v2 w0 wb w' :=
  ⟨h.two.kept1 b, h.pd.kept b, h.pp.kept b, (b.cell (p := ⟨d2, 4, none⟩) (World.block_lt_of_cell? w _ h.c4)).trans h.c4, h.below.trans (b.mono h.below.size)⟩
theorem ref_acts {r lo hi : Nat} {S : St} {w : World} (h : RefAt r lo hi S w) : w.cell? ⟨r, 4, none⟩ = some (.int .i64 (S.acts : Int)) := by
  obtain ⟨gn, gk, gp, cn, ck, cp, h⟩ := h
  exact h.blk.cell 4
theorem peq_none (w : World) (p : Addr) : ∀ d, (Op.equalIn (d + 1) 33 (.pointer (some p)) (.pointer none)).run Tryz.prog w = .ok false w := fun d => by
  simp [Op.equalIn, run_underlying Tryz.underlying33]
set_option maxRecDepth 100000 in
theorem run_peq_none (w : World) (p : Addr) : (binOp .eql 33 (.pointer (some p)) (.pointer none)).run Tryz.prog w = .ok (.bool false) w := by
  have h : (Op.equal 33 (.pointer (some p)) (.pointer none)).run Tryz.prog w = .ok false w := peq_none w p 9999
  simp only [binOp]
  simp [h]
/-- .. at the end -/
structure Fin2 (c d B hi : Nat) (M : Nat → Prop) (U : Nat) (r d2 lo2 hi2 : Nat) (N : Nat → Prop) (C : CS) (gz n : Nat) (w0 w : World) : Prop where
  two : Two c d B hi M U C r d2 lo2 hi2 N C w0 w
  z0 : w.cell? ⟨gz, 0, none⟩ = some (.int .i64 (n : Int))
theorem Fin2.kept1 {c d B hi U r d2 lo2 hi2 gz n : Nat} {M N : Nat → Prop} {C : CS} {w0 w w' : World} (h : Fin2 c d B hi M U r d2 lo2 hi2 N C gz n w0 w) (b : Below w.heap.size w w') : Fin2 c d B hi M U r d2 lo2 hi2 N C gz n w0 w' :=
  ⟨h.two.kept1 b, (b.cell (p := ⟨gz, 0, none⟩) (World.block_lt_of_cell? w _ h.z0)).trans h.z0⟩
set_option maxRecDepth 100000 in
set_option maxHeartbeats 16000000 in
theorem plays_walk (bl cp : Int) (hbl : I64 bl) (hcp : I64 cp) (v : Value) (m : Nat) (A : Nat → ActC) (w : World) (h : ActsIn v m A w) :
    Calls Tryz.prog 3 #[.agg #[.int .i64 bl, .int .i64 cp], v] w fun e w' => e = .returned (.bool true) ∧ Below w.heap.size w w' := by
  have mixed : Tryz.prog.follows .mixedOrders = true := by kernel_rfl
  have b1 := balloc1 w (.cells #[.int .i64 bl, .int .i64 cp] 23)
  have GR := Lib.hid (great_any v m A _ (h.kept b1))
  have AL := Lib.hid alive_any
  obtain ⟨ad, cap, rfl, q1, q2, q3⟩ := h.shape
  have H3 := Lib.hid q3
  have HA := Lib.hid h
  have hHB := Lib.hid b1
  have hBk := Lib.hid (Blk.new #[.int .i64 bl, .int .i64 cp] 23 w)
  clear h q3 b1
  go_enter Tryz.func3, Tryz.ntmps3
  go_wp2_with fail
  refine GR.out.mono ?_; rintro e w1 ⟨gb, rfl, h150, bb⟩
  have HB1 := Lib.hid (bnext hHB.out bb)
  have hbk1 := hBk.out.kept1 bb
  have z0 : w1.cell? ⟨w.heap.size, 0, none⟩ = some (.int .i64 bl) := hbk1.cell 0
  have z1 : w1.cell? ⟨w.heap.size, 1, none⟩ = some (.int .i64 cp) := hbk1.cell 1
  have hBk1 := Lib.hid hbk1
  clear GR bb hHB hBk hbk1
  cases gb with
  | true =>
    go_wp2
    go_ret
    exact ⟨rfl, HB1.out⟩
  | false =>
    have h150 := h150 rfl
    by_cases hbig : 20 < bl
    · go_wp2
      go_ret
      exact ⟨rfl, HB1.out⟩
    by_cases hlow : bl < 1
    · have N1 := Lib.hid (new_no bl (.inl hlow) w1)
      have N2 := Lib.hid (rnew_no bl (.inl hlow) w1)
      have N3 := Lib.hid (cnew_none (.pointer none) cp w1 (.inl rfl))
      have N4 := Lib.hid (rcnew_none cp w1)
      go_wp2_with fail
      refine N1.out.mono ?_; rintro e w' ⟨rfl, rfl⟩
      go_wp2_with fail
      refine N2.out.mono ?_; rintro e w' ⟨rfl, rfl⟩
      go_wp2_with fail
      refine N3.out.mono ?_; rintro e w' ⟨rfl, rfl⟩
      go_wp2_with fail
      refine N4.out.mono ?_; rintro e w' ⟨rfl, rfl⟩
      go_wp2_with fail
      refine (AL.out _).mono ?_; rintro e w' ⟨rfl, b⟩
      have hb := bnext HB1.out b
      go_wp2
      go_ret
      exact ⟨rfl, hb⟩
    obtain ⟨n, rfl⟩ := Int.eq_ofNat_of_zero_le (show 0 ≤ bl by omega)
    have hn1 : 1 ≤ n := by omega
    have hn20 : n ≤ 20 := by omega
    have N1 := Lib.hid (new_yes n hn1 (by omega) w1)
    go_wp2_with fail
    refine N1.out.mono ?_; rintro e w2 ⟨d, rfl, hd2, b2⟩
    have z0 : w2.cell? ⟨w.heap.size, 0, none⟩ = some (.int .i64 (n : Int)) := (hBk1.out.kept1 b2).cell 0
    have N2 := Lib.hid (rnew_yes n hn1 (by omega) w2)
    have HB2 := Lib.hid b2
    have HD2 := Lib.hid hd2
    clear N1 z1 hd2 b2
    go_wp2_with fail
    refine N2.out.mono ?_; rintro e w3 ⟨d2, rfl, hr3, b3⟩
    have HB3 := Lib.hid b3
    have HR3 := Lib.hid hr3
    have z1 : w3.cell? ⟨w.heap.size, 1, none⟩ = some (.int .i64 cp) := ((hBk1.out.kept1 HB2.out).kept1 b3).cell 1
    have hd3 := HD2.out.kept1 b3
    have hBk3 := Lib.hid ((hBk1.out.kept1 HB2.out).kept1 b3)
    have HBW3 := Lib.hid (bnext (bnext HB1.out HB2.out) b3)
    by_cases hcap : cp < 1 ∨ 256 < cp
    · have N3 := Lib.hid (cnew_arg cp hcap w3 hd3)
      have N4 := Lib.hid (rcnew_arg cp hcap w3 hr3)
      clear N2 z0 b3 hr3 hd3
      go_wp2_with fail
      refine N3.out.mono ?_; rintro e w' ⟨rfl, rfl⟩
      go_wp2_with fail
      refine N4.out.mono ?_; rintro e w' ⟨rfl, rfl⟩
      go_wp2_with fail
      refine (AL.out _).mono ?_; rintro e w' ⟨rfl, b⟩
      have hb := bnext HBW3.out b
      clear b
      go_wp2
      go_ret
      exact ⟨rfl, hb⟩
    obtain ⟨most, rfl⟩ := Int.eq_ofNat_of_zero_le (show 0 ≤ cp by omega)
    have N3 := Lib.hid (cnew_yes (most := most) (by omega) (by omega) w3 hd3)
    have HD3 := Lib.hid hd3
    clear N2 z0 b3 hr3 hd3
    go_wp2_with fail
    refine N3.out.mono ?_; rintro e w4 ⟨c, M, rfl, hc4, b4, hM4⟩
    have hr4 := HR3.out.kept1 b4
    have z1 : w4.cell? ⟨w.heap.size, 1, none⟩ = some (.int .i64 (most : Int)) := (hBk3.out.kept1 b4).cell 1
    have N4 := Lib.hid (rcnew_yes (most := most) (by omega) (by omega) w4 hr4)
    have HC4 := Lib.hid hc4
    have HB4 := Lib.hid b4
    have HM4 := Lib.hid hM4
    unfold cV
    clear N3 hc4 b4 hM4 hr4
    go_wp2_with fail
    refine N4.out.mono ?_; rintro e w5 ⟨r, rfl, hr5, b5, hr4⟩
    have HT5 : Hid (Two c d w1.heap.size w2.heap.size M 0 ⟨freshSt n zeroB, most, []⟩ r d2 w2.heap.size w3.heap.size (MR r (.slice none 0 0)) ⟨freshSt n zeroB, most, []⟩ w1 w5) := Lib.hid (by
      have k2 := HB2.out.size
      have k3 := HB3.out.size
      have k4 := HB4.out.size
      have k5 := b5.size
      refine ⟨⟨HC4.out.kept1 b5, bnext (bnext (bnext HB2.out HB3.out) HB4.out) b5, fun k hm => by have := HM4.out k hm; omega⟩, ⟨_, hr5, rfl⟩, fun k hk => ?_, fun k h1 h2 => ⟨fun hm => by have := HM4.out k hm; omega, by omega⟩, k2⟩
      have e : k = r := hk.elim id fun h => by cases h
      subst e
      exact ⟨fun hm => by have := HC4.out.lt hm; omega, by omega, by omega⟩)
    have HBk5 := Lib.hid ((hBk3.out.kept1 HB4.out).kept1 b5)
    have HBW5 := Lib.hid (bnext (bnext HBW3.out HB4.out) b5)
    have hce := run_peq_none
    have hsz1 : w.heap.size < w1.heap.size := hBk1.out.lt
    clear N4 z1 hr5 b5 hr4 HR3 HD3 HB2 HD2 HB3 HC4 HB4 HM4 hBk3 HBW3
    have HZ0 : Hid (w1.cell? ⟨w.heap.size, 0, none⟩ = some (.int .i64 (n : Int))) := Lib.hid (hBk1.out.cell 0)
    go_wp2
    clear HBk5
    rename_i M0
    go_loopw [13] (fun q wr => ∃ (i : Nat) (M N : Nat → Prop) (C : CS), q = .int .i64 i ∧ i ≤ m ∧ Two c d w1.heap.size w2.heap.size M i C r d2 w2.heap.size w3.heap.size N C w1 wr ∧ C.st.n = n ∧ C.st.acts ≤ i * 40) (fun q _ => m - (intOf q).toNat)
    case atStart => exact ⟨0, M, _, _, rfl, Nat.zero_le _, HT5.out, rfl, Nat.zero_le _⟩
    case round =>
      clear HT5
      obtain ⟨i, M, N, C, rfl, hiI, hT, hn, hac⟩ := hrel
      have HT := Lib.hid hT
      clear hT
      by_cases hlt : i < m
      · obtain ⟨g, o, rfl, hg, hc⟩ := H3.out (by omega)
        obtain ⟨c0, c1, c2, c3, c4, c5⟩ := hc i hlt
        have hx := HA.out.2 i hlt
        generalize A i = x at *
        have hbw := HB1.out.trans (HT.out.p.below.mono HB1.out.size)
        have c0 := (hbw.cell (p := ⟨g, o + i * 6, none⟩) hg).trans c0
        have c1 := (hbw.cell (p := ⟨g, o + i * 6 + 1, none⟩) hg).trans c1
        have c2 := (hbw.cell (p := ⟨g, o + i * 6 + 2, none⟩) hg).trans c2
        have c3 := (hbw.cell (p := ⟨g, o + i * 6 + 3, none⟩) hg).trans c3
        have c4 := (hbw.cell (p := ⟨g, o + i * 6 + 4, none⟩) hg).trans c4
        have c5 := (hbw.cell (p := ⟨g, o + i * 6 + 5, none⟩) hg).trans c5
        have D := Lib.hid (HT.out.does x hx (by omega) (by omega))
        have HO := Lib.hid (does_ok HT.out.p.cache.ok x hx.n.2)
        have hg1 : g < w1.heap.size := Nat.lt_of_lt_of_le hg HB1.out.size
        have HX := Lib.hid hx
        have HCA := Lib.hid hac
        have HCN := Lib.hid hn
        clear hc H3 hbw HT hx hac hn
        go_wp2_with fail
        refine D.out.mono ?_; rintro e w6 ⟨rfl, M', ht6, hb6⟩
        have c0 := (hb6.cell (p := ⟨g, o + i * 6, none⟩) hg1).trans c0
        have c1 := (hb6.cell (p := ⟨g, o + i * 6 + 1, none⟩) hg1).trans c1
        have c2 := (hb6.cell (p := ⟨g, o + i * 6 + 2, none⟩) hg1).trans c2
        have c3 := (hb6.cell (p := ⟨g, o + i * 6 + 3, none⟩) hg1).trans c3
        have c4 := (hb6.cell (p := ⟨g, o + i * 6 + 4, none⟩) hg1).trans c4
        have c5 := (hb6.cell (p := ⟨g, o + i * 6 + 5, none⟩) hg1).trans c5
        have D2 := Lib.hid (ht6.did x HX.out (by have := HCA.out; omega) (by omega))
        clear D ht6 hb6
        go_wp2_with fail
        refine D2.out.mono ?_; rintro e w7 ⟨rfl, N', ht7, hb7⟩
        have ht7 : Two c d w1.heap.size w2.heap.size M' (i + 1) (doesR C x).2.2 r d2 w2.heap.size w3.heap.size N' (doesR C x).2.2 w1 w7 := ht7
        have hC1n : (doesR C x).2.2.st.n = n := HO.out.2.1.trans HCN.out
        have hC1a : (doesR C x).2.2.st.acts ≤ (i + 1) * 40 := by have h1 := HO.out.2.2.2; have h2 := HCA.out; have h3 := HCN.out; omega
        clear c0 c1 c2 c3 c4 c5 D2 hb7 HO HX HCA HCN
        generalize doesR C x = R at *
        obtain ⟨tx, code, C1⟩ := R
        dsimp only at *
        have HT7 := Lib.hid ht7
        have HC1 := Lib.hid (And.intro hC1n hC1a)
        have DI := Lib.hid (dirty_any w7 ht7.p.cache)
        clear ht7 hC1n hC1a
        go_wp2_with fail
        refine DI.out.mono ?_; rintro e w8 ⟨v1, rfl, hv1, b8⟩
        have PI := Lib.hid (pinned_any w8 (HT7.out.kept1 b8).p.cache)
        have HV1 := Lib.hid hv1
        have HB8 := Lib.hid b8
        clear DI hv1 b8
        go_wp2_with fail
        refine PI.out.mono ?_; rintro e w9 ⟨v2, rfl, hv2, b9⟩
        have HB79 := Lib.hid (bnext HB8.out b9)
        have HV19 := Lib.hid (row_kept HV1.out b9)
        have HV2 := Lib.hid hv2
        obtain ⟨ad1, cap1, rfl, p1, p2, p3⟩ := shape_of HV1.out
        obtain ⟨ad2, cap2, rfl, o1, o2, o3⟩ := shape_of hv2
        have p2 : cap1 ≤ 9223372036854775807 := p2
        have o2 : cap2 ≤ 9223372036854775807 := o2
        have HP3 := Lib.hid p3
        have HO3 := Lib.hid o3
        have HL1 := Lib.hid (show (listB C1 true false).length ≤ 4000000 by have := pendL_len (hasB C1 true false) C1.st.n; have h2 := HC1.out.1; unfold listB; omega)
        have HL2 := Lib.hid (show (listB C1 false true).length ≤ 4000000 by have := pendL_len (hasB C1 false true) C1.st.n; have h2 := HC1.out.1; unfold listB; omega)
        have HL3 := Lib.hid (show (pends C1.st).length ≤ 4000000 by have := pendL_len C1.st.pend C1.st.n; have h2 := HC1.out.1; unfold pends; omega)
        have hI : Look c d w1.heap.size w2.heap.size M' (i + 1) r d2 w2.heap.size w3.heap.size N' C1 (.slice ad1 (listB C1 true false).length cap1) (.slice ad2 (listB C1 false true).length cap2) w1 w9 w9.drew :=
          Look.kept1 ⟨HT7.out.kept1 HB79.out, natsAt_in HV19.out, natsAt_in hv2, ref_acts (HT7.out.kept1 HB79.out).q.dev, Below.refl _ _⟩ (Below.refl _ _).drew
        have hI4 := hI.c4
        have BK := Lib.hid fun dt pn w (hq : CacheRt r d2 w2.heap.size w3.heap.size N' (i + 1) C1 w) => rcblocks_any dt pn w hq
        have SY := Lib.hid fun va vb (L : List Nat) (hL : L.length ≤ 4000000) w (ha : NatsIn va L w) (hb : NatsIn vb L w) => same_yes va vb L hL w ha hb
        clear PI hv2 b9 p3 o3
        go_wp2
        go_region_held3 (fun w' => w'.cell? ⟨d2, 4, none⟩ = some (.int .i64 (C1.st.acts : Int))) (assumption) (first
          | (go_at_call 15; refine (BK.out false true _ hI2.two.q).mono ?_; rintro e w12 ⟨v5, rfl, hv5, b5⟩; have hI3 := Look.kept1 hI2 b5; have hI34 := hI3.c4; have hn5 := natsAt_in hv5)
          | (go_at_call 15; refine (BK.out true false _ hI.two.q).mono ?_; rintro e w10 ⟨v3, rfl, hv3, b3⟩; have hI1 := Look.kept1 hI b3; have hI14 := hI1.c4; have hn3 := natsAt_in hv3)
          | (go_at_call 14; refine (SY.out _ _ _ HL3.out _ hn6 hn7).mono ?_; rintro e w16 ⟨rfl, b16⟩; have hI7 := Look.kept1 hI6 b16; have hI74 := hI7.c4)
          | (go_at_call 14; refine (SY.out _ _ _ HL2.out _ hI3.pp hn5).mono ?_; rintro e w13 ⟨rfl, b13⟩; have hI4x := Look.kept1 hI3 b13; have hI44 := hI4x.c4)
          | (go_at_call 14; refine (SY.out _ _ _ HL1.out _ hI1.pd hn3).mono ?_; rintro e w11 ⟨rfl, b11⟩; have hI2 := Look.kept1 hI1 b11; have hI24 := hI2.c4)
          | (go_at_call 16; refine (acts_any _ hI4x.two.p.dev).mono ?_; rintro e w' ⟨rfl, rfl⟩)
          | (go_at_call 17; refine (pending_any _ hI4x.two.p.dev).mono ?_; rintro e w14 ⟨v6, rfl, hv6, b14⟩; have hI5 := Look.kept1 hI4x b14; have hI54 := hI5.c4; have hn6q := natsAt_in hv6)
          | (go_at_call 18; refine (rpending_any _ hI5.two.q.dev).mono ?_; rintro e w15 ⟨v7, rfl, hv7, b15⟩; have hI6 := Look.kept1 hI5 b15; have hI64 := hI6.c4; have hn7 := natsAt_in hv7; have hn6 := hn6q.kept b15))
        have HI7 := Lib.hid hI7
        have HB9 := Lib.hid (HB79.out.trans (hI7.below.mono HB79.out.size))
        have HW1 := Lib.hid (row_kept HV19.out hI7.below)
        have HW2 := Lib.hid (row_kept HV2.out hI7.below)
        have hs8 := HB8.out.size
        clear hI hI1 hI2 hI3 hI4x hI5 hI6 hI7 hI4 hI14 hI24 hI34 hI44 hI54 hI64 hI74 hn3 hn5 hn6 hn6q hn7 hv3 hv5 hv6 hv7 b3 b5 b11 b13 b14 b15 b16 HV19 HV2 HV1 HB79 HB8 SY BK
        generalize hl1 : (listB C1 true false).length = n1 at *
        generalize hl2 : (listB C1 false true).length = n2 at *
        have HLE := Lib.hid (And.intro hl1 hl2)
        clear hl1 hl2
        go_wp2
        go_loopw [20] (fun q wz => ∃ (j : Nat) (xs : List Value), q = .int .i64 j ∧ j ≤ n1 ∧ wz.ownsRow w7.heap.size 3 1 (.slice ad1 n1 cap1) n1 xs ∧ Hid (wz.ownsRow w8.heap.size 3 1 (.slice ad2 n2 cap2) n2 ((listB C1 false true).map natV)) ∧ Below w7.heap.size w7 wz) (fun q _ => n1 - (intOf q).toNat)
        case atStart => exact ⟨0, _, rfl, Nat.zero_le _, HW1.out, Lib.hid HW2.out, HB9.out⟩
        case round =>
          clear HW1 HW2 HB9 HI7
          obtain ⟨j, xs, rfl, hj, hown, HO2, hbz⟩ := hrel
          by_cases hjl : j < n1
          · obtain ⟨gp, rfl, hgp1, hgp2⟩ := HP3.out (by omega)
            have hxl : j < xs.length := by have := hown.1; omega
            have q1 : _ = some xs[j] := (hown.cellAt j (by omega)).trans (List.getElem?_eq_getElem hxl)
            have q2 := hown.frozenAt j
            have HO := Lib.hid (hown.stored j (.int .i64 (-1))).1
            have HO22 := Lib.hid (ownsRow_setCell_below HO2.out (show (⟨gp, j, none⟩ : Addr).block < w8.heap.size from hgp2) (.int .i64 (-1)))
            have HBz := Lib.hid (hbz.setCell (p := ⟨gp, j, none⟩) hgp1 (.int .i64 (-1)))
            generalize xs[j] = u at *
            clear hown hbz HO2
            go_wp2
            exact ⟨⟨j + 1, _, by go_num, by omega, HO.out, HO22, HBz.out⟩, by simp [intOf]; omega⟩
          · obtain rfl : j = n1 := by omega
            have HBX := Lib.hid hbz
            clear hown hbz
            go_wp2
            go_loopw [21] (fun q wz => ∃ (j : Nat) (xs : List Value), q = .int .i64 j ∧ j ≤ n2 ∧ wz.ownsRow w8.heap.size 3 1 (.slice ad2 n2 cap2) n2 xs ∧ Below w7.heap.size w7 wz) (fun q _ => n2 - (intOf q).toNat)
            case atStart => exact ⟨0, _, rfl, Nat.zero_le _, HO2.out, HBX.out⟩
            case round =>
              clear HO2 HBX
              obtain ⟨k, xs, rfl, hk, hown, hbz⟩ := hrel
              by_cases hkl : k < n2
              · obtain ⟨gp, rfl, hgp1, hgp2⟩ := HO3.out (by omega)
                have hxl : k < xs.length := by have := hown.1; omega
                have q1 : _ = some xs[k] := (hown.cellAt k (by omega)).trans (List.getElem?_eq_getElem hxl)
                have q2 := hown.frozenAt k
                have HO := Lib.hid (hown.stored k (.int .i64 (-1))).1
                have HBz := Lib.hid (hbz.setCell (p := ⟨gp, k, none⟩) (show w7.heap.size ≤ gp by omega) (.int .i64 (-1)))
                generalize xs[k] = u at *
                clear hown hbz
                go_wp2
                exact ⟨⟨k + 1, _, by go_num, by omega, HO.out, HBz.out⟩, by simp [intOf]; omega⟩
              · obtain rfl : k = n2 := by omega
                have HBX := Lib.hid hbz
                have HLL := Lib.hid (has_list HT7.out.p.cache.ok)
                clear hown hbz
                go_wp2
                go_loopw [22] (fun q wz => ∃ k : Nat, q = .int .i64 ((k : Int) - 1) ∧ k ≤ n + 2 ∧ Below w7.heap.size w7 wz) (fun q _ => n + 2 - (intOf q + 1).toNat)
                case atStart => exact ⟨0, rfl, Nat.zero_le _, HBX.out⟩
                case round =>
                  clear HBX
                  obtain ⟨kk, rfl, hkk, hbz⟩ := hrel
                  have htz := HT7.out.kept1 hbz
                  have z0 := (htz.p.below.cell (p := ⟨w.heap.size, 0, none⟩) hsz1).trans HZ0.out
                  have HTZ := Lib.hid htz
                  have HBZ := Lib.hid hbz
                  obtain ⟨kq, hkq⟩ : ∃ kq : Int, (kk : Int) - 1 = kq := ⟨_, rfl⟩
                  by_cases hlast : kk < n + 2
                  · have hle : kq ≤ (n : Int) := by omega
                    have HS := has_raw kq ⟨by omega, by omega⟩ _ htz.p.cache
                    have BK := Lib.hid (rcblocks_any false false _ htz.q)
                    have IN := Lib.hid fun va w' (hv : NatsIn va (listB C1 false false) w') => (by
                      have := in_any va (listB C1 false false) kq (by have := pendL_len (hasB C1 false false) C1.st.n; have h2 := HC1.out.1; unfold listB; omega) w' hv
                      rw [HLL.out kq] at this
                      exact this : Calls Tryz.prog 20 #[va, .int .i64 kq] w' fun e w'' => e = .returned (.bool (atB C1.L kq).isSome) ∧ w' = w'')
                    have HS := Lib.hid HS
                    have hnext : kq + 1 = (kk : Int) := by omega
                    have hw1 : IntKind.i64.wrap (kq + 1) = kq + 1 := IntWalk.i64_in _ (by omega)
                    rw [hkq]
                    have HKQ := Lib.hid hkq
                    clear htz hbz hkq
                    generalize (atB C1.L kq).isSome = bq at *
                    go_wp2_with fail
                    refine HS.out.mono ?_; rintro e w' ⟨rfl, rfl⟩
                    go_wp2_with fail
                    refine BK.out.mono ?_; rintro e wy ⟨v8, rfl, hv8, b8⟩
                    have IN2 := Lib.hid (IN.out _ _ (natsAt_in hv8))
                    have HBY := Lib.hid (HBZ.out.trans (b8.mono HBZ.out.size))
                    clear hv8 b8 IN BK HS
                    go_wp2_with fail
                    refine IN2.out.mono ?_; rintro e w' ⟨rfl, rfl⟩
                    clear IN2 z0
                    go_wp2
                    exact ⟨⟨kk + 1, by rw [show ((kk + 1 : Nat) : Int) - 1 = (kk : Int) by omega], by omega, HBY.out⟩, by simp [intOf]; omega⟩
                  · have hle : (n : Int) < kq := by omega
                    rw [hkq]
                    have D1 := Lib.hid (dirty_any _ htz.p.cache)
                    clear htz hbz hkq
                    go_wp2_with fail
                    refine D1.out.mono ?_; rintro e x1 ⟨u1, rfl, hu1, e1⟩
                    have ht1 := HTZ.out.kept1 e1
                    have B1 := Lib.hid (rcblocks_any true false _ ht1.q)
                    have HT1 := Lib.hid ht1
                    have HU1 := Lib.hid (natsAt_in hu1)
                    clear D1 hu1 e1 ht1 z0
                    go_wp2_with fail
                    refine B1.out.mono ?_; rintro e x2 ⟨u2, rfl, hu2, e2⟩
                    have HT2 := Lib.hid (HT1.out.kept1 e2)
                    have S2 := Lib.hid (same_yes _ _ (listB C1 true false) (by rw [HLE.out.1]; exact HL1.out) _ (HU1.out.kept e2) (natsAt_in hu2))
                    clear B1 hu2 e2 HU1 HT1
                    go_wp2_with fail
                    refine S2.out.mono ?_; rintro e x3 ⟨rfl, e3⟩
                    have HT3 := Lib.hid (HT2.out.kept1 e3)
                    have P3 := Lib.hid (pinned_any _ HT3.out.p.cache)
                    clear S2 e3 HT2
                    go_wp2_with fail
                    refine P3.out.mono ?_; rintro e x4 ⟨u4, rfl, hu4, e4⟩
                    have HT4 := Lib.hid (HT3.out.kept1 e4)
                    have B4 := Lib.hid (rcblocks_any false true _ HT4.out.q)
                    have HU4 := Lib.hid (natsAt_in hu4)
                    clear P3 hu4 e4 HT3
                    go_wp2_with fail
                    refine B4.out.mono ?_; rintro e x5 ⟨u5, rfl, hu5, e5⟩
                    have HT5 := Lib.hid (HT4.out.kept1 e5)
                    have S5 := Lib.hid (same_yes _ _ (listB C1 false true) (by rw [HLE.out.2]; exact HL2.out) _ (HU4.out.kept e5) (natsAt_in hu5))
                    clear B4 hu5 e5 HU4 HT4
                    go_wp2_with fail
                    refine S5.out.mono ?_; rintro e x6 ⟨rfl, e6⟩
                    have HT6 := Lib.hid (HT5.out.kept1 e6)
                    clear S5 e6 HT5
                    go_wp2
                    exact ⟨⟨i + 1, M', N', C1, by go_num, by omega, HT6.out, HC1.out.1, HC1.out.2⟩, by simp [intOf]; omega⟩
      · obtain rfl : i = m := by omega
        have hF : Fin2 c d w1.heap.size w2.heap.size M i r d2 w2.heap.size w3.heap.size N C w.heap.size n w1 wr.drew := Fin2.kept1 ⟨HT.out, (HT.out.p.below.cell (p := ⟨w.heap.size, 0, none⟩) hsz1).trans HZ0.out⟩ (Below.refl _ _).drew
        have hF0 := hF.z0
        have hn4 : n ≤ 4096 := by omega
        clear H3 HA HT
        go_wp2
        go_region_held3 (fun w' => w'.cell? ⟨w.heap.size, 0, none⟩ = some (.int .i64 (n : Int))) (assumption) (first
          | (go_at_call 21; refine (kept_any _ hF.two.p.dev).mono ?_; rintro e y1 ⟨rfl, e1⟩; have hF1 := Fin2.kept1 hF e1; have hF10 := hF1.z0)
          | (go_at_call 22; refine (rkept_any _ hF1.two.q.dev).mono ?_; rintro e w' ⟨rfl, rfl⟩)
          | (go_at_call 24; refine (all_any n hn4 y3).mono ?_; rintro e y4 ⟨va2, rfl, hva2, e4⟩; have hF4 := Fin2.kept1 hF3 e4; have hF40 := hF4.z0)
          | (go_at_call 24; refine (all_any n hn4 y1).mono ?_; rintro e y2 ⟨va, rfl, hva, e2⟩; have hF2 := Fin2.kept1 hF1 e2; have hF20 := hF2.z0)
          | (go_at_call 23; refine (crash_any (List.replicate n true) _ _ hF2.two.p.dev hva).mono ?_; rintro e y3 ⟨rfl, e3⟩; have hF3 := Fin2.kept1 hF2 e3; have hF30 := hF3.z0)
          | (go_at_call 25; refine (rcrash_any (List.replicate n true) _ _ hF4.two.q.dev hva2).mono ?_; rintro e w' ⟨rfl, rfl⟩)
          | (go_at_call 9; refine (AL.out _).mono ?_; rintro e y5 ⟨rfl, e5⟩; have hF5 := Fin2.kept1 hF4 e5; have hF50 := hF5.z0))
        have hb := HB1.out.trans (hF5.two.p.below.mono HB1.out.size)
        go_wp2
        go_ret
        exact ⟨rfl, hb⟩
end Go.Proofs.YtehjobjjlldckaaGreat
