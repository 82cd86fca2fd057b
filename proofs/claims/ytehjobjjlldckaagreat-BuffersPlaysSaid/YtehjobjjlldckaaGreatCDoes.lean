/- does: an act, with the program's cache and device. -/
import Derived.Test.YtehjobjjlldckaaGreatCHelp
import Derived.Test.YtehjobjjlldckaaGreatCPut
import Derived.Test.YtehjobjjlldckaaGreatCForget
namespace Go.Proofs.YtehjobjjlldckaaGreat
set_option linter.unusedVariables false
open Go.RowKit

/-- an act, in the chapter's words: what is told, and what the cache is behind it -/
def doesR (C : CS) (x : ActC) : ByteArray × Int × CS :=
  match x.kind % 13 with
  | 0 => getC C x.b
  | 1 => getC C x.b
  | 2 => getC C x.b
  | 3 => (⟨#[]⟩, putC C x.b (whatC x) x.pin)
  | 4 => (⟨#[]⟩, putC C x.b (whatC x) x.pin)
  | 5 => (⟨#[]⟩, putC C x.b (whatC x) x.pin)
  | 6 => (⟨#[]⟩, 0, unpinC C x.b)
  | 7 => (⟨#[]⟩, 0, forgetC C x.b)
  | 8 => (⟨#[]⟩, outC C x.b)
  | 9 => (⟨#[]⟩, syncC C)
  | 10 => (⟨#[]⟩, 0, C.on (C.st.armed x.n))
  | 11 => (⟨#[]⟩, fCode C.st, C.on (fSt C.st))
  | _ => (⟨#[]⟩, wCode C.st x.b 128, C.on (wSt C.st x.b (rep x.fill)))
theorem does_ok {C : CS} (h : C.ok) (x : ActC) (hn : x.n ≤ 9223372036854775807) : (doesR C x).2.2.ok ∧ (doesR C x).2.2.st.n = C.st.n ∧ (doesR C x).2.2.most = C.most ∧ (doesR C x).2.2.st.acts ≤ C.st.acts + (C.st.n + 1) := by
  have g := get_ok h x.b
  have p := put_ok h x.b (whatC x) x.pin
  have o := out_ok h x.b
  have s := sync_ok h C.st.n
  have hg : (getC C x.b).2.2.ok ∧ (getC C x.b).2.2.st.n = C.st.n ∧ (getC C x.b).2.2.most = C.most ∧ (getC C x.b).2.2.st.acts ≤ C.st.acts + (C.st.n + 1) := ⟨g.1, g.2.1, g.2.2.1, by omega⟩
  have hp : (putC C x.b (whatC x) x.pin).2.ok ∧ (putC C x.b (whatC x) x.pin).2.st.n = C.st.n ∧ (putC C x.b (whatC x) x.pin).2.most = C.most ∧ (putC C x.b (whatC x) x.pin).2.st.acts ≤ C.st.acts + (C.st.n + 1) := ⟨p.1, p.2.1, p.2.2.1, by omega⟩
  unfold doesR
  split
  · exact hg
  · exact hg
  · exact hg
  · exact hp
  · exact hp
  · exact hp
  · exact ⟨unpin_ok h x.b, rfl, rfl, by show C.st.acts ≤ _; omega⟩
  · exact ⟨forget_ok h x.b, rfl, rfl, by show C.st.acts ≤ _; omega⟩
  · exact ⟨o.1, o.2.1, o.2.2.1, by show (outC C x.b).2.st.acts ≤ _; omega⟩
  · exact ⟨s.1, s.2.1, s.2.2.1, by show (syncTo C C.st.n).2.st.acts ≤ _; omega⟩
  · exact ⟨on_ok h (armed_ok h.st hn) rfl, rfl, rfl, by show C.st.acts ≤ _; omega⟩
  · exact ⟨on_ok h (fSt_ok h.st) (fSt_n _), fSt_n _, rfl, by have := fSt_acts C.st; show (fSt C.st).acts ≤ _; omega⟩
  · exact ⟨on_ok h (wSt_ok h.st _ _) (wSt_n _ _ _), wSt_n _ _ _, rfl, by have := wSt_acts C.st x.b (rep x.fill); show (wSt C.st x.b (rep x.fill)).acts ≤ _; omega⟩
def DoesRet (c d lo hi : Nat) (M : Nat → Prop) (U : Nat) (C : CS) (R : ByteArray × Int × CS) (w : World) (e : Ending) (w' : World) : Prop :=
  ∃ M', e = .returned (.tuple #[.string R.1, .int .i64 R.2.1]) ∧ CacheAt c d lo hi M' (U + 1) R.2.2 w' ∧ Went lo hi M M' w w'
theorem act_blk {x : ActC} {g : Nat} {w : World} (h : Blk g #[.int .u8 (x.kind : Int), .int .i64 x.b, .int .i64 x.n, .int .u8 (x.fill : Int), .bool x.pin, .string x.data] 43 w) :
    w.cell? ⟨g, 0, none⟩ = some (.int .u8 (x.kind : Int)) ∧ w.cell? ⟨g, 1, none⟩ = some (.int .i64 x.b) ∧ w.cell? ⟨g, 2, none⟩ = some (.int .i64 x.n) ∧ w.cell? ⟨g, 3, none⟩ = some (.int .u8 (x.fill : Int)) ∧ w.cell? ⟨g, 4, none⟩ = some (.bool x.pin) ∧ w.cell? ⟨g, 5, none⟩ = some (.string x.data) :=
  ⟨h.cell 0, h.cell 1, h.cell 2, h.cell 3, h.cell 4, h.cell 5⟩
theorem went_boxed {lo hi : Nat} {M M' : Nat → Prop} {w w' : World} {o : Obj} (h : Went lo hi M M' (w.alloc o) w') : Went lo hi M M' w w' := (Went.below (balloc1 w o)).trans h
set_option maxHeartbeats 2000000 in
theorem does_0 {c d lo hi U : Nat} {M : Nat → Prop} {C : CS} (x : ActC) (hx : x.ok) (hk : (x.kind : Int) % 13 = 0) (ha : C.st.acts ≤ 800000) (hU : U ≤ 900000000) (w : World) (h : CacheAt c d lo hi M U C w) :
    Calls Tryz.prog 10 #[cV c, .pointer (some ⟨d, 0, none⟩), actV x] w (DoesRet c d lo hi M U C (getC C x.b) w) := by
  have hb := hx.b
  have h1 := h.kept1 (balloc1 w (.cells #[.int .u8 (x.kind : Int), .int .i64 x.b, .int .i64 x.n, .int .u8 (x.fill : Int), .bool x.pin, .string x.data] 43))
  have G := Lib.hid (get_any x.b hb (by omega) (by omega) _ h1)
  clear h h1
  generalize hR : getC C x.b = R at *
  have HR := Lib.hid hR
  clear hR
  go_enter Tryz.func10, Tryz.ntmps10
  go_wp2_with fail
  refine G.out.mono ?_; rintro e w2 ⟨M', rfl, h2, hw⟩
  rw [HR.out] at h2 ⊢
  have HZ := Lib.hid (And.intro h2 (went_boxed hw))
  clear G h2 hw
  go_wp2
  go_ret2
  exact ⟨M', rfl, HZ.out⟩
set_option maxHeartbeats 2000000 in
theorem does_1 {c d lo hi U : Nat} {M : Nat → Prop} {C : CS} (x : ActC) (hx : x.ok) (hk : (x.kind : Int) % 13 = 1) (ha : C.st.acts ≤ 800000) (hU : U ≤ 900000000) (w : World) (h : CacheAt c d lo hi M U C w) :
    Calls Tryz.prog 10 #[cV c, .pointer (some ⟨d, 0, none⟩), actV x] w (DoesRet c d lo hi M U C (getC C x.b) w) := by
  have hb := hx.b
  have h1 := h.kept1 (balloc1 w (.cells #[.int .u8 (x.kind : Int), .int .i64 x.b, .int .i64 x.n, .int .u8 (x.fill : Int), .bool x.pin, .string x.data] 43))
  have G := Lib.hid (get_any x.b hb (by omega) (by omega) _ h1)
  clear h h1
  generalize hR : getC C x.b = R at *
  have HR := Lib.hid hR
  clear hR
  go_enter Tryz.func10, Tryz.ntmps10
  go_wp2_with fail
  refine G.out.mono ?_; rintro e w2 ⟨M', rfl, h2, hw⟩
  rw [HR.out] at h2 ⊢
  have HZ := Lib.hid (And.intro h2 (went_boxed hw))
  clear G h2 hw
  go_wp2
  go_ret2
  exact ⟨M', rfl, HZ.out⟩
set_option maxHeartbeats 2000000 in
theorem does_2 {c d lo hi U : Nat} {M : Nat → Prop} {C : CS} (x : ActC) (hx : x.ok) (hk : (x.kind : Int) % 13 = 2) (ha : C.st.acts ≤ 800000) (hU : U ≤ 900000000) (w : World) (h : CacheAt c d lo hi M U C w) :
    Calls Tryz.prog 10 #[cV c, .pointer (some ⟨d, 0, none⟩), actV x] w (DoesRet c d lo hi M U C (getC C x.b) w) := by
  have hb := hx.b
  have h1 := h.kept1 (balloc1 w (.cells #[.int .u8 (x.kind : Int), .int .i64 x.b, .int .i64 x.n, .int .u8 (x.fill : Int), .bool x.pin, .string x.data] 43))
  have G := Lib.hid (get_any x.b hb (by omega) (by omega) _ h1)
  clear h h1
  generalize hR : getC C x.b = R at *
  have HR := Lib.hid hR
  clear hR
  go_enter Tryz.func10, Tryz.ntmps10
  go_wp2_with fail
  refine G.out.mono ?_; rintro e w2 ⟨M', rfl, h2, hw⟩
  rw [HR.out] at h2 ⊢
  have HZ := Lib.hid (And.intro h2 (went_boxed hw))
  clear G h2 hw
  go_wp2
  go_ret2
  exact ⟨M', rfl, HZ.out⟩
set_option maxHeartbeats 2000000 in
theorem does_3 {c d lo hi U : Nat} {M : Nat → Prop} {C : CS} (x : ActC) (hx : x.ok) (hk : (x.kind : Int) % 13 = 3) (ha : C.st.acts ≤ 800000) (hU : U ≤ 900000000) (w : World) (h : CacheAt c d lo hi M U C w) :
    Calls Tryz.prog 10 #[cV c, .pointer (some ⟨d, 0, none⟩), actV x] w (DoesRet c d lo hi M U C ((⟨#[]⟩, putC C x.b (whatC x) x.pin)) w) := by
  have hb := hx.b
  have h1 := h.kept1 (balloc1 w (.cells #[.int .u8 (x.kind : Int), .int .i64 x.b, .int .i64 x.n, .int .u8 (x.fill : Int), .bool x.pin, .string x.data] 43))
  have mixed : Tryz.prog.follows .mixedOrders = true := by kernel_rfl
  have hf := hx.fill
  obtain ⟨w2, hw2⟩ : ∃ w2, (w.alloc (.cells #[.int .u8 (x.kind : Int), .int .i64 x.b, .int .i64 x.n, .int .u8 (x.fill : Int), .bool x.pin, .string x.data] 43)) = w2 := ⟨_, rfl⟩
  have HBk : Hid (Blk w.heap.size #[.int .u8 (x.kind : Int), .int .i64 x.b, .int .i64 x.n, .int .u8 (x.fill : Int), .bool x.pin, .string x.data] 43 w2) := Lib.hid (by rw [← hw2]; exact Blk.new _ _ _)
  rw [hw2] at h1
  have H1 := Lib.hid h1
  have P := Lib.hid fun wq (hq : CacheAt c d lo hi M U C wq) => put_any x.b hb (whatC x) x.pin (by omega) (by omega) wq hq
  have HBW : Hid (Below w.heap.size w w2) := Lib.hid (by rw [← hw2]; exact balloc1 _ _)
  have WA := Lib.hid fun w => what_any x hf w
  have kb : ∀ p : BelowP w2, p.to.cell? ⟨w.heap.size, 0, none⟩ = some (.int .u8 (x.kind : Int)) ∧ p.to.cell? ⟨w.heap.size, 1, none⟩ = some (.int .i64 x.b) ∧ p.to.cell? ⟨w.heap.size, 2, none⟩ = some (.int .i64 x.n) ∧ p.to.cell? ⟨w.heap.size, 3, none⟩ = some (.int .u8 (x.fill : Int)) ∧ p.to.cell? ⟨w.heap.size, 4, none⟩ = some (.bool x.pin) ∧ p.to.cell? ⟨w.heap.size, 5, none⟩ = some (.string x.data) := fun p => act_blk (HBk.out.kept1 p.h)
  have k0 := fun p => (kb p).1
  have k1 := fun p => (kb p).2.1
  have k2 := fun p => (kb p).2.2.1
  have k3 := fun p => (kb p).2.2.2.1
  have k4 := fun p => (kb p).2.2.2.2.1
  have k5 := fun p => (kb p).2.2.2.2.2
  obtain ⟨j0, -, -, -, -, -⟩ := kb ⟨w2, Below.refl _ _⟩
  have j0 : w2.cell? ⟨w.heap.size, 0, none⟩ = some (.int .u8 (x.kind : Int)) := j0
  clear h h1 kb hx
  go_enter Tryz.func10, Tryz.ntmps10
  go_wp2
  refine wp_region_tail_below 7 mixed (by kernel_rfl) ?_
  simp only [List.take_succ_cons, List.take_zero, List.drop_succ_cons, List.drop_zero]
  repeat (go_big_quiet_step (first | (go_at_call 34; refine calls_below (WA.out _))))
  refine wpQuiet_nil ?_
  intro w0q hw'
  obtain ⟨⟨wq, bq⟩, hw''⟩ := hw'
  have hw2 : wq = w0q := hw''.symm
  clear hw''
  subst hw2
  have F := Lib.hid (P.out wq (H1.out.kept1 bq))
  have HB2 := Lib.hid ((Went.below (lo := lo) (hi := hi) (M := M) HBW.out).trans (Went.below (bq.mono (Nat.le_refl _))))
  clear k0 k1 k2 k3 k4 k5 j0 WA hw2 P bq
  go_wp2_with fail
  refine F.out.mono ?_; rintro e w3 ⟨M', rfl, h3, hw3⟩
  have HZ := Lib.hid (And.intro h3 (HB2.out.trans hw3))
  clear F h3 hw3 HB2
  generalize putC C x.b (whatC x) x.pin = R at *
  go_wp2
  go_ret2
  exact ⟨M', rfl, HZ.out⟩
set_option maxHeartbeats 2000000 in
theorem does_4 {c d lo hi U : Nat} {M : Nat → Prop} {C : CS} (x : ActC) (hx : x.ok) (hk : (x.kind : Int) % 13 = 4) (ha : C.st.acts ≤ 800000) (hU : U ≤ 900000000) (w : World) (h : CacheAt c d lo hi M U C w) :
    Calls Tryz.prog 10 #[cV c, .pointer (some ⟨d, 0, none⟩), actV x] w (DoesRet c d lo hi M U C ((⟨#[]⟩, putC C x.b (whatC x) x.pin)) w) := by
  have hb := hx.b
  have h1 := h.kept1 (balloc1 w (.cells #[.int .u8 (x.kind : Int), .int .i64 x.b, .int .i64 x.n, .int .u8 (x.fill : Int), .bool x.pin, .string x.data] 43))
  have mixed : Tryz.prog.follows .mixedOrders = true := by kernel_rfl
  have hf := hx.fill
  obtain ⟨w2, hw2⟩ : ∃ w2, (w.alloc (.cells #[.int .u8 (x.kind : Int), .int .i64 x.b, .int .i64 x.n, .int .u8 (x.fill : Int), .bool x.pin, .string x.data] 43)) = w2 := ⟨_, rfl⟩
  have HBk : Hid (Blk w.heap.size #[.int .u8 (x.kind : Int), .int .i64 x.b, .int .i64 x.n, .int .u8 (x.fill : Int), .bool x.pin, .string x.data] 43 w2) := Lib.hid (by rw [← hw2]; exact Blk.new _ _ _)
  rw [hw2] at h1
  have H1 := Lib.hid h1
  have P := Lib.hid fun wq (hq : CacheAt c d lo hi M U C wq) => put_any x.b hb (whatC x) x.pin (by omega) (by omega) wq hq
  have HBW : Hid (Below w.heap.size w w2) := Lib.hid (by rw [← hw2]; exact balloc1 _ _)
  have WA := Lib.hid fun w => what_any x hf w
  have kb : ∀ p : BelowP w2, p.to.cell? ⟨w.heap.size, 0, none⟩ = some (.int .u8 (x.kind : Int)) ∧ p.to.cell? ⟨w.heap.size, 1, none⟩ = some (.int .i64 x.b) ∧ p.to.cell? ⟨w.heap.size, 2, none⟩ = some (.int .i64 x.n) ∧ p.to.cell? ⟨w.heap.size, 3, none⟩ = some (.int .u8 (x.fill : Int)) ∧ p.to.cell? ⟨w.heap.size, 4, none⟩ = some (.bool x.pin) ∧ p.to.cell? ⟨w.heap.size, 5, none⟩ = some (.string x.data) := fun p => act_blk (HBk.out.kept1 p.h)
  have k0 := fun p => (kb p).1
  have k1 := fun p => (kb p).2.1
  have k2 := fun p => (kb p).2.2.1
  have k3 := fun p => (kb p).2.2.2.1
  have k4 := fun p => (kb p).2.2.2.2.1
  have k5 := fun p => (kb p).2.2.2.2.2
  obtain ⟨j0, -, -, -, -, -⟩ := kb ⟨w2, Below.refl _ _⟩
  have j0 : w2.cell? ⟨w.heap.size, 0, none⟩ = some (.int .u8 (x.kind : Int)) := j0
  clear h h1 kb hx
  go_enter Tryz.func10, Tryz.ntmps10
  go_wp2
  refine wp_region_tail_below 7 mixed (by kernel_rfl) ?_
  simp only [List.take_succ_cons, List.take_zero, List.drop_succ_cons, List.drop_zero]
  repeat (go_big_quiet_step (first | (go_at_call 34; refine calls_below (WA.out _))))
  refine wpQuiet_nil ?_
  intro w0q hw'
  obtain ⟨⟨wq, bq⟩, hw''⟩ := hw'
  have hw2 : wq = w0q := hw''.symm
  clear hw''
  subst hw2
  have F := Lib.hid (P.out wq (H1.out.kept1 bq))
  have HB2 := Lib.hid ((Went.below (lo := lo) (hi := hi) (M := M) HBW.out).trans (Went.below (bq.mono (Nat.le_refl _))))
  clear k0 k1 k2 k3 k4 k5 j0 WA hw2 P bq
  go_wp2_with fail
  refine F.out.mono ?_; rintro e w3 ⟨M', rfl, h3, hw3⟩
  have HZ := Lib.hid (And.intro h3 (HB2.out.trans hw3))
  clear F h3 hw3 HB2
  generalize putC C x.b (whatC x) x.pin = R at *
  go_wp2
  go_ret2
  exact ⟨M', rfl, HZ.out⟩
set_option maxHeartbeats 2000000 in
theorem does_5 {c d lo hi U : Nat} {M : Nat → Prop} {C : CS} (x : ActC) (hx : x.ok) (hk : (x.kind : Int) % 13 = 5) (ha : C.st.acts ≤ 800000) (hU : U ≤ 900000000) (w : World) (h : CacheAt c d lo hi M U C w) :
    Calls Tryz.prog 10 #[cV c, .pointer (some ⟨d, 0, none⟩), actV x] w (DoesRet c d lo hi M U C ((⟨#[]⟩, putC C x.b (whatC x) x.pin)) w) := by
  have hb := hx.b
  have h1 := h.kept1 (balloc1 w (.cells #[.int .u8 (x.kind : Int), .int .i64 x.b, .int .i64 x.n, .int .u8 (x.fill : Int), .bool x.pin, .string x.data] 43))
  have mixed : Tryz.prog.follows .mixedOrders = true := by kernel_rfl
  have hf := hx.fill
  obtain ⟨w2, hw2⟩ : ∃ w2, (w.alloc (.cells #[.int .u8 (x.kind : Int), .int .i64 x.b, .int .i64 x.n, .int .u8 (x.fill : Int), .bool x.pin, .string x.data] 43)) = w2 := ⟨_, rfl⟩
  have HBk : Hid (Blk w.heap.size #[.int .u8 (x.kind : Int), .int .i64 x.b, .int .i64 x.n, .int .u8 (x.fill : Int), .bool x.pin, .string x.data] 43 w2) := Lib.hid (by rw [← hw2]; exact Blk.new _ _ _)
  rw [hw2] at h1
  have H1 := Lib.hid h1
  have P := Lib.hid fun wq (hq : CacheAt c d lo hi M U C wq) => put_any x.b hb (whatC x) x.pin (by omega) (by omega) wq hq
  have HBW : Hid (Below w.heap.size w w2) := Lib.hid (by rw [← hw2]; exact balloc1 _ _)
  have WA := Lib.hid fun w => what_any x hf w
  have kb : ∀ p : BelowP w2, p.to.cell? ⟨w.heap.size, 0, none⟩ = some (.int .u8 (x.kind : Int)) ∧ p.to.cell? ⟨w.heap.size, 1, none⟩ = some (.int .i64 x.b) ∧ p.to.cell? ⟨w.heap.size, 2, none⟩ = some (.int .i64 x.n) ∧ p.to.cell? ⟨w.heap.size, 3, none⟩ = some (.int .u8 (x.fill : Int)) ∧ p.to.cell? ⟨w.heap.size, 4, none⟩ = some (.bool x.pin) ∧ p.to.cell? ⟨w.heap.size, 5, none⟩ = some (.string x.data) := fun p => act_blk (HBk.out.kept1 p.h)
  have k0 := fun p => (kb p).1
  have k1 := fun p => (kb p).2.1
  have k2 := fun p => (kb p).2.2.1
  have k3 := fun p => (kb p).2.2.2.1
  have k4 := fun p => (kb p).2.2.2.2.1
  have k5 := fun p => (kb p).2.2.2.2.2
  obtain ⟨j0, -, -, -, -, -⟩ := kb ⟨w2, Below.refl _ _⟩
  have j0 : w2.cell? ⟨w.heap.size, 0, none⟩ = some (.int .u8 (x.kind : Int)) := j0
  clear h h1 kb hx
  go_enter Tryz.func10, Tryz.ntmps10
  go_wp2
  refine wp_region_tail_below 7 mixed (by kernel_rfl) ?_
  simp only [List.take_succ_cons, List.take_zero, List.drop_succ_cons, List.drop_zero]
  repeat (go_big_quiet_step (first | (go_at_call 34; refine calls_below (WA.out _))))
  refine wpQuiet_nil ?_
  intro w0q hw'
  obtain ⟨⟨wq, bq⟩, hw''⟩ := hw'
  have hw2 : wq = w0q := hw''.symm
  clear hw''
  subst hw2
  have F := Lib.hid (P.out wq (H1.out.kept1 bq))
  have HB2 := Lib.hid ((Went.below (lo := lo) (hi := hi) (M := M) HBW.out).trans (Went.below (bq.mono (Nat.le_refl _))))
  clear k0 k1 k2 k3 k4 k5 j0 WA hw2 P bq
  go_wp2_with fail
  refine F.out.mono ?_; rintro e w3 ⟨M', rfl, h3, hw3⟩
  have HZ := Lib.hid (And.intro h3 (HB2.out.trans hw3))
  clear F h3 hw3 HB2
  generalize putC C x.b (whatC x) x.pin = R at *
  go_wp2
  go_ret2
  exact ⟨M', rfl, HZ.out⟩
set_option maxHeartbeats 2000000 in
theorem does_6 {c d lo hi U : Nat} {M : Nat → Prop} {C : CS} (x : ActC) (hx : x.ok) (hk : (x.kind : Int) % 13 = 6) (ha : C.st.acts ≤ 800000) (hU : U ≤ 900000000) (w : World) (h : CacheAt c d lo hi M U C w) :
    Calls Tryz.prog 10 #[cV c, .pointer (some ⟨d, 0, none⟩), actV x] w (DoesRet c d lo hi M U C ((⟨#[]⟩, 0, unpinC C x.b)) w) := by
  have hb := hx.b
  have h1 := h.kept1 (balloc1 w (.cells #[.int .u8 (x.kind : Int), .int .i64 x.b, .int .i64 x.n, .int .u8 (x.fill : Int), .bool x.pin, .string x.data] 43))
  have G := Lib.hid (unpin_any x.b hb _ h1)
  clear h h1
  go_enter Tryz.func10, Tryz.ntmps10
  go_wp2_with fail
  refine G.out.mono ?_; rintro e w2 ⟨M', rfl, h2, hw⟩
  have HZ := Lib.hid (And.intro (h2.more (Nat.le_succ U)) (went_boxed hw))
  clear G h2 hw
  go_wp2
  go_ret2
  exact ⟨M', rfl, HZ.out⟩
set_option maxHeartbeats 2000000 in
theorem does_7 {c d lo hi U : Nat} {M : Nat → Prop} {C : CS} (x : ActC) (hx : x.ok) (hk : (x.kind : Int) % 13 = 7) (ha : C.st.acts ≤ 800000) (hU : U ≤ 900000000) (w : World) (h : CacheAt c d lo hi M U C w) :
    Calls Tryz.prog 10 #[cV c, .pointer (some ⟨d, 0, none⟩), actV x] w (DoesRet c d lo hi M U C ((⟨#[]⟩, 0, forgetC C x.b)) w) := by
  have hb := hx.b
  have h1 := h.kept1 (balloc1 w (.cells #[.int .u8 (x.kind : Int), .int .i64 x.b, .int .i64 x.n, .int .u8 (x.fill : Int), .bool x.pin, .string x.data] 43))
  have G := Lib.hid (forget_any x.b hb _ h1)
  clear h h1
  go_enter Tryz.func10, Tryz.ntmps10
  go_wp2_with fail
  refine G.out.mono ?_; rintro e w2 ⟨M', rfl, h2, hw⟩
  have HZ := Lib.hid (And.intro (h2.more (Nat.le_succ U)) (went_boxed hw))
  clear G h2 hw
  go_wp2
  go_ret2
  exact ⟨M', rfl, HZ.out⟩
set_option maxHeartbeats 2000000 in
theorem does_8 {c d lo hi U : Nat} {M : Nat → Prop} {C : CS} (x : ActC) (hx : x.ok) (hk : (x.kind : Int) % 13 = 8) (ha : C.st.acts ≤ 800000) (hU : U ≤ 900000000) (w : World) (h : CacheAt c d lo hi M U C w) :
    Calls Tryz.prog 10 #[cV c, .pointer (some ⟨d, 0, none⟩), actV x] w (DoesRet c d lo hi M U C ((⟨#[]⟩, outC C x.b)) w) := by
  have hb := hx.b
  have h1 := h.kept1 (balloc1 w (.cells #[.int .u8 (x.kind : Int), .int .i64 x.b, .int .i64 x.n, .int .u8 (x.fill : Int), .bool x.pin, .string x.data] 43))
  have G := Lib.hid (out_any x.b hb (by omega) _ h1)
  clear h h1
  go_enter Tryz.func10, Tryz.ntmps10
  go_wp2_with fail
  refine G.out.mono ?_; rintro e w2 ⟨M', rfl, h2, hw⟩
  have HZ := Lib.hid (And.intro (h2.more (Nat.le_succ U)) (went_boxed hw))
  clear G h2 hw
  generalize outC C x.b = R at *
  go_wp2
  go_ret2
  exact ⟨M', rfl, HZ.out⟩
set_option maxHeartbeats 2000000 in
theorem does_9 {c d lo hi U : Nat} {M : Nat → Prop} {C : CS} (x : ActC) (hx : x.ok) (hk : (x.kind : Int) % 13 = 9) (ha : C.st.acts ≤ 800000) (hU : U ≤ 900000000) (w : World) (h : CacheAt c d lo hi M U C w) :
    Calls Tryz.prog 10 #[cV c, .pointer (some ⟨d, 0, none⟩), actV x] w (DoesRet c d lo hi M U C ((⟨#[]⟩, syncC C)) w) := by
  have hb := hx.b
  have h1 := h.kept1 (balloc1 w (.cells #[.int .u8 (x.kind : Int), .int .i64 x.b, .int .i64 x.n, .int .u8 (x.fill : Int), .bool x.pin, .string x.data] 43))
  have G := Lib.hid (sync_any (by omega) _ h1)
  clear h h1
  go_enter Tryz.func10, Tryz.ntmps10
  go_wp2_with fail
  refine G.out.mono ?_; rintro e w2 ⟨M', rfl, h2, hw⟩
  have HZ := Lib.hid (And.intro (h2.more (Nat.le_succ U)) (went_boxed hw))
  clear G h2 hw
  generalize syncC C = R at *
  go_wp2
  go_ret2
  exact ⟨M', rfl, HZ.out⟩
set_option maxHeartbeats 2000000 in
theorem does_10 {c d lo hi U : Nat} {M : Nat → Prop} {C : CS} (x : ActC) (hx : x.ok) (hk : (x.kind : Int) % 13 = 10) (ha : C.st.acts ≤ 800000) (hU : U ≤ 900000000) (w : World) (h : CacheAt c d lo hi M U C w) :
    Calls Tryz.prog 10 #[cV c, .pointer (some ⟨d, 0, none⟩), actV x] w (DoesRet c d lo hi M U C ((⟨#[]⟩, 0, C.on (C.st.armed x.n))) w) := by
  have hb := hx.b
  have h1 := h.kept1 (balloc1 w (.cells #[.int .u8 (x.kind : Int), .int .i64 x.b, .int .i64 x.n, .int .u8 (x.fill : Int), .bool x.pin, .string x.data] 43))
  have G := Lib.hid (arm_any x.n hx.n _ h1.dev)
  have H1 := Lib.hid h1
  clear h h1
  go_enter Tryz.func10, Tryz.ntmps10
  go_wp2_with fail
  refine G.out.mono ?_; rintro e w2 ⟨rfl, h2, hz⟩
  have HZ := Lib.hid (And.intro ((H1.out.on h2 hz rfl).more (Nat.le_succ U)) (went_boxed (Went.zone (M := M) hz)))
  clear G h2 hz H1
  go_wp2
  go_ret2
  exact ⟨M, rfl, HZ.out⟩
set_option maxHeartbeats 2000000 in
theorem does_11 {c d lo hi U : Nat} {M : Nat → Prop} {C : CS} (x : ActC) (hx : x.ok) (hk : (x.kind : Int) % 13 = 11) (ha : C.st.acts ≤ 800000) (hU : U ≤ 900000000) (w : World) (h : CacheAt c d lo hi M U C w) :
    Calls Tryz.prog 10 #[cV c, .pointer (some ⟨d, 0, none⟩), actV x] w (DoesRet c d lo hi M U C ((⟨#[]⟩, fCode C.st, C.on (fSt C.st))) w) := by
  have hb := hx.b
  have h1 := h.kept1 (balloc1 w (.cells #[.int .u8 (x.kind : Int), .int .i64 x.b, .int .i64 x.n, .int .u8 (x.fill : Int), .bool x.pin, .string x.data] 43))
  have G := Lib.hid (flush_any (by omega) _ h1.dev)
  have H1 := Lib.hid h1
  clear h h1
  go_enter Tryz.func10, Tryz.ntmps10
  go_wp2_with fail
  refine G.out.mono ?_; rintro e w2 ⟨rfl, h2, hz⟩
  have HZ := Lib.hid (And.intro ((H1.out.on h2 hz (fSt_n _)).more (Nat.le_succ U)) (went_boxed (Went.zone (M := M) hz)))
  clear G h2 hz H1
  generalize fCode C.st = code at *
  go_wp2
  go_ret2
  exact ⟨M, rfl, HZ.out⟩
set_option maxHeartbeats 2000000 in
theorem does_12 {c d lo hi U : Nat} {M : Nat → Prop} {C : CS} (x : ActC) (hx : x.ok) (hk : (x.kind : Int) % 13 = 12) (ha : C.st.acts ≤ 800000) (hU : U ≤ 900000000) (w : World) (h : CacheAt c d lo hi M U C w) :
    Calls Tryz.prog 10 #[cV c, .pointer (some ⟨d, 0, none⟩), actV x] w (DoesRet c d lo hi M U C ((⟨#[]⟩, wCode C.st x.b 128, C.on (wSt C.st x.b (rep x.fill)))) w) := by
  have hb := hx.b
  have h1 := h.kept1 (balloc1 w (.cells #[.int .u8 (x.kind : Int), .int .i64 x.b, .int .i64 x.n, .int .u8 (x.fill : Int), .bool x.pin, .string x.data] 43))
  have mixed : Tryz.prog.follows .mixedOrders = true := by kernel_rfl
  have hf := hx.fill
  obtain ⟨w2, hw2⟩ : ∃ w2, (w.alloc (.cells #[.int .u8 (x.kind : Int), .int .i64 x.b, .int .i64 x.n, .int .u8 (x.fill : Int), .bool x.pin, .string x.data] 43)) = w2 := ⟨_, rfl⟩
  have HBk : Hid (Blk w.heap.size #[.int .u8 (x.kind : Int), .int .i64 x.b, .int .i64 x.n, .int .u8 (x.fill : Int), .bool x.pin, .string x.data] 43 w2) := Lib.hid (by rw [← hw2]; exact Blk.new _ _ _)
  rw [hw2] at h1
  have H1 := Lib.hid h1
  have P : Hid (∀ wq, CacheAt c d lo hi M U C wq → Calls Tryz.prog 29 #[.pointer (some ⟨d, 0, none⟩), .int .i64 x.b, .string (rep x.fill)] wq fun e w' => e = .returned (.int .i64 (wCode C.st x.b 128)) ∧ DevAt d lo hi (wSt C.st x.b (rep x.fill)) w' ∧ Zone lo hi wq w') := Lib.hid fun wq hq => by
    have := write_any x.b (rep x.fill) (by omega) wq hq.dev
    rwa [rep_size] at this
  have HBW : Hid (Below w.heap.size w w2) := Lib.hid (by rw [← hw2]; exact balloc1 _ _)
  have WA := Lib.hid fun w => fill_of x.fill hf w
  have kb : ∀ p : BelowP w2, p.to.cell? ⟨w.heap.size, 0, none⟩ = some (.int .u8 (x.kind : Int)) ∧ p.to.cell? ⟨w.heap.size, 1, none⟩ = some (.int .i64 x.b) ∧ p.to.cell? ⟨w.heap.size, 2, none⟩ = some (.int .i64 x.n) ∧ p.to.cell? ⟨w.heap.size, 3, none⟩ = some (.int .u8 (x.fill : Int)) ∧ p.to.cell? ⟨w.heap.size, 4, none⟩ = some (.bool x.pin) ∧ p.to.cell? ⟨w.heap.size, 5, none⟩ = some (.string x.data) := fun p => act_blk (HBk.out.kept1 p.h)
  have k1 := fun p => (kb p).2.1
  have k3 := fun p => (kb p).2.2.2.1
  obtain ⟨j0, -, -, -, -, -⟩ := kb ⟨w2, Below.refl _ _⟩
  have j0 : w2.cell? ⟨w.heap.size, 0, none⟩ = some (.int .u8 (x.kind : Int)) := j0
  clear h h1 kb hx
  go_enter Tryz.func10, Tryz.ntmps10
  go_wp2
  refine wp_region_tail_below 6 mixed (by kernel_rfl) ?_
  simp only [List.take_succ_cons, List.take_zero, List.drop_succ_cons, List.drop_zero]
  repeat (go_big_quiet_step (first | (go_at_call 32; refine calls_below (WA.out _))))
  refine wpQuiet_nil ?_
  intro w0q hw'
  obtain ⟨⟨wq, bq⟩, hw''⟩ := hw'
  have hw2 : wq = w0q := hw''.symm
  clear hw''
  subst hw2
  have F := Lib.hid (P.out wq (H1.out.kept1 bq))
  have HB2 := Lib.hid (And.intro (H1.out.kept1 bq) ((Went.below (lo := lo) (hi := hi) (M := M) HBW.out).trans (Went.below (bq.mono (Nat.le_refl _)))))
  clear k1 k3 j0 WA hw2 P bq
  go_wp2_with fail
  refine F.out.mono ?_; rintro e w3 ⟨rfl, h3, hz⟩
  have HZ := Lib.hid (And.intro ((HB2.out.1.on h3 hz (wSt_n _ _ _)).more (Nat.le_succ U)) (HB2.out.2.trans (Went.zone (M := M) hz)))
  clear F h3 hz HB2
  generalize wCode C.st x.b 128 = code at *
  go_wp2
  go_ret2
  exact ⟨M, rfl, HZ.out⟩
theorem does_any {c d lo hi U : Nat} {M : Nat → Prop} {C : CS} (x : ActC) (hx : x.ok) (ha : C.st.acts ≤ 800000) (hU : U ≤ 900000000) (w : World) (h : CacheAt c d lo hi M U C w) :
    Calls Tryz.prog 10 #[cV c, .pointer (some ⟨d, 0, none⟩), actV x] w (DoesRet c d lo hi M U C (doesR C x) w) := by
  have hk : x.kind % 13 < 13 := Nat.mod_lt _ (by omega)
  have hR : ∀ k, x.kind % 13 = k → doesR C x = doesR C x := fun _ _ => rfl
  unfold doesR
  by_cases h0 : x.kind % 13 = 0
  · rw [h0]; exact does_0 x hx (by omega) ha hU w h
  by_cases h1 : x.kind % 13 = 1
  · rw [h1]; exact does_1 x hx (by omega) ha hU w h
  by_cases h2 : x.kind % 13 = 2
  · rw [h2]; exact does_2 x hx (by omega) ha hU w h
  by_cases h3 : x.kind % 13 = 3
  · rw [h3]; exact does_3 x hx (by omega) ha hU w h
  by_cases h4 : x.kind % 13 = 4
  · rw [h4]; exact does_4 x hx (by omega) ha hU w h
  by_cases h5 : x.kind % 13 = 5
  · rw [h5]; exact does_5 x hx (by omega) ha hU w h
  by_cases h6 : x.kind % 13 = 6
  · rw [h6]; exact does_6 x hx (by omega) ha hU w h
  by_cases h7 : x.kind % 13 = 7
  · rw [h7]; exact does_7 x hx (by omega) ha hU w h
  by_cases h8 : x.kind % 13 = 8
  · rw [h8]; exact does_8 x hx (by omega) ha hU w h
  by_cases h9 : x.kind % 13 = 9
  · rw [h9]; exact does_9 x hx (by omega) ha hU w h
  by_cases h10 : x.kind % 13 = 10
  · rw [h10]; exact does_10 x hx (by omega) ha hU w h
  by_cases h11 : x.kind % 13 = 11
  · rw [h11]; exact does_11 x hx (by omega) ha hU w h
  by_cases h12 : x.kind % 13 = 12
  · rw [h12]; exact does_12 x hx (by omega) ha hU w h
  omega
end Go.Proofs.YtehjobjjlldckaaGreat
