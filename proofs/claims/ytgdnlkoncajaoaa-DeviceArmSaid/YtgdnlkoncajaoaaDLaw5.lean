/- The walk of DeviceArm. -/
import Derived.Test.YtgdnlkoncajaoaaDLaw2
namespace Go.Proofs.Ytgdnlkoncajaoaa
set_option linter.unusedVariables false
open Go.RowKit

/-- the same device, unarmed -/
def twin (S : St) : St := { S with left := -1 }
theorem twin_code {S : St} (h : S.left ≠ 0) (b : Int) (z : Nat) : wCode (twin S) b z = wCode S b z := by
  have h2 : (twin S).left ≠ 0 := by show (-1 : Int) ≠ 0; omega
  unfold wCode; rw [if_neg h, if_neg h2]; rfl
theorem twin_st {S : St} (h : S.left ≠ 0) (b : Int) (s : ByteArray) : wSt (twin S) b s = twin (wSt S b s) := by
  unfold wSt; rw [twin_code h]
  split <;> rfl
theorem twin_flushed (S : St) : (twin S).flushed = twin S.flushed := rfl
theorem wSt_left {S : St} {b : Int} {s : ByteArray} (h : wCode S b s.size = 0) : (wSt S b s).left = lessOne S.left ∧ (wSt S b s).acts = S.acts + 1 := by
  unfold wSt; rw [if_pos h]; exact ⟨rfl, rfl⟩
theorem wSt_same {S : St} {b : Int} {s : ByteArray} (h : wCode S b s.size ≠ 0) : wSt S b s = S := by unfold wSt; rw [if_neg h]
theorem wCode_dead {S : St} (h : S.left = 0) (b : Int) (z : Nat) : wCode S b z ≠ 0 := fun e => (wCode_yes e).2.2.2 h

set_option maxRecDepth 100000 in
set_option maxHeartbeats 40000000 in
theorem arm_walk (b : Nat) (hb0 : b < 256) (v : Value) (n : Nat) (A : Nat → ActD) (N : Nat) (hN : N < 256) (w : World) (h : ActsIn v n A w) :
    Calls Try.prog 8 #[.int .u8 (b : Int), v, .int .u8 (N : Int)] w fun e w' => e = .returned (.bool true) ∧ Below w.heap.size w w' := by
  have mixed : Try.prog.follows .mixedOrders = true := by kernel_rfl
  have G := Lib.hid (great_any v n A w h)
  have e1 : ((1 + b % 20 : Nat) : Int) = 1 + (b : Int) % 20 := by omega
  have NW := new_yes (1 + b % 20) (by omega) (by omega)
  rw [e1] at NW
  have NW := Lib.hid NW
  have AL := Lib.hid alive_any
  have WT := Lib.hid what_any
  have HA := Lib.hid h
  obtain ⟨ad, cap, rfl, h1, h2, h3⟩ := h.shape
  have H3 := Lib.hid h3
  have KE := Lib.hid fun d lo hi S w h => kept_any (d := d) (lo := lo) (hi := hi) (S := S) w h
  have RA := Lib.hid fun d lo hi S w h => readall_any (d := d) (lo := lo) (hi := hi) (S := S) w h
  have AC := Lib.hid fun d lo hi S w h => acts_any (d := d) (lo := lo) (hi := hi) (S := S) w h
  have DE := Lib.hid fun d lo hi S w h => dead_any (d := d) (lo := lo) (hi := hi) (S := S) w h
  have PE := Lib.hid fun d lo hi S w h => pending_any (d := d) (lo := lo) (hi := hi) (S := S) w h
  have WR := Lib.hid fun d lo hi S b s ha w h => write_any (d := d) (lo := lo) (hi := hi) (S := S) b s ha w h
  have FL := Lib.hid fun d lo hi S ha w h => flush_any (d := d) (lo := lo) (hi := hi) (S := S) ha w h
  have AR := Lib.hid fun d lo hi S n hn w h => arm_any (d := d) (lo := lo) (hi := hi) (S := S) n hn w h
  have SY := Lib.hid same_yes
  have BK := Lib.hid (block_of 7 (by decide))
  clear h h3 e1
  go_enter Try.func8, Try.ntmps8
  go_wp2_with fail
  refine G.out.mono ?_; rintro e w1 ⟨g, rfl, hg, hb⟩
  clear G
  cases g with
  | true =>
    go_wp2
    go_ret
    exact ⟨rfl, hb⟩
  | false =>
    have hn := hg rfl
    have hlw := hb.size
    clear hg
    go_wp2_with fail
    refine (NW.out _).mono ?_; rintro e w2 ⟨d, rfl, hd, b⟩
    have hb := bnext hb b
    clear b
    generalize hlo : w1.heap.size = lo at *
    clear hlo
    go_wp2_with fail
    refine (NW.out _).mono ?_; rintro e w3 ⟨c, rfl, hdc, b⟩
    have hd := hd.kept1 b
    have hb := bnext hb b
    have hlw2 : w.heap.size ≤ w2.heap.size := by have := hd.lohi; omega
    have hll : w2.heap.size ≤ w2.heap.size := Nat.le_refl _
    generalize hhi : w2.heap.size = hi at *
    have hll : hi ≤ hi := hll
    obtain ⟨lo2, hlo2⟩ : ∃ lo2, hi = lo2 := ⟨_, rfl⟩
    rw [show DevAt c hi w3.heap.size = DevAt c lo2 w3.heap.size by rw [hlo2]] at hdc
    have hll : hi ≤ lo2 := by omega
    have hlw2 : w.heap.size ≤ lo2 := by omega
    generalize w3.heap.size = hi2 at *
    clear b hhi hlo2 NW
    have F := Lib.hid (AR.out d lo hi _ (N : Int) (by constructor <;> omega) w3 hd)
    clear hd
    go_wp2_with fail
    refine F.out.mono ?_; rintro e w4 ⟨rfl, hd, z⟩
    have HD := Lib.hid hd
    have HC := Lib.hid (hdc.kept z (.inr hll))
    have HB := Lib.hid (hb.trans (z.below hb.size hlw))
    have hleft : ((freshSt (1 + b % 20) zeroB).armed (N : Int)).left = (N : Int) - ((0 : Nat) : Int) := by show noLess (N : Int) = _; unfold noLess; rw [if_neg (by omega)]; omega
    have HLF := Lib.hid hleft
    clear F hd hdc hb z hleft
    go_wp2
    go_loopw [11, 12] (fun dn q wr => ∃ (i k : Nat) (S : St), q = .int .i64 i ∧ i ≤ n ∧ dn = .int .i64 k ∧ k ≤ i ∧ k ≤ N ∧ S.left = (N : Int) - (k : Int) ∧ S.acts = k ∧ DevAt d lo hi S wr ∧ DevAt c lo2 hi2 (twin S) wr ∧ S.n = 1 + b % 20 ∧ Below w.heap.size w wr) (fun _ q _ => n - (intOf q).toNat)
    case atStart => exact ⟨0, 0, _, rfl, Nat.zero_le _, rfl, Nat.le_refl _, Nat.zero_le _, HLF.out, rfl, HD.out, HC.out, rfl, HB.out⟩
    case round =>
      clear HD HC HB HLF
      obtain ⟨i, k, S, rfl, hiI, rfl, hki, hkN0, hSl, hSa, hd, hdc, hSn, hbr⟩ := hrel
      by_cases hlt : i < n
      · obtain ⟨g, o, rfl, hg, hc⟩ := H3.out (by omega)
        obtain ⟨c0, c1, c2, c3, c4, c5⟩ := hc i hlt
        have hx := HA.out.2 i hlt
        generalize A i = x at *
        have c0 := (hbr.cell (p := ⟨g, o + i * 6, none⟩) hg).trans c0
        have c1 := (hbr.cell (p := ⟨g, o + i * 6 + 1, none⟩) hg).trans c1
        have c2 := (hbr.cell (p := ⟨g, o + i * 6 + 2, none⟩) hg).trans c2
        have c3 := (hbr.cell (p := ⟨g, o + i * 6 + 3, none⟩) hg).trans c3
        have c4 := (hbr.cell (p := ⟨g, o + i * 6 + 4, none⟩) hg).trans c4
        have c5 := (hbr.cell (p := ⟨g, o + i * 6 + 5, none⟩) hg).trans c5
        obtain ⟨adk, capk, hkv, -, -, -, -⟩ := hx.keep.shape
        rw [hkv] at c5
        clear hc H3 HA
        obtain ⟨w2, hw2⟩ : ∃ w2, wr.alloc (.cells #[.int .u8 (x.kind : Int), .int .i64 x.b, .int .i64 x.n, .int .u8 (x.fill : Int), .string x.data, .slice adk x.keep.length capk] 34) = w2 := ⟨_, rfl⟩
        have HBk : Hid (Blk wr.heap.size #[.int .u8 (x.kind : Int), .int .i64 x.b, .int .i64 x.n, .int .u8 (x.fill : Int), .string x.data, .slice adk x.keep.length capk] 34 w2) := Lib.hid (by rw [← hw2]; exact Blk.new _ _ _)
        have HD3 : Hid (DevAt d lo hi S w2) := Lib.hid (by rw [← hw2]; exact hd.kept1 (balloc1 _ _))
        have HC3 : Hid (DevAt c lo2 hi2 (twin S) w2) := Lib.hid (by rw [← hw2]; exact hdc.kept1 (balloc1 _ _))
        have HB3 : Hid (Below w.heap.size w w2) := Lib.hid (by rw [← hw2]; exact balloc hbr _)
        have htop := hd.top
        obtain ⟨X, hX⟩ : ∃ X, X = whatT ⟨x.kind, x.b, x.n, x.fill, x.data, x.keep, .slice adk x.keep.length capk⟩ := ⟨_, rfl⟩
        have WA := WT.out ⟨x.kind, x.b, x.n, x.fill, x.data, x.keep, .slice adk x.keep.length capk⟩ hx.fill
        rw [← hX] at WA
        have WA := Lib.hid WA
        have hx8 : x.kind % 8 = 0 ∨ x.kind % 8 = 1 ∨ x.kind % 8 = 2 ∨ x.kind % 8 = 3 ∨ x.kind % 8 = 4 ∨ x.kind % 8 = 5 ∨ x.kind % 8 = 6 ∨ x.kind % 8 = 7 := by omega
        clear hbr hd hdc hX hkv hx WT
        rcases hx8 with hk | hk | hk | hk | hk | hk | hk | hk
        · have hk8 : (x.kind : Int) % 8 = 0 := by omega
          by_cases hkN : k < N
          · by_cases hc0 : wCode S x.b X.size = 0
            · clear hk
              obtain ⟨e1, e2⟩ := wSt_left hc0
              have e3 := wSt_n S x.b X
              have WR1 := fun w h => WR.out d lo hi S x.b X (by omega) w h
              have WR2 := fun w h => WR.out c lo2 hi2 (twin S) x.b X (by show S.acts ≤ 1000000; omega) w h
              rw [twin_code (by omega), twin_st (by omega), hc0] at WR2
              rw [hc0] at WR1
              have WR1 := Lib.hid WR1
              have WR2 := Lib.hid WR2
              have e4 : (wSt S x.b X).left = (N : Int) - ((k + 1 : Nat) : Int) := by rw [e1]; unfold lessOne; rw [if_pos (by omega)]; omega
              generalize wSt S x.b X = S2 at *
              clear e1 hc0
              have kb : ∀ p : BelowP w2, p.to.cell? ⟨wr.heap.size, 0, none⟩ = some (.int .u8 (x.kind : Int)) ∧ p.to.cell? ⟨wr.heap.size, 1, none⟩ = some (.int .i64 x.b) ∧ p.to.cell? ⟨wr.heap.size, 2, none⟩ = some (.int .i64 x.n) ∧ p.to.cell? ⟨wr.heap.size, 3, none⟩ = some (.int .u8 (x.fill : Int)) ∧ p.to.cell? ⟨wr.heap.size, 4, none⟩ = some (.string x.data) ∧ p.to.cell? ⟨wr.heap.size, 5, none⟩ = some (.slice adk x.keep.length capk) := fun p => act_blk (x := ⟨x.kind, x.b, x.n, x.fill, x.data, x.keep, .slice adk x.keep.length capk⟩) (HBk.out.kept1 p.h)
              have k0 := fun p => (kb p).1
              have k1 := fun p => (kb p).2.1
              have k2 := fun p => (kb p).2.2.1
              have k3 := fun p => (kb p).2.2.2.1
              have k4 := fun p => (kb p).2.2.2.2.1
              have k5 := fun p => (kb p).2.2.2.2.2
              obtain ⟨j0, -, -, -, -, -⟩ := kb ⟨w2, Below.refl _ _⟩
              have j0 : w2.cell? ⟨wr.heap.size, 0, none⟩ = some (.int .u8 (x.kind : Int)) := j0
              clear kb
              go_wp2
              refine wp_region_tail_below 5 mixed (by kernel_rfl) ?_
              simp only [List.take_succ_cons, List.take_zero, List.drop_succ_cons, List.drop_zero]
              repeat (go_big_quiet_step (first | (go_at_call 15; refine calls_below (WA.out _))))
              refine wpQuiet_nil ?_
              intro w0q hw'
              obtain ⟨⟨wq, bq⟩, hw''⟩ := hw'
              have hw2 : wq = w0q := hw''.symm
              clear hw''
              subst hw2
              have F := Lib.hid (WR1.out wq (HD3.out.kept1 bq))
              have HB4 := Lib.hid (bnext HB3.out bq)
              have HC4 := Lib.hid (HC3.out.kept1 bq)
              have HBk4 := Lib.hid (HBk.out.kept1 bq)
              have hsq := bq.size
              clear k0 k1 k2 k3 k4 k5 j0 HD3 HC3 HB3 HBk hw2 bq
              go_wp2_with fail
              refine F.out.mono ?_; rintro e w3 ⟨rfl, hd3, z3⟩
              have HD4 := Lib.hid hd3
              have HB5 := Lib.hid (HB4.out.trans (z3.below HB4.out.size hlw))
              have HC5 := Lib.hid (HC4.out.kept z3 (.inr hll))
              have HBk5 := Lib.hid (HBk4.out.kept z3 (.inr htop))
              clear F hd3 z3 HB4 HC4 HBk4
              have kb : ∀ p : BelowP w3, p.to.cell? ⟨wr.heap.size, 0, none⟩ = some (.int .u8 (x.kind : Int)) ∧ p.to.cell? ⟨wr.heap.size, 1, none⟩ = some (.int .i64 x.b) ∧ p.to.cell? ⟨wr.heap.size, 2, none⟩ = some (.int .i64 x.n) ∧ p.to.cell? ⟨wr.heap.size, 3, none⟩ = some (.int .u8 (x.fill : Int)) ∧ p.to.cell? ⟨wr.heap.size, 4, none⟩ = some (.string x.data) ∧ p.to.cell? ⟨wr.heap.size, 5, none⟩ = some (.slice adk x.keep.length capk) := fun p => act_blk (x := ⟨x.kind, x.b, x.n, x.fill, x.data, x.keep, .slice adk x.keep.length capk⟩) (HBk5.out.kept1 p.h)
              have k0 := fun p => (kb p).1
              have k1 := fun p => (kb p).2.1
              have k2 := fun p => (kb p).2.2.1
              have k3 := fun p => (kb p).2.2.2.1
              have k4 := fun p => (kb p).2.2.2.2.1
              have k5 := fun p => (kb p).2.2.2.2.2
              clear kb
              go_wp2
              refine wp_region_tail_below 5 mixed (by kernel_rfl) ?_
              simp only [List.take_succ_cons, List.take_zero, List.drop_succ_cons, List.drop_zero]
              repeat (go_big_quiet_step (first | (go_at_call 15; refine calls_below (WA.out _))))
              refine wpQuiet_nil ?_
              intro w0q hw'
              obtain ⟨⟨wq, bq⟩, hw''⟩ := hw'
              have hw2 : wq = w0q := hw''.symm
              clear hw''
              subst hw2
              have F := Lib.hid (WR2.out wq (HC5.out.kept1 bq))
              have HB6 := Lib.hid (bnext HB5.out bq)
              have HD6 := Lib.hid (HD4.out.kept1 bq)
              clear k0 k1 k2 k3 k4 k5 HD4 HC5 HB5 HBk5 bq WA
              go_wp2_with fail
              refine F.out.mono ?_; rintro e w4 ⟨rfl, hd3, z3⟩
              have HC7 := Lib.hid hd3
              have HB7 := Lib.hid (HB6.out.trans (z3.below HB6.out.size hlw2))
              have HD7 := Lib.hid (HD6.out.kept z3 (.inl hll))
              clear F hd3 z3 HB6 HD6
              go_wp2
              exact ⟨⟨i + 1, k + 1, S2, by go_num, by omega, by go_num, by omega, by omega, e4, by omega, HD7.out, HC7.out, by omega, HB7.out⟩, by simp [intOf]; omega⟩
            · clear hk
              have e1 := wSt_same hc0
              have WR1 := fun w h => WR.out d lo hi S x.b X (by omega) w h
              have WR2 := fun w h => WR.out c lo2 hi2 (twin S) x.b X (by show S.acts ≤ 1000000; omega) w h
              rw [twin_code (by omega), twin_st (by omega), e1] at WR2
              rw [e1] at WR1
              have WR1 := Lib.hid WR1
              have WR2 := Lib.hid WR2
              have hcd : (wCode S x.b X.size == 0) = false := by rw [beq_eq_false_iff_ne]; exact hc0
              generalize wCode S x.b X.size = cd at *
              clear e1 hc0
              have kb : ∀ p : BelowP w2, p.to.cell? ⟨wr.heap.size, 0, none⟩ = some (.int .u8 (x.kind : Int)) ∧ p.to.cell? ⟨wr.heap.size, 1, none⟩ = some (.int .i64 x.b) ∧ p.to.cell? ⟨wr.heap.size, 2, none⟩ = some (.int .i64 x.n) ∧ p.to.cell? ⟨wr.heap.size, 3, none⟩ = some (.int .u8 (x.fill : Int)) ∧ p.to.cell? ⟨wr.heap.size, 4, none⟩ = some (.string x.data) ∧ p.to.cell? ⟨wr.heap.size, 5, none⟩ = some (.slice adk x.keep.length capk) := fun p => act_blk (x := ⟨x.kind, x.b, x.n, x.fill, x.data, x.keep, .slice adk x.keep.length capk⟩) (HBk.out.kept1 p.h)
              have k0 := fun p => (kb p).1
              have k1 := fun p => (kb p).2.1
              have k2 := fun p => (kb p).2.2.1
              have k3 := fun p => (kb p).2.2.2.1
              have k4 := fun p => (kb p).2.2.2.2.1
              have k5 := fun p => (kb p).2.2.2.2.2
              obtain ⟨j0, -, -, -, -, -⟩ := kb ⟨w2, Below.refl _ _⟩
              have j0 : w2.cell? ⟨wr.heap.size, 0, none⟩ = some (.int .u8 (x.kind : Int)) := j0
              clear kb
              go_wp2
              refine wp_region_tail_below 5 mixed (by kernel_rfl) ?_
              simp only [List.take_succ_cons, List.take_zero, List.drop_succ_cons, List.drop_zero]
              repeat (go_big_quiet_step (first | (go_at_call 15; refine calls_below (WA.out _))))
              refine wpQuiet_nil ?_
              intro w0q hw'
              obtain ⟨⟨wq, bq⟩, hw''⟩ := hw'
              have hw2 : wq = w0q := hw''.symm
              clear hw''
              subst hw2
              have F := Lib.hid (WR1.out wq (HD3.out.kept1 bq))
              have HB4 := Lib.hid (bnext HB3.out bq)
              have HC4 := Lib.hid (HC3.out.kept1 bq)
              have HBk4 := Lib.hid (HBk.out.kept1 bq)
              have hsq := bq.size
              clear k0 k1 k2 k3 k4 k5 j0 HD3 HC3 HB3 HBk hw2 bq
              go_wp2_with fail
              refine F.out.mono ?_; rintro e w3 ⟨rfl, hd3, z3⟩
              have HD4 := Lib.hid hd3
              have HB5 := Lib.hid (HB4.out.trans (z3.below HB4.out.size hlw))
              have HC5 := Lib.hid (HC4.out.kept z3 (.inr hll))
              have HBk5 := Lib.hid (HBk4.out.kept z3 (.inr htop))
              clear F hd3 z3 HB4 HC4 HBk4
              have kb : ∀ p : BelowP w3, p.to.cell? ⟨wr.heap.size, 0, none⟩ = some (.int .u8 (x.kind : Int)) ∧ p.to.cell? ⟨wr.heap.size, 1, none⟩ = some (.int .i64 x.b) ∧ p.to.cell? ⟨wr.heap.size, 2, none⟩ = some (.int .i64 x.n) ∧ p.to.cell? ⟨wr.heap.size, 3, none⟩ = some (.int .u8 (x.fill : Int)) ∧ p.to.cell? ⟨wr.heap.size, 4, none⟩ = some (.string x.data) ∧ p.to.cell? ⟨wr.heap.size, 5, none⟩ = some (.slice adk x.keep.length capk) := fun p => act_blk (x := ⟨x.kind, x.b, x.n, x.fill, x.data, x.keep, .slice adk x.keep.length capk⟩) (HBk5.out.kept1 p.h)
              have k0 := fun p => (kb p).1
              have k1 := fun p => (kb p).2.1
              have k2 := fun p => (kb p).2.2.1
              have k3 := fun p => (kb p).2.2.2.1
              have k4 := fun p => (kb p).2.2.2.2.1
              have k5 := fun p => (kb p).2.2.2.2.2
              clear kb
              go_wp2
              refine wp_region_tail_below 5 mixed (by kernel_rfl) ?_
              simp only [List.take_succ_cons, List.take_zero, List.drop_succ_cons, List.drop_zero]
              repeat (go_big_quiet_step (first | (go_at_call 15; refine calls_below (WA.out _))))
              refine wpQuiet_nil ?_
              intro w0q hw'
              obtain ⟨⟨wq, bq⟩, hw''⟩ := hw'
              have hw2 : wq = w0q := hw''.symm
              clear hw''
              subst hw2
              have F := Lib.hid (WR2.out wq (HC5.out.kept1 bq))
              have HB6 := Lib.hid (bnext HB5.out bq)
              have HD6 := Lib.hid (HD4.out.kept1 bq)
              clear k0 k1 k2 k3 k4 k5 HD4 HC5 HB5 HBk5 bq WA
              go_wp2_with fail
              refine F.out.mono ?_; rintro e w4 ⟨rfl, hd3, z3⟩
              have HC7 := Lib.hid hd3
              have HB7 := Lib.hid (HB6.out.trans (z3.below HB6.out.size hlw2))
              have HD7 := Lib.hid (HD6.out.kept z3 (.inl hll))
              clear F hd3 z3 HB6 HD6
              go_wp2
              exact ⟨⟨i + 1, k, S, by go_num, by omega, by go_num, by omega, by omega, hSl, by omega, HD7.out, HC7.out, by omega, HB7.out⟩, by simp [intOf]; omega⟩
          · have hc0 := wCode_dead (S := S) (by omega) x.b X.size
            clear hk
            have e1 := wSt_same hc0
            have WR1 := fun w h => WR.out d lo hi S x.b X (by omega) w h
            rw [e1] at WR1
            have WR1 := Lib.hid WR1
            have hcd : (wCode S x.b X.size == 0) = false := by rw [beq_eq_false_iff_ne]; exact hc0
            generalize wCode S x.b X.size = cd at *
            clear e1 hc0
            have kb : ∀ p : BelowP w2, p.to.cell? ⟨wr.heap.size, 0, none⟩ = some (.int .u8 (x.kind : Int)) ∧ p.to.cell? ⟨wr.heap.size, 1, none⟩ = some (.int .i64 x.b) ∧ p.to.cell? ⟨wr.heap.size, 2, none⟩ = some (.int .i64 x.n) ∧ p.to.cell? ⟨wr.heap.size, 3, none⟩ = some (.int .u8 (x.fill : Int)) ∧ p.to.cell? ⟨wr.heap.size, 4, none⟩ = some (.string x.data) ∧ p.to.cell? ⟨wr.heap.size, 5, none⟩ = some (.slice adk x.keep.length capk) := fun p => act_blk (x := ⟨x.kind, x.b, x.n, x.fill, x.data, x.keep, .slice adk x.keep.length capk⟩) (HBk.out.kept1 p.h)
            have k0 := fun p => (kb p).1
            have k1 := fun p => (kb p).2.1
            have k2 := fun p => (kb p).2.2.1
            have k3 := fun p => (kb p).2.2.2.1
            have k4 := fun p => (kb p).2.2.2.2.1
            have k5 := fun p => (kb p).2.2.2.2.2
            obtain ⟨j0, -, -, -, -, -⟩ := kb ⟨w2, Below.refl _ _⟩
            have j0 : w2.cell? ⟨wr.heap.size, 0, none⟩ = some (.int .u8 (x.kind : Int)) := j0
            clear kb
            go_wp2
            refine wp_region_tail_below 5 mixed (by kernel_rfl) ?_
            simp only [List.take_succ_cons, List.take_zero, List.drop_succ_cons, List.drop_zero]
            repeat (go_big_quiet_step (first | (go_at_call 15; refine calls_below (WA.out _))))
            refine wpQuiet_nil ?_
            intro w0q hw'
            obtain ⟨⟨wq, bq⟩, hw''⟩ := hw'
            have hw2 : wq = w0q := hw''.symm
            clear hw''
            subst hw2
            have F := Lib.hid (WR1.out wq (HD3.out.kept1 bq))
            have HB4 := Lib.hid (bnext HB3.out bq)
            have HC4 := Lib.hid (HC3.out.kept1 bq)
            have HBk4 := Lib.hid (HBk.out.kept1 bq)
            have hsq := bq.size
            clear k0 k1 k2 k3 k4 k5 j0 HD3 HC3 HB3 HBk hw2 bq
            go_wp2_with fail
            refine F.out.mono ?_; rintro e w3 ⟨rfl, hd3, z3⟩
            have HD4 := Lib.hid hd3
            have HB5 := Lib.hid (HB4.out.trans (z3.below HB4.out.size hlw))
            have HC5 := Lib.hid (HC4.out.kept z3 (.inr hll))
            have HBk5 := Lib.hid (HBk4.out.kept z3 (.inr htop))
            clear F hd3 z3 HB4 HC4 HBk4
            have DD := DE.out d lo hi S w3 HD4.out
            rw [show isDead S = true from decide_eq_true (by omega)] at DD
            have DD := Lib.hid DD
            clear WA
            go_wp2_with fail
            refine DD.out.mono ?_; rintro e w' ⟨rfl, rfl⟩
            clear DD
            go_wp2
            exact ⟨⟨i + 1, k, S, by go_num, by omega, by go_num, by omega, by omega, hSl, by omega, HD4.out, HC5.out, by omega, HB5.out⟩, by simp [intOf]; omega⟩
        · have hk8 : (x.kind : Int) % 8 = 1 := by omega
          by_cases hkN : k < N
          · by_cases hc0 : wCode S x.b X.size = 0
            · clear hk
              obtain ⟨e1, e2⟩ := wSt_left hc0
              have e3 := wSt_n S x.b X
              have WR1 := fun w h => WR.out d lo hi S x.b X (by omega) w h
              have WR2 := fun w h => WR.out c lo2 hi2 (twin S) x.b X (by show S.acts ≤ 1000000; omega) w h
              rw [twin_code (by omega), twin_st (by omega), hc0] at WR2
              rw [hc0] at WR1
              have WR1 := Lib.hid WR1
              have WR2 := Lib.hid WR2
              have e4 : (wSt S x.b X).left = (N : Int) - ((k + 1 : Nat) : Int) := by rw [e1]; unfold lessOne; rw [if_pos (by omega)]; omega
              generalize wSt S x.b X = S2 at *
              clear e1 hc0
              have kb : ∀ p : BelowP w2, p.to.cell? ⟨wr.heap.size, 0, none⟩ = some (.int .u8 (x.kind : Int)) ∧ p.to.cell? ⟨wr.heap.size, 1, none⟩ = some (.int .i64 x.b) ∧ p.to.cell? ⟨wr.heap.size, 2, none⟩ = some (.int .i64 x.n) ∧ p.to.cell? ⟨wr.heap.size, 3, none⟩ = some (.int .u8 (x.fill : Int)) ∧ p.to.cell? ⟨wr.heap.size, 4, none⟩ = some (.string x.data) ∧ p.to.cell? ⟨wr.heap.size, 5, none⟩ = some (.slice adk x.keep.length capk) := fun p => act_blk (x := ⟨x.kind, x.b, x.n, x.fill, x.data, x.keep, .slice adk x.keep.length capk⟩) (HBk.out.kept1 p.h)
              have k0 := fun p => (kb p).1
              have k1 := fun p => (kb p).2.1
              have k2 := fun p => (kb p).2.2.1
              have k3 := fun p => (kb p).2.2.2.1
              have k4 := fun p => (kb p).2.2.2.2.1
              have k5 := fun p => (kb p).2.2.2.2.2
              obtain ⟨j0, -, -, -, -, -⟩ := kb ⟨w2, Below.refl _ _⟩
              have j0 : w2.cell? ⟨wr.heap.size, 0, none⟩ = some (.int .u8 (x.kind : Int)) := j0
              clear kb
              go_wp2
              refine wp_region_tail_below 5 mixed (by kernel_rfl) ?_
              simp only [List.take_succ_cons, List.take_zero, List.drop_succ_cons, List.drop_zero]
              repeat (go_big_quiet_step (first | (go_at_call 15; refine calls_below (WA.out _))))
              refine wpQuiet_nil ?_
              intro w0q hw'
              obtain ⟨⟨wq, bq⟩, hw''⟩ := hw'
              have hw2 : wq = w0q := hw''.symm
              clear hw''
              subst hw2
              have F := Lib.hid (WR1.out wq (HD3.out.kept1 bq))
              have HB4 := Lib.hid (bnext HB3.out bq)
              have HC4 := Lib.hid (HC3.out.kept1 bq)
              have HBk4 := Lib.hid (HBk.out.kept1 bq)
              have hsq := bq.size
              clear k0 k1 k2 k3 k4 k5 j0 HD3 HC3 HB3 HBk hw2 bq
              go_wp2_with fail
              refine F.out.mono ?_; rintro e w3 ⟨rfl, hd3, z3⟩
              have HD4 := Lib.hid hd3
              have HB5 := Lib.hid (HB4.out.trans (z3.below HB4.out.size hlw))
              have HC5 := Lib.hid (HC4.out.kept z3 (.inr hll))
              have HBk5 := Lib.hid (HBk4.out.kept z3 (.inr htop))
              clear F hd3 z3 HB4 HC4 HBk4
              have kb : ∀ p : BelowP w3, p.to.cell? ⟨wr.heap.size, 0, none⟩ = some (.int .u8 (x.kind : Int)) ∧ p.to.cell? ⟨wr.heap.size, 1, none⟩ = some (.int .i64 x.b) ∧ p.to.cell? ⟨wr.heap.size, 2, none⟩ = some (.int .i64 x.n) ∧ p.to.cell? ⟨wr.heap.size, 3, none⟩ = some (.int .u8 (x.fill : Int)) ∧ p.to.cell? ⟨wr.heap.size, 4, none⟩ = some (.string x.data) ∧ p.to.cell? ⟨wr.heap.size, 5, none⟩ = some (.slice adk x.keep.length capk) := fun p => act_blk (x := ⟨x.kind, x.b, x.n, x.fill, x.data, x.keep, .slice adk x.keep.length capk⟩) (HBk5.out.kept1 p.h)
              have k0 := fun p => (kb p).1
              have k1 := fun p => (kb p).2.1
              have k2 := fun p => (kb p).2.2.1
              have k3 := fun p => (kb p).2.2.2.1
              have k4 := fun p => (kb p).2.2.2.2.1
              have k5 := fun p => (kb p).2.2.2.2.2
              clear kb
              go_wp2
              refine wp_region_tail_below 5 mixed (by kernel_rfl) ?_
              simp only [List.take_succ_cons, List.take_zero, List.drop_succ_cons, List.drop_zero]
              repeat (go_big_quiet_step (first | (go_at_call 15; refine calls_below (WA.out _))))
              refine wpQuiet_nil ?_
              intro w0q hw'
              obtain ⟨⟨wq, bq⟩, hw''⟩ := hw'
              have hw2 : wq = w0q := hw''.symm
              clear hw''
              subst hw2
              have F := Lib.hid (WR2.out wq (HC5.out.kept1 bq))
              have HB6 := Lib.hid (bnext HB5.out bq)
              have HD6 := Lib.hid (HD4.out.kept1 bq)
              clear k0 k1 k2 k3 k4 k5 HD4 HC5 HB5 HBk5 bq WA
              go_wp2_with fail
              refine F.out.mono ?_; rintro e w4 ⟨rfl, hd3, z3⟩
              have HC7 := Lib.hid hd3
              have HB7 := Lib.hid (HB6.out.trans (z3.below HB6.out.size hlw2))
              have HD7 := Lib.hid (HD6.out.kept z3 (.inl hll))
              clear F hd3 z3 HB6 HD6
              go_wp2
              exact ⟨⟨i + 1, k + 1, S2, by go_num, by omega, by go_num, by omega, by omega, e4, by omega, HD7.out, HC7.out, by omega, HB7.out⟩, by simp [intOf]; omega⟩
            · clear hk
              have e1 := wSt_same hc0
              have WR1 := fun w h => WR.out d lo hi S x.b X (by omega) w h
              have WR2 := fun w h => WR.out c lo2 hi2 (twin S) x.b X (by show S.acts ≤ 1000000; omega) w h
              rw [twin_code (by omega), twin_st (by omega), e1] at WR2
              rw [e1] at WR1
              have WR1 := Lib.hid WR1
              have WR2 := Lib.hid WR2
              have hcd : (wCode S x.b X.size == 0) = false := by rw [beq_eq_false_iff_ne]; exact hc0
              generalize wCode S x.b X.size = cd at *
              clear e1 hc0
              have kb : ∀ p : BelowP w2, p.to.cell? ⟨wr.heap.size, 0, none⟩ = some (.int .u8 (x.kind : Int)) ∧ p.to.cell? ⟨wr.heap.size, 1, none⟩ = some (.int .i64 x.b) ∧ p.to.cell? ⟨wr.heap.size, 2, none⟩ = some (.int .i64 x.n) ∧ p.to.cell? ⟨wr.heap.size, 3, none⟩ = some (.int .u8 (x.fill : Int)) ∧ p.to.cell? ⟨wr.heap.size, 4, none⟩ = some (.string x.data) ∧ p.to.cell? ⟨wr.heap.size, 5, none⟩ = some (.slice adk x.keep.length capk) := fun p => act_blk (x := ⟨x.kind, x.b, x.n, x.fill, x.data, x.keep, .slice adk x.keep.length capk⟩) (HBk.out.kept1 p.h)
              have k0 := fun p => (kb p).1
              have k1 := fun p => (kb p).2.1
              have k2 := fun p => (kb p).2.2.1
              have k3 := fun p => (kb p).2.2.2.1
              have k4 := fun p => (kb p).2.2.2.2.1
              have k5 := fun p => (kb p).2.2.2.2.2
              obtain ⟨j0, -, -, -, -, -⟩ := kb ⟨w2, Below.refl _ _⟩
              have j0 : w2.cell? ⟨wr.heap.size, 0, none⟩ = some (.int .u8 (x.kind : Int)) := j0
              clear kb
              go_wp2
              refine wp_region_tail_below 5 mixed (by kernel_rfl) ?_
              simp only [List.take_succ_cons, List.take_zero, List.drop_succ_cons, List.drop_zero]
              repeat (go_big_quiet_step (first | (go_at_call 15; refine calls_below (WA.out _))))
              refine wpQuiet_nil ?_
              intro w0q hw'
              obtain ⟨⟨wq, bq⟩, hw''⟩ := hw'
              have hw2 : wq = w0q := hw''.symm
              clear hw''
              subst hw2
              have F := Lib.hid (WR1.out wq (HD3.out.kept1 bq))
              have HB4 := Lib.hid (bnext HB3.out bq)
              have HC4 := Lib.hid (HC3.out.kept1 bq)
              have HBk4 := Lib.hid (HBk.out.kept1 bq)
              have hsq := bq.size
              clear k0 k1 k2 k3 k4 k5 j0 HD3 HC3 HB3 HBk hw2 bq
              go_wp2_with fail
              refine F.out.mono ?_; rintro e w3 ⟨rfl, hd3, z3⟩
              have HD4 := Lib.hid hd3
              have HB5 := Lib.hid (HB4.out.trans (z3.below HB4.out.size hlw))
              have HC5 := Lib.hid (HC4.out.kept z3 (.inr hll))
              have HBk5 := Lib.hid (HBk4.out.kept z3 (.inr htop))
              clear F hd3 z3 HB4 HC4 HBk4
              have kb : ∀ p : BelowP w3, p.to.cell? ⟨wr.heap.size, 0, none⟩ = some (.int .u8 (x.kind : Int)) ∧ p.to.cell? ⟨wr.heap.size, 1, none⟩ = some (.int .i64 x.b) ∧ p.to.cell? ⟨wr.heap.size, 2, none⟩ = some (.int .i64 x.n) ∧ p.to.cell? ⟨wr.heap.size, 3, none⟩ = some (.int .u8 (x.fill : Int)) ∧ p.to.cell? ⟨wr.heap.size, 4, none⟩ = some (.string x.data) ∧ p.to.cell? ⟨wr.heap.size, 5, none⟩ = some (.slice adk x.keep.length capk) := fun p => act_blk (x := ⟨x.kind, x.b, x.n, x.fill, x.data, x.keep, .slice adk x.keep.length capk⟩) (HBk5.out.kept1 p.h)
              have k0 := fun p => (kb p).1
              have k1 := fun p => (kb p).2.1
              have k2 := fun p => (kb p).2.2.1
              have k3 := fun p => (kb p).2.2.2.1
              have k4 := fun p => (kb p).2.2.2.2.1
              have k5 := fun p => (kb p).2.2.2.2.2
              clear kb
              go_wp2
              refine wp_region_tail_below 5 mixed (by kernel_rfl) ?_
              simp only [List.take_succ_cons, List.take_zero, List.drop_succ_cons, List.drop_zero]
              repeat (go_big_quiet_step (first | (go_at_call 15; refine calls_below (WA.out _))))
              refine wpQuiet_nil ?_
              intro w0q hw'
              obtain ⟨⟨wq, bq⟩, hw''⟩ := hw'
              have hw2 : wq = w0q := hw''.symm
              clear hw''
              subst hw2
              have F := Lib.hid (WR2.out wq (HC5.out.kept1 bq))
              have HB6 := Lib.hid (bnext HB5.out bq)
              have HD6 := Lib.hid (HD4.out.kept1 bq)
              clear k0 k1 k2 k3 k4 k5 HD4 HC5 HB5 HBk5 bq WA
              go_wp2_with fail
              refine F.out.mono ?_; rintro e w4 ⟨rfl, hd3, z3⟩
              have HC7 := Lib.hid hd3
              have HB7 := Lib.hid (HB6.out.trans (z3.below HB6.out.size hlw2))
              have HD7 := Lib.hid (HD6.out.kept z3 (.inl hll))
              clear F hd3 z3 HB6 HD6
              go_wp2
              exact ⟨⟨i + 1, k, S, by go_num, by omega, by go_num, by omega, by omega, hSl, by omega, HD7.out, HC7.out, by omega, HB7.out⟩, by simp [intOf]; omega⟩
          · have hc0 := wCode_dead (S := S) (by omega) x.b X.size
            clear hk
            have e1 := wSt_same hc0
            have WR1 := fun w h => WR.out d lo hi S x.b X (by omega) w h
            rw [e1] at WR1
            have WR1 := Lib.hid WR1
            have hcd : (wCode S x.b X.size == 0) = false := by rw [beq_eq_false_iff_ne]; exact hc0
            generalize wCode S x.b X.size = cd at *
            clear e1 hc0
            have kb : ∀ p : BelowP w2, p.to.cell? ⟨wr.heap.size, 0, none⟩ = some (.int .u8 (x.kind : Int)) ∧ p.to.cell? ⟨wr.heap.size, 1, none⟩ = some (.int .i64 x.b) ∧ p.to.cell? ⟨wr.heap.size, 2, none⟩ = some (.int .i64 x.n) ∧ p.to.cell? ⟨wr.heap.size, 3, none⟩ = some (.int .u8 (x.fill : Int)) ∧ p.to.cell? ⟨wr.heap.size, 4, none⟩ = some (.string x.data) ∧ p.to.cell? ⟨wr.heap.size, 5, none⟩ = some (.slice adk x.keep.length capk) := fun p => act_blk (x := ⟨x.kind, x.b, x.n, x.fill, x.data, x.keep, .slice adk x.keep.length capk⟩) (HBk.out.kept1 p.h)
            have k0 := fun p => (kb p).1
            have k1 := fun p => (kb p).2.1
            have k2 := fun p => (kb p).2.2.1
            have k3 := fun p => (kb p).2.2.2.1
            have k4 := fun p => (kb p).2.2.2.2.1
            have k5 := fun p => (kb p).2.2.2.2.2
            obtain ⟨j0, -, -, -, -, -⟩ := kb ⟨w2, Below.refl _ _⟩
            have j0 : w2.cell? ⟨wr.heap.size, 0, none⟩ = some (.int .u8 (x.kind : Int)) := j0
            clear kb
            go_wp2
            refine wp_region_tail_below 5 mixed (by kernel_rfl) ?_
            simp only [List.take_succ_cons, List.take_zero, List.drop_succ_cons, List.drop_zero]
            repeat (go_big_quiet_step (first | (go_at_call 15; refine calls_below (WA.out _))))
            refine wpQuiet_nil ?_
            intro w0q hw'
            obtain ⟨⟨wq, bq⟩, hw''⟩ := hw'
            have hw2 : wq = w0q := hw''.symm
            clear hw''
            subst hw2
            have F := Lib.hid (WR1.out wq (HD3.out.kept1 bq))
            have HB4 := Lib.hid (bnext HB3.out bq)
            have HC4 := Lib.hid (HC3.out.kept1 bq)
            have HBk4 := Lib.hid (HBk.out.kept1 bq)
            have hsq := bq.size
            clear k0 k1 k2 k3 k4 k5 j0 HD3 HC3 HB3 HBk hw2 bq
            go_wp2_with fail
            refine F.out.mono ?_; rintro e w3 ⟨rfl, hd3, z3⟩
            have HD4 := Lib.hid hd3
            have HB5 := Lib.hid (HB4.out.trans (z3.below HB4.out.size hlw))
            have HC5 := Lib.hid (HC4.out.kept z3 (.inr hll))
            have HBk5 := Lib.hid (HBk4.out.kept z3 (.inr htop))
            clear F hd3 z3 HB4 HC4 HBk4
            have DD := DE.out d lo hi S w3 HD4.out
            rw [show isDead S = true from decide_eq_true (by omega)] at DD
            have DD := Lib.hid DD
            clear WA
            go_wp2_with fail
            refine DD.out.mono ?_; rintro e w' ⟨rfl, rfl⟩
            clear DD
            go_wp2
            exact ⟨⟨i + 1, k, S, by go_num, by omega, by go_num, by omega, by omega, hSl, by omega, HD4.out, HC5.out, by omega, HB5.out⟩, by simp [intOf]; omega⟩
        · have hk8 : (x.kind : Int) % 8 = 2 := by omega
          by_cases hkN : k < N
          · by_cases hc0 : wCode S x.b X.size = 0
            · clear hk
              obtain ⟨e1, e2⟩ := wSt_left hc0
              have e3 := wSt_n S x.b X
              have WR1 := fun w h => WR.out d lo hi S x.b X (by omega) w h
              have WR2 := fun w h => WR.out c lo2 hi2 (twin S) x.b X (by show S.acts ≤ 1000000; omega) w h
              rw [twin_code (by omega), twin_st (by omega), hc0] at WR2
              rw [hc0] at WR1
              have WR1 := Lib.hid WR1
              have WR2 := Lib.hid WR2
              have e4 : (wSt S x.b X).left = (N : Int) - ((k + 1 : Nat) : Int) := by rw [e1]; unfold lessOne; rw [if_pos (by omega)]; omega
              generalize wSt S x.b X = S2 at *
              clear e1 hc0
              have kb : ∀ p : BelowP w2, p.to.cell? ⟨wr.heap.size, 0, none⟩ = some (.int .u8 (x.kind : Int)) ∧ p.to.cell? ⟨wr.heap.size, 1, none⟩ = some (.int .i64 x.b) ∧ p.to.cell? ⟨wr.heap.size, 2, none⟩ = some (.int .i64 x.n) ∧ p.to.cell? ⟨wr.heap.size, 3, none⟩ = some (.int .u8 (x.fill : Int)) ∧ p.to.cell? ⟨wr.heap.size, 4, none⟩ = some (.string x.data) ∧ p.to.cell? ⟨wr.heap.size, 5, none⟩ = some (.slice adk x.keep.length capk) := fun p => act_blk (x := ⟨x.kind, x.b, x.n, x.fill, x.data, x.keep, .slice adk x.keep.length capk⟩) (HBk.out.kept1 p.h)
              have k0 := fun p => (kb p).1
              have k1 := fun p => (kb p).2.1
              have k2 := fun p => (kb p).2.2.1
              have k3 := fun p => (kb p).2.2.2.1
              have k4 := fun p => (kb p).2.2.2.2.1
              have k5 := fun p => (kb p).2.2.2.2.2
              obtain ⟨j0, -, -, -, -, -⟩ := kb ⟨w2, Below.refl _ _⟩
              have j0 : w2.cell? ⟨wr.heap.size, 0, none⟩ = some (.int .u8 (x.kind : Int)) := j0
              clear kb
              go_wp2
              refine wp_region_tail_below 5 mixed (by kernel_rfl) ?_
              simp only [List.take_succ_cons, List.take_zero, List.drop_succ_cons, List.drop_zero]
              repeat (go_big_quiet_step (first | (go_at_call 15; refine calls_below (WA.out _))))
              refine wpQuiet_nil ?_
              intro w0q hw'
              obtain ⟨⟨wq, bq⟩, hw''⟩ := hw'
              have hw2 : wq = w0q := hw''.symm
              clear hw''
              subst hw2
              have F := Lib.hid (WR1.out wq (HD3.out.kept1 bq))
              have HB4 := Lib.hid (bnext HB3.out bq)
              have HC4 := Lib.hid (HC3.out.kept1 bq)
              have HBk4 := Lib.hid (HBk.out.kept1 bq)
              have hsq := bq.size
              clear k0 k1 k2 k3 k4 k5 j0 HD3 HC3 HB3 HBk hw2 bq
              go_wp2_with fail
              refine F.out.mono ?_; rintro e w3 ⟨rfl, hd3, z3⟩
              have HD4 := Lib.hid hd3
              have HB5 := Lib.hid (HB4.out.trans (z3.below HB4.out.size hlw))
              have HC5 := Lib.hid (HC4.out.kept z3 (.inr hll))
              have HBk5 := Lib.hid (HBk4.out.kept z3 (.inr htop))
              clear F hd3 z3 HB4 HC4 HBk4
              have kb : ∀ p : BelowP w3, p.to.cell? ⟨wr.heap.size, 0, none⟩ = some (.int .u8 (x.kind : Int)) ∧ p.to.cell? ⟨wr.heap.size, 1, none⟩ = some (.int .i64 x.b) ∧ p.to.cell? ⟨wr.heap.size, 2, none⟩ = some (.int .i64 x.n) ∧ p.to.cell? ⟨wr.heap.size, 3, none⟩ = some (.int .u8 (x.fill : Int)) ∧ p.to.cell? ⟨wr.heap.size, 4, none⟩ = some (.string x.data) ∧ p.to.cell? ⟨wr.heap.size, 5, none⟩ = some (.slice adk x.keep.length capk) := fun p => act_blk (x := ⟨x.kind, x.b, x.n, x.fill, x.data, x.keep, .slice adk x.keep.length capk⟩) (HBk5.out.kept1 p.h)
              have k0 := fun p => (kb p).1
              have k1 := fun p => (kb p).2.1
              have k2 := fun p => (kb p).2.2.1
              have k3 := fun p => (kb p).2.2.2.1
              have k4 := fun p => (kb p).2.2.2.2.1
              have k5 := fun p => (kb p).2.2.2.2.2
              clear kb
              go_wp2
              refine wp_region_tail_below 5 mixed (by kernel_rfl) ?_
              simp only [List.take_succ_cons, List.take_zero, List.drop_succ_cons, List.drop_zero]
              repeat (go_big_quiet_step (first | (go_at_call 15; refine calls_below (WA.out _))))
              refine wpQuiet_nil ?_
              intro w0q hw'
              obtain ⟨⟨wq, bq⟩, hw''⟩ := hw'
              have hw2 : wq = w0q := hw''.symm
              clear hw''
              subst hw2
              have F := Lib.hid (WR2.out wq (HC5.out.kept1 bq))
              have HB6 := Lib.hid (bnext HB5.out bq)
              have HD6 := Lib.hid (HD4.out.kept1 bq)
              clear k0 k1 k2 k3 k4 k5 HD4 HC5 HB5 HBk5 bq WA
              go_wp2_with fail
              refine F.out.mono ?_; rintro e w4 ⟨rfl, hd3, z3⟩
              have HC7 := Lib.hid hd3
              have HB7 := Lib.hid (HB6.out.trans (z3.below HB6.out.size hlw2))
              have HD7 := Lib.hid (HD6.out.kept z3 (.inl hll))
              clear F hd3 z3 HB6 HD6
              go_wp2
              exact ⟨⟨i + 1, k + 1, S2, by go_num, by omega, by go_num, by omega, by omega, e4, by omega, HD7.out, HC7.out, by omega, HB7.out⟩, by simp [intOf]; omega⟩
            · clear hk
              have e1 := wSt_same hc0
              have WR1 := fun w h => WR.out d lo hi S x.b X (by omega) w h
              have WR2 := fun w h => WR.out c lo2 hi2 (twin S) x.b X (by show S.acts ≤ 1000000; omega) w h
              rw [twin_code (by omega), twin_st (by omega), e1] at WR2
              rw [e1] at WR1
              have WR1 := Lib.hid WR1
              have WR2 := Lib.hid WR2
              have hcd : (wCode S x.b X.size == 0) = false := by rw [beq_eq_false_iff_ne]; exact hc0
              generalize wCode S x.b X.size = cd at *
              clear e1 hc0
              have kb : ∀ p : BelowP w2, p.to.cell? ⟨wr.heap.size, 0, none⟩ = some (.int .u8 (x.kind : Int)) ∧ p.to.cell? ⟨wr.heap.size, 1, none⟩ = some (.int .i64 x.b) ∧ p.to.cell? ⟨wr.heap.size, 2, none⟩ = some (.int .i64 x.n) ∧ p.to.cell? ⟨wr.heap.size, 3, none⟩ = some (.int .u8 (x.fill : Int)) ∧ p.to.cell? ⟨wr.heap.size, 4, none⟩ = some (.string x.data) ∧ p.to.cell? ⟨wr.heap.size, 5, none⟩ = some (.slice adk x.keep.length capk) := fun p => act_blk (x := ⟨x.kind, x.b, x.n, x.fill, x.data, x.keep, .slice adk x.keep.length capk⟩) (HBk.out.kept1 p.h)
              have k0 := fun p => (kb p).1
              have k1 := fun p => (kb p).2.1
              have k2 := fun p => (kb p).2.2.1
              have k3 := fun p => (kb p).2.2.2.1
              have k4 := fun p => (kb p).2.2.2.2.1
              have k5 := fun p => (kb p).2.2.2.2.2
              obtain ⟨j0, -, -, -, -, -⟩ := kb ⟨w2, Below.refl _ _⟩
              have j0 : w2.cell? ⟨wr.heap.size, 0, none⟩ = some (.int .u8 (x.kind : Int)) := j0
              clear kb
              go_wp2
              refine wp_region_tail_below 5 mixed (by kernel_rfl) ?_
              simp only [List.take_succ_cons, List.take_zero, List.drop_succ_cons, List.drop_zero]
              repeat (go_big_quiet_step (first | (go_at_call 15; refine calls_below (WA.out _))))
              refine wpQuiet_nil ?_
              intro w0q hw'
              obtain ⟨⟨wq, bq⟩, hw''⟩ := hw'
              have hw2 : wq = w0q := hw''.symm
              clear hw''
              subst hw2
              have F := Lib.hid (WR1.out wq (HD3.out.kept1 bq))
              have HB4 := Lib.hid (bnext HB3.out bq)
              have HC4 := Lib.hid (HC3.out.kept1 bq)
              have HBk4 := Lib.hid (HBk.out.kept1 bq)
              have hsq := bq.size
              clear k0 k1 k2 k3 k4 k5 j0 HD3 HC3 HB3 HBk hw2 bq
              go_wp2_with fail
              refine F.out.mono ?_; rintro e w3 ⟨rfl, hd3, z3⟩
              have HD4 := Lib.hid hd3
              have HB5 := Lib.hid (HB4.out.trans (z3.below HB4.out.size hlw))
              have HC5 := Lib.hid (HC4.out.kept z3 (.inr hll))
              have HBk5 := Lib.hid (HBk4.out.kept z3 (.inr htop))
              clear F hd3 z3 HB4 HC4 HBk4
              have kb : ∀ p : BelowP w3, p.to.cell? ⟨wr.heap.size, 0, none⟩ = some (.int .u8 (x.kind : Int)) ∧ p.to.cell? ⟨wr.heap.size, 1, none⟩ = some (.int .i64 x.b) ∧ p.to.cell? ⟨wr.heap.size, 2, none⟩ = some (.int .i64 x.n) ∧ p.to.cell? ⟨wr.heap.size, 3, none⟩ = some (.int .u8 (x.fill : Int)) ∧ p.to.cell? ⟨wr.heap.size, 4, none⟩ = some (.string x.data) ∧ p.to.cell? ⟨wr.heap.size, 5, none⟩ = some (.slice adk x.keep.length capk) := fun p => act_blk (x := ⟨x.kind, x.b, x.n, x.fill, x.data, x.keep, .slice adk x.keep.length capk⟩) (HBk5.out.kept1 p.h)
              have k0 := fun p => (kb p).1
              have k1 := fun p => (kb p).2.1
              have k2 := fun p => (kb p).2.2.1
              have k3 := fun p => (kb p).2.2.2.1
              have k4 := fun p => (kb p).2.2.2.2.1
              have k5 := fun p => (kb p).2.2.2.2.2
              clear kb
              go_wp2
              refine wp_region_tail_below 5 mixed (by kernel_rfl) ?_
              simp only [List.take_succ_cons, List.take_zero, List.drop_succ_cons, List.drop_zero]
              repeat (go_big_quiet_step (first | (go_at_call 15; refine calls_below (WA.out _))))
              refine wpQuiet_nil ?_
              intro w0q hw'
              obtain ⟨⟨wq, bq⟩, hw''⟩ := hw'
              have hw2 : wq = w0q := hw''.symm
              clear hw''
              subst hw2
              have F := Lib.hid (WR2.out wq (HC5.out.kept1 bq))
              have HB6 := Lib.hid (bnext HB5.out bq)
              have HD6 := Lib.hid (HD4.out.kept1 bq)
              clear k0 k1 k2 k3 k4 k5 HD4 HC5 HB5 HBk5 bq WA
              go_wp2_with fail
              refine F.out.mono ?_; rintro e w4 ⟨rfl, hd3, z3⟩
              have HC7 := Lib.hid hd3
              have HB7 := Lib.hid (HB6.out.trans (z3.below HB6.out.size hlw2))
              have HD7 := Lib.hid (HD6.out.kept z3 (.inl hll))
              clear F hd3 z3 HB6 HD6
              go_wp2
              exact ⟨⟨i + 1, k, S, by go_num, by omega, by go_num, by omega, by omega, hSl, by omega, HD7.out, HC7.out, by omega, HB7.out⟩, by simp [intOf]; omega⟩
          · have hc0 := wCode_dead (S := S) (by omega) x.b X.size
            clear hk
            have e1 := wSt_same hc0
            have WR1 := fun w h => WR.out d lo hi S x.b X (by omega) w h
            rw [e1] at WR1
            have WR1 := Lib.hid WR1
            have hcd : (wCode S x.b X.size == 0) = false := by rw [beq_eq_false_iff_ne]; exact hc0
            generalize wCode S x.b X.size = cd at *
            clear e1 hc0
            have kb : ∀ p : BelowP w2, p.to.cell? ⟨wr.heap.size, 0, none⟩ = some (.int .u8 (x.kind : Int)) ∧ p.to.cell? ⟨wr.heap.size, 1, none⟩ = some (.int .i64 x.b) ∧ p.to.cell? ⟨wr.heap.size, 2, none⟩ = some (.int .i64 x.n) ∧ p.to.cell? ⟨wr.heap.size, 3, none⟩ = some (.int .u8 (x.fill : Int)) ∧ p.to.cell? ⟨wr.heap.size, 4, none⟩ = some (.string x.data) ∧ p.to.cell? ⟨wr.heap.size, 5, none⟩ = some (.slice adk x.keep.length capk) := fun p => act_blk (x := ⟨x.kind, x.b, x.n, x.fill, x.data, x.keep, .slice adk x.keep.length capk⟩) (HBk.out.kept1 p.h)
            have k0 := fun p => (kb p).1
            have k1 := fun p => (kb p).2.1
            have k2 := fun p => (kb p).2.2.1
            have k3 := fun p => (kb p).2.2.2.1
            have k4 := fun p => (kb p).2.2.2.2.1
            have k5 := fun p => (kb p).2.2.2.2.2
            obtain ⟨j0, -, -, -, -, -⟩ := kb ⟨w2, Below.refl _ _⟩
            have j0 : w2.cell? ⟨wr.heap.size, 0, none⟩ = some (.int .u8 (x.kind : Int)) := j0
            clear kb
            go_wp2
            refine wp_region_tail_below 5 mixed (by kernel_rfl) ?_
            simp only [List.take_succ_cons, List.take_zero, List.drop_succ_cons, List.drop_zero]
            repeat (go_big_quiet_step (first | (go_at_call 15; refine calls_below (WA.out _))))
            refine wpQuiet_nil ?_
            intro w0q hw'
            obtain ⟨⟨wq, bq⟩, hw''⟩ := hw'
            have hw2 : wq = w0q := hw''.symm
            clear hw''
            subst hw2
            have F := Lib.hid (WR1.out wq (HD3.out.kept1 bq))
            have HB4 := Lib.hid (bnext HB3.out bq)
            have HC4 := Lib.hid (HC3.out.kept1 bq)
            have HBk4 := Lib.hid (HBk.out.kept1 bq)
            have hsq := bq.size
            clear k0 k1 k2 k3 k4 k5 j0 HD3 HC3 HB3 HBk hw2 bq
            go_wp2_with fail
            refine F.out.mono ?_; rintro e w3 ⟨rfl, hd3, z3⟩
            have HD4 := Lib.hid hd3
            have HB5 := Lib.hid (HB4.out.trans (z3.below HB4.out.size hlw))
            have HC5 := Lib.hid (HC4.out.kept z3 (.inr hll))
            have HBk5 := Lib.hid (HBk4.out.kept z3 (.inr htop))
            clear F hd3 z3 HB4 HC4 HBk4
            have DD := DE.out d lo hi S w3 HD4.out
            rw [show isDead S = true from decide_eq_true (by omega)] at DD
            have DD := Lib.hid DD
            clear WA
            go_wp2_with fail
            refine DD.out.mono ?_; rintro e w' ⟨rfl, rfl⟩
            clear DD
            go_wp2
            exact ⟨⟨i + 1, k, S, by go_num, by omega, by go_num, by omega, by omega, hSl, by omega, HD4.out, HC5.out, by omega, HB5.out⟩, by simp [intOf]; omega⟩
        · have hk8 : (x.kind : Int) % 8 = 3 := by omega
          by_cases hkN : k < N
          · by_cases hc0 : wCode S x.b X.size = 0
            · clear hk
              obtain ⟨e1, e2⟩ := wSt_left hc0
              have e3 := wSt_n S x.b X
              have WR1 := fun w h => WR.out d lo hi S x.b X (by omega) w h
              have WR2 := fun w h => WR.out c lo2 hi2 (twin S) x.b X (by show S.acts ≤ 1000000; omega) w h
              rw [twin_code (by omega), twin_st (by omega), hc0] at WR2
              rw [hc0] at WR1
              have WR1 := Lib.hid WR1
              have WR2 := Lib.hid WR2
              have e4 : (wSt S x.b X).left = (N : Int) - ((k + 1 : Nat) : Int) := by rw [e1]; unfold lessOne; rw [if_pos (by omega)]; omega
              generalize wSt S x.b X = S2 at *
              clear e1 hc0
              have kb : ∀ p : BelowP w2, p.to.cell? ⟨wr.heap.size, 0, none⟩ = some (.int .u8 (x.kind : Int)) ∧ p.to.cell? ⟨wr.heap.size, 1, none⟩ = some (.int .i64 x.b) ∧ p.to.cell? ⟨wr.heap.size, 2, none⟩ = some (.int .i64 x.n) ∧ p.to.cell? ⟨wr.heap.size, 3, none⟩ = some (.int .u8 (x.fill : Int)) ∧ p.to.cell? ⟨wr.heap.size, 4, none⟩ = some (.string x.data) ∧ p.to.cell? ⟨wr.heap.size, 5, none⟩ = some (.slice adk x.keep.length capk) := fun p => act_blk (x := ⟨x.kind, x.b, x.n, x.fill, x.data, x.keep, .slice adk x.keep.length capk⟩) (HBk.out.kept1 p.h)
              have k0 := fun p => (kb p).1
              have k1 := fun p => (kb p).2.1
              have k2 := fun p => (kb p).2.2.1
              have k3 := fun p => (kb p).2.2.2.1
              have k4 := fun p => (kb p).2.2.2.2.1
              have k5 := fun p => (kb p).2.2.2.2.2
              obtain ⟨j0, -, -, -, -, -⟩ := kb ⟨w2, Below.refl _ _⟩
              have j0 : w2.cell? ⟨wr.heap.size, 0, none⟩ = some (.int .u8 (x.kind : Int)) := j0
              clear kb
              go_wp2
              refine wp_region_tail_below 5 mixed (by kernel_rfl) ?_
              simp only [List.take_succ_cons, List.take_zero, List.drop_succ_cons, List.drop_zero]
              repeat (go_big_quiet_step (first | (go_at_call 15; refine calls_below (WA.out _))))
              refine wpQuiet_nil ?_
              intro w0q hw'
              obtain ⟨⟨wq, bq⟩, hw''⟩ := hw'
              have hw2 : wq = w0q := hw''.symm
              clear hw''
              subst hw2
              have F := Lib.hid (WR1.out wq (HD3.out.kept1 bq))
              have HB4 := Lib.hid (bnext HB3.out bq)
              have HC4 := Lib.hid (HC3.out.kept1 bq)
              have HBk4 := Lib.hid (HBk.out.kept1 bq)
              have hsq := bq.size
              clear k0 k1 k2 k3 k4 k5 j0 HD3 HC3 HB3 HBk hw2 bq
              go_wp2_with fail
              refine F.out.mono ?_; rintro e w3 ⟨rfl, hd3, z3⟩
              have HD4 := Lib.hid hd3
              have HB5 := Lib.hid (HB4.out.trans (z3.below HB4.out.size hlw))
              have HC5 := Lib.hid (HC4.out.kept z3 (.inr hll))
              have HBk5 := Lib.hid (HBk4.out.kept z3 (.inr htop))
              clear F hd3 z3 HB4 HC4 HBk4
              have kb : ∀ p : BelowP w3, p.to.cell? ⟨wr.heap.size, 0, none⟩ = some (.int .u8 (x.kind : Int)) ∧ p.to.cell? ⟨wr.heap.size, 1, none⟩ = some (.int .i64 x.b) ∧ p.to.cell? ⟨wr.heap.size, 2, none⟩ = some (.int .i64 x.n) ∧ p.to.cell? ⟨wr.heap.size, 3, none⟩ = some (.int .u8 (x.fill : Int)) ∧ p.to.cell? ⟨wr.heap.size, 4, none⟩ = some (.string x.data) ∧ p.to.cell? ⟨wr.heap.size, 5, none⟩ = some (.slice adk x.keep.length capk) := fun p => act_blk (x := ⟨x.kind, x.b, x.n, x.fill, x.data, x.keep, .slice adk x.keep.length capk⟩) (HBk5.out.kept1 p.h)
              have k0 := fun p => (kb p).1
              have k1 := fun p => (kb p).2.1
              have k2 := fun p => (kb p).2.2.1
              have k3 := fun p => (kb p).2.2.2.1
              have k4 := fun p => (kb p).2.2.2.2.1
              have k5 := fun p => (kb p).2.2.2.2.2
              clear kb
              go_wp2
              refine wp_region_tail_below 5 mixed (by kernel_rfl) ?_
              simp only [List.take_succ_cons, List.take_zero, List.drop_succ_cons, List.drop_zero]
              repeat (go_big_quiet_step (first | (go_at_call 15; refine calls_below (WA.out _))))
              refine wpQuiet_nil ?_
              intro w0q hw'
              obtain ⟨⟨wq, bq⟩, hw''⟩ := hw'
              have hw2 : wq = w0q := hw''.symm
              clear hw''
              subst hw2
              have F := Lib.hid (WR2.out wq (HC5.out.kept1 bq))
              have HB6 := Lib.hid (bnext HB5.out bq)
              have HD6 := Lib.hid (HD4.out.kept1 bq)
              clear k0 k1 k2 k3 k4 k5 HD4 HC5 HB5 HBk5 bq WA
              go_wp2_with fail
              refine F.out.mono ?_; rintro e w4 ⟨rfl, hd3, z3⟩
              have HC7 := Lib.hid hd3
              have HB7 := Lib.hid (HB6.out.trans (z3.below HB6.out.size hlw2))
              have HD7 := Lib.hid (HD6.out.kept z3 (.inl hll))
              clear F hd3 z3 HB6 HD6
              go_wp2
              exact ⟨⟨i + 1, k + 1, S2, by go_num, by omega, by go_num, by omega, by omega, e4, by omega, HD7.out, HC7.out, by omega, HB7.out⟩, by simp [intOf]; omega⟩
            · clear hk
              have e1 := wSt_same hc0
              have WR1 := fun w h => WR.out d lo hi S x.b X (by omega) w h
              have WR2 := fun w h => WR.out c lo2 hi2 (twin S) x.b X (by show S.acts ≤ 1000000; omega) w h
              rw [twin_code (by omega), twin_st (by omega), e1] at WR2
              rw [e1] at WR1
              have WR1 := Lib.hid WR1
              have WR2 := Lib.hid WR2
              have hcd : (wCode S x.b X.size == 0) = false := by rw [beq_eq_false_iff_ne]; exact hc0
              generalize wCode S x.b X.size = cd at *
              clear e1 hc0
              have kb : ∀ p : BelowP w2, p.to.cell? ⟨wr.heap.size, 0, none⟩ = some (.int .u8 (x.kind : Int)) ∧ p.to.cell? ⟨wr.heap.size, 1, none⟩ = some (.int .i64 x.b) ∧ p.to.cell? ⟨wr.heap.size, 2, none⟩ = some (.int .i64 x.n) ∧ p.to.cell? ⟨wr.heap.size, 3, none⟩ = some (.int .u8 (x.fill : Int)) ∧ p.to.cell? ⟨wr.heap.size, 4, none⟩ = some (.string x.data) ∧ p.to.cell? ⟨wr.heap.size, 5, none⟩ = some (.slice adk x.keep.length capk) := fun p => act_blk (x := ⟨x.kind, x.b, x.n, x.fill, x.data, x.keep, .slice adk x.keep.length capk⟩) (HBk.out.kept1 p.h)
              have k0 := fun p => (kb p).1
              have k1 := fun p => (kb p).2.1
              have k2 := fun p => (kb p).2.2.1
              have k3 := fun p => (kb p).2.2.2.1
              have k4 := fun p => (kb p).2.2.2.2.1
              have k5 := fun p => (kb p).2.2.2.2.2
              obtain ⟨j0, -, -, -, -, -⟩ := kb ⟨w2, Below.refl _ _⟩
              have j0 : w2.cell? ⟨wr.heap.size, 0, none⟩ = some (.int .u8 (x.kind : Int)) := j0
              clear kb
              go_wp2
              refine wp_region_tail_below 5 mixed (by kernel_rfl) ?_
              simp only [List.take_succ_cons, List.take_zero, List.drop_succ_cons, List.drop_zero]
              repeat (go_big_quiet_step (first | (go_at_call 15; refine calls_below (WA.out _))))
              refine wpQuiet_nil ?_
              intro w0q hw'
              obtain ⟨⟨wq, bq⟩, hw''⟩ := hw'
              have hw2 : wq = w0q := hw''.symm
              clear hw''
              subst hw2
              have F := Lib.hid (WR1.out wq (HD3.out.kept1 bq))
              have HB4 := Lib.hid (bnext HB3.out bq)
              have HC4 := Lib.hid (HC3.out.kept1 bq)
              have HBk4 := Lib.hid (HBk.out.kept1 bq)
              have hsq := bq.size
              clear k0 k1 k2 k3 k4 k5 j0 HD3 HC3 HB3 HBk hw2 bq
              go_wp2_with fail
              refine F.out.mono ?_; rintro e w3 ⟨rfl, hd3, z3⟩
              have HD4 := Lib.hid hd3
              have HB5 := Lib.hid (HB4.out.trans (z3.below HB4.out.size hlw))
              have HC5 := Lib.hid (HC4.out.kept z3 (.inr hll))
              have HBk5 := Lib.hid (HBk4.out.kept z3 (.inr htop))
              clear F hd3 z3 HB4 HC4 HBk4
              have kb : ∀ p : BelowP w3, p.to.cell? ⟨wr.heap.size, 0, none⟩ = some (.int .u8 (x.kind : Int)) ∧ p.to.cell? ⟨wr.heap.size, 1, none⟩ = some (.int .i64 x.b) ∧ p.to.cell? ⟨wr.heap.size, 2, none⟩ = some (.int .i64 x.n) ∧ p.to.cell? ⟨wr.heap.size, 3, none⟩ = some (.int .u8 (x.fill : Int)) ∧ p.to.cell? ⟨wr.heap.size, 4, none⟩ = some (.string x.data) ∧ p.to.cell? ⟨wr.heap.size, 5, none⟩ = some (.slice adk x.keep.length capk) := fun p => act_blk (x := ⟨x.kind, x.b, x.n, x.fill, x.data, x.keep, .slice adk x.keep.length capk⟩) (HBk5.out.kept1 p.h)
              have k0 := fun p => (kb p).1
              have k1 := fun p => (kb p).2.1
              have k2 := fun p => (kb p).2.2.1
              have k3 := fun p => (kb p).2.2.2.1
              have k4 := fun p => (kb p).2.2.2.2.1
              have k5 := fun p => (kb p).2.2.2.2.2
              clear kb
              go_wp2
              refine wp_region_tail_below 5 mixed (by kernel_rfl) ?_
              simp only [List.take_succ_cons, List.take_zero, List.drop_succ_cons, List.drop_zero]
              repeat (go_big_quiet_step (first | (go_at_call 15; refine calls_below (WA.out _))))
              refine wpQuiet_nil ?_
              intro w0q hw'
              obtain ⟨⟨wq, bq⟩, hw''⟩ := hw'
              have hw2 : wq = w0q := hw''.symm
              clear hw''
              subst hw2
              have F := Lib.hid (WR2.out wq (HC5.out.kept1 bq))
              have HB6 := Lib.hid (bnext HB5.out bq)
              have HD6 := Lib.hid (HD4.out.kept1 bq)
              clear k0 k1 k2 k3 k4 k5 HD4 HC5 HB5 HBk5 bq WA
              go_wp2_with fail
              refine F.out.mono ?_; rintro e w4 ⟨rfl, hd3, z3⟩
              have HC7 := Lib.hid hd3
              have HB7 := Lib.hid (HB6.out.trans (z3.below HB6.out.size hlw2))
              have HD7 := Lib.hid (HD6.out.kept z3 (.inl hll))
              clear F hd3 z3 HB6 HD6
              go_wp2
              exact ⟨⟨i + 1, k, S, by go_num, by omega, by go_num, by omega, by omega, hSl, by omega, HD7.out, HC7.out, by omega, HB7.out⟩, by simp [intOf]; omega⟩
          · have hc0 := wCode_dead (S := S) (by omega) x.b X.size
            clear hk
            have e1 := wSt_same hc0
            have WR1 := fun w h => WR.out d lo hi S x.b X (by omega) w h
            rw [e1] at WR1
            have WR1 := Lib.hid WR1
            have hcd : (wCode S x.b X.size == 0) = false := by rw [beq_eq_false_iff_ne]; exact hc0
            generalize wCode S x.b X.size = cd at *
            clear e1 hc0
            have kb : ∀ p : BelowP w2, p.to.cell? ⟨wr.heap.size, 0, none⟩ = some (.int .u8 (x.kind : Int)) ∧ p.to.cell? ⟨wr.heap.size, 1, none⟩ = some (.int .i64 x.b) ∧ p.to.cell? ⟨wr.heap.size, 2, none⟩ = some (.int .i64 x.n) ∧ p.to.cell? ⟨wr.heap.size, 3, none⟩ = some (.int .u8 (x.fill : Int)) ∧ p.to.cell? ⟨wr.heap.size, 4, none⟩ = some (.string x.data) ∧ p.to.cell? ⟨wr.heap.size, 5, none⟩ = some (.slice adk x.keep.length capk) := fun p => act_blk (x := ⟨x.kind, x.b, x.n, x.fill, x.data, x.keep, .slice adk x.keep.length capk⟩) (HBk.out.kept1 p.h)
            have k0 := fun p => (kb p).1
            have k1 := fun p => (kb p).2.1
            have k2 := fun p => (kb p).2.2.1
            have k3 := fun p => (kb p).2.2.2.1
            have k4 := fun p => (kb p).2.2.2.2.1
            have k5 := fun p => (kb p).2.2.2.2.2
            obtain ⟨j0, -, -, -, -, -⟩ := kb ⟨w2, Below.refl _ _⟩
            have j0 : w2.cell? ⟨wr.heap.size, 0, none⟩ = some (.int .u8 (x.kind : Int)) := j0
            clear kb
            go_wp2
            refine wp_region_tail_below 5 mixed (by kernel_rfl) ?_
            simp only [List.take_succ_cons, List.take_zero, List.drop_succ_cons, List.drop_zero]
            repeat (go_big_quiet_step (first | (go_at_call 15; refine calls_below (WA.out _))))
            refine wpQuiet_nil ?_
            intro w0q hw'
            obtain ⟨⟨wq, bq⟩, hw''⟩ := hw'
            have hw2 : wq = w0q := hw''.symm
            clear hw''
            subst hw2
            have F := Lib.hid (WR1.out wq (HD3.out.kept1 bq))
            have HB4 := Lib.hid (bnext HB3.out bq)
            have HC4 := Lib.hid (HC3.out.kept1 bq)
            have HBk4 := Lib.hid (HBk.out.kept1 bq)
            have hsq := bq.size
            clear k0 k1 k2 k3 k4 k5 j0 HD3 HC3 HB3 HBk hw2 bq
            go_wp2_with fail
            refine F.out.mono ?_; rintro e w3 ⟨rfl, hd3, z3⟩
            have HD4 := Lib.hid hd3
            have HB5 := Lib.hid (HB4.out.trans (z3.below HB4.out.size hlw))
            have HC5 := Lib.hid (HC4.out.kept z3 (.inr hll))
            have HBk5 := Lib.hid (HBk4.out.kept z3 (.inr htop))
            clear F hd3 z3 HB4 HC4 HBk4
            have DD := DE.out d lo hi S w3 HD4.out
            rw [show isDead S = true from decide_eq_true (by omega)] at DD
            have DD := Lib.hid DD
            clear WA
            go_wp2_with fail
            refine DD.out.mono ?_; rintro e w' ⟨rfl, rfl⟩
            clear DD
            go_wp2
            exact ⟨⟨i + 1, k, S, by go_num, by omega, by go_num, by omega, by omega, hSl, by omega, HD4.out, HC5.out, by omega, HB5.out⟩, by simp [intOf]; omega⟩
        · have hk8 : (x.kind : Int) % 8 = 4 := by omega
          clear hk
          obtain ⟨k0, k1, k2, k3, k4, k5⟩ := act_blk (x := ⟨x.kind, x.b, x.n, x.fill, x.data, x.keep, .slice adk x.keep.length capk⟩) HBk.out
          by_cases hkN : k < N
          · have e1 : fCode S = 0 := by unfold fCode; rw [if_neg (by omega)]
            have e2 : fSt S = S.flushed := by unfold fSt; rw [if_neg (by omega)]
            have e3 : fCode (twin S) = 0 := by unfold fCode; rw [if_neg (by show ¬ (-1 : Int) = 0; omega)]
            have e4 : fSt (twin S) = twin S.flushed := by unfold fSt; rw [if_neg (by show ¬ (-1 : Int) = 0; omega)]; rfl
            have F1 := FL.out d lo hi S (by omega) w2 HD3.out
            have F2 := fun w h => FL.out c lo2 hi2 (twin S) (by show S.acts ≤ 1000000; omega) w h
            rw [e1, e2] at F1
            rw [e3, e4] at F2
            have F1 := Lib.hid F1
            have F2 := Lib.hid F2
            have e5 : S.flushed.left = (N : Int) - ((k + 1 : Nat) : Int) := by show lessOne S.left = _; unfold lessOne; rw [if_pos (by omega)]; omega
            have e6 : S.flushed.acts = k + 1 := by show S.acts + 1 = _; omega
            have e7 : S.flushed.n = S.n := rfl
            generalize S.flushed = S2 at *
            clear e1 e2 e3 e4 WA
            go_wp2_with fail
            refine F1.out.mono ?_; rintro e w3 ⟨rfl, hd3, z3⟩
            have HD4 := Lib.hid hd3
            have HB4 := Lib.hid (HB3.out.trans (z3.below HB3.out.size hlw))
            have HC4 := Lib.hid (HC3.out.kept z3 (.inr hll))
            clear F1 hd3 z3 HD3 HB3 HC3 HBk hw2 k0 k1 k2 k3 k4 k5
            go_wp2_with fail
            refine (F2.out _ HC4.out).mono ?_; rintro e w4 ⟨rfl, hd3, z3⟩
            have HC5 := Lib.hid hd3
            have HB5 := Lib.hid (HB4.out.trans (z3.below HB4.out.size hlw2))
            have HD5 := Lib.hid (HD4.out.kept z3 (.inl hll))
            clear F2 hd3 z3 HD4 HB4 HC4
            go_wp2
            exact ⟨⟨i + 1, k + 1, S2, by go_num, by omega, by go_num, by omega, by omega, e5, e6, HD5.out, HC5.out, by omega, HB5.out⟩, by simp [intOf]; omega⟩
          · have e1 : fCode S = 61 := by unfold fCode; rw [if_pos (by omega)]
            have e2 : fSt S = S := by unfold fSt; rw [if_pos (by omega)]
            have F1 := FL.out d lo hi S (by omega) w2 HD3.out
            rw [e1, e2] at F1
            have F1 := Lib.hid F1
            clear e1 e2 WA
            go_wp2_with fail
            refine F1.out.mono ?_; rintro e w3 ⟨rfl, hd3, z3⟩
            have HD4 := Lib.hid hd3
            have HB4 := Lib.hid (HB3.out.trans (z3.below HB3.out.size hlw))
            have HC4 := Lib.hid (HC3.out.kept z3 (.inr hll))
            have DD := DE.out d lo hi S w3 hd3
            rw [show isDead S = true from decide_eq_true (by omega)] at DD
            have DD := Lib.hid DD
            clear F1 hd3 z3 HD3 HB3 HC3 HBk hw2 k0 k1 k2 k3 k4 k5
            go_wp2_with fail
            refine DD.out.mono ?_; rintro e w' ⟨rfl, rfl⟩
            clear DD
            go_wp2
            exact ⟨⟨i + 1, k, S, by go_num, by omega, by go_num, by omega, by omega, hSl, by omega, HD4.out, HC4.out, by omega, HB4.out⟩, by simp [intOf]; omega⟩
        · have hk8 : (x.kind : Int) % 8 = 5 := by omega
          clear hk WA
          obtain ⟨k0, k1, k2, k3, k4, k5⟩ := act_blk (x := ⟨x.kind, x.b, x.n, x.fill, x.data, x.keep, .slice adk x.keep.length capk⟩) HBk.out
          go_wp2
          exact ⟨⟨i + 1, k, S, by go_num, by omega, by go_num, by omega, by omega, hSl, by omega, HD3.out, HC3.out, by omega, HB3.out⟩, by simp [intOf]; omega⟩
        · have hk8 : (x.kind : Int) % 8 = 6 := by omega
          clear hk WA
          obtain ⟨k0, k1, k2, k3, k4, k5⟩ := act_blk (x := ⟨x.kind, x.b, x.n, x.fill, x.data, x.keep, .slice adk x.keep.length capk⟩) HBk.out
          go_wp2
          exact ⟨⟨i + 1, k, S, by go_num, by omega, by go_num, by omega, by omega, hSl, by omega, HD3.out, HC3.out, by omega, HB3.out⟩, by simp [intOf]; omega⟩
        · have hk8 : (x.kind : Int) % 8 = 7 := by omega
          clear hk WA
          obtain ⟨k0, k1, k2, k3, k4, k5⟩ := act_blk (x := ⟨x.kind, x.b, x.n, x.fill, x.data, x.keep, .slice adk x.keep.length capk⟩) HBk.out
          go_wp2
          exact ⟨⟨i + 1, k, S, by go_num, by omega, by go_num, by omega, by omega, hSl, by omega, HD3.out, HC3.out, by omega, HB3.out⟩, by simp [intOf]; omega⟩
      · obtain rfl : i = n := by omega
        clear H3 HA WT WR
        have hpl : (pends S).length ≤ 4000000 := by have := pendL_len S.pend S.n; show (pendL S.pend S.n).length ≤ _; omega
        have RA1 := Lib.hid fun w h => RA.out d lo hi S w h
        have RA2 : Hid (∀ w, DevAt c lo2 hi2 (twin S) w → Calls Try.prog 39 #[.pointer (some ⟨c, 0, none⟩)] w fun e w' => e = .returned (.string (cat S.now S.n)) ∧ w = w') := Lib.hid fun w h => RA.out c lo2 hi2 (twin S) w h
        have KE1 := Lib.hid fun w h => KE.out d lo hi S w h
        have KE2 : Hid (∀ w, DevAt c lo2 hi2 (twin S) w → Calls Try.prog 33 #[.pointer (some ⟨c, 0, none⟩)] w fun e w' => e = .returned (.string (cat S.was S.n)) ∧ Below w.heap.size w w') := Lib.hid fun w h => KE.out c lo2 hi2 (twin S) w h
        have AC1 := fun w h => AC.out d lo hi S w h
        rw [hSa] at AC1
        have AC1 := Lib.hid AC1
        have PE1 := Lib.hid fun w h => PE.out d lo hi S w h
        have PE2 : Hid (∀ w, DevAt c lo2 hi2 (twin S) w → Calls Try.prog 23 #[.pointer (some ⟨c, 0, none⟩)] w fun e w' => ∃ v, e = .returned v ∧ NatsAt w.heap.size v (pends S) w' ∧ Below w.heap.size w w') := Lib.hid fun w h => PE.out c lo2 hi2 (twin S) w h
        have DE1 := fun w h => DE.out d lo hi S w h
        have hn1 := hd.ok.lo
        go_wp2_with fail
        refine (RA1.out _ hd).mono ?_; rintro e w' ⟨rfl, rfl⟩
        go_wp2_with fail
        refine (RA2.out _ hdc).mono ?_; rintro e w' ⟨rfl, rfl⟩
        go_wp2_with fail
        refine (KE1.out _ hd).mono ?_; rintro e w5 ⟨rfl, b⟩
        have hd := hd.kept1 b
        have hdc := hdc.kept1 b
        have hbr := bnext hbr b
        clear b
        go_wp2_with fail
        refine (KE2.out _ hdc).mono ?_; rintro e w6 ⟨rfl, b⟩
        have hd := hd.kept1 b
        have hdc := hdc.kept1 b
        have hbr := bnext hbr b
        clear b
        go_wp2_with fail
        refine (AC1.out _ hd).mono ?_; rintro e w' ⟨rfl, rfl⟩
        go_wp2_with fail
        refine (PE1.out _ hd).mono ?_; rintro e w7 ⟨v1, rfl, hv1, b⟩
        have hd := hd.kept1 b
        have hdc := hdc.kept1 b
        have hbr := bnext hbr b
        clear b
        go_wp2_with fail
        refine (PE2.out _ hdc).mono ?_; rintro e w8 ⟨v2, rfl, hv2, b⟩
        have SS := Lib.hid (SY.out _ _ (pends S) hpl _ ((natsAt_in hv1).kept b) (natsAt_in hv2))
        have hd := hd.kept1 b
        have hdc := hdc.kept1 b
        have hbr := bnext hbr b
        clear b
        clear hv1 hv2 PE1 PE2 SY KE1 KE2 RA1 RA2 PE KE RA
        go_wp2_with fail
        refine SS.out.mono ?_; rintro e w9 ⟨rfl, b⟩
        have hd := hd.kept1 b
        have hdc := hdc.kept1 b
        have hbr := bnext hbr b
        clear b
        clear SS hdc
        have WR5 := Lib.hid fun w h => write_ok (d := d) (lo := lo) (hi := hi) (S := S.armed (-1)) 0 (rep 7) (by show 0 < S.n; omega) (rep_size 7) (by show (-1 : Int) ≠ 0; omega) (by show S.acts ≤ 1000000; omega) w h
        have FL5 := Lib.hid fun w h => flush_ok (d := d) (lo := lo) (hi := hi) (S := (S.armed (-1)).wrote 0 (rep 7)) (by show lessOne (-1 : Int) ≠ 0; decide) (by show S.acts + 1 ≤ 1000000; omega) w h
        have AC5 := fun w h => AC.out d lo hi (((S.armed (-1)).wrote 0 (rep 7)).flushed) w h
        have DE5 := fun w h => DE.out d lo hi (S.armed (-1)) w h
        have e5 : (((((S.armed (-1)).wrote 0 (rep 7)).flushed).acts : Nat) : Int) = (k : Int) + 2 := by show ((S.acts + 1 + 1 : Nat) : Int) = _; omega
        rw [e5] at AC5
        have e6 : isDead (S.armed (-1)) = false := decide_eq_false (by show ¬ (-1 : Int) = 0; omega)
        rw [e6] at DE5
        have AC5 := Lib.hid AC5
        have DE5 := Lib.hid DE5
        have AR5 := Lib.hid fun w h => AR.out d lo hi S (-1) (by constructor <;> omega) w h
        by_cases hkN : k = N
        · have e7 : isDead S = true := decide_eq_true (by omega)
          rw [e7] at DE1
          have DE1 := Lib.hid DE1
          have hkN2 : ((k : Int) == (N : Int)) = true := by rw [beq_iff_eq]; omega
          clear e5 e6 e7 AC DE AR FL hkN hSl
          go_wp2_with fail
          refine (DE1.out _ hd).mono ?_; rintro e w' ⟨rfl, rfl⟩
          go_wp2_with fail
          refine (AR5.out _ hd).mono ?_; rintro e w10 ⟨rfl, hd, z⟩
          have hbr := hbr.trans (z.below hbr.size hlw)
          clear z AR5 DE1
          go_wp2_with fail
          refine (DE5.out _ hd).mono ?_; rintro e w' ⟨rfl, rfl⟩
          go_wp2_with fail
          refine (BK.out _).mono ?_; rintro e w11 ⟨rfl, b⟩
          have hd := hd.kept1 b
          have hbr := bnext hbr b
          clear b
          go_wp2_with fail
          refine (WR5.out _ hd).mono ?_; rintro e w12 ⟨rfl, hd, z⟩
          have hbr := hbr.trans (z.below hbr.size hlw)
          clear z WR5
          go_wp2_with fail
          refine (FL5.out _ hd).mono ?_; rintro e w13 ⟨rfl, hd, z⟩
          have hbr := hbr.trans (z.below hbr.size hlw)
          clear z FL5
          go_wp2_with fail
          refine (AC5.out _ hd).mono ?_; rintro e w' ⟨rfl, rfl⟩
          clear hd AC5
          go_wp2_with fail
          refine (AL.out _).mono ?_; rintro e w14 ⟨rfl, b⟩
          have hbr := bnext hbr b
          clear b
          go_wp2
          go_ret
          exact ⟨rfl, hbr⟩
        · have e7 : isDead S = false := decide_eq_false (by omega)
          rw [e7] at DE1
          have DE1 := Lib.hid DE1
          have hkN2 : ((k : Int) == (N : Int)) = false := by rw [beq_eq_false_iff_ne]; omega
          clear e5 e6 e7 AC DE AR FL hkN hSl
          go_wp2_with fail
          refine (DE1.out _ hd).mono ?_; rintro e w' ⟨rfl, rfl⟩
          go_wp2_with fail
          refine (AR5.out _ hd).mono ?_; rintro e w10 ⟨rfl, hd, z⟩
          have hbr := hbr.trans (z.below hbr.size hlw)
          clear z AR5 DE1
          go_wp2_with fail
          refine (DE5.out _ hd).mono ?_; rintro e w' ⟨rfl, rfl⟩
          go_wp2_with fail
          refine (BK.out _).mono ?_; rintro e w11 ⟨rfl, b⟩
          have hd := hd.kept1 b
          have hbr := bnext hbr b
          clear b
          go_wp2_with fail
          refine (WR5.out _ hd).mono ?_; rintro e w12 ⟨rfl, hd, z⟩
          have hbr := hbr.trans (z.below hbr.size hlw)
          clear z WR5
          go_wp2_with fail
          refine (FL5.out _ hd).mono ?_; rintro e w13 ⟨rfl, hd, z⟩
          have hbr := hbr.trans (z.below hbr.size hlw)
          clear z FL5
          go_wp2_with fail
          refine (AC5.out _ hd).mono ?_; rintro e w' ⟨rfl, rfl⟩
          clear hd AC5
          go_wp2_with fail
          refine (AL.out _).mono ?_; rintro e w14 ⟨rfl, b⟩
          have hbr := bnext hbr b
          clear b
          go_wp2
          go_ret
          exact ⟨rfl, hbr⟩
end Go.Proofs.Ytgdnlkoncajaoaa
