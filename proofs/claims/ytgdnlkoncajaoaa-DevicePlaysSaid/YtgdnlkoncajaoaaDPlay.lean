/- read, played. -/
import Derived.Test.YtgdnlkoncajaoaaDHelp
import Derived.Test.YtgdnlkoncajaoaaDWrite
import Derived.Test.YtgdnlkoncajaoaaDFlush
namespace Go.Proofs.Ytgdnlkoncajaoaa
set_option linter.unusedVariables false
open Go.RowKit

set_option maxHeartbeats 1000000 in
theorem readall_any {d lo hi : Nat} {S : St} (w : World) (h : DevAt d lo hi S w) :
    Calls Try.prog 39 #[.pointer (some ⟨d, 0, none⟩)] w fun e w' => e = .returned (.string (cat S.now S.n)) ∧ w = w' := by
  have hok := h.ok
  have hn := hok.hi
  have B := Lib.hid (blocks_any w h)
  have R := Lib.hid fun b => read_any b w h
  have HO := Lib.hid hok
  clear h hok
  go_enter Try.func39, Try.ntmps39
  go_wp2
  go_loopw [3, 4] (fun o q wr => ∃ i x, q = .int .i64 (i : Nat) ∧ i ≤ S.n ∧ o = .string x ∧ Hid (x = cat S.now i) ∧ wr = w) (fun _ q _ => S.n - (intOf q).toNat)
  case atStart => exact ⟨0, _, rfl, Nat.zero_le _, rfl, Lib.hid rfl, rfl⟩
  case round =>
    obtain ⟨i, x, rfl, hiI, rfl, HX, rfl⟩ := hrel
    by_cases hlt : i < S.n
    · have R1 := R.out (i : Int)
      have e1 : rText S (i : Int) = S.now i := by unfold rText; rw [if_pos ⟨by omega, by omega⟩]; rfl
      have e2 : rCode S (i : Int) = 0 := by unfold rCode; rw [if_pos ⟨by omega, by omega⟩]
      rw [e1, e2] at R1
      have R1 := Lib.hid R1
      have hx : x.size = i * 128 := by rw [HX.out]; exact cat_size fun j hj => HO.out.now j (by omega)
      have z1 := HO.out.now i hlt
      have s1 : x.size + (S.now i).size ≤ 9223372036854775807 := by omega
      have HN : Hid (x ++ S.now i = cat S.now (i + 1)) := Lib.hid (by rw [cat, ← HX.out])
      clear R HX hx z1 e1 e2
      generalize S.now i = t at *
      go_wp2_with fail
      refine B.out.mono ?_; rintro e w' ⟨rfl, rfl⟩
      go_wp2_with fail
      refine R1.out.mono ?_; rintro e w' ⟨rfl, rfl⟩
      go_wp2
      exact ⟨⟨i + 1, _, by go_num, by omega, rfl, HN, by first | trivial | rfl⟩, by simp [intOf]; omega⟩
    · obtain rfl : i = S.n := by omega
      clear R
      go_wp2_with fail
      refine B.out.mono ?_; rintro e w' ⟨rfl, rfl⟩
      go_wp2
      go_ret
      have hx := HX.out
      subst hx
      exact ⟨rfl, rfl⟩

theorem act_blk {x : ActD} {g : Nat} {w : World} (h : Blk g #[.int .u8 (x.kind : Int), .int .i64 x.b, .int .i64 x.n, .int .u8 (x.fill : Int), .string x.data, x.kv] 34 w) :
    w.cell? ⟨g, 0, none⟩ = some (.int .u8 (x.kind : Int)) ∧ w.cell? ⟨g, 1, none⟩ = some (.int .i64 x.b) ∧ w.cell? ⟨g, 2, none⟩ = some (.int .i64 x.n) ∧ w.cell? ⟨g, 3, none⟩ = some (.int .u8 (x.fill : Int)) ∧ w.cell? ⟨g, 4, none⟩ = some (.string x.data) ∧ w.cell? ⟨g, 5, none⟩ = some x.kv :=
  ⟨h.cell 0, h.cell 1, h.cell 2, h.cell 3, h.cell 4, h.cell 5⟩
set_option maxHeartbeats 8000000 in
theorem played_any (b : Nat) (hb : b < 256) (v : Value) (n : Nat) (A : Nat → ActD) (hn : n ≤ 120) (w : World) (h : ActsIn v n A w) :
    Calls Try.prog 38 #[.int .u8 (b : Int), v] w fun e w' => ∃ d hi S, e = .returned (.pointer (some ⟨d, 0, none⟩)) ∧ DevAt d w.heap.size hi S w' ∧ S.n = 1 + b % 20 ∧ S.acts ≤ 120 ∧ Below w.heap.size w w' := by
  have mixed : Try.prog.follows .mixedOrders = true := by kernel_rfl
  have N := Lib.hid (new_yes (1 + b % 20) (by omega) (by omega) w)
  have W := Lib.hid fun d lo hi S b s ha w h => write_any (d := d) (lo := lo) (hi := hi) (S := S) b s ha w h
  have WT := Lib.hid what_any
  obtain ⟨ad, cap, rfl, h1, h2, h3⟩ := h.shape
  have H3 := Lib.hid h3
  have HA := Lib.hid h
  have e1 : ((1 + b % 20 : Nat) : Int) = 1 + (b : Int) % 20 := by omega
  rw [e1] at N
  clear h h3 e1
  go_enter Try.func38, Try.ntmps38
  go_wp2_with fail
  refine N.out.mono ?_; rintro e w1 ⟨d, rfl, hd, hb1⟩
  have HD := Lib.hid hd
  have HB1 := Lib.hid hb1
  have hsz := hb1.size
  clear N hd hb1
  go_wp2
  go_loopw [7] (fun q wr => ∃ (i : Nat) (S : St), q = .int .i64 i ∧ i ≤ n ∧ DevAt d w.heap.size w1.heap.size S wr ∧ S.n = 1 + b % 20 ∧ S.acts ≤ i ∧ Below w.heap.size w wr) (fun q _ => n - (intOf q).toNat)
  case atStart => exact ⟨0, _, rfl, Nat.zero_le _, HD.out, rfl, Nat.le_refl _, HB1.out⟩
  case round =>
    obtain ⟨i, S, rfl, hiI, hd, hSn, hSa, hbr⟩ := hrel
    have HD2 := Lib.hid hd
    have HBR := Lib.hid hbr
    clear hd HD HB1
    by_cases hlt : i < n
    · obtain ⟨g, o, rfl, hg, hc⟩ := H3.out (by omega)
      obtain ⟨c0, c1, c2, c3, c4, c5⟩ := hc i hlt
      have hx := HA.out.2 i hlt
      generalize A i = x at *
      have c0 := (hbr.cell (p := ⟨g, o + i * 6, none⟩) hg).trans c0
      have c1 := (hbr.cell (p := ⟨g, o + i * 6 + 1, none⟩) hg).trans c1
      have c2 := (hbr.cell (p := ⟨g, o + i * 6 + 2, none⟩) hg).trans c2
      have c3 := (hbr.cell (p := ⟨g, o + i * 6 + 3, none⟩) hg).trans c3
      have c4 := (hbr.cell (p := ⟨g, o + i * 6 + 4, none⟩) hg).trans c4
      have c5 := (hbr.cell (p := ⟨g, o + i * 6 + 5, none⟩) hg).trans c5
      obtain ⟨adk, capk, hkv, -, -, -, -⟩ := hx.keep.shape
      rw [hkv] at c5
      clear hc H3 HA
      obtain ⟨w2, hw2⟩ : ∃ w2, wr.alloc (.cells #[.int .u8 (x.kind : Int), .int .i64 x.b, .int .i64 x.n, .int .u8 (x.fill : Int), .string x.data, .slice adk x.keep.length capk] 34) = w2 := ⟨_, rfl⟩
      have hB : Blk wr.heap.size #[.int .u8 (x.kind : Int), .int .i64 x.b, .int .i64 x.n, .int .u8 (x.fill : Int), .string x.data, .slice adk x.keep.length capk] 34 w2 := by rw [← hw2]; exact Blk.new _ _ _
      have hd2 : DevAt d w.heap.size w1.heap.size S w2 := by rw [← hw2]; exact HD2.out.kept1 (balloc1 _ _)
      have hbw : Below w.heap.size w w2 := by rw [← hw2]; exact balloc hbr _
      have HD3 := Lib.hid hd2
      have HB3 := Lib.hid hbw
      have HBk := Lib.hid hB
      clear hbr hd2 hbw hB HD2 HBR
      have hx8 : x.kind % 8 = 0 ∨ x.kind % 8 = 1 ∨ x.kind % 8 = 2 ∨ x.kind % 8 = 3 ∨ x.kind % 8 = 4 ∨ x.kind % 8 = 5 ∨ x.kind % 8 = 6 ∨ x.kind % 8 = 7 := by omega
      have hfill := hx.fill
      have hxn := hx.n
      rcases hx8 with hk | hk | hk | hk | hk | hk | hk | hk
      · have hk8 : (x.kind : Int) % 8 = 0 := by omega
        clear hk
        have kb : ∀ p : BelowP w2, p.to.cell? ⟨wr.heap.size, 0, none⟩ = some (.int .u8 (x.kind : Int)) ∧ p.to.cell? ⟨wr.heap.size, 1, none⟩ = some (.int .i64 x.b) ∧ p.to.cell? ⟨wr.heap.size, 2, none⟩ = some (.int .i64 x.n) ∧ p.to.cell? ⟨wr.heap.size, 3, none⟩ = some (.int .u8 (x.fill : Int)) ∧ p.to.cell? ⟨wr.heap.size, 4, none⟩ = some (.string x.data) ∧ p.to.cell? ⟨wr.heap.size, 5, none⟩ = some (.slice adk x.keep.length capk) := fun p => act_blk (x := ⟨x.kind, x.b, x.n, x.fill, x.data, x.keep, .slice adk x.keep.length capk⟩) (HBk.out.kept1 p.h)
        have k0 := fun p => (kb p).1
        have k1 := fun p => (kb p).2.1
        have k2 := fun p => (kb p).2.2.1
        have k3 := fun p => (kb p).2.2.2.1
        have k4 := fun p => (kb p).2.2.2.2.1
        have k5 := fun p => (kb p).2.2.2.2.2
        obtain ⟨j0, -, -, -, -, -⟩ := kb ⟨w2, Below.refl _ _⟩
        have j0 : w2.cell? ⟨wr.heap.size, 0, none⟩ = some (.int .u8 (x.kind : Int)) := j0
        have WA := Lib.hid (WT.out ⟨x.kind, x.b, x.n, x.fill, x.data, x.keep, .slice adk x.keep.length capk⟩ hfill)
        clear kb
        go_wp2
        refine wp_region_tail_below 5 mixed (by kernel_rfl) ?_
        simp only [List.take_succ_cons, List.take_zero, List.drop_succ_cons, List.drop_zero]
        repeat (go_big_quiet_step (first | (go_at_call 15; refine calls_below (WA.out _))))
        refine wpQuiet_nil ?_
        intro w0q hw'
        obtain ⟨⟨wq, bq⟩, hw''⟩ := hw'
        have hw2 : wq = w0q := hw''.symm
        clear hw''
        subst hw2
        have F := Lib.hid (W.out d w.heap.size w1.heap.size S x.b (whatT ⟨x.kind, x.b, x.n, x.fill, x.data, x.keep, .slice adk x.keep.length capk⟩) (by omega) wq (HD3.out.kept1 bq))
        have HB4 := Lib.hid (bnext HB3.out bq)
        clear k0 k1 k2 k3 k4 k5 j0 WA HD3 HB3 hw2
        go_wp2_with fail
        refine F.out.mono ?_; rintro e w3 ⟨rfl, hd3, z3⟩
        have HD4 := Lib.hid hd3
        have HB5 := Lib.hid (HB4.out.trans (z3.below HB4.out.size (Nat.le_refl _)))
        have hn4 := wSt_n S x.b (whatT ⟨x.kind, x.b, x.n, x.fill, x.data, x.keep, .slice adk x.keep.length capk⟩)
        have ha4 := wSt_acts S x.b (whatT ⟨x.kind, x.b, x.n, x.fill, x.data, x.keep, .slice adk x.keep.length capk⟩)
        clear F hd3 z3 HB4 bq
        go_wp2
        exact ⟨⟨i + 1, _, by go_num, by omega, HD4.out, by omega, by omega, HB5.out⟩, by simp [intOf]; omega⟩
      · have hk8 : (x.kind : Int) % 8 = 1 := by omega
        clear hk
        have kb : ∀ p : BelowP w2, p.to.cell? ⟨wr.heap.size, 0, none⟩ = some (.int .u8 (x.kind : Int)) ∧ p.to.cell? ⟨wr.heap.size, 1, none⟩ = some (.int .i64 x.b) ∧ p.to.cell? ⟨wr.heap.size, 2, none⟩ = some (.int .i64 x.n) ∧ p.to.cell? ⟨wr.heap.size, 3, none⟩ = some (.int .u8 (x.fill : Int)) ∧ p.to.cell? ⟨wr.heap.size, 4, none⟩ = some (.string x.data) ∧ p.to.cell? ⟨wr.heap.size, 5, none⟩ = some (.slice adk x.keep.length capk) := fun p => act_blk (x := ⟨x.kind, x.b, x.n, x.fill, x.data, x.keep, .slice adk x.keep.length capk⟩) (HBk.out.kept1 p.h)
        have k0 := fun p => (kb p).1
        have k1 := fun p => (kb p).2.1
        have k2 := fun p => (kb p).2.2.1
        have k3 := fun p => (kb p).2.2.2.1
        have k4 := fun p => (kb p).2.2.2.2.1
        have k5 := fun p => (kb p).2.2.2.2.2
        obtain ⟨j0, -, -, -, -, -⟩ := kb ⟨w2, Below.refl _ _⟩
        have j0 : w2.cell? ⟨wr.heap.size, 0, none⟩ = some (.int .u8 (x.kind : Int)) := j0
        have WA := Lib.hid (WT.out ⟨x.kind, x.b, x.n, x.fill, x.data, x.keep, .slice adk x.keep.length capk⟩ hfill)
        clear kb
        go_wp2
        refine wp_region_tail_below 5 mixed (by kernel_rfl) ?_
        simp only [List.take_succ_cons, List.take_zero, List.drop_succ_cons, List.drop_zero]
        repeat (go_big_quiet_step (first | (go_at_call 15; refine calls_below (WA.out _))))
        refine wpQuiet_nil ?_
        intro w0q hw'
        obtain ⟨⟨wq, bq⟩, hw''⟩ := hw'
        have hw2 : wq = w0q := hw''.symm
        clear hw''
        subst hw2
        have F := Lib.hid (W.out d w.heap.size w1.heap.size S x.b (whatT ⟨x.kind, x.b, x.n, x.fill, x.data, x.keep, .slice adk x.keep.length capk⟩) (by omega) wq (HD3.out.kept1 bq))
        have HB4 := Lib.hid (bnext HB3.out bq)
        clear k0 k1 k2 k3 k4 k5 j0 WA HD3 HB3 hw2
        go_wp2_with fail
        refine F.out.mono ?_; rintro e w3 ⟨rfl, hd3, z3⟩
        have HD4 := Lib.hid hd3
        have HB5 := Lib.hid (HB4.out.trans (z3.below HB4.out.size (Nat.le_refl _)))
        have hn4 := wSt_n S x.b (whatT ⟨x.kind, x.b, x.n, x.fill, x.data, x.keep, .slice adk x.keep.length capk⟩)
        have ha4 := wSt_acts S x.b (whatT ⟨x.kind, x.b, x.n, x.fill, x.data, x.keep, .slice adk x.keep.length capk⟩)
        clear F hd3 z3 HB4 bq
        go_wp2
        exact ⟨⟨i + 1, _, by go_num, by omega, HD4.out, by omega, by omega, HB5.out⟩, by simp [intOf]; omega⟩
      · have hk8 : (x.kind : Int) % 8 = 2 := by omega
        clear hk
        have kb : ∀ p : BelowP w2, p.to.cell? ⟨wr.heap.size, 0, none⟩ = some (.int .u8 (x.kind : Int)) ∧ p.to.cell? ⟨wr.heap.size, 1, none⟩ = some (.int .i64 x.b) ∧ p.to.cell? ⟨wr.heap.size, 2, none⟩ = some (.int .i64 x.n) ∧ p.to.cell? ⟨wr.heap.size, 3, none⟩ = some (.int .u8 (x.fill : Int)) ∧ p.to.cell? ⟨wr.heap.size, 4, none⟩ = some (.string x.data) ∧ p.to.cell? ⟨wr.heap.size, 5, none⟩ = some (.slice adk x.keep.length capk) := fun p => act_blk (x := ⟨x.kind, x.b, x.n, x.fill, x.data, x.keep, .slice adk x.keep.length capk⟩) (HBk.out.kept1 p.h)
        have k0 := fun p => (kb p).1
        have k1 := fun p => (kb p).2.1
        have k2 := fun p => (kb p).2.2.1
        have k3 := fun p => (kb p).2.2.2.1
        have k4 := fun p => (kb p).2.2.2.2.1
        have k5 := fun p => (kb p).2.2.2.2.2
        obtain ⟨j0, -, -, -, -, -⟩ := kb ⟨w2, Below.refl _ _⟩
        have j0 : w2.cell? ⟨wr.heap.size, 0, none⟩ = some (.int .u8 (x.kind : Int)) := j0
        have WA := Lib.hid (WT.out ⟨x.kind, x.b, x.n, x.fill, x.data, x.keep, .slice adk x.keep.length capk⟩ hfill)
        clear kb
        go_wp2
        refine wp_region_tail_below 5 mixed (by kernel_rfl) ?_
        simp only [List.take_succ_cons, List.take_zero, List.drop_succ_cons, List.drop_zero]
        repeat (go_big_quiet_step (first | (go_at_call 15; refine calls_below (WA.out _))))
        refine wpQuiet_nil ?_
        intro w0q hw'
        obtain ⟨⟨wq, bq⟩, hw''⟩ := hw'
        have hw2 : wq = w0q := hw''.symm
        clear hw''
        subst hw2
        have F := Lib.hid (W.out d w.heap.size w1.heap.size S x.b (whatT ⟨x.kind, x.b, x.n, x.fill, x.data, x.keep, .slice adk x.keep.length capk⟩) (by omega) wq (HD3.out.kept1 bq))
        have HB4 := Lib.hid (bnext HB3.out bq)
        clear k0 k1 k2 k3 k4 k5 j0 WA HD3 HB3 hw2
        go_wp2_with fail
        refine F.out.mono ?_; rintro e w3 ⟨rfl, hd3, z3⟩
        have HD4 := Lib.hid hd3
        have HB5 := Lib.hid (HB4.out.trans (z3.below HB4.out.size (Nat.le_refl _)))
        have hn4 := wSt_n S x.b (whatT ⟨x.kind, x.b, x.n, x.fill, x.data, x.keep, .slice adk x.keep.length capk⟩)
        have ha4 := wSt_acts S x.b (whatT ⟨x.kind, x.b, x.n, x.fill, x.data, x.keep, .slice adk x.keep.length capk⟩)
        clear F hd3 z3 HB4 bq
        go_wp2
        exact ⟨⟨i + 1, _, by go_num, by omega, HD4.out, by omega, by omega, HB5.out⟩, by simp [intOf]; omega⟩
      · have hk8 : (x.kind : Int) % 8 = 3 := by omega
        clear hk
        have kb : ∀ p : BelowP w2, p.to.cell? ⟨wr.heap.size, 0, none⟩ = some (.int .u8 (x.kind : Int)) ∧ p.to.cell? ⟨wr.heap.size, 1, none⟩ = some (.int .i64 x.b) ∧ p.to.cell? ⟨wr.heap.size, 2, none⟩ = some (.int .i64 x.n) ∧ p.to.cell? ⟨wr.heap.size, 3, none⟩ = some (.int .u8 (x.fill : Int)) ∧ p.to.cell? ⟨wr.heap.size, 4, none⟩ = some (.string x.data) ∧ p.to.cell? ⟨wr.heap.size, 5, none⟩ = some (.slice adk x.keep.length capk) := fun p => act_blk (x := ⟨x.kind, x.b, x.n, x.fill, x.data, x.keep, .slice adk x.keep.length capk⟩) (HBk.out.kept1 p.h)
        have k0 := fun p => (kb p).1
        have k1 := fun p => (kb p).2.1
        have k2 := fun p => (kb p).2.2.1
        have k3 := fun p => (kb p).2.2.2.1
        have k4 := fun p => (kb p).2.2.2.2.1
        have k5 := fun p => (kb p).2.2.2.2.2
        obtain ⟨j0, -, -, -, -, -⟩ := kb ⟨w2, Below.refl _ _⟩
        have j0 : w2.cell? ⟨wr.heap.size, 0, none⟩ = some (.int .u8 (x.kind : Int)) := j0
        have WA := Lib.hid (WT.out ⟨x.kind, x.b, x.n, x.fill, x.data, x.keep, .slice adk x.keep.length capk⟩ hfill)
        clear kb
        go_wp2
        refine wp_region_tail_below 5 mixed (by kernel_rfl) ?_
        simp only [List.take_succ_cons, List.take_zero, List.drop_succ_cons, List.drop_zero]
        repeat (go_big_quiet_step (first | (go_at_call 15; refine calls_below (WA.out _))))
        refine wpQuiet_nil ?_
        intro w0q hw'
        obtain ⟨⟨wq, bq⟩, hw''⟩ := hw'
        have hw2 : wq = w0q := hw''.symm
        clear hw''
        subst hw2
        have F := Lib.hid (W.out d w.heap.size w1.heap.size S x.b (whatT ⟨x.kind, x.b, x.n, x.fill, x.data, x.keep, .slice adk x.keep.length capk⟩) (by omega) wq (HD3.out.kept1 bq))
        have HB4 := Lib.hid (bnext HB3.out bq)
        clear k0 k1 k2 k3 k4 k5 j0 WA HD3 HB3 hw2
        go_wp2_with fail
        refine F.out.mono ?_; rintro e w3 ⟨rfl, hd3, z3⟩
        have HD4 := Lib.hid hd3
        have HB5 := Lib.hid (HB4.out.trans (z3.below HB4.out.size (Nat.le_refl _)))
        have hn4 := wSt_n S x.b (whatT ⟨x.kind, x.b, x.n, x.fill, x.data, x.keep, .slice adk x.keep.length capk⟩)
        have ha4 := wSt_acts S x.b (whatT ⟨x.kind, x.b, x.n, x.fill, x.data, x.keep, .slice adk x.keep.length capk⟩)
        clear F hd3 z3 HB4 bq
        go_wp2
        exact ⟨⟨i + 1, _, by go_num, by omega, HD4.out, by omega, by omega, HB5.out⟩, by simp [intOf]; omega⟩
      · have hk8 : (x.kind : Int) % 8 = 4 := by omega
        clear hk
        obtain ⟨k0, k1, k2, k3, k4, k5⟩ := act_blk (x := ⟨x.kind, x.b, x.n, x.fill, x.data, x.keep, .slice adk x.keep.length capk⟩) HBk.out
        have F := Lib.hid (flush_any (by omega) w2 HD3.out)
        go_wp2_with fail
        refine F.out.mono ?_; rintro e w3 ⟨rfl, hd3, z3⟩
        have HD4 := Lib.hid hd3
        have HB4 := Lib.hid (HB3.out.trans (z3.below HB3.out.size (Nat.le_refl _)))
        have hn4 := fSt_n S
        have ha4 := fSt_acts S
        clear F hd3 z3 HD3 HB3 hw2 k0 k1 k2 k3 k4 k5
        go_wp2
        exact ⟨⟨i + 1, _, by go_num, by omega, HD4.out, by omega, by omega, HB4.out⟩, by simp [intOf]; omega⟩
      · have hk8 : (x.kind : Int) % 8 = 5 := by omega
        clear hk
        obtain ⟨k0, k1, k2, k3, k4, k5⟩ := act_blk (x := ⟨x.kind, x.b, x.n, x.fill, x.data, x.keep, .slice adk x.keep.length capk⟩) HBk.out
        have F := Lib.hid (arm_any x.n hxn w2 HD3.out)
        go_wp2_with fail
        refine F.out.mono ?_; rintro e w3 ⟨rfl, hd3, z3⟩
        have HD4 := Lib.hid hd3
        have HB4 := Lib.hid (HB3.out.trans (z3.below HB3.out.size (Nat.le_refl _)))
        have ha4 : (S.armed x.n).acts ≤ i + 1 := by show S.acts ≤ i + 1; omega
        clear F hd3 z3 HD3 HB3 hw2 k0 k1 k2 k3 k4 k5
        go_wp2
        exact ⟨⟨i + 1, _, by go_num, by omega, HD4.out, hSn, ha4, HB4.out⟩, by simp [intOf]; omega⟩
      · have hk8 : (x.kind : Int) % 8 = 6 := by omega
        clear hk
        obtain ⟨k0, k1, k2, k3, k4, k5⟩ := act_blk (x := ⟨x.kind, x.b, x.n, x.fill, x.data, x.keep, .slice adk x.keep.length capk⟩) HBk.out
        go_wp2
        exact ⟨⟨i + 1, _, by go_num, by omega, HD3.out, hSn, by omega, HB3.out⟩, by simp [intOf]; omega⟩
      · have hk8 : (x.kind : Int) % 8 = 7 := by omega
        clear hk
        obtain ⟨k0, k1, k2, k3, k4, k5⟩ := act_blk (x := ⟨x.kind, x.b, x.n, x.fill, x.data, x.keep, .slice adk x.keep.length capk⟩) HBk.out
        go_wp2
        exact ⟨⟨i + 1, _, by go_num, by omega, HD3.out, hSn, by omega, HB3.out⟩, by simp [intOf]; omega⟩
    · obtain rfl : i = n := by omega
      clear H3 HA
      go_wp2
      go_ret
      exact ⟨d, _, S, rfl, HD2.out, hSn, by omega, HBR.out⟩
end Go.Proofs.Ytgdnlkoncajaoaa
