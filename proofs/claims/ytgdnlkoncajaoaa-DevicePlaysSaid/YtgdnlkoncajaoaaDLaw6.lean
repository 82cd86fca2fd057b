/- The walk of DevicePlays. -/
import Derived.Test.YtgdnlkoncajaoaaDLaw2
import Derived.Test.YtgdnlkoncajaoaaDRef2
import Derived.Deep.RegionHeld3
import Derived.Deep.CutBlock
import Derived.Deep.DeepCutAuto
namespace Go.Proofs.Ytgdnlkoncajaoaa
set_option linter.unusedVariables false
open Go.RowKit

/-- all that a look at both devices goes by -/
structure Both (d lo hi r lo2 hi2 gx : Nat) (S : St) (vp kv : Value) (K : List Bool) (w0 w : World) : Prop where
  dev : DevAt d lo hi S w
  ref : RefAt r lo2 hi2 S w
  pn : NatsIn vp (pends S) w
  keep : RowIn 1 kv K.length (K.map Value.bool) w
  c5 : w.cell? ⟨gx, 5, none⟩ = some kv
  c4 : w.cell? ⟨r, 4, none⟩ = some (.int .i64 (S.acts : Int))
  below : Below w0.heap.size w0 w
theorem Both.kept1 {d lo hi r lo2 hi2 gx : Nat} {S : St} {vp kv : Value} {K : List Bool} {w0 w w' : World} (h : Both d lo hi r lo2 hi2 gx S vp kv K w0 w) (b : Below w.heap.size w w') : Both d lo hi r lo2 hi2 gx S vp kv K w0 w' :=
  ⟨h.dev.kept1 b, h.ref.kept1 b, h.pn.kept b, h.keep.kept b, (b.cell (p := ⟨gx, 5, none⟩) (World.block_lt_of_cell? w _ h.c5)).trans h.c5, (b.cell (p := ⟨r, 4, none⟩) (World.block_lt_of_cell? w _ h.c4)).trans h.c4, h.below.trans (b.mono h.below.size)⟩
theorem ref_acts {r lo hi : Nat} {S : St} {w : World} (h : RefAt r lo hi S w) : w.cell? ⟨r, 4, none⟩ = some (.int .i64 (S.acts : Int)) := by
  obtain ⟨gn, gk, gp, cn, ck, cp, h⟩ := h
  exact h.blk.cell 4

set_option maxRecDepth 100000 in
set_option maxHeartbeats 40000000 in
theorem plays_walk (nb : Int) (v : Value) (n : Nat) (A : Nat → ActD) (w : World) (h : ActsIn v n A w) :
    Calls Try.prog 3 #[.int .i64 nb, v] w fun e w' => e = .returned (.bool true) ∧ Below w.heap.size w w' := by
  have mixed : Try.prog.follows .mixedOrders = true := by kernel_rfl
  have G := Lib.hid (great_any v n A w h)
  have NW := Lib.hid new_yes
  have RN := Lib.hid rnew_yes
  have NN := Lib.hid new_no
  have RNN := Lib.hid rnew_no
  have AL := Lib.hid alive_any
  have WT := Lib.hid what_any
  have HA := Lib.hid h
  obtain ⟨ad, cap, rfl, h1, h2, h3⟩ := h.shape
  have H3 := Lib.hid h3
  have KE := Lib.hid fun d lo hi S w h => kept_any (d := d) (lo := lo) (hi := hi) (S := S) w h
  have RK := Lib.hid fun d lo hi S w h => rkept_any (d := d) (lo := lo) (hi := hi) (S := S) w h
  have RD := Lib.hid fun d lo hi S b w h => read_any (d := d) (lo := lo) (hi := hi) (S := S) b w h
  have RR := Lib.hid fun d lo hi S b w h => rread_any (d := d) (lo := lo) (hi := hi) (S := S) b w h
  have AC := Lib.hid fun d lo hi S w h => acts_any (d := d) (lo := lo) (hi := hi) (S := S) w h
  have DE := Lib.hid fun d lo hi S w h => dead_any (d := d) (lo := lo) (hi := hi) (S := S) w h
  have RE := Lib.hid fun d lo hi S w h => rdead_any (d := d) (lo := lo) (hi := hi) (S := S) w h
  have BL := Lib.hid fun d lo hi S w h => blocks_any (d := d) (lo := lo) (hi := hi) (S := S) w h
  have RB := Lib.hid fun d lo hi S w h => rblocks_any (d := d) (lo := lo) (hi := hi) (S := S) w h
  have PE := Lib.hid fun d lo hi S w h => pending_any (d := d) (lo := lo) (hi := hi) (S := S) w h
  have RP := Lib.hid fun d lo hi S w h => rpending_any (d := d) (lo := lo) (hi := hi) (S := S) w h
  have WR := Lib.hid fun d lo hi S b s ha w h => write_any (d := d) (lo := lo) (hi := hi) (S := S) b s ha w h
  have RW := Lib.hid fun d lo hi S b s ha w h => rwrite_any (d := d) (lo := lo) (hi := hi) (S := S) b s ha w h
  have FL := Lib.hid fun d lo hi S ha w h => flush_any (d := d) (lo := lo) (hi := hi) (S := S) ha w h
  have RF := Lib.hid fun d lo hi S ha w h => rflush_any (d := d) (lo := lo) (hi := hi) (S := S) ha w h
  have AR := Lib.hid fun d lo hi S n hn w h => arm_any (d := d) (lo := lo) (hi := hi) (S := S) n hn w h
  have RM := Lib.hid fun d lo hi S n hn w h => rarm_any (d := d) (lo := lo) (hi := hi) (S := S) n hn w h
  have CR := Lib.hid fun d lo hi S K kv w h hk => crash_any (d := d) (lo := lo) (hi := hi) (S := S) K kv w h hk
  have RC := Lib.hid fun d lo hi S K kv w h hk => rcrash_any (d := d) (lo := lo) (hi := hi) (S := S) K kv w h hk
  have SY := Lib.hid same_yes
  clear h h3
  go_enter Try.func3, Try.ntmps3
  go_wp2_with fail
  refine G.out.mono ?_; rintro e w1 ⟨g, rfl, hg, hb⟩
  clear G
  cases g with
  | true =>
    go_wp2
    go_ret
    exact ⟨rfl, hb⟩
  | false =>
    have hn := hg rfl
    have hw1 := hb.size
    clear hg
    by_cases hbig : 30 < nb ∧ nb ≤ 4096
    · obtain ⟨g1, g2⟩ := hbig
      go_wp2
      go_ret
      exact ⟨rfl, hb⟩
    · by_cases hno : nb < 1 ∨ 4096 < nb
      · have t1 : (decide (30 < nb) && decide (nb ≤ 4096)) = false := by
          rcases hno with h | h
          · rw [decide_eq_false (by omega : ¬ 30 < nb)]; rfl
          · rw [decide_eq_false (by omega : ¬ nb ≤ 4096), Bool.and_false]
        have N1 := Lib.hid (NN.out nb hno)
        have N2 := Lib.hid (RNN.out nb hno)
        clear hbig
        rcases hno with h | h
        · have h30 : ¬ 30 < nb := by omega
          go_wp2_with fail
          refine (N1.out _).mono ?_; rintro e w' ⟨rfl, rfl⟩
          go_wp2_with fail
          refine (N2.out _).mono ?_; rintro e w' ⟨rfl, rfl⟩
          go_wp2_with fail
          refine (AL.out _).mono ?_; rintro e w2 ⟨rfl, b⟩
          have hb := bnext hb b
          clear b
          go_wp2
          go_ret
          exact ⟨rfl, hb⟩
        · have h30 : 30 < nb := by omega
          have h40 : ¬ nb ≤ 4096 := by omega
          go_wp2_with fail
          refine (N1.out _).mono ?_; rintro e w' ⟨rfl, rfl⟩
          go_wp2_with fail
          refine (N2.out _).mono ?_; rintro e w' ⟨rfl, rfl⟩
          go_wp2_with fail
          refine (AL.out _).mono ?_; rintro e w2 ⟨rfl, b⟩
          have hb := bnext hb b
          clear b
          go_wp2
          go_ret
          exact ⟨rfl, hb⟩
      · obtain ⟨nn, rfl⟩ := Int.eq_ofNat_of_zero_le (show 0 ≤ nb by omega)
        have h30 : ¬ (30 : Int) < (nn : Int) := by omega
        have N1 := Lib.hid (NW.out nn (by omega) (by omega))
        have N2 := Lib.hid (RN.out nn (by omega) (by omega))
        clear hbig hno NW RN NN RNN
        go_wp2_with fail
        refine (N1.out _).mono ?_; rintro e w2 ⟨d, rfl, hd, b⟩
        have hb := bnext hb b
        have hlw : w.heap.size ≤ w1.heap.size := hw1
        generalize w1.heap.size = lo at *
        have hlw2 : w.heap.size ≤ w2.heap.size := by have := hd.lohi; omega
        have hll : w2.heap.size ≤ w2.heap.size := Nat.le_refl _
        have htd := hd.top
        clear b
        go_wp2_with fail
        refine (N2.out _).mono ?_; rintro e w3 ⟨r, rfl, hr, b⟩
        have hd := hd.kept1 b
        have hb := bnext hb b
        obtain ⟨hi, hhi⟩ : ∃ hi, w2.heap.size = hi := ⟨_, rfl⟩
        obtain ⟨lo2, hlo2⟩ : ∃ lo2, w2.heap.size = lo2 := ⟨_, rfl⟩
        rw [hhi] at hd
        rw [hlo2] at hr
        have hll : hi ≤ lo2 := by omega
        have hlw2 : w.heap.size ≤ lo2 := by omega
        have hi2e : ∃ hi2, w3.heap.size = hi2 := ⟨_, rfl⟩
        obtain ⟨hi2, hi2e⟩ := hi2e
        rw [hi2e] at hr
        have HD := Lib.hid hd
        have HR := Lib.hid hr
        have HB := Lib.hid hb
        clear b hhi hlo2 hi2e N1 N2 htd hd hr hb
        go_wp2
        go_loopw [9] (fun q wr => ∃ (i : Nat) (S : St), q = .int .i64 i ∧ i ≤ n ∧ S.acts ≤ i ∧ DevAt d lo hi S wr ∧ RefAt r lo2 hi2 S wr ∧ Below w.heap.size w wr) (fun q _ => n - (intOf q).toNat)
        case atStart => exact ⟨0, _, rfl, Nat.zero_le _, Nat.le_refl _, HD.out, HR.out, HB.out⟩
        case round =>
          clear HD HR HB
          obtain ⟨i, S, rfl, hiI, hSa, hd, hr, hbr⟩ := hrel
          by_cases hlt : i < n
          · obtain ⟨g, o, rfl, hg, hc⟩ := H3.out (by omega)
            obtain ⟨c0, c1, c2, c3, c4, c5⟩ := hc i hlt
            have hx := HA.out.2 i hlt
            generalize A i = x at *
            have c0 := (hbr.cell (p := ⟨g, o + i * 6, none⟩) hg).trans c0
            have c1 := (hbr.cell (p := ⟨g, o + i * 6 + 1, none⟩) hg).trans c1
            have c2 := (hbr.cell (p := ⟨g, o + i * 6 + 2, none⟩) hg).trans c2
            have c3 := (hbr.cell (p := ⟨g, o + i * 6 + 3, none⟩) hg).trans c3
            have c4 := (hbr.cell (p := ⟨g, o + i * 6 + 4, none⟩) hg).trans c4
            have c5 := (hbr.cell (p := ⟨g, o + i * 6 + 5, none⟩) hg).trans c5
            have hkr := hx.keep
            obtain ⟨adk, capk, hkv, -, -, -, -⟩ := hx.keep.shape
            rw [hkv] at c5 hkr
            clear hc H3 HA
            obtain ⟨w2, hw2⟩ : ∃ w2, wr.alloc (.cells #[.int .u8 (x.kind : Int), .int .i64 x.b, .int .i64 x.n, .int .u8 (x.fill : Int), .string x.data, .slice adk x.keep.length capk] 34) = w2 := ⟨_, rfl⟩
            have HBk : Hid (Blk wr.heap.size #[.int .u8 (x.kind : Int), .int .i64 x.b, .int .i64 x.n, .int .u8 (x.fill : Int), .string x.data, .slice adk x.keep.length capk] 34 w2) := Lib.hid (by rw [← hw2]; exact Blk.new _ _ _)
            have HD3 : Hid (DevAt d lo hi S w2) := Lib.hid (by rw [← hw2]; exact hd.kept1 (balloc1 _ _))
            have HR3 : Hid (RefAt r lo2 hi2 S w2) := Lib.hid (by rw [← hw2]; exact hr.kept1 (balloc1 _ _))
            have HB3 : Hid (Below w.heap.size w w2) := Lib.hid (by rw [← hw2]; exact balloc hbr _)
            have HKR := Lib.hid hkr
            have htop := hr.top
            have htop1 := hd.top
            obtain ⟨X, hX⟩ : ∃ X, X = whatT ⟨x.kind, x.b, x.n, x.fill, x.data, x.keep, .slice adk x.keep.length capk⟩ := ⟨_, rfl⟩
            have WA := WT.out ⟨x.kind, x.b, x.n, x.fill, x.data, x.keep, .slice adk x.keep.length capk⟩ hx.fill
            rw [← hX] at WA
            have WA := Lib.hid WA
            have hxn := hx.n
            have hx8 : x.kind % 8 = 0 ∨ x.kind % 8 = 1 ∨ x.kind % 8 = 2 ∨ x.kind % 8 = 3 ∨ x.kind % 8 = 4 ∨ x.kind % 8 = 5 ∨ x.kind % 8 = 6 ∨ x.kind % 8 = 7 := by omega
            clear hbr hd hr hX hkv hx WT hkr
            obtain ⟨j0, -, -, -, -, -⟩ := act_blk (x := ⟨x.kind, x.b, x.n, x.fill, x.data, x.keep, .slice adk x.keep.length capk⟩) HBk.out
            go_upto_block 2 with fail
            clear hw2 j0 c0 c1 c2 c3 c4 c5
            generalize wr.heap.size = gx at *
            go_cut [11, 12, 64] (fun g h _ wx => ∃ (S2 : St) (cd : Int), g = .int .i64 cd ∧ h = .int .i64 cd ∧ S2.acts ≤ i + 1 ∧ DevAt d lo hi S2 wx ∧ RefAt r lo2 hi2 S2 wx ∧ Blk gx #[.int .u8 (x.kind : Int), .int .i64 x.b, .int .i64 x.n, .int .u8 (x.fill : Int), .string x.data, .slice adk x.keep.length capk] 34 wx ∧ Below w.heap.size w wx)
            case first =>
              rcases hx8 with hk | hk | hk | hk | hk | hk | hk | hk
              · have hk8 : (x.kind : Int) % 8 = 0 := by omega
                have WR1 := fun w h => WR.out d lo hi S x.b X (by omega) w h
                have WR2 := fun w h => RW.out r lo2 hi2 S x.b X (by omega) w h
                have ha2 := wSt_acts S x.b X
                generalize wCode S x.b X.size = cd at *
                generalize wSt S x.b X = S2 at *
                have WR1 := Lib.hid WR1
                have WR2 := Lib.hid WR2
                clear hk
                have kb : ∀ p : BelowP w2, p.to.cell? ⟨gx, 0, none⟩ = some (.int .u8 (x.kind : Int)) ∧ p.to.cell? ⟨gx, 1, none⟩ = some (.int .i64 x.b) ∧ p.to.cell? ⟨gx, 2, none⟩ = some (.int .i64 x.n) ∧ p.to.cell? ⟨gx, 3, none⟩ = some (.int .u8 (x.fill : Int)) ∧ p.to.cell? ⟨gx, 4, none⟩ = some (.string x.data) ∧ p.to.cell? ⟨gx, 5, none⟩ = some (.slice adk x.keep.length capk) := fun p => act_blk (x := ⟨x.kind, x.b, x.n, x.fill, x.data, x.keep, .slice adk x.keep.length capk⟩) (HBk.out.kept1 p.h)
                have k0 := fun p => (kb p).1
                have k1 := fun p => (kb p).2.1
                have k2 := fun p => (kb p).2.2.1
                have k3 := fun p => (kb p).2.2.2.1
                have k4 := fun p => (kb p).2.2.2.2.1
                have k5 := fun p => (kb p).2.2.2.2.2
                obtain ⟨j0, -, -, -, -, -⟩ := kb ⟨w2, Below.refl _ _⟩
                have j0 : w2.cell? ⟨gx, 0, none⟩ = some (.int .u8 (x.kind : Int)) := j0
                clear kb
                go_wp2
                refine wp_region_tail_below 5 mixed (by kernel_rfl) ?_
                simp only [List.take_succ_cons, List.take_zero, List.drop_succ_cons, List.drop_zero]
                repeat (go_big_quiet_step (first | (go_at_call 15; refine calls_below (WA.out _))))
                refine wpQuiet_nil ?_
                intro w0q hw'
                obtain ⟨⟨wq, bq⟩, hw''⟩ := hw'
                have hw2 : wq = w0q := hw''.symm
                clear hw''
                subst hw2
                have F := Lib.hid (WR1.out wq (HD3.out.kept1 bq))
                have HB4 := Lib.hid (bnext HB3.out bq)
                have HR4 := Lib.hid (HR3.out.kept1 bq)
                have HBk4 := Lib.hid (HBk.out.kept1 bq)
                clear k0 k1 k2 k3 k4 k5 j0 HD3 HR3 HB3 HBk bq
                go_wp2_with fail
                refine F.out.mono ?_; rintro e w3 ⟨rfl, hd3, z3⟩
                have HD4 := Lib.hid hd3
                have HB5 := Lib.hid (HB4.out.trans (z3.below HB4.out.size hlw))
                have HR5 := Lib.hid (HR4.out.kept z3 (.inr hll))
                have HBk5 := Lib.hid (HBk4.out.kept z3 (.inr htop1))
                clear F hd3 z3 HB4 HR4 HBk4
                have kb : ∀ p : BelowP w3, p.to.cell? ⟨gx, 0, none⟩ = some (.int .u8 (x.kind : Int)) ∧ p.to.cell? ⟨gx, 1, none⟩ = some (.int .i64 x.b) ∧ p.to.cell? ⟨gx, 2, none⟩ = some (.int .i64 x.n) ∧ p.to.cell? ⟨gx, 3, none⟩ = some (.int .u8 (x.fill : Int)) ∧ p.to.cell? ⟨gx, 4, none⟩ = some (.string x.data) ∧ p.to.cell? ⟨gx, 5, none⟩ = some (.slice adk x.keep.length capk) := fun p => act_blk (x := ⟨x.kind, x.b, x.n, x.fill, x.data, x.keep, .slice adk x.keep.length capk⟩) (HBk5.out.kept1 p.h)
                have k0 := fun p => (kb p).1
                have k1 := fun p => (kb p).2.1
                have k2 := fun p => (kb p).2.2.1
                have k3 := fun p => (kb p).2.2.2.1
                have k4 := fun p => (kb p).2.2.2.2.1
                have k5 := fun p => (kb p).2.2.2.2.2
                clear kb
                go_wp2
                refine wp_region_tail_below 5 mixed (by kernel_rfl) ?_
                simp only [List.take_succ_cons, List.take_zero, List.drop_succ_cons, List.drop_zero]
                repeat (go_big_quiet_step (first | (go_at_call 15; refine calls_below (WA.out _))))
                refine wpQuiet_nil ?_
                intro w0q hw'
                obtain ⟨⟨wq, bq⟩, hw''⟩ := hw'
                have hw2 : wq = w0q := hw''.symm
                clear hw''
                subst hw2
                have F := Lib.hid (WR2.out wq (HR5.out.kept1 bq))
                have HB6 := Lib.hid (bnext HB5.out bq)
                have HD6 := Lib.hid (HD4.out.kept1 bq)
                have HBk6 := Lib.hid (HBk5.out.kept1 bq)
                clear k0 k1 k2 k3 k4 k5 HD4 HR5 HB5 HBk5 bq WA
                go_wp2_with fail
                refine F.out.mono ?_; rintro e wa ⟨rfl, hd3, z3⟩
                have HR7 := Lib.hid hd3
                have HB7 := Lib.hid (HB6.out.trans (z3.below HB6.out.size hlw2))
                have HD7 := Lib.hid (HD6.out.kept z3 (.inl hll))
                have HBk7 := Lib.hid (HBk6.out.kept z3 (.inr htop))
                clear F hd3 z3 HB6 HD6 HBk6
                go_wp2
                go_meet
                case rel => exact ⟨S2, cd, rfl, rfl, by omega, HD7.out, HR7.out, HBk7.out, HB7.out⟩
              · have hk8 : (x.kind : Int) % 8 = 1 := by omega
                have WR1 := fun w h => WR.out d lo hi S x.b X (by omega) w h
                have WR2 := fun w h => RW.out r lo2 hi2 S x.b X (by omega) w h
                have ha2 := wSt_acts S x.b X
                generalize wCode S x.b X.size = cd at *
                generalize wSt S x.b X = S2 at *
                have WR1 := Lib.hid WR1
                have WR2 := Lib.hid WR2
                clear hk
                have kb : ∀ p : BelowP w2, p.to.cell? ⟨gx, 0, none⟩ = some (.int .u8 (x.kind : Int)) ∧ p.to.cell? ⟨gx, 1, none⟩ = some (.int .i64 x.b) ∧ p.to.cell? ⟨gx, 2, none⟩ = some (.int .i64 x.n) ∧ p.to.cell? ⟨gx, 3, none⟩ = some (.int .u8 (x.fill : Int)) ∧ p.to.cell? ⟨gx, 4, none⟩ = some (.string x.data) ∧ p.to.cell? ⟨gx, 5, none⟩ = some (.slice adk x.keep.length capk) := fun p => act_blk (x := ⟨x.kind, x.b, x.n, x.fill, x.data, x.keep, .slice adk x.keep.length capk⟩) (HBk.out.kept1 p.h)
                have k0 := fun p => (kb p).1
                have k1 := fun p => (kb p).2.1
                have k2 := fun p => (kb p).2.2.1
                have k3 := fun p => (kb p).2.2.2.1
                have k4 := fun p => (kb p).2.2.2.2.1
                have k5 := fun p => (kb p).2.2.2.2.2
                obtain ⟨j0, -, -, -, -, -⟩ := kb ⟨w2, Below.refl _ _⟩
                have j0 : w2.cell? ⟨gx, 0, none⟩ = some (.int .u8 (x.kind : Int)) := j0
                clear kb
                go_wp2
                refine wp_region_tail_below 5 mixed (by kernel_rfl) ?_
                simp only [List.take_succ_cons, List.take_zero, List.drop_succ_cons, List.drop_zero]
                repeat (go_big_quiet_step (first | (go_at_call 15; refine calls_below (WA.out _))))
                refine wpQuiet_nil ?_
                intro w0q hw'
                obtain ⟨⟨wq, bq⟩, hw''⟩ := hw'
                have hw2 : wq = w0q := hw''.symm
                clear hw''
                subst hw2
                have F := Lib.hid (WR1.out wq (HD3.out.kept1 bq))
                have HB4 := Lib.hid (bnext HB3.out bq)
                have HR4 := Lib.hid (HR3.out.kept1 bq)
                have HBk4 := Lib.hid (HBk.out.kept1 bq)
                clear k0 k1 k2 k3 k4 k5 j0 HD3 HR3 HB3 HBk bq
                go_wp2_with fail
                refine F.out.mono ?_; rintro e w3 ⟨rfl, hd3, z3⟩
                have HD4 := Lib.hid hd3
                have HB5 := Lib.hid (HB4.out.trans (z3.below HB4.out.size hlw))
                have HR5 := Lib.hid (HR4.out.kept z3 (.inr hll))
                have HBk5 := Lib.hid (HBk4.out.kept z3 (.inr htop1))
                clear F hd3 z3 HB4 HR4 HBk4
                have kb : ∀ p : BelowP w3, p.to.cell? ⟨gx, 0, none⟩ = some (.int .u8 (x.kind : Int)) ∧ p.to.cell? ⟨gx, 1, none⟩ = some (.int .i64 x.b) ∧ p.to.cell? ⟨gx, 2, none⟩ = some (.int .i64 x.n) ∧ p.to.cell? ⟨gx, 3, none⟩ = some (.int .u8 (x.fill : Int)) ∧ p.to.cell? ⟨gx, 4, none⟩ = some (.string x.data) ∧ p.to.cell? ⟨gx, 5, none⟩ = some (.slice adk x.keep.length capk) := fun p => act_blk (x := ⟨x.kind, x.b, x.n, x.fill, x.data, x.keep, .slice adk x.keep.length capk⟩) (HBk5.out.kept1 p.h)
                have k0 := fun p => (kb p).1
                have k1 := fun p => (kb p).2.1
                have k2 := fun p => (kb p).2.2.1
                have k3 := fun p => (kb p).2.2.2.1
                have k4 := fun p => (kb p).2.2.2.2.1
                have k5 := fun p => (kb p).2.2.2.2.2
                clear kb
                go_wp2
                refine wp_region_tail_below 5 mixed (by kernel_rfl) ?_
                simp only [List.take_succ_cons, List.take_zero, List.drop_succ_cons, List.drop_zero]
                repeat (go_big_quiet_step (first | (go_at_call 15; refine calls_below (WA.out _))))
                refine wpQuiet_nil ?_
                intro w0q hw'
                obtain ⟨⟨wq, bq⟩, hw''⟩ := hw'
                have hw2 : wq = w0q := hw''.symm
                clear hw''
                subst hw2
                have F := Lib.hid (WR2.out wq (HR5.out.kept1 bq))
                have HB6 := Lib.hid (bnext HB5.out bq)
                have HD6 := Lib.hid (HD4.out.kept1 bq)
                have HBk6 := Lib.hid (HBk5.out.kept1 bq)
                clear k0 k1 k2 k3 k4 k5 HD4 HR5 HB5 HBk5 bq WA
                go_wp2_with fail
                refine F.out.mono ?_; rintro e wa ⟨rfl, hd3, z3⟩
                have HR7 := Lib.hid hd3
                have HB7 := Lib.hid (HB6.out.trans (z3.below HB6.out.size hlw2))
                have HD7 := Lib.hid (HD6.out.kept z3 (.inl hll))
                have HBk7 := Lib.hid (HBk6.out.kept z3 (.inr htop))
                clear F hd3 z3 HB6 HD6 HBk6
                go_wp2
                go_meet
                case rel => exact ⟨S2, cd, rfl, rfl, by omega, HD7.out, HR7.out, HBk7.out, HB7.out⟩
              · have hk8 : (x.kind : Int) % 8 = 2 := by omega
                have WR1 := fun w h => WR.out d lo hi S x.b X (by omega) w h
                have WR2 := fun w h => RW.out r lo2 hi2 S x.b X (by omega) w h
                have ha2 := wSt_acts S x.b X
                generalize wCode S x.b X.size = cd at *
                generalize wSt S x.b X = S2 at *
                have WR1 := Lib.hid WR1
                have WR2 := Lib.hid WR2
                clear hk
                have kb : ∀ p : BelowP w2, p.to.cell? ⟨gx, 0, none⟩ = some (.int .u8 (x.kind : Int)) ∧ p.to.cell? ⟨gx, 1, none⟩ = some (.int .i64 x.b) ∧ p.to.cell? ⟨gx, 2, none⟩ = some (.int .i64 x.n) ∧ p.to.cell? ⟨gx, 3, none⟩ = some (.int .u8 (x.fill : Int)) ∧ p.to.cell? ⟨gx, 4, none⟩ = some (.string x.data) ∧ p.to.cell? ⟨gx, 5, none⟩ = some (.slice adk x.keep.length capk) := fun p => act_blk (x := ⟨x.kind, x.b, x.n, x.fill, x.data, x.keep, .slice adk x.keep.length capk⟩) (HBk.out.kept1 p.h)
                have k0 := fun p => (kb p).1
                have k1 := fun p => (kb p).2.1
                have k2 := fun p => (kb p).2.2.1
                have k3 := fun p => (kb p).2.2.2.1
                have k4 := fun p => (kb p).2.2.2.2.1
                have k5 := fun p => (kb p).2.2.2.2.2
                obtain ⟨j0, -, -, -, -, -⟩ := kb ⟨w2, Below.refl _ _⟩
                have j0 : w2.cell? ⟨gx, 0, none⟩ = some (.int .u8 (x.kind : Int)) := j0
                clear kb
                go_wp2
                refine wp_region_tail_below 5 mixed (by kernel_rfl) ?_
                simp only [List.take_succ_cons, List.take_zero, List.drop_succ_cons, List.drop_zero]
                repeat (go_big_quiet_step (first | (go_at_call 15; refine calls_below (WA.out _))))
                refine wpQuiet_nil ?_
                intro w0q hw'
                obtain ⟨⟨wq, bq⟩, hw''⟩ := hw'
                have hw2 : wq = w0q := hw''.symm
                clear hw''
                subst hw2
                have F := Lib.hid (WR1.out wq (HD3.out.kept1 bq))
                have HB4 := Lib.hid (bnext HB3.out bq)
                have HR4 := Lib.hid (HR3.out.kept1 bq)
                have HBk4 := Lib.hid (HBk.out.kept1 bq)
                clear k0 k1 k2 k3 k4 k5 j0 HD3 HR3 HB3 HBk bq
                go_wp2_with fail
                refine F.out.mono ?_; rintro e w3 ⟨rfl, hd3, z3⟩
                have HD4 := Lib.hid hd3
                have HB5 := Lib.hid (HB4.out.trans (z3.below HB4.out.size hlw))
                have HR5 := Lib.hid (HR4.out.kept z3 (.inr hll))
                have HBk5 := Lib.hid (HBk4.out.kept z3 (.inr htop1))
                clear F hd3 z3 HB4 HR4 HBk4
                have kb : ∀ p : BelowP w3, p.to.cell? ⟨gx, 0, none⟩ = some (.int .u8 (x.kind : Int)) ∧ p.to.cell? ⟨gx, 1, none⟩ = some (.int .i64 x.b) ∧ p.to.cell? ⟨gx, 2, none⟩ = some (.int .i64 x.n) ∧ p.to.cell? ⟨gx, 3, none⟩ = some (.int .u8 (x.fill : Int)) ∧ p.to.cell? ⟨gx, 4, none⟩ = some (.string x.data) ∧ p.to.cell? ⟨gx, 5, none⟩ = some (.slice adk x.keep.length capk) := fun p => act_blk (x := ⟨x.kind, x.b, x.n, x.fill, x.data, x.keep, .slice adk x.keep.length capk⟩) (HBk5.out.kept1 p.h)
                have k0 := fun p => (kb p).1
                have k1 := fun p => (kb p).2.1
                have k2 := fun p => (kb p).2.2.1
                have k3 := fun p => (kb p).2.2.2.1
                have k4 := fun p => (kb p).2.2.2.2.1
                have k5 := fun p => (kb p).2.2.2.2.2
                clear kb
                go_wp2
                refine wp_region_tail_below 5 mixed (by kernel_rfl) ?_
                simp only [List.take_succ_cons, List.take_zero, List.drop_succ_cons, List.drop_zero]
                repeat (go_big_quiet_step (first | (go_at_call 15; refine calls_below (WA.out _))))
                refine wpQuiet_nil ?_
                intro w0q hw'
                obtain ⟨⟨wq, bq⟩, hw''⟩ := hw'
                have hw2 : wq = w0q := hw''.symm
                clear hw''
                subst hw2
                have F := Lib.hid (WR2.out wq (HR5.out.kept1 bq))
                have HB6 := Lib.hid (bnext HB5.out bq)
                have HD6 := Lib.hid (HD4.out.kept1 bq)
                have HBk6 := Lib.hid (HBk5.out.kept1 bq)
                clear k0 k1 k2 k3 k4 k5 HD4 HR5 HB5 HBk5 bq WA
                go_wp2_with fail
                refine F.out.mono ?_; rintro e wa ⟨rfl, hd3, z3⟩
                have HR7 := Lib.hid hd3
                have HB7 := Lib.hid (HB6.out.trans (z3.below HB6.out.size hlw2))
                have HD7 := Lib.hid (HD6.out.kept z3 (.inl hll))
                have HBk7 := Lib.hid (HBk6.out.kept z3 (.inr htop))
                clear F hd3 z3 HB6 HD6 HBk6
                go_wp2
                go_meet
                case rel => exact ⟨S2, cd, rfl, rfl, by omega, HD7.out, HR7.out, HBk7.out, HB7.out⟩
              · have hk8 : (x.kind : Int) % 8 = 3 := by omega
                have WR1 := fun w h => WR.out d lo hi S x.b X (by omega) w h
                have WR2 := fun w h => RW.out r lo2 hi2 S x.b X (by omega) w h
                have ha2 := wSt_acts S x.b X
                generalize wCode S x.b X.size = cd at *
                generalize wSt S x.b X = S2 at *
                have WR1 := Lib.hid WR1
                have WR2 := Lib.hid WR2
                clear hk
                have kb : ∀ p : BelowP w2, p.to.cell? ⟨gx, 0, none⟩ = some (.int .u8 (x.kind : Int)) ∧ p.to.cell? ⟨gx, 1, none⟩ = some (.int .i64 x.b) ∧ p.to.cell? ⟨gx, 2, none⟩ = some (.int .i64 x.n) ∧ p.to.cell? ⟨gx, 3, none⟩ = some (.int .u8 (x.fill : Int)) ∧ p.to.cell? ⟨gx, 4, none⟩ = some (.string x.data) ∧ p.to.cell? ⟨gx, 5, none⟩ = some (.slice adk x.keep.length capk) := fun p => act_blk (x := ⟨x.kind, x.b, x.n, x.fill, x.data, x.keep, .slice adk x.keep.length capk⟩) (HBk.out.kept1 p.h)
                have k0 := fun p => (kb p).1
                have k1 := fun p => (kb p).2.1
                have k2 := fun p => (kb p).2.2.1
                have k3 := fun p => (kb p).2.2.2.1
                have k4 := fun p => (kb p).2.2.2.2.1
                have k5 := fun p => (kb p).2.2.2.2.2
                obtain ⟨j0, -, -, -, -, -⟩ := kb ⟨w2, Below.refl _ _⟩
                have j0 : w2.cell? ⟨gx, 0, none⟩ = some (.int .u8 (x.kind : Int)) := j0
                clear kb
                go_wp2
                refine wp_region_tail_below 5 mixed (by kernel_rfl) ?_
                simp only [List.take_succ_cons, List.take_zero, List.drop_succ_cons, List.drop_zero]
                repeat (go_big_quiet_step (first | (go_at_call 15; refine calls_below (WA.out _))))
                refine wpQuiet_nil ?_
                intro w0q hw'
                obtain ⟨⟨wq, bq⟩, hw''⟩ := hw'
                have hw2 : wq = w0q := hw''.symm
                clear hw''
                subst hw2
                have F := Lib.hid (WR1.out wq (HD3.out.kept1 bq))
                have HB4 := Lib.hid (bnext HB3.out bq)
                have HR4 := Lib.hid (HR3.out.kept1 bq)
                have HBk4 := Lib.hid (HBk.out.kept1 bq)
                clear k0 k1 k2 k3 k4 k5 j0 HD3 HR3 HB3 HBk bq
                go_wp2_with fail
                refine F.out.mono ?_; rintro e w3 ⟨rfl, hd3, z3⟩
                have HD4 := Lib.hid hd3
                have HB5 := Lib.hid (HB4.out.trans (z3.below HB4.out.size hlw))
                have HR5 := Lib.hid (HR4.out.kept z3 (.inr hll))
                have HBk5 := Lib.hid (HBk4.out.kept z3 (.inr htop1))
                clear F hd3 z3 HB4 HR4 HBk4
                have kb : ∀ p : BelowP w3, p.to.cell? ⟨gx, 0, none⟩ = some (.int .u8 (x.kind : Int)) ∧ p.to.cell? ⟨gx, 1, none⟩ = some (.int .i64 x.b) ∧ p.to.cell? ⟨gx, 2, none⟩ = some (.int .i64 x.n) ∧ p.to.cell? ⟨gx, 3, none⟩ = some (.int .u8 (x.fill : Int)) ∧ p.to.cell? ⟨gx, 4, none⟩ = some (.string x.data) ∧ p.to.cell? ⟨gx, 5, none⟩ = some (.slice adk x.keep.length capk) := fun p => act_blk (x := ⟨x.kind, x.b, x.n, x.fill, x.data, x.keep, .slice adk x.keep.length capk⟩) (HBk5.out.kept1 p.h)
                have k0 := fun p => (kb p).1
                have k1 := fun p => (kb p).2.1
                have k2 := fun p => (kb p).2.2.1
                have k3 := fun p => (kb p).2.2.2.1
                have k4 := fun p => (kb p).2.2.2.2.1
                have k5 := fun p => (kb p).2.2.2.2.2
                clear kb
                go_wp2
                refine wp_region_tail_below 5 mixed (by kernel_rfl) ?_
                simp only [List.take_succ_cons, List.take_zero, List.drop_succ_cons, List.drop_zero]
                repeat (go_big_quiet_step (first | (go_at_call 15; refine calls_below (WA.out _))))
                refine wpQuiet_nil ?_
                intro w0q hw'
                obtain ⟨⟨wq, bq⟩, hw''⟩ := hw'
                have hw2 : wq = w0q := hw''.symm
                clear hw''
                subst hw2
                have F := Lib.hid (WR2.out wq (HR5.out.kept1 bq))
                have HB6 := Lib.hid (bnext HB5.out bq)
                have HD6 := Lib.hid (HD4.out.kept1 bq)
                have HBk6 := Lib.hid (HBk5.out.kept1 bq)
                clear k0 k1 k2 k3 k4 k5 HD4 HR5 HB5 HBk5 bq WA
                go_wp2_with fail
                refine F.out.mono ?_; rintro e wa ⟨rfl, hd3, z3⟩
                have HR7 := Lib.hid hd3
                have HB7 := Lib.hid (HB6.out.trans (z3.below HB6.out.size hlw2))
                have HD7 := Lib.hid (HD6.out.kept z3 (.inl hll))
                have HBk7 := Lib.hid (HBk6.out.kept z3 (.inr htop))
                clear F hd3 z3 HB6 HD6 HBk6
                go_wp2
                go_meet
                case rel => exact ⟨S2, cd, rfl, rfl, by omega, HD7.out, HR7.out, HBk7.out, HB7.out⟩
              · have hk8 : (x.kind : Int) % 8 = 4 := by omega
                have WR1 := fun w h => FL.out d lo hi S (by omega) w h
                have WR2 := fun w h => RF.out r lo2 hi2 S (by omega) w h
                have ha2 := fSt_acts S
                generalize fCode S = cd at *
                generalize fSt S = S2 at *
                have WR1 := Lib.hid WR1
                have WR2 := Lib.hid WR2
                clear hk WA
                obtain ⟨k0, k1, k2, k3, k4, k5⟩ := act_blk (x := ⟨x.kind, x.b, x.n, x.fill, x.data, x.keep, .slice adk x.keep.length capk⟩) HBk.out
                go_wp2_with fail
                refine (WR1.out _ HD3.out).mono ?_; rintro e w3 ⟨rfl, hd3, z3⟩
                have HD4 := Lib.hid hd3
                have HB5 := Lib.hid (HB3.out.trans (z3.below HB3.out.size hlw))
                have HR5 := Lib.hid (HR3.out.kept z3 (.inr hll))
                have HBk5 := Lib.hid (HBk.out.kept z3 (.inr htop1))
                clear hd3 z3 HB3 HR3 HBk HD3 k0 k1 k2 k3 k4 k5
                go_wp2_with fail
                refine (WR2.out _ HR5.out).mono ?_; rintro e wa ⟨rfl, hd3, z3⟩
                have HR7 := Lib.hid hd3
                have HB7 := Lib.hid (HB5.out.trans (z3.below HB5.out.size hlw2))
                have HD7 := Lib.hid (HD4.out.kept z3 (.inl hll))
                have HBk7 := Lib.hid (HBk5.out.kept z3 (.inr htop))
                clear hd3 z3 HB5 HD4 HBk5 HR5
                go_wp2
                go_meet
                case rel => exact ⟨S2, cd, rfl, rfl, by omega, HD7.out, HR7.out, HBk7.out, HB7.out⟩
              · have hk8 : (x.kind : Int) % 8 = 5 := by omega
                have WR1 := Lib.hid fun w h => AR.out d lo hi S x.n hxn w h
                have WR2 := Lib.hid fun w h => RM.out r lo2 hi2 S x.n hxn w h
                have ha2 : (S.armed x.n).acts ≤ S.acts + 1 := Nat.le_succ _
                generalize S.armed x.n = S2 at *
                clear hk WA
                obtain ⟨k0, k1, k2, k3, k4, k5⟩ := act_blk (x := ⟨x.kind, x.b, x.n, x.fill, x.data, x.keep, .slice adk x.keep.length capk⟩) HBk.out
                go_wp2_with fail
                refine (WR1.out _ HD3.out).mono ?_; rintro e w3 ⟨rfl, hd3, z3⟩
                have HD4 := Lib.hid hd3
                have HB5 := Lib.hid (HB3.out.trans (z3.below HB3.out.size hlw))
                have HR5 := Lib.hid (HR3.out.kept z3 (.inr hll))
                have HBk5 := Lib.hid (HBk.out.kept z3 (.inr htop1))
                clear hd3 z3 HB3 HR3 HBk HD3 k0 k1 k2 k3 k4 k5
                obtain ⟨k0, k1, k2, k3, k4, k5⟩ := act_blk (x := ⟨x.kind, x.b, x.n, x.fill, x.data, x.keep, .slice adk x.keep.length capk⟩) HBk5.out
                go_wp2_with fail
                refine (WR2.out _ HR5.out).mono ?_; rintro e wa ⟨rfl, hd3, z3⟩
                have HR7 := Lib.hid hd3
                have HB7 := Lib.hid (HB5.out.trans (z3.below HB5.out.size hlw2))
                have HD7 := Lib.hid (HD4.out.kept z3 (.inl hll))
                have HBk7 := Lib.hid (HBk5.out.kept z3 (.inr htop))
                clear hd3 z3 HB5 HD4 HBk5 HR5 k0 k1 k2 k3 k4 k5
                go_wp2
                go_meet
                case rel => exact ⟨S2, 0, rfl, rfl, by omega, HD7.out, HR7.out, HBk7.out, HB7.out⟩
              · have hk8 : (x.kind : Int) % 8 = 6 := by omega
                clear hk WA
                obtain ⟨k0, k1, k2, k3, k4, k5⟩ := act_blk (x := ⟨x.kind, x.b, x.n, x.fill, x.data, x.keep, .slice adk x.keep.length capk⟩) HBk.out
                go_wp2
                go_meet
                case rel => exact ⟨S, 0, rfl, rfl, by omega, HD3.out, HR3.out, HBk.out, HB3.out⟩
              · have hk8 : (x.kind : Int) % 8 = 7 := by omega
                clear hk WA
                obtain ⟨k0, k1, k2, k3, k4, k5⟩ := act_blk (x := ⟨x.kind, x.b, x.n, x.fill, x.data, x.keep, .slice adk x.keep.length capk⟩) HBk.out
                go_wp2
                go_meet
                case rel => exact ⟨S, 0, rfl, rfl, by omega, HD3.out, HR3.out, HBk.out, HB3.out⟩
            case rest =>
              obtain ⟨S2, cd, rfl, rfl, ha2, hd7, hr7, hbk7, hb7⟩ := hcut
              have HD7 := Lib.hid hd7
              have HR7 := Lib.hid hr7
              have HBk7 := Lib.hid hbk7
              have HB7 := Lib.hid hb7
              clear hd7 hr7 hbk7 hb7 HD3 HR3 HB3 HBk WA hx8 hxn FL RF WR RW AR RM
              obtain ⟨k0, k1, k2, k3, k4, k5⟩ := act_blk (x := ⟨x.kind, x.b, x.n, x.fill, x.data, x.keep, .slice adk x.keep.length capk⟩) HBk7.out
              have RD1 := RD.out d lo hi S2 x.b wc HD7.out
              have RD2 := RR.out r lo2 hi2 S2 x.b wc HR7.out
              generalize rText S2 x.b = tt at *
              generalize rCode S2 x.b = rc at *
              have RD1 := Lib.hid RD1
              have RD2 := Lib.hid RD2
              have PE1 := Lib.hid (PE.out d lo hi S2 wc HD7.out)
              go_wp2_with fail
              refine RD1.out.mono ?_; rintro e w' ⟨rfl, rfl⟩
              go_wp2_with fail
              refine RD2.out.mono ?_; rintro e w' ⟨rfl, rfl⟩
              go_wp2_with fail
              refine PE1.out.mono ?_; rintro e wb ⟨vp, rfl, hv, b⟩
              have hpl : (pends S2).length ≤ 4096 := by have := HD7.out.ok.hi; have := pendL_len S2.pend S2.n; show (pendL S2.pend S2.n).length ≤ _; omega
              obtain ⟨adp, capp, rfl, hp1, hp2, hp3⟩ := shape_of hv
              have hp2 : capp ≤ 9223372036854775807 := hp2
              have HP3 := Lib.hid hp3
              have hsa := b.size
              have HI : Both d lo hi r lo2 hi2 gx S2 (.slice adp (pends S2).length capp) (.slice adk x.keep.length capk) x.keep wb wb :=
                ⟨HD7.out.kept1 b, HR7.out.kept1 b, natsAt_in hv, HKR.out.kept (HB7.out.trans (b.mono HB7.out.size)), (HBk7.out.kept1 b).cell 5, ref_acts (HR7.out.kept1 b), Below.refl _ _⟩
              have HV := Lib.hid hv
              have HBB := Lib.hid b
              have hI : Both d lo hi r lo2 hi2 gx S2 (.slice adp (pends S2).length capp) (.slice adk x.keep.length capk) x.keep wb wb.drew := HI.kept1 (Below.refl _ _).drew
              have hI5 := hI.c5
              have hI4 := hI.c4
              clear RD1 RD2 PE1 hv b hp3 k0 k1 k2 k3 k4 k5 HI
              go_wp2
              go_region_held3 (fun w' => w'.cell? ⟨gx, 5, none⟩ = some (.slice adk x.keep.length capk) ∧ w'.cell? ⟨r, 4, none⟩ = some (.int .i64 (S2.acts : Int))) (exact ⟨by assumption, by assumption⟩) (first | (go_at_call 25; refine (RP.out r lo2 hi2 S2 _ (Both.ref (by assumption))).mono ?_; rintro e w5 ⟨v2, rfl, hv2, b2⟩; have hI2 := Both.kept1 hI b2; have hI25 := hI2.c5; have hI24 := hI2.c4; have hn2 := natsAt_in hv2) | (go_at_call 24; refine (SY.out _ _ (pends S2) (by omega) _ (Both.pn hI2) hn2).mono ?_; rintro e w6 ⟨rfl, b3⟩; have hI3 := Both.kept1 hI2 b3; have hI35 := hI3.c5; have hI34 := hI3.c4) | (go_at_call 26; refine (DE.out d lo hi S2 _ (Both.dev hI3)).mono ?_; rintro e w' ⟨rfl, rfl⟩) | (go_at_call 27; refine (RE.out r lo2 hi2 S2 _ (Both.ref hI3)).mono ?_; rintro e w' ⟨rfl, rfl⟩) | (go_at_call 28; refine (AC.out d lo hi S2 _ (Both.dev hI3)).mono ?_; rintro e w' ⟨rfl, rfl⟩) | (go_at_call 29; refine (BL.out d lo hi S2 _ (Both.dev hI3)).mono ?_; rintro e w' ⟨rfl, rfl⟩) | (go_at_call 30; refine (RB.out r lo2 hi2 S2 _ (Both.ref hI3)).mono ?_; rintro e w' ⟨rfl, rfl⟩) | (go_at_call 31; refine (CR.out d lo hi S2 x.keep _ _ (Both.dev hI3) (Both.keep hI3)).mono ?_; rintro e w7 ⟨rfl, b4⟩; have hI4q := Both.kept1 hI3 b4; have hI45 := hI4q.c5; have hI44 := hI4q.c4) | (go_at_call 32; refine (RC.out r lo2 hi2 S2 x.keep _ _ (Both.ref hI4q) (Both.keep hI4q)).mono ?_; rintro e w' ⟨rfl, rfl⟩))
              have HI := Lib.hid hI4q
              have HV7 := Lib.hid (row_kept HV.out hI4q.below)
              have HB8 := Lib.hid (HBB.out.trans (hI4q.below.mono hsa))
              clear hI hI2 hI3 hI4q hI5 hI4 hI25 hI24 hI35 hI34 hI45 hI44 hn2 hv2 b2 b3 b4
              go_wp2
              go_loopw [18] (fun q wz => ∃ (j : Nat) (xs : List Value), q = .int .i64 j ∧ j ≤ (pends S2).length ∧ wz.ownsRow wc.heap.size 3 1 (.slice adp (pends S2).length capp) (pends S2).length xs ∧ Below wc.heap.size wc wz) (fun q _ => (pends S2).length - (intOf q).toNat)
              case atStart => exact ⟨0, _, rfl, Nat.zero_le _, HV7.out, HB8.out⟩
              case round =>
                obtain ⟨j, xs, rfl, hj, hown, hbz⟩ := hrel
                by_cases hjl : j < (pends S2).length
                · obtain ⟨gp, rfl, hgp1, hgp2⟩ := HP3.out (by omega)
                  have hxl : j < xs.length := by have := hown.1; omega
                  have q1 : _ = some xs[j] := (hown.cellAt j (by omega)).trans (List.getElem?_eq_getElem hxl)
                  have q2 := hown.frozenAt j
                  have HO := Lib.hid (hown.stored j (.int .i64 (-1))).1
                  have HBz := Lib.hid (hbz.setCell (p := ⟨gp, j, none⟩) hgp1 (.int .i64 (-1)))
                  generalize xs[j] = u at *
                  clear hown hbz
                  go_wp2
                  exact ⟨⟨j + 1, _, by go_num, by omega, HO.out, HBz.out⟩, by simp [intOf]; omega⟩
                · obtain rfl : j = (pends S2).length := by omega
                  have hdz := HD7.out.kept1 hbz
                  have hrz := HR7.out.kept1 hbz
                  have hbw := HB7.out.trans (hbz.mono HB7.out.size)
                  clear hown hbz
                  go_wp2_with fail
                  refine (PE.out _ _ _ _ _ hdz).mono ?_; rintro e y1 ⟨v3, rfl, hv3, b⟩
                  have hrz := hrz.kept1 b
                  have hdz := hdz.kept1 b
                  have hbw := bnext hbw b
                  clear b
                  go_wp2_with fail
                  refine (RP.out _ _ _ _ _ hrz).mono ?_; rintro e y2 ⟨v4, rfl, hv4, b⟩
                  have hrz := hrz.kept1 b
                  have hdz := hdz.kept1 b
                  have hbw := bnext hbw b
                  have SS := Lib.hid (SY.out _ _ (pends S2) (by omega) _ ((natsAt_in hv3).kept b) (natsAt_in hv4))
                  clear b hv3 hv4
                  go_wp2_with fail
                  refine SS.out.mono ?_; rintro e y3 ⟨rfl, b⟩
                  have hrz := hrz.kept1 b
                  have hdz := hdz.kept1 b
                  have hbw := bnext hbw b
                  clear b SS
                  go_wp2
                  exact ⟨⟨i + 1, S2, by go_num, by omega, by omega, hdz, hrz, hbw⟩, by simp [intOf]; omega⟩
          · obtain rfl : i = n := by omega
            clear H3 HA
            have K1 := Lib.hid (KE.out d lo hi S wr hd)
            go_wp2_with fail
            refine K1.out.mono ?_; rintro e y1 ⟨rfl, b⟩
            have hr := hr.kept1 b
            have hb := bnext hbr b
            clear b
            go_wp2_with fail
            refine (RK.out _ _ _ _ _ hr).mono ?_; rintro e w' ⟨rfl, rfl⟩
            clear hr hd
            go_wp2_with fail
            refine (AL.out _).mono ?_; rintro e y2 ⟨rfl, b⟩
            have hb := bnext hb b
            clear b
            go_wp2
            go_ret
            exact ⟨rfl, hb⟩
end Go.Proofs.Ytgdnlkoncajaoaa
