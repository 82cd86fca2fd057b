/- The walk of BuffersReads. -/
import Derived.Test.YticbielifcjpdaaCStep
namespace Go.Proofs.Yticbielifcjpdaa
set_option linter.unusedVariables false
open Go.RowKit

/-- what a round goes by: what is wanted of each block is what is seen there -/
structure Reads (c d B hi gw n : Nat) (W : Nat → ByteArray) (C : CS) (M : Nat → Prop) (U : Nat) (w0 w : World) : Prop where
  run : Run c d B hi M U C w0 w
  many : C.st.n = n
  tidy : clean C
  seen : ∀ j, j < n → W j = view C j
  want : CellsAt gw n (fun j => .string (W j)) w
  free : Free B hi M gw w
  gB : B ≤ gw
theorem Reads.kept1 {c d B hi gw n U : Nat} {W : Nat → ByteArray} {C : CS} {M : Nat → Prop} {w0 w w' : World} (h : Reads c d B hi gw n W C M U w0 w) (b : Below w.heap.size w w') : Reads c d B hi gw n W C M U w0 w' :=
  ⟨h.run.kept1 b, h.many, h.tidy, h.seen, h.want.kept1 b, h.free.kept1 b, h.gB⟩
theorem Reads.more {c d B hi gw n U U' : Nat} {W : Nat → ByteArray} {C : CS} {M : Nat → Prop} {w0 w : World} (h : Reads c d B hi gw n W C M U w0 w) (hU : U ≤ U') : Reads c d B hi gw n W C M U' w0 w :=
  ⟨⟨h.run.cache.more hU, h.run.below, h.run.young⟩, h.many, h.tidy, h.seen, h.want, h.free, h.gB⟩
set_option maxRecDepth 100000 in
set_option maxHeartbeats 16000000 in
theorem reads_walk (s0 s1 : Nat) (h0 : s0 < 256) (h1 : s1 < 256) (v : Value) (m : Nat) (A : Nat → ActC) (w : World) (h : ActsIn v m A w) :
    Calls Try.prog 4 #[.agg #[.int .u8 (s0 : Int), .int .u8 (s1 : Int)], v] w fun e w' => e = .returned (.bool true) ∧ Below w.heap.size w w' := by
  have mixed : Try.prog.follows .mixedOrders = true := by kernel_rfl
  have b1 := balloc1 w (.cells #[.int .u8 (s0 : Int), .int .u8 (s1 : Int)] 50)
  have GR := Lib.hid (great_any v m A _ (h.kept b1))
  have MD := Lib.hid (cmade_any s0 s1 h0 h1)
  have AL := Lib.hid alive_any
  have FL := Lib.hid fun w => fill_of 0 (by decide) w
  have WT := Lib.hid what_any
  obtain ⟨ad, cap, rfl, q1, q2, q3⟩ := h.shape
  have H3 := Lib.hid q3
  have HA := Lib.hid h
  have hHB := Lib.hid b1
  have hBk := Lib.hid (Blk.new #[.int .u8 (s0 : Int), .int .u8 (s1 : Int)] 50 w)
  clear h q3 b1
  go_enter Try.func4, Try.ntmps4
  go_wp2_with fail
  refine GR.out.mono ?_; rintro e w1 ⟨gb, rfl, h150, bb⟩
  have HB1 := Lib.hid (bnext hHB.out bb)
  have hbk1 := hBk.out.kept1 bb
  have z0 : w1.cell? ⟨w.heap.size, 0, none⟩ = some (.int .u8 (s0 : Int)) := hbk1.cell 0
  have z1 : w1.cell? ⟨w.heap.size, 1, none⟩ = some (.int .u8 (s1 : Int)) := hbk1.cell 1
  have hBk1 := Lib.hid hbk1
  clear GR bb hHB hBk hbk1
  cases gb with
  | true =>
    go_wp2
    go_ret
    exact ⟨rfl, HB1.out⟩
  | false =>
    have h150 := h150 rfl
    go_wp2_with fail
    refine (MD.out _).mono ?_; rintro e w2 ⟨d, hi, c, M, rfl, hr⟩
    have hB : Blk w.heap.size #[.int .u8 (s0 : Int), .int .u8 (s1 : Int)] 50 w1 := hBk1.out
    have hnn := hr.dev
    have BL := Lib.hid fun w3 (h : DevAt d w1.heap.size hi (freshSt (1 + s0 % 16) zeroB) w3) => blocks_any w3 h
    have hn16 : 1 + s0 % 16 ≤ 16 := by omega
    have hn1 : 1 ≤ 1 + s0 % 16 := by omega
    clear hB
    generalize hng : 1 + s0 % 16 = n at *
    generalize 1 + s1 % 8 = most at *
    clear hng z0 z1 MD hBk1
    have BLK : Hid (Calls Try.prog 22 #[.pointer (some ⟨d, 0, none⟩)] w2 fun e w' => e = .returned (.int .i64 (n : Int)) ∧ w2 = w') := Lib.hid (BL.out w2 hnn)
    have hm := strings_made n (by omega) w2
    have hc0 : CellsAt w2.heap.size n (fun j => .string (if j < 0 then rep 0 else ⟨#[]⟩)) (w2.alloc (.cells (madeCells #[.string ⟨#[]⟩] n) 9)) := CellsAt.alloc_new _ _ _ _ _ fun j hj => by rw [if_neg (by omega)]; exact madeCells_at _ _ _ hj
    have hfr0 := hr.fresh (.cells (madeCells #[.string ⟨#[]⟩] n) 9)
    have hr0 := hr.kept1 (balloc1 w2 (.cells (madeCells #[.string ⟨#[]⟩] n) 9))
    have hgB : w1.heap.size ≤ w2.heap.size := hr.base
    have HI0 : Hid (CellsAt w2.heap.size n (fun j => .string (if j < 0 then rep 0 else ⟨#[]⟩)) (w2.alloc (.cells (madeCells #[.string ⟨#[]⟩] n) 9)) ∧ Free w1.heap.size hi M w2.heap.size (w2.alloc (.cells (madeCells #[.string ⟨#[]⟩] n) 9)) ∧ Run c d w1.heap.size hi M 0 ⟨freshSt n zeroB, most, []⟩ w1 (w2.alloc (.cells (madeCells #[.string ⟨#[]⟩] n) 9))) := Lib.hid ⟨hc0, hfr0, hr0⟩
    clear hc0 hfr0 hr0 hr hnn BL
    generalize (w2.alloc (.cells (madeCells #[.string ⟨#[]⟩] n) 9)) = w4 at *
    go_wp2_with fail
    refine BLK.out.mono ?_; rintro e w' ⟨rfl, rfl⟩
    generalize w2.heap.size = gw at *
    clear BLK
    go_wp2
    clear hm
    go_loopw [8] (fun q wr => ∃ k : Nat, q = .int .i64 k ∧ k ≤ n ∧ CellsAt gw n (fun j => .string (if j < k then rep 0 else ⟨#[]⟩)) wr ∧ Free w1.heap.size hi M gw wr ∧ Run c d w1.heap.size hi M 0 ⟨freshSt n zeroB, most, []⟩ w1 wr) (fun q _ => n - (intOf q).toNat)
    case atStart => exact ⟨0, rfl, Nat.zero_le _, HI0.out.1, HI0.out.2.1, HI0.out.2.2⟩
    case round =>
      obtain ⟨k, rfl, hk, hcw, hfw, hrw⟩ := hrel
      by_cases hlt : k < n
      · have F1 := Lib.hid (FL.out wr)
        have HX := Lib.hid (And.intro hcw (And.intro hfw hrw))
        clear hcw hfw hrw HI0
        go_wp2_with fail
        refine F1.out.mono ?_; rintro e w5 ⟨rfl, b⟩
        have hc5 := HX.out.1.kept1 b
        obtain ⟨q1, q2⟩ := hc5.2 k hlt
        have HY : Hid (CellsAt gw n (fun j => .string (if j < k + 1 then rep 0 else ⟨#[]⟩)) (w5.setCell ⟨gw, k, none⟩ (.string (rep 0))) ∧ Free w1.heap.size hi M gw (w5.setCell ⟨gw, k, none⟩ (.string (rep 0))) ∧ Run c d w1.heap.size hi M 0 ⟨freshSt n zeroB, most, []⟩ w1 (w5.setCell ⟨gw, k, none⟩ (.string (rep 0)))) := Lib.hid ⟨(hc5.set hlt (.string (rep 0))).congr fun j hj => by
            by_cases e : j = k
            · subst e; rw [upd_same, if_pos (Nat.lt_succ_self j)]
            · rw [upd_other _ e]
              by_cases e2 : j < k
              · rw [if_pos e2, if_pos (by omega)]
              · rw [if_neg e2, if_neg (by omega)], (HX.out.2.1.kept1 b).set _ _, (HX.out.2.2.kept1 b).store (HX.out.2.1.kept1 b) hgB _ _⟩
        clear HX hc5 b F1
        go_wp2
        exact ⟨⟨k + 1, by go_num, by omega, HY.out.1, HY.out.2.1, HY.out.2.2⟩, by simp [intOf]; omega⟩
      · obtain rfl : k = n := by omega
        have HRD : Hid (Reads c d w1.heap.size hi gw k (fun _ => rep 0) ⟨freshSt k zeroB, most, []⟩ M 0 w1 wr) := Lib.hid ⟨hrw, rfl, fun x hx => (by cases hx), fun j hj => rfl, hcw.congr fun j hj => by rw [if_pos hj], hfw, hgB⟩
        clear hcw hfw hrw HI0 FL
        go_wp2
        go_loopw [9] (fun q wr => ∃ (i : Nat) (M : Nat → Prop) (W : Nat → ByteArray) (C : CS), q = .int .i64 i ∧ i ≤ m ∧ Reads c d w1.heap.size hi gw k W C M i w1 wr ∧ C.st.acts ≤ i * 17) (fun q _ => m - (intOf q).toNat)
        case atStart => exact ⟨0, M, _, _, rfl, Nat.zero_le _, HRD.out, Nat.zero_le _⟩
        case round =>
          clear HRD
          rename_i M0
          obtain ⟨i, M, W, C, rfl, hiI, hR, hAc⟩ := hrel
          have HR := Lib.hid hR
          clear hR
          by_cases hlt : i < m
          · obtain ⟨g, o, rfl, hg, hc⟩ := H3.out (by omega)
            obtain ⟨c0, c1, c2, c3, c4, c5⟩ := hc i hlt
            have hx := HA.out.2 i hlt
            generalize A i = x at *
            have hbw := HB1.out.trans (HR.out.run.below.mono HB1.out.size)
            have c0 := (hbw.cell (p := ⟨g, o + i * 6, none⟩) hg).trans c0
            have c1 := (hbw.cell (p := ⟨g, o + i * 6 + 1, none⟩) hg).trans c1
            have c2 := (hbw.cell (p := ⟨g, o + i * 6 + 2, none⟩) hg).trans c2
            have c3 := (hbw.cell (p := ⟨g, o + i * 6 + 3, none⟩) hg).trans c3
            have c4 := (hbw.cell (p := ⟨g, o + i * 6 + 4, none⟩) hg).trans c4
            have c5 := (hbw.cell (p := ⟨g, o + i * 6 + 5, none⟩) hg).trans c5
            clear hc H3 hbw
            obtain ⟨w2, hw2⟩ : ∃ w2, wr.alloc (.cells #[.int .u8 (x.kind : Int), .int .i64 x.b, .int .i64 x.n, .int .u8 (x.fill : Int), .bool x.pin, .string x.data] 57) = w2 := ⟨_, rfl⟩
            have HBk : Hid (Blk wr.heap.size #[.int .u8 (x.kind : Int), .int .i64 x.b, .int .i64 x.n, .int .u8 (x.fill : Int), .bool x.pin, .string x.data] 57 w2) := Lib.hid (by rw [← hw2]; exact Blk.new _ _ _)
            have HF2 : Hid (Free w1.heap.size hi M wr.heap.size w2) := Lib.hid (by rw [← hw2]; exact HR.out.run.fresh _)
            have HR2 : Hid (Reads c d w1.heap.size hi gw k W C M i w1 w2) := Lib.hid (by rw [← hw2]; exact HR.out.kept1 (balloc1 _ _))
            have HD := Lib.hid (HR2.out.run.does x hx (by omega) (by omega))
            have HV := Lib.hid (does_view HR.out.run.cache.ok HR.out.tidy x)
            have HO := Lib.hid (does_ok HR.out.run.cache.ok x hx.n.2)
            have hfill := hx.fill
            have HN := Lib.hid HR.out.many
            have hk13 : x.kind % 13 < 13 := Nat.mod_lt _ (by omega)
            obtain ⟨j0, j1, j2, j3, j4, j5⟩ := act_blk HBk.out
            clear HR hx
            by_cases k3 : x.kind % 13 < 3
            · have t1 : ((x.kind : Int) % 13 == 7) = false := by rw [beq_eq_false_iff_ne]; omega
              have t2 : ((x.kind : Int) % 13 == 12) = false := by rw [beq_eq_false_iff_ne]; omega
              have t3 : decide ((x.kind : Int) % 13 < 3) = true := decide_eq_true (by omega)
              have t4 : decide (3 ≤ (x.kind : Int) % 13) = false := decide_eq_false (by omega)
              obtain ⟨v1, v2, -, -⟩ := HV.out (by omega) (by omega)
              obtain ⟨v3, v4⟩ := v2 k3
              have HVV := Lib.hid (And.intro v1 v3)
              have HO2 := HO.out
              clear v1 v2 v3 HV
              generalize doesR C x = R at *
              obtain ⟨tx, code, C2⟩ := R
              have hC2 : C2.st.acts ≤ (i + 1) * 17 := by have h1 := HO2.2.2.2; have h2 := HN.out; dsimp only at h1; omega
              by_cases hcode : code = 0
              · obtain ⟨w1b, w2b, w3b⟩ := v4 hcode
                subst hcode
                clear v4
                go_wp2_with fail
                refine HD.out.mono ?_; rintro e w3 ⟨rfl, M', hr3, hfr⟩
                obtain ⟨f1, f2⟩ := hfr _ HF2.out
                obtain ⟨f3, f4⟩ := hfr _ HR2.out.free
                have hsz3 := f2.lt
                have HBk3 : Hid (Blk wr.heap.size #[.int .u8 (x.kind : Int), .int .i64 x.b, .int .i64 x.n, .int .u8 (x.fill : Int), .bool x.pin, .string x.data] 57 w3) := Lib.hid (f1.trans HBk.out)
                have HW3 : Hid (CellsAt gw k (fun j => .string (W j)) w3) := Lib.hid ⟨f4.lt, fun j hj => ⟨(World.cell?_of_block (a := ⟨gw, j, none⟩) f3).trans (HR2.out.want.2 j hj).1, (World.frozen?_of_block (a := ⟨gw, j, none⟩) f3).trans (HR2.out.want.2 j hj).2⟩⟩
                have HF4 := Lib.hid f4
                have HR3 := Lib.hid hr3
                have HVW := Lib.hid HR2.out.seen
                have hgB := HR2.out.gB
                clear HD hfr f1 f2 f3 f4 HBk HR2 HF2 hr3 j0 j1 j2 j3 j4 j5 hw2 c0 c1 c2 c3 c4 c5
                obtain ⟨j0, j1, j2, j3, j4, j5⟩ := act_blk HBk3.out
                obtain ⟨bb, hbb⟩ := Int.eq_ofNat_of_zero_le w1b
                have hbn : bb < k := by have := HN.out; omega
                have u1 : w3.cell? ⟨gw, bb, none⟩ = some (.string tx) := by
                  have h2 := (HW3.out.2 bb hbn).1
                  have e2 : tx = view C bb := by rw [hbb] at w3b; exact w3b
                  rw [e2, ← HVW.out bb hbn]; exact h2
                rw [hbb] at j1
                have s1 : (tx.toList != tx.toList) = false := by simp
                have hbk : ((bb : Int) < (k : Int)) := by omega
                have HE : Hid (Reads c d w1.heap.size hi gw k W C2 M' (i + 1) w1 w3) := Lib.hid ⟨HR3.out, HO2.2.1.trans HN.out, HVV.out.1, fun j hj => (HVW.out j hj).trans (HVV.out.2 j).symm, HW3.out, HF4.out, hgB⟩
                clear HR3 HVV HW3 HF4 HBk3 HVW HN hbb w2b w3b HO
                go_wp2
                exact ⟨⟨i + 1, M', W, C2, by go_num, by omega, HE.out, hC2⟩, by simp [intOf]; omega⟩
              · have s1 : (code == 0) = false := by rw [beq_eq_false_iff_ne]; exact hcode
                clear v4
                go_wp2_with fail
                refine HD.out.mono ?_; rintro e w3 ⟨rfl, M', hr3, hfr⟩
                obtain ⟨f1, f2⟩ := hfr _ HF2.out
                obtain ⟨f3, f4⟩ := hfr _ HR2.out.free
                have hsz3 := f2.lt
                have HBk3 : Hid (Blk wr.heap.size #[.int .u8 (x.kind : Int), .int .i64 x.b, .int .i64 x.n, .int .u8 (x.fill : Int), .bool x.pin, .string x.data] 57 w3) := Lib.hid (f1.trans HBk.out)
                have HW3 : Hid (CellsAt gw k (fun j => .string (W j)) w3) := Lib.hid ⟨f4.lt, fun j hj => ⟨(World.cell?_of_block (a := ⟨gw, j, none⟩) f3).trans (HR2.out.want.2 j hj).1, (World.frozen?_of_block (a := ⟨gw, j, none⟩) f3).trans (HR2.out.want.2 j hj).2⟩⟩
                have HF4 := Lib.hid f4
                have HR3 := Lib.hid hr3
                have HVW := Lib.hid HR2.out.seen
                have hgB := HR2.out.gB
                clear HD hfr f1 f2 f3 f4 HBk HR2 HF2 hr3 j0 j1 j2 j3 j4 j5 hw2 c0 c1 c2 c3 c4 c5
                obtain ⟨j0, j1, j2, j3, j4, j5⟩ := act_blk HBk3.out
                have HE : Hid (Reads c d w1.heap.size hi gw k W C2 M' (i + 1) w1 w3) := Lib.hid ⟨HR3.out, HO2.2.1.trans HN.out, HVV.out.1, fun j hj => (HVW.out j hj).trans (HVV.out.2 j).symm, HW3.out, HF4.out, hgB⟩
                clear HR3 HVV HW3 HF4 HBk3 HVW HN HO
                go_wp2
                exact ⟨⟨i + 1, M', W, C2, by go_num, by omega, HE.out, hC2⟩, by simp [intOf]; omega⟩
            · by_cases k6 : x.kind % 13 < 6
              · have t1 : ((x.kind : Int) % 13 == 7) = false := by rw [beq_eq_false_iff_ne]; omega
                have t2 : ((x.kind : Int) % 13 == 12) = false := by rw [beq_eq_false_iff_ne]; omega
                have t3 : decide ((x.kind : Int) % 13 < 3) = false := decide_eq_false (by omega)
                have t4 : decide (3 ≤ (x.kind : Int) % 13) = true := decide_eq_true (by omega)
                have t5 : decide ((x.kind : Int) % 13 < 6) = true := decide_eq_true (by omega)
                obtain ⟨v1, -, v2, -⟩ := HV.out (by omega) (by omega)
                obtain ⟨v3, v4⟩ := v2 (by omega) k6
                have HV1 := Lib.hid v1
                have HO2 := HO.out
                clear v1 v2 HV
                generalize doesR C x = R at *
                obtain ⟨tx, code, C2⟩ := R
                have hC2 : C2.st.acts ≤ (i + 1) * 17 := by have h1 := HO2.2.2.2; have h2 := HN.out; dsimp only at h1; omega
                by_cases hcode : code = 0
                · obtain ⟨w1b, w2b, w3b⟩ := v4 hcode
                  subst hcode
                  clear v4 v3
                  go_wp2_with fail
                  refine HD.out.mono ?_; rintro e w3 ⟨rfl, M', hr3, hfr⟩
                  obtain ⟨f1, f2⟩ := hfr _ HF2.out
                  obtain ⟨f3, f4⟩ := hfr _ HR2.out.free
                  have hsz3 := f2.lt
                  have HBk3 : Hid (Blk wr.heap.size #[.int .u8 (x.kind : Int), .int .i64 x.b, .int .i64 x.n, .int .u8 (x.fill : Int), .bool x.pin, .string x.data] 57 w3) := Lib.hid (f1.trans HBk.out)
                  have HW3 : Hid (CellsAt gw k (fun j => .string (W j)) w3) := Lib.hid ⟨f4.lt, fun j hj => ⟨(World.cell?_of_block (a := ⟨gw, j, none⟩) f3).trans (HR2.out.want.2 j hj).1, (World.frozen?_of_block (a := ⟨gw, j, none⟩) f3).trans (HR2.out.want.2 j hj).2⟩⟩
                  have HF4 := Lib.hid f4
                  have HR3 := Lib.hid hr3
                  have HVW := Lib.hid HR2.out.seen
                  have hgB := HR2.out.gB
                  clear HD hfr f1 f2 f3 f4 HBk HR2 HF2 hr3 j0 j1 j2 j3 j4 j5 hw2 c0 c1 c2 c3 c4 c5
                  obtain ⟨j0, j1, j2, j3, j4, j5⟩ := act_blk HBk3.out
                  obtain ⟨bb, hbb⟩ := Int.eq_ofNat_of_zero_le w1b
                  have hbn : bb < k := by have := HN.out; omega
                  have hbk : ((bb : Int) < (k : Int)) := by omega
                  have hto : x.b.toNat = bb := by omega
                  have HWB : Hid (∀ j, view C2 j = if j = bb then whatC x else view C j) := Lib.hid (by rw [hto] at w3b; exact w3b)
                  rw [hbb] at j1
                  have WA := Lib.hid (fun w => WT.out x hfill w)
                  have kb : ∀ p : BelowP w3, p.to.cell? ⟨wr.heap.size, 0, none⟩ = some (.int .u8 (x.kind : Int)) ∧ p.to.cell? ⟨wr.heap.size, 1, none⟩ = some (.int .i64 x.b) ∧ p.to.cell? ⟨wr.heap.size, 2, none⟩ = some (.int .i64 x.n) ∧ p.to.cell? ⟨wr.heap.size, 3, none⟩ = some (.int .u8 (x.fill : Int)) ∧ p.to.cell? ⟨wr.heap.size, 4, none⟩ = some (.bool x.pin) ∧ p.to.cell? ⟨wr.heap.size, 5, none⟩ = some (.string x.data) := fun p => act_blk (HBk3.out.kept1 p.h)
                  have k0 := fun p => (kb p).1
                  have k1 := fun p => (kb p).2.1
                  have k2 := fun p => (kb p).2.2.1
                  have kk3 := fun p => (kb p).2.2.2.1
                  have k4 := fun p => (kb p).2.2.2.2.1
                  have k5 := fun p => (kb p).2.2.2.2.2
                  rw [hbb] at k1
                  have hxb : actV x = .agg #[.int .u8 (x.kind : Int), .int .i64 (bb : Int), .int .i64 x.n, .int .u8 (x.fill : Int), .bool x.pin, .string x.data] := by show Value.agg _ = _; rw [hbb]
                  rw [hxb] at WA
                  clear kb hbb w2b w3b hto w1b hxb
                  go_wp2
                  refine wp_region_tail_below 5 mixed (by kernel_rfl) ?_
                  simp only [List.take_succ_cons, List.take_zero, List.drop_succ_cons, List.drop_zero]
                  repeat (go_big_quiet_step (first | (go_at_call 24; refine calls_below (WA.out _))))
                  refine wpQuiet_nil ?_
                  intro w0q hw'
                  obtain ⟨⟨wq, bq⟩, hw''⟩ := hw'
                  have hw2 : wq = w0q := hw''.symm
                  clear hw''
                  subst hw2
                  have HWq := HW3.out.kept1 bq
                  obtain ⟨y1, y2⟩ := HWq.2 bb hbn
                  have HE : Hid (Reads c d w1.heap.size hi gw k (upd W bb (whatC x)) C2 M' (i + 1) w1 (wq.setCell ⟨gw, bb, none⟩ (.string (whatC x)))) := Lib.hid ⟨(HR3.out.kept1 bq).store (HF4.out.kept1 bq) hgB _ _, HO2.2.1.trans HN.out, HV1.out, fun j hj => by
                    rw [HWB.out j]
                    by_cases e : j = bb
                    · subst e; rw [upd_same, if_pos rfl]
                    · rw [upd_other _ e, if_neg e]; exact HVW.out j hj, (HWq.set hbn (.string (whatC x))).congr fun j hj => by
                    by_cases e : j = bb
                    · subst e; rw [upd_same, upd_same]
                    · rw [upd_other _ e, upd_other _ e], (HF4.out.kept1 bq).set _ _, hgB⟩
                  clear HR3 HV1 HW3 HF4 HBk3 HVW HN HO HWB HWq k0 k1 k2 kk3 k4 k5 j0 j1 j2 j3 j4 j5 bq WA
                  generalize whatC x = sx at *
                  go_wp2
                  exact ⟨⟨i + 1, M', _, C2, by go_num, by omega, HE.out, hC2⟩, by simp [intOf]; omega⟩
                · have s1 : (code == 0) = false := by rw [beq_eq_false_iff_ne]; exact hcode
                  have HVV := Lib.hid (And.intro HV1.out (v3 hcode))
                  clear v4 v3 HV1
                  go_wp2_with fail
                  refine HD.out.mono ?_; rintro e w3 ⟨rfl, M', hr3, hfr⟩
                  obtain ⟨f1, f2⟩ := hfr _ HF2.out
                  obtain ⟨f3, f4⟩ := hfr _ HR2.out.free
                  have hsz3 := f2.lt
                  have HBk3 : Hid (Blk wr.heap.size #[.int .u8 (x.kind : Int), .int .i64 x.b, .int .i64 x.n, .int .u8 (x.fill : Int), .bool x.pin, .string x.data] 57 w3) := Lib.hid (f1.trans HBk.out)
                  have HW3 : Hid (CellsAt gw k (fun j => .string (W j)) w3) := Lib.hid ⟨f4.lt, fun j hj => ⟨(World.cell?_of_block (a := ⟨gw, j, none⟩) f3).trans (HR2.out.want.2 j hj).1, (World.frozen?_of_block (a := ⟨gw, j, none⟩) f3).trans (HR2.out.want.2 j hj).2⟩⟩
                  have HF4 := Lib.hid f4
                  have HR3 := Lib.hid hr3
                  have HVW := Lib.hid HR2.out.seen
                  have hgB := HR2.out.gB
                  clear HD hfr f1 f2 f3 f4 HBk HR2 HF2 hr3 j0 j1 j2 j3 j4 j5 hw2 c0 c1 c2 c3 c4 c5
                  obtain ⟨j0, j1, j2, j3, j4, j5⟩ := act_blk HBk3.out
                  have HE : Hid (Reads c d w1.heap.size hi gw k W C2 M' (i + 1) w1 w3) := Lib.hid ⟨HR3.out, HO2.2.1.trans HN.out, HVV.out.1, fun j hj => (HVW.out j hj).trans (HVV.out.2 j).symm, HW3.out, HF4.out, hgB⟩
                  clear HR3 HVV HW3 HF4 HBk3 HVW HN HO
                  go_wp2
                  exact ⟨⟨i + 1, M', W, C2, by go_num, by omega, HE.out, hC2⟩, by simp [intOf]; omega⟩
              · by_cases k7 : x.kind % 13 = 7
                · have t1 : ((x.kind : Int) % 13 == 7) = true := by rw [beq_iff_eq]; omega
                  have HE := Lib.hid (HR2.out.more (Nat.le_succ i))
                  clear HR2 HD HV HO HN HF2 HBk
                  go_wp2
                  exact ⟨⟨i + 1, M, W, C, by go_num, by omega, HE.out, by omega⟩, by simp [intOf]; omega⟩
                · by_cases k12 : x.kind % 13 = 12
                  · have t1 : ((x.kind : Int) % 13 == 7) = false := by rw [beq_eq_false_iff_ne]; omega
                    have t2 : ((x.kind : Int) % 13 == 12) = true := by rw [beq_iff_eq]; omega
                    have HE := Lib.hid (HR2.out.more (Nat.le_succ i))
                    clear HR2 HD HV HO HN HF2 HBk
                    go_wp2
                    exact ⟨⟨i + 1, M, W, C, by go_num, by omega, HE.out, by omega⟩, by simp [intOf]; omega⟩
                  · have t1 : ((x.kind : Int) % 13 == 7) = false := by rw [beq_eq_false_iff_ne]; omega
                    have t2 : ((x.kind : Int) % 13 == 12) = false := by rw [beq_eq_false_iff_ne]; omega
                    have t3 : decide ((x.kind : Int) % 13 < 3) = false := decide_eq_false (by omega)
                    have t4 : decide (3 ≤ (x.kind : Int) % 13) = true := decide_eq_true (by omega)
                    have t5 : decide ((x.kind : Int) % 13 < 6) = false := decide_eq_false (by omega)
                    obtain ⟨v1, -, -, v2⟩ := HV.out (by omega) (by omega)
                    have HVV := Lib.hid (And.intro v1 (v2 (by omega)))
                    have HO2 := HO.out
                    clear v1 v2 HV
                    generalize doesR C x = R at *
                    obtain ⟨tx, code, C2⟩ := R
                    have hC2 : C2.st.acts ≤ (i + 1) * 17 := by have h1 := HO2.2.2.2; have h2 := HN.out; dsimp only at h1; omega
                    go_wp2_with fail
                    refine HD.out.mono ?_; rintro e w3 ⟨rfl, M', hr3, hfr⟩
                    obtain ⟨f1, f2⟩ := hfr _ HF2.out
                    obtain ⟨f3, f4⟩ := hfr _ HR2.out.free
                    have hsz3 := f2.lt
                    have HBk3 : Hid (Blk wr.heap.size #[.int .u8 (x.kind : Int), .int .i64 x.b, .int .i64 x.n, .int .u8 (x.fill : Int), .bool x.pin, .string x.data] 57 w3) := Lib.hid (f1.trans HBk.out)
                    have HW3 : Hid (CellsAt gw k (fun j => .string (W j)) w3) := Lib.hid ⟨f4.lt, fun j hj => ⟨(World.cell?_of_block (a := ⟨gw, j, none⟩) f3).trans (HR2.out.want.2 j hj).1, (World.frozen?_of_block (a := ⟨gw, j, none⟩) f3).trans (HR2.out.want.2 j hj).2⟩⟩
                    have HF4 := Lib.hid f4
                    have HR3 := Lib.hid hr3
                    have HVW := Lib.hid HR2.out.seen
                    have hgB := HR2.out.gB
                    clear HD hfr f1 f2 f3 f4 HBk HR2 HF2 hr3 j0 j1 j2 j3 j4 j5 hw2 c0 c1 c2 c3 c4 c5
                    obtain ⟨j0, j1, j2, j3, j4, j5⟩ := act_blk HBk3.out
                    have HE : Hid (Reads c d w1.heap.size hi gw k W C2 M' (i + 1) w1 w3) := Lib.hid ⟨HR3.out, HO2.2.1.trans HN.out, HVV.out.1, fun j hj => (HVW.out j hj).trans (HVV.out.2 j).symm, HW3.out, HF4.out, hgB⟩
                    clear HR3 HVV HW3 HF4 HBk3 HVW HN HO
                    go_wp2
                    exact ⟨⟨i + 1, M', W, C2, by go_num, by omega, HE.out, hC2⟩, by simp [intOf]; omega⟩
          · obtain rfl : i = m := by omega
            have HB := Lib.hid (HB1.out.trans (HR.out.run.below.mono HB1.out.size))
            clear HR H3 HA
            go_wp2_with fail
            refine (AL.out _).mono ?_; rintro e wz ⟨rfl, b⟩
            have HB2 := Lib.hid (bnext HB.out b)
            clear b
            go_wp2
            go_ret
            exact ⟨rfl, HB2.out⟩
end Go.Proofs.Yticbielifcjpdaa
