/- The walk of BuffersPins. -/
import Derived.Test.YticbielifcjpdaaCMath3
import Derived.Deep.CutBlock
import Derived.Deep.DeepCutAuto
namespace Go.Proofs.Yticbielifcjpdaa
set_option linter.unusedVariables false
open Go.RowKit

/-- what a round goes by -/
structure Pins (c d B hi n most a : Nat) (s z : ByteArray) (C : CS) (M : Nat → Prop) (U : Nat) (w0 w : World) : Prop where
  run : Run c d B hi M U C w0 w
  pin : pinned C a s z
  many : C.st.n = n
  most : C.most = most
  acts : C.st.acts ≤ U * 17
theorem Pins.kept1 {c d B hi n most a U : Nat} {s z : ByteArray} {C : CS} {M : Nat → Prop} {w0 w w' : World} (h : Pins c d B hi n most a s z C M U w0 w) (b : Below w.heap.size w w') : Pins c d B hi n most a s z C M U w0 w' :=
  ⟨h.run.kept1 b, h.pin, h.many, h.most, h.acts⟩
theorem Pins.more {c d B hi n most a U U' : Nat} {s z : ByteArray} {C : CS} {M : Nat → Prop} {w0 w : World} (h : Pins c d B hi n most a s z C M U w0 w) (hU : U ≤ U') : Pins c d B hi n most a s z C M U' w0 w :=
  ⟨⟨h.run.cache.more hU, h.run.below, h.run.young⟩, h.pin, h.many, h.most, by have := h.acts; omega⟩
set_option maxRecDepth 100000 in
set_option maxHeartbeats 16000000 in
theorem pins_walk (s0 s1 : Nat) (h0 : s0 < 256) (h1 : s1 < 256) (v : Value) (m : Nat) (A : Nat → ActC) (bl : Nat) (hbl : bl < 256) (w : World) (h : ActsIn v m A w) :
    Calls Try.prog 5 #[.agg #[.int .u8 (s0 : Int), .int .u8 (s1 : Int)], v, .int .u8 (bl : Int)] w fun e w' => e = .returned (.bool true) ∧ Below w.heap.size w w' := by
  have mixed : Try.prog.follows .mixedOrders = true := by kernel_rfl
  have b1 := balloc1 w (.cells #[.int .u8 (s0 : Int), .int .u8 (s1 : Int)] 50)
  have GR := Lib.hid (great_any v m A _ (h.kept b1))
  have MD := Lib.hid (cmade_any s0 s1 h0 h1)
  have AL := Lib.hid alive_any
  have FP0 : ∀ w, Calls Try.prog 13 #[.int .u8 112] w fun e w' => e = .returned (.string (rep 112)) ∧ Below w.heap.size w w' := fun w => fill_of 112 (by omega) w
  have FZ0 : ∀ w, Calls Try.prog 13 #[.int .u8 0] w fun e w' => e = .returned (.string (rep 0)) ∧ Below w.heap.size w w' := fun w => fill_of 0 (by omega) w
  have PF0 := fun (n most a : Nat) (hm : 1 ≤ most) (ha : a < n) => put_first (n := n) (most := most) (a := a) hm ha
  generalize rep 112 = sp at FP0 PF0
  generalize rep 0 = sz at FZ0 PF0
  have FP := Lib.hid FP0
  have FZ := Lib.hid FZ0
  have PF := Lib.hid PF0
  clear FP0 FZ0 PF0
  have WT := Lib.hid what_any
  obtain ⟨ad, cap, rfl, q1, q2, q3⟩ := h.shape
  have H3 := Lib.hid q3
  have HA := Lib.hid h
  have hHB := Lib.hid b1
  have hBk := Lib.hid (Blk.new #[.int .u8 (s0 : Int), .int .u8 (s1 : Int)] 50 w)
  have hW1 : w.heap.size < (w.alloc (.cells #[.int .u8 (s0 : Int), .int .u8 (s1 : Int)] 50)).heap.size := by rw [size_alloc]; omega
  clear h q3 b1
  go_enter Try.func5, Try.ntmps5
  go_wp2_with fail
  refine GR.out.mono ?_; rintro e w1 ⟨gb, rfl, h150, bb⟩
  have HB1 := Lib.hid (bnext hHB.out bb)
  have hW1 : w.heap.size < w1.heap.size := Nat.lt_of_lt_of_le hW1 bb.size
  have hbk1 := hBk.out.kept1 bb
  have z0 : w1.cell? ⟨w.heap.size, 0, none⟩ = some (.int .u8 (s0 : Int)) := hbk1.cell 0
  have z1 : w1.cell? ⟨w.heap.size, 1, none⟩ = some (.int .u8 (s1 : Int)) := hbk1.cell 1
  have hBk1 := Lib.hid hbk1
  clear GR bb hHB hBk hbk1
  cases gb with
  | true =>
    go_wp2
    go_ret
    exact ⟨rfl, HB1.out⟩
  | false =>
    have h150 := h150 rfl
    have z2 : Blk w.heap.size #[.int .u8 (s0 : Int), .int .u8 (s1 : Int)] 50 w1 := hBk1.out
    go_wp2_with fail
    refine (MD.out _).mono ?_; rintro e w2 ⟨d, hi, c, M, rfl, hr⟩
    have hn16 : 1 + s0 % 16 ≤ 16 := by omega
    have hn1 : 1 ≤ 1 + s0 % 16 := by omega
    have hm1 : 1 ≤ 1 + s1 % 8 := by omega
    have hm8 : 1 + s1 % 8 ≤ 8 := by omega
    have HE1 : Hid ((s1 : Int) % 8 = ((1 + s1 % 8 : Nat) : Int) - 1) := Lib.hid (by omega)
    generalize 1 + s0 % 16 = n at *
    generalize 1 + s1 % 8 = most at *
    have Z1 := Lib.hid z1
    have BL := Lib.hid (blocks_any w2 hr.dev)
    have HR0 := Lib.hid hr
    have hzn : (bl : Int) % (n : Int) = ((bl % n : Nat) : Int) := by omega
    have han : bl % n < n := Nat.mod_lt _ (by omega)
    clear hr MD z0 z1 z2 hBk1
    have hfn : (freshSt n zeroB).n = n := rfl
    go_wp2_with fail
    refine BL.out.mono ?_; rintro e w' ⟨rfl, rfl⟩
    clear BL
    rw [hfn]
    clear hfn
    generalize bl % n = a at *
    go_wp2_with fail
    refine (FP.out _).mono ?_; rintro e w3 ⟨rfl, b3⟩
    rw [hzn]
    obtain ⟨p1, p2, p3, p4⟩ := PF.out n most a hm1 han
    have PU := (HR0.out.kept1 b3).putF (a : Int) ⟨by omega, by omega⟩ sp true (Nat.zero_le _) (by omega)
    rw [p1] at PU
    have PU := Lib.hid PU
    have HPP := Lib.hid (And.intro p2 (And.intro p3 p4))
    clear HR0 b3 p1 p2 p3 p4 hzn
    generalize (putC ⟨freshSt n zeroB, most, []⟩ (a : Int) sp true).2 = C1 at *
    go_wp2_with fail
    refine PU.out.mono ?_; rintro e w4 ⟨rfl, M1, hr4, -⟩
    have HP4 : Hid (Pins c d w1.heap.size hi n most a sp sz C1 M1 1 w1 w4) := Lib.hid ⟨hr4, HPP.out.1, by rw [HPP.out.2.1]; rfl, HPP.out.2.2, by rw [HPP.out.2.1]; exact Nat.zero_le _⟩
    clear PU hr4 HPP
    go_wp2_with fail
    refine (FP.out _).mono ?_; rintro e w5 ⟨rfl, b5⟩
    have HP5 := Lib.hid (HP4.out.kept1 b5)
    clear HP4 b5 FP PF
    go_wp2
    go_loopw [10, 11] (fun ls q wr => ∃ (i : Nat) (M : Nat → Prop) (C : CS) (s : ByteArray), q = .int .i64 i ∧ ls = .string s ∧ i ≤ m ∧ Pins c d w1.heap.size hi n most a s sz C M (i + 1) w1 wr) (fun _ q _ => m - (intOf q).toNat)
    case atStart => exact ⟨0, M1, C1, sp, rfl, rfl, Nat.zero_le _, HP5.out⟩
    case round =>
      clear HP5
      rename_i M0
      obtain ⟨i, M, C, s, rfl, rfl, hiI, hR⟩ := hrel
      have HR := Lib.hid hR
      clear hR
      by_cases hlt : i < m
      · obtain ⟨g, o, rfl, hg, hc⟩ := H3.out (by omega)
        obtain ⟨c0, c1, c2, c3, c4, c5⟩ := hc i hlt
        have hx := HA.out.2 i hlt
        generalize A i = x at *
        have hbw := HB1.out.trans (HR.out.run.below.mono HB1.out.size)
        have c0 := (hbw.cell (p := ⟨g, o + i * 6, none⟩) hg).trans c0
        have c1 := (hbw.cell (p := ⟨g, o + i * 6 + 1, none⟩) hg).trans c1
        have c2 := (hbw.cell (p := ⟨g, o + i * 6 + 2, none⟩) hg).trans c2
        have c3 := (hbw.cell (p := ⟨g, o + i * 6 + 3, none⟩) hg).trans c3
        have c4 := (hbw.cell (p := ⟨g, o + i * 6 + 4, none⟩) hg).trans c4
        have c5 := (hbw.cell (p := ⟨g, o + i * 6 + 5, none⟩) hg).trans c5
        clear hc H3 hbw
        obtain ⟨w2, hw2⟩ : ∃ w2, wr.alloc (.cells #[.int .u8 (x.kind : Int), .int .i64 x.b, .int .i64 x.n, .int .u8 (x.fill : Int), .bool x.pin, .string x.data] 57) = w2 := ⟨_, rfl⟩
        have HBk : Hid (Blk wr.heap.size #[.int .u8 (x.kind : Int), .int .i64 x.b, .int .i64 x.n, .int .u8 (x.fill : Int), .bool x.pin, .string x.data] 57 w2) := Lib.hid (by rw [← hw2]; exact Blk.new _ _ _)
        have HF2 : Hid (Free w1.heap.size hi M wr.heap.size w2) := Lib.hid (by rw [← hw2]; exact HR.out.run.fresh _)
        have HR2 : Hid (Pins c d w1.heap.size hi n most a s sz C M (i + 1) w1 w2) := Lib.hid (by rw [← hw2]; exact HR.out.kept1 (balloc1 _ _))
        have hfill := hx.fill
        have hk13 : x.kind % 13 < 13 := Nat.mod_lt _ (by omega)
        obtain ⟨j0, j1, j2, j3, j4, j5⟩ := act_blk HBk.out
        have HX := Lib.hid hx
        clear HR hx
        go_upto_region 15 with fail
        go_cut [73] (fun t wx => ∃ β : Bool, t = .bool β ∧ (β = true ↔ skipP x a) ∧ wx = w2)
        case first =>
          by_cases k6 : x.kind % 13 = 6
          · have t6 : ((x.kind : Int) % 13 == 6) = true := by rw [beq_iff_eq]; omega
            by_cases ea : x.b = (a : Int)
            · have e1 : (x.b == (a : Int)) = true := beq_iff_eq.2 ea
              have EA : Hid (skipP x a) := Lib.hid ⟨by omega, ea⟩
              clear ea
              go_wp2
              go_meet
              case rel => exact ⟨true, rfl, ⟨fun _ => EA.out, fun _ => rfl⟩, rfl⟩
            · have e1 : (x.b == (a : Int)) = false := beq_eq_false_iff_ne.2 ea
              have EA : Hid (¬ skipP x a) := Lib.hid fun h => ea h.2
              clear ea
              go_wp2
              go_meet
              case rel => exact ⟨false, rfl, ⟨fun h => (by cases h), fun h => absurd h EA.out⟩, rfl⟩
          · have t6 : ((x.kind : Int) % 13 == 6) = false := by rw [beq_eq_false_iff_ne]; omega
            by_cases k7 : x.kind % 13 = 7
            · have t7 : ((x.kind : Int) % 13 == 7) = true := by rw [beq_iff_eq]; omega
              by_cases ea : x.b = (a : Int)
              · have e1 : (x.b == (a : Int)) = true := beq_iff_eq.2 ea
                have EA : Hid (skipP x a) := Lib.hid ⟨by omega, ea⟩
                clear ea
                go_wp2
                go_meet
                case rel => exact ⟨true, rfl, ⟨fun _ => EA.out, fun _ => rfl⟩, rfl⟩
              · have e1 : (x.b == (a : Int)) = false := beq_eq_false_iff_ne.2 ea
                have EA : Hid (¬ skipP x a) := Lib.hid fun h => ea h.2
                clear ea
                go_wp2
                go_meet
                case rel => exact ⟨false, rfl, ⟨fun h => (by cases h), fun h => absurd h EA.out⟩, rfl⟩
            · have t7 : ((x.kind : Int) % 13 == 7) = false := by rw [beq_eq_false_iff_ne]; omega
              by_cases k12 : x.kind % 13 = 12
              · have t12 : ((x.kind : Int) % 13 == 12) = true := by rw [beq_iff_eq]; omega
                by_cases ea : x.b = (a : Int)
                · have e1 : (x.b == (a : Int)) = true := beq_iff_eq.2 ea
                  have EA : Hid (skipP x a) := Lib.hid ⟨by omega, ea⟩
                  clear ea
                  go_wp2
                  go_meet
                  case rel => exact ⟨true, rfl, ⟨fun _ => EA.out, fun _ => rfl⟩, rfl⟩
                · have e1 : (x.b == (a : Int)) = false := beq_eq_false_iff_ne.2 ea
                  have EA : Hid (¬ skipP x a) := Lib.hid fun h => ea h.2
                  clear ea
                  go_wp2
                  go_meet
                  case rel => exact ⟨false, rfl, ⟨fun h => (by cases h), fun h => absurd h EA.out⟩, rfl⟩
              · have t12 : ((x.kind : Int) % 13 == 12) = false := by rw [beq_eq_false_iff_ne]; omega
                go_wp2
                go_meet
                case rel => exact ⟨false, rfl, ⟨fun h => (by cases h), fun h => (by rcases h.1 with h | h | h <;> omega)⟩, rfl⟩
        case rest =>
          obtain ⟨β, rfl, hβ, rfl⟩ := hcut
          cases β with
          | true =>
            have HE := Lib.hid (HR2.out.more (Nat.le_succ (i + 1)))
            clear HR2 HF2 HBk j0 j1 j2 j3 j4 j5 hw2 hβ c0 c1 c2 c3 c4 c5
            go_wp2
            exact ⟨⟨i + 1, M, C, s, by go_num, rfl, by omega, HE.out⟩, by simp [intOf]; omega⟩
          | false =>
            have hns : ¬ skipP x a := fun h => (by have := hβ.2 h; cases this)
            have hac := HR2.out.acts
            have D := Lib.hid (HR2.out.run.does x HX.out (by omega) (by omega))
            have HO := Lib.hid (does_ok HR2.out.run.cache.ok x HX.out.n.2)
            have HDP := Lib.hid (does_pinned HR2.out.run.cache.ok HR2.out.pin x hns)
            have HN := Lib.hid (And.intro HR2.out.many (And.intro HR2.out.most HR2.out.acts))
            clear hβ hns hac
            generalize doesR C x = R at *
            obtain ⟨tx, code, C2⟩ := R
            go_wp2_with fail
            refine D.out.mono ?_; rintro e w3 ⟨rfl, M', hr3, hfr⟩
            obtain ⟨f1, f2⟩ := hfr _ HF2.out
            have HBk3 : Hid (Blk wr.heap.size #[.int .u8 (x.kind : Int), .int .i64 x.b, .int .i64 x.n, .int .u8 (x.fill : Int), .bool x.pin, .string x.data] 57 w3) := Lib.hid (f1.trans HBk.out)
            have HR3 := Lib.hid hr3
            clear D hfr f1 f2 HBk HF2 HR2 hr3 j0 j1 j2 j3 j4 j5 hw2 c0 c1 c2 c3 c4 c5
            obtain ⟨j0, j1, j2, j3, j4, j5⟩ := act_blk HBk3.out
            go_upto_region 17 with fail
            go_cut [96] (fun t wx => ∃ β : Bool, t = .bool β ∧ (β = true ↔ setP x a code) ∧ wx = w3)
            case first =>
              by_cases k3 : 3 ≤ x.kind % 13
              · have t3 : decide (3 ≤ (x.kind : Int) % 13) = true := decide_eq_true (by omega)
                by_cases k6 : x.kind % 13 < 6
                · have t6 : decide ((x.kind : Int) % 13 < 6) = true := decide_eq_true (by omega)
                  by_cases ea : x.b = (a : Int)
                  · have e1 : (x.b == (a : Int)) = true := beq_iff_eq.2 ea
                    have EA := Lib.hid ea
                    clear ea
                    by_cases ec : code = 0
                    · have e2 : (code == 0) = true := beq_iff_eq.2 ec
                      have EC := Lib.hid ec
                      clear ec
                      go_wp2
                      go_meet
                      case rel => exact ⟨true, rfl, ⟨fun _ => ⟨⟨k3, k6⟩, EA.out, EC.out⟩, fun _ => rfl⟩, rfl⟩
                    · have e2 : (code == 0) = false := beq_eq_false_iff_ne.2 ec
                      have EC : Hid (¬ code = 0) := Lib.hid ec
                      clear ec
                      go_wp2
                      go_meet
                      case rel => exact ⟨false, rfl, ⟨fun h => (by cases h), fun h => absurd h.2.2 EC.out⟩, rfl⟩
                  · have e1 : (x.b == (a : Int)) = false := beq_eq_false_iff_ne.2 ea
                    have EA : Hid (¬ x.b = (a : Int)) := Lib.hid ea
                    clear ea
                    go_wp2
                    go_meet
                    case rel => exact ⟨false, rfl, ⟨fun h => (by cases h), fun h => absurd h.2.1 EA.out⟩, rfl⟩
                · have t6 : decide ((x.kind : Int) % 13 < 6) = false := decide_eq_false (by omega)
                  go_wp2
                  go_meet
                  case rel => exact ⟨false, rfl, ⟨fun h => (by cases h), fun h => absurd h.1.2 k6⟩, rfl⟩
              · have t3 : decide (3 ≤ (x.kind : Int) % 13) = false := decide_eq_false (by omega)
                go_wp2
                go_meet
                case rel => exact ⟨false, rfl, ⟨fun h => (by cases h), fun h => absurd h.1.1 k3⟩, rfl⟩
            case rest =>
              obtain ⟨β, rfl, hβ, rfl⟩ := hcut
              have HBE := Lib.hid hβ
              clear hβ
              go_upto_if 96 with fail
              go_cut [10] (fun ls wx => ∃ s', ls = .string s' ∧ Pins c d w1.heap.size hi n most a s' sz C2 M' (i + 2) w1 wx)
              case first =>
                cases β with
                | true =>
                  have WC := Lib.hid (WT.out x hfill wc)
                  go_wp2_with fail
                  refine WC.out.mono ?_; rintro e w4 ⟨rfl, b4⟩
                  have HE : Hid (Pins c d w1.heap.size hi n most a (whatC x) sz C2 M' (i + 2) w1 w4) := Lib.hid ⟨HR3.out.kept1 b4, HDP.out.1 (HBE.out.1 (by simp)), HO.out.2.1.trans HN.out.1, HO.out.2.2.1.trans HN.out.2.1, by have h1 := HO.out.2.2.2; have h2 := HN.out; (try dsimp only at h1); omega⟩
                  clear WC b4
                  generalize whatC x = wcx at *
                  go_wp2
                  go_meet
                  case rel => exact ⟨_, rfl, HE.out⟩
                | false =>
                  have HE : Hid (Pins c d w1.heap.size hi n most a s sz C2 M' (i + 2) w1 wc) := Lib.hid ⟨HR3.out, HDP.out.2 (fun h => by have := HBE.out.2 h; simp at this), HO.out.2.1.trans HN.out.1, HO.out.2.2.1.trans HN.out.2.1, by have h1 := HO.out.2.2.2; have h2 := HN.out; (try dsimp only at h1); omega⟩
                  go_wp2
                  go_meet
                  case rel => exact ⟨_, rfl, HE.out⟩
              case rest =>
                obtain ⟨s', rfl, hp⟩ := hcut
                have HP := Lib.hid hp
                clear hp HBE HO HN HDP HR3 HBk3 j0 j1 j2 j3 j4 j5 HX WT
                have RD := read_any (a : Int) wc HP.out.run.dev
                have hr1 : rText C2.st a = sz := by unfold rText; rw [if_pos ⟨by omega, by have := HP.out.many; omega⟩]; exact HP.out.pin.2
                have hr2 : rCode C2.st a = 0 := by unfold rCode; rw [if_pos ⟨by omega, by have := HP.out.many; omega⟩]
                rw [hr1, hr2] at RD
                have RD := Lib.hid RD
                have BL := blocks_any wc HP.out.run.dev
                rw [HP.out.many] at BL
                have BL := Lib.hid BL
                clear hr1 hr2
                go_wp2_with fail
                refine RD.out.mono ?_; rintro e w' ⟨rfl, rfl⟩
                clear RD
                go_wp2
                go_loopw [18, 19] (fun z q wr => ∃ k : Nat, q = .int .i64 k ∧ k ≤ n ∧ z = .int .i64 (cntT (hasB C2 false false) k : Int) ∧ wr = wc) (fun _ q _ => n - (intOf q).toNat)
                case atStart => exact ⟨0, rfl, Nat.zero_le _, rfl, rfl⟩
                case round =>
                  obtain ⟨k, rfl, hk, rfl, rfl⟩ := hrel
                  by_cases hlk : k < n
                  · have HH := HP.out.run.hasF k (by omega)
                    have hkk : (k : Int) < (n : Int) := by omega
                    have hcl := cntT_le (hasB C2 false false) k
                    cases hh : hasB C2 false false k with
                    | true =>
                      rw [hh] at HH
                      have HH := Lib.hid HH
                      have HC : Hid (cntT (hasB C2 false false) (k + 1) = cntT (hasB C2 false false) k + 1) := Lib.hid (by show cntT _ k + (if hasB C2 false false k then 1 else 0) = _; rw [hh]; rfl)
                      clear hh
                      generalize cntT (hasB C2 false false) k = ck at *
                      go_wp2_with fail
                      refine BL.out.mono ?_; rintro e w' ⟨rfl, rfl⟩
                      go_wp2_with fail
                      refine HH.out.mono ?_; rintro e w' ⟨rfl, rfl⟩
                      clear HH
                      go_wp2
                      exact ⟨⟨k + 1, by go_num, by omega, by rw [HC.out]; rfl, by first | trivial | rfl⟩, by simp [intOf]; omega⟩
                    | false =>
                      rw [hh] at HH
                      have HH := Lib.hid HH
                      have HC : Hid (cntT (hasB C2 false false) (k + 1) = cntT (hasB C2 false false) k) := Lib.hid (by show cntT _ k + (if hasB C2 false false k then 1 else 0) = _; rw [hh]; rfl)
                      clear hh
                      generalize cntT (hasB C2 false false) k = ck at *
                      go_wp2_with fail
                      refine BL.out.mono ?_; rintro e w' ⟨rfl, rfl⟩
                      go_wp2_with fail
                      refine HH.out.mono ?_; rintro e w' ⟨rfl, rfl⟩
                      clear HH
                      go_wp2
                      exact ⟨⟨k + 1, by go_num, by omega, by rw [HC.out], by first | trivial | rfl⟩, by simp [intOf]; omega⟩
                  · obtain rfl : k = n := by omega
                    have hcm := cnt_most HP.out.run.cache.ok k
                    rw [HP.out.most] at hcm
                    have hmny : ¬ (1 + (s1 : Int) % 8 < (cntT (hasB C2 false false) k : Int)) := by have := HE1.out; omega
                    generalize cntT (hasB C2 false false) k = ck at *
                    clear hcm
                    go_wp2_with fail
                    refine BL.out.mono ?_; rintro e w' ⟨rfl, rfl⟩
                    clear BL
                    go_wp2_with fail
                    refine (FZ.out _).mono ?_; rintro e w4 ⟨rfl, b4⟩
                    have HP4 := Lib.hid (HP.out.kept1 b4)
                    have HH := HP4.out.run.hasF a (by omega)
                    rw [pinned_has HP4.out.pin] at HH
                    have HH := Lib.hid HH
                    have hs1 : (sz.toList != sz.toList) = false := by simp
                    clear b4 HP
                    go_wp2_with fail
                    refine HH.out.mono ?_; rintro e w' ⟨rfl, rfl⟩
                    have DI := Lib.hid (pinned_any w4 HP4.out.run.cache)
                    clear HH
                    go_wp2_with fail
                    refine DI.out.mono ?_; rintro e w5 ⟨v5, rfl, hv5, b5⟩
                    have hlen := pendL_len (hasB C2 false true) C2.st.n
                    have IN := in_any v5 (listB C2 false true) (a : Int) (by show (pendL _ _).length ≤ _; have := HP4.out.many; omega) w5 (natsAt_in hv5)
                    rw [list_any C2 false true a (by have := HP4.out.many; omega), pinned_has HP4.out.pin] at IN
                    have IN := Lib.hid IN
                    have HP5 := Lib.hid (HP4.out.kept1 b5)
                    clear DI hv5 b5 HP4 hlen
                    go_wp2_with fail
                    refine IN.out.mono ?_; rintro e w' ⟨rfl, rfl⟩
                    have DI := Lib.hid (dirty_any w5 HP5.out.run.cache)
                    clear IN
                    go_wp2_with fail
                    refine DI.out.mono ?_; rintro e w6 ⟨v6, rfl, hv6, b6⟩
                    have hlen := pendL_len (hasB C2 true false) C2.st.n
                    have IN := in_any v6 (listB C2 true false) (a : Int) (by show (pendL _ _).length ≤ _; have := HP5.out.many; omega) w6 (natsAt_in hv6)
                    rw [list_any C2 true false a (by have := HP5.out.many; omega), pinned_has HP5.out.pin] at IN
                    have IN := Lib.hid IN
                    have HP6 := Lib.hid (HP5.out.kept1 b6)
                    clear DI hv6 b6 HP5 hlen
                    go_wp2_with fail
                    refine IN.out.mono ?_; rintro e w' ⟨rfl, rfl⟩
                    have z1 : w6.cell? ⟨w.heap.size, 1, none⟩ = some (.int .u8 (s1 : Int)) := (HP6.out.run.below.cell (p := ⟨w.heap.size, 1, none⟩) hW1).trans Z1.out
                    clear IN
                    go_wp2
                    exact ⟨⟨i + 1, M', C2, s', by go_num, rfl, by omega, HP6.out⟩, by simp [intOf]; omega⟩
      · obtain rfl : i = m := by omega
        have hac := HR.out.acts
        have hmn := HR.out.many
        have GT := HR.out.run.getF (a : Int) ⟨by omega, by omega⟩ (by omega) (by omega)
        obtain ⟨g1, g2⟩ := get_pin HR.out.pin (by omega)
        have HG := get_ok HR.out.run.cache.ok (a : Int)
        have hpin := get_pinned HR.out.run.cache.ok HR.out.pin (a : Int)
        rw [g1, g2] at GT
        have GT := Lib.hid GT
        have HPP := Lib.hid (And.intro hpin (And.intro (HG.2.1.trans hmn) (show (getC C (a : Int)).2.2.st.acts ≤ 3000 by have := HG.2.2.2; omega)))
        clear HR H3 HA g1 g2 HG hpin hac hmn
        generalize (getC C (a : Int)).2.2 = C2 at *
        go_wp2_with fail
        refine GT.out.mono ?_; rintro e w2 ⟨rfl, M2, hr2, -⟩
        have AR := Lib.hid (hr2.armF (-1) ⟨by omega, by omega⟩)
        have HP3 : Hid (pinned (C2.on (C2.st.armed (-1))) a s sz ∧ (C2.on (C2.st.armed (-1))).st.n = n ∧ (C2.on (C2.st.armed (-1))).st.acts ≤ 3000 ∧ (C2.on (C2.st.armed (-1))).st.left = -1) := Lib.hid ⟨⟨HPP.out.1.1, HPP.out.1.2⟩, HPP.out.2.1, HPP.out.2.2, rfl⟩
        clear GT hr2 HPP
        generalize C2.on (C2.st.armed (-1)) = C3 at *
        go_wp2_with fail
        refine AR.out.mono ?_; rintro e w3 ⟨rfl, M3, hr3, -⟩
        have UN := Lib.hid (hr3.unpinF (a : Int) ⟨by omega, by omega⟩)
        obtain ⟨u1, u2, u3⟩ := end_pin hr3.cache.ok HP3.out.1 (by have := HP3.out.2.1; omega) HP3.out.2.2.2
        have hua : (unpinC C3 a).st = C3.st := rfl
        clear AR hr3
        go_wp2_with fail
        refine UN.out.mono ?_; rintro e w4 ⟨rfl, M4, hr4, -⟩
        have OU := hr4.outF (a : Int) ⟨by omega, by omega⟩ (by rw [hua]; have := HP3.out.2.2.1; omega)
        rw [u1] at OU
        have OU := Lib.hid OU
        have hon := (out_ok hr4.cache.ok (a : Int)).2.1
        rw [hua, HP3.out.2.1] at hon
        have HU := Lib.hid (And.intro u2 (And.intro u3 hon))
        clear UN hr4 u1 u2 u3 hua hon HP3
        generalize (outC (unpinC C3 (a : Int)) (a : Int)).2 = C5 at *
        go_wp2_with fail
        refine OU.out.mono ?_; rintro e w5 ⟨rfl, M5, hr5, -⟩
        have RD := read_any (a : Int) w5 hr5.dev
        have hr1 : rText C5.st a = s := by unfold rText; rw [if_pos ⟨by omega, by have := HU.out.2.2; omega⟩]; exact HU.out.1
        have hr2 : rCode C5.st a = 0 := by unfold rCode; rw [if_pos ⟨by omega, by have := HU.out.2.2; omega⟩]
        rw [hr1, hr2] at RD
        have RD := Lib.hid RD
        have HR5 := Lib.hid hr5
        clear OU hr5 hr1 hr2
        go_wp2_with fail
        refine RD.out.mono ?_; rintro e w' ⟨rfl, rfl⟩
        have DI := Lib.hid (dirty_any w5 HR5.out.cache)
        have hs1 : (s.toList == s.toList) = true := by simp
        clear RD
        go_wp2_with fail
        refine DI.out.mono ?_; rintro e w6 ⟨v6, rfl, hv6, b6⟩
        have hlen := pendL_len (hasB C5 true false) C5.st.n
        have IN := in_any v6 (listB C5 true false) (a : Int) (by show (pendL _ _).length ≤ _; have := HU.out.2.2; omega) w6 (natsAt_in hv6)
        rw [list_any C5 true false a (by have := HU.out.2.2; omega), HU.out.2.1] at IN
        have IN := Lib.hid IN
        have HB6 := Lib.hid (HB1.out.trans ((HR5.out.kept1 b6).below.mono HB1.out.size))
        clear DI hv6 b6 HR5 hlen HU
        go_wp2_with fail
        refine IN.out.mono ?_; rintro e w' ⟨rfl, rfl⟩
        clear IN
        go_wp2_with fail
        refine (AL.out _).mono ?_; rintro e w7 ⟨rfl, b7⟩
        have HB7 := Lib.hid (bnext HB6.out b7)
        clear b7 HB6
        go_wp2
        go_ret
        exact ⟨rfl, HB7.out⟩
end Go.Proofs.Yticbielifcjpdaa
