/- The walk of BuffersSync. -/
import Derived.Test.YticbielifcjpdaaCMath2
namespace Go.Proofs.Yticbielifcjpdaa
set_option linter.unusedVariables false
open Go.RowKit

/-- how many of the first k are not pinned -/
def manyOf (L P : List Nat) (k : Nat) : Nat := (L.take k).countP fun b : Nat => !(P.any fun x => (x : Int) == (b : Int))
theorem manyOf_next {L P : List Nat} {k : Nat} (h : k < L.length) : manyOf L P (k + 1) = manyOf L P k + if (P.any fun x => (x : Int) == (L[k] : Int)) then 0 else 1 := by
  unfold manyOf
  rw [List.take_add_one, List.getElem?_eq_getElem h]
  show (List.take k L ++ [L[k]]).countP _ = _
  rw [List.countP_append, List.countP_cons, List.countP_nil]
  cases (P.any fun x => (x : Int) == (L[k] : Int)) <;> rfl
theorem manyOf_le (L P : List Nat) (k : Nat) : manyOf L P k ≤ k := Nat.le_trans List.countP_le_length (by rw [List.length_take]; omega)
theorem manyOf_all (C : CS) : manyOf (listB C true false) (listB C false true) (listB C true false).length = cntT (wants C) C.st.n := by
  unfold manyOf
  rw [List.take_length, many_is]
theorem listB_len (C : CS) (d p : Bool) : (listB C d p).length ≤ C.st.n := pendL_len _ _
/-- what the last loop goes by -/
structure Seen (c d B hi : Nat) (D1 C : CS) (M : Nat → Prop) (U : Nat) (w0 w : World) : Prop where
  run : Run c d B hi M U C w0 w
  tidy : clean C
  st : C.st = D1.st
  same : alike C D1
set_option maxRecDepth 100000 in
set_option maxHeartbeats 16000000 in
theorem sync_walk (s0 s1 : Nat) (h0 : s0 < 256) (h1 : s1 < 256) (v : Value) (m : Nat) (A : Nat → ActC) (bl : Int) (hbl : I64 bl) (w : World) (h : ActsIn v m A w) :
    Calls Try.prog 6 #[.agg #[.int .u8 (s0 : Int), .int .u8 (s1 : Int)], v, .int .i64 bl] w fun e w' => e = .returned (.bool true) ∧ Below w.heap.size w w' := by
  have mixed : Try.prog.follows .mixedOrders = true := by kernel_rfl
  have b1 := balloc1 w (.cells #[.int .u8 (s0 : Int), .int .u8 (s1 : Int)] 50)
  have GR := Lib.hid (great_any v m A _ (h.kept b1))
  have MD := Lib.hid (cmade_any s0 s1 h0 h1)
  have AL := Lib.hid alive_any
  obtain ⟨ad, cap, rfl, q1, q2, q3⟩ := h.shape
  have H3 := Lib.hid q3
  have HA := Lib.hid h
  have hHB := Lib.hid b1
  have hBk := Lib.hid (Blk.new #[.int .u8 (s0 : Int), .int .u8 (s1 : Int)] 50 w)
  clear h q3 b1
  go_enter Try.func6, Try.ntmps6
  go_wp2_with fail
  refine GR.out.mono ?_; rintro e w1 ⟨gb, rfl, h150, bb⟩
  have HB1 := Lib.hid (bnext hHB.out bb)
  have hbk1 := hBk.out.kept1 bb
  have z0 : w1.cell? ⟨w.heap.size, 0, none⟩ = some (.int .u8 (s0 : Int)) := hbk1.cell 0
  have z1 : w1.cell? ⟨w.heap.size, 1, none⟩ = some (.int .u8 (s1 : Int)) := hbk1.cell 1
  have hBk1 := Lib.hid hbk1
  clear GR bb hHB hBk hbk1
  cases gb with
  | true =>
    go_wp2
    go_ret
    exact ⟨rfl, HB1.out⟩
  | false =>
    have h150 := h150 rfl
    have z2 : Blk w.heap.size #[.int .u8 (s0 : Int), .int .u8 (s1 : Int)] 50 w1 := hBk1.out
    go_wp2_with fail
    refine (MD.out _).mono ?_; rintro e w2 ⟨d, hi, c, M, rfl, hr⟩
    have hn16 : 1 + s0 % 16 ≤ 16 := by omega
    generalize 1 + s0 % 16 = n at *
    generalize 1 + s1 % 8 = most at *
    have HR0 := Lib.hid hr
    clear hr MD z0 z1 z2 hBk1
    go_wp2
    go_loopw [9] (fun q wr => ∃ (i : Nat) (M : Nat → Prop) (C : CS), q = .int .i64 i ∧ i ≤ m ∧ Run c d w1.heap.size hi M i C w1 wr ∧ clean C ∧ C.st.n = n ∧ C.st.acts ≤ i * 17) (fun q _ => m - (intOf q).toNat)
    case atStart => exact ⟨0, M, _, rfl, Nat.zero_le _, HR0.out, (fun x hx => by cases hx), rfl, Nat.zero_le _⟩
    case round =>
      clear HR0
      rename_i M0
      obtain ⟨i, M, C, rfl, hiI, hR, hcl, hn, hac⟩ := hrel
      have HR := Lib.hid hR
      clear hR
      by_cases hlt : i < m
      · obtain ⟨g, o, rfl, hg, hc⟩ := H3.out (by omega)
        obtain ⟨c0, c1, c2, c3, c4, c5⟩ := hc i hlt
        have hx := HA.out.2 i hlt
        generalize A i = x at *
        have hbw := HB1.out.trans (HR.out.below.mono HB1.out.size)
        have c0 := (hbw.cell (p := ⟨g, o + i * 6, none⟩) hg).trans c0
        have c1 := (hbw.cell (p := ⟨g, o + i * 6 + 1, none⟩) hg).trans c1
        have c2 := (hbw.cell (p := ⟨g, o + i * 6 + 2, none⟩) hg).trans c2
        have c3 := (hbw.cell (p := ⟨g, o + i * 6 + 3, none⟩) hg).trans c3
        have c4 := (hbw.cell (p := ⟨g, o + i * 6 + 4, none⟩) hg).trans c4
        have c5 := (hbw.cell (p := ⟨g, o + i * 6 + 5, none⟩) hg).trans c5
        clear hc H3 hbw
        by_cases k12 : x.kind % 13 = 12
        · have t1 : ((x.kind : Int) % 13 != 12) = false := by rw [bne_eq_false_iff_eq]; omega
          have HR2 := Lib.hid (And.intro hcl (And.intro hn hac))
          clear hcl hn hac
          go_wp2
          exact ⟨⟨i + 1, M, C, by go_num, by omega, ⟨HR.out.cache.more (Nat.le_succ i), HR.out.below, HR.out.young⟩, HR2.out.1, HR2.out.2.1, by have := HR2.out.2.2; omega⟩, by simp [intOf]; omega⟩
        · have t1 : ((x.kind : Int) % 13 != 12) = true := by rw [bne_iff_ne]; omega
          have D := Lib.hid (HR.out.does x hx (by omega) (by omega))
          have HC := Lib.hid (does_clean HR.out.cache.ok hcl x k12)
          have HO := Lib.hid (does_ok HR.out.cache.ok x hx.n.2)
          have HN := Lib.hid (And.intro hn hac)
          clear HR hx hcl hn hac
          go_wp2_with fail
          refine D.out.mono ?_; rintro e w3 ⟨rfl, M', hr3, hfr⟩
          have HR3 := Lib.hid hr3
          clear D hr3 hfr c0 c1 c2 c3 c4 c5
          go_wp2
          exact ⟨⟨i + 1, M', _, by go_num, by omega, HR3.out, HC.out, HO.out.2.1.trans HN.out.1, by have h1 := HO.out.2.2.2; have h2 := HN.out; omega⟩, by simp [intOf]; omega⟩
      · obtain rfl : i = m := by omega
        have HM1 := Lib.hid (HR.out.armF (-1) ⟨by omega, by omega⟩)
        have HC1 := Lib.hid (on_view (C := C) (S := C.st.armed (-1)) hcl fun _ => rfl).1
        have HNA : Hid ((C.on (C.st.armed (-1))).st.n = n ∧ (C.on (C.st.armed (-1))).st.acts ≤ 2550 ∧ (C.on (C.st.armed (-1))).st.left = -1) := Lib.hid ⟨hn, by show C.st.acts ≤ 2550; omega, rfl⟩
        clear HR hcl hn hac H3 HA
        generalize C.on (C.st.armed (-1)) = C1 at *
        go_wp2_with fail
        refine HM1.out.mono ?_; rintro e w3 ⟨rfl, M1, hr3, -⟩
        have AC := Lib.hid (acts_any w3 hr3.dev)
        have DI := Lib.hid (dirty_any w3 hr3.cache)
        have HR3 := Lib.hid hr3
        have ha1 := HNA.out.2.1
        clear HM1 hr3
        generalize hac1 : C1.st.acts = ac1 at *
        go_wp2_with fail
        refine AC.out.mono ?_; rintro e w' ⟨rfl, rfl⟩
        clear AC
        go_wp2_with fail
        refine DI.out.mono ?_; rintro e w4 ⟨vd, rfl, hvd, b4⟩
        have PI := Lib.hid (pinned_any w4 (HR3.out.kept1 b4).cache)
        have HFD := Lib.hid (hvd.free HR3.out (Nat.le_refl _))
        have HR4 := Lib.hid (HR3.out.kept1 b4)
        clear DI hvd b4 HR3
        go_wp2_with fail
        refine PI.out.mono ?_; rintro e w5 ⟨vp, rfl, hvp, b5⟩
        have HFP := Lib.hid (hvp.free HR4.out (Nat.le_refl _))
        have HFD5 := Lib.hid (HFD.out.kept1 b5)
        have HR5 := Lib.hid (HR4.out.kept1 b5)
        clear PI hvp b5 HR4 HFD
        obtain ⟨ad5, cd5, rfl, e5, f5⟩ := HFD5.out.shape
        have hdl := listB_len C1 true false
        have hpl := listB_len C1 false true
        rw [HNA.out.1] at hdl hpl
        have HMA := Lib.hid (manyOf_all C1)
        obtain ⟨D, hD⟩ : ∃ D, D = listB C1 true false := ⟨_, rfl⟩
        obtain ⟨P, hP⟩ : ∃ P, P = listB C1 false true := ⟨_, rfl⟩
        rw [← hD, ← hP] at HMA
        rw [← hD] at HFD5 hdl e5
        rw [← hP] at HFP hpl
        rw [← hD]
        have HDP := Lib.hid (And.intro hD hP)
        clear hD hP
        go_wp2
        go_loopw [11, 14] (fun a q wr => ∃ k : Nat, q = .int .i64 k ∧ k ≤ D.length ∧ a = .int .i64 (manyOf D P k : Int) ∧ wr = w5) (fun _ q _ => D.length - (intOf q).toNat)
        case atStart => exact ⟨0, rfl, Nat.zero_le _, rfl, rfl⟩
        case round =>
          obtain ⟨k, rfl, hk, rfl, rfl⟩ := hrel
          by_cases hlk : k < D.length
          · obtain ⟨gk, rfl, hck⟩ := HFD5.out.cell hlk
            have IN := in_any vp P (D[k] : Int) (by omega) wr HFP.out.in
            have hnx := manyOf_next (P := P) hlk
            have hml := manyOf_le D P k
            have HX0 := Lib.hid hnx
            clear hnx
            generalize manyOf D P k = mk0 at *
            generalize D[k] = dk at *
            cases hp : (P.any fun x => (x : Int) == (dk : Int)) with
            | true =>
              rw [hp] at IN HX0
              have IN := Lib.hid IN
              clear hp
              go_wp2_with fail
              refine IN.out.mono ?_; rintro e w' ⟨rfl, rfl⟩
              clear IN hck
              go_wp2
              exact ⟨⟨k + 1, by go_num, by omega, by rw [HX0.out]; rfl, by first | trivial | rfl⟩, by simp [intOf]; omega⟩
            | false =>
              rw [hp] at IN HX0
              have IN := Lib.hid IN
              clear hp
              go_wp2_with fail
              refine IN.out.mono ?_; rintro e w' ⟨rfl, rfl⟩
              clear IN hck
              go_wp2
              exact ⟨⟨k + 1, by go_num, by omega, by rw [HX0.out]; rfl, by first | trivial | rfl⟩, by simp [intOf]; omega⟩
          · obtain rfl : k = D.length := by omega
            rw [HMA.out]
            have hwl := cntT_le (wants C1) C1.st.n
            rw [HNA.out.1] at hwl
            have SY := HR5.out.syncF (by rw [hac1]; omega)
            obtain ⟨t1, t2, t3⟩ := sync_synced HR5.out.cache.ok HNA.out.2.2
            have HC2 := Lib.hid (sync_view HR5.out.cache.ok HC1.out C1.st.n).1
            rw [t1] at SY
            have SY := Lib.hid SY
            rw [hac1, HNA.out.1] at t2
            rw [HNA.out.1]
            have HT3 := Lib.hid t3
            clear t3 t1
            go_wp2_with fail
            refine SY.out.mono ?_; rintro e w6 ⟨rfl, M2, hr6, hfr⟩
            have HFP6 := Lib.hid (HFP.out.kept hfr)
            have HR6 := Lib.hid hr6
            have hC2 : (syncC C1).2 = (syncTo C1 C1.st.n).2 := rfl
            rw [← hC2] at HC2
            generalize hC2' : (syncC C1).2 = C2 at *
            clear hC2 hC2' SY hfr hr6 HFP HFD5 HR5
            have HA2 : Hid (C2.st.acts ≤ 1000000) := Lib.hid (by omega)
            have AC := acts_any w6 HR6.out.dev
            rw [t2] at AC
            have AC := Lib.hid AC
            clear t2
            generalize cntT (wants C1) n = mw at *
            go_wp2_with fail
            refine AC.out.mono ?_; rintro e w' ⟨rfl, rfl⟩
            clear AC
            have DI := Lib.hid (dirty_any w6 HR6.out.cache)
            go_wp2_with fail
            refine DI.out.mono ?_; rintro e w7 ⟨vd, rfl, hvd, b7⟩
            have HFD7 := Lib.hid (hvd.free HR6.out (Nat.le_refl _))
            have HFP7 := Lib.hid (HFP6.out.kept1 b7)
            have HR7 := Lib.hid (HR6.out.kept1 b7)
            clear DI hvd b7 HR6 HFP6 hac1
            obtain ⟨ad7, cd7, rfl, e7, f7⟩ := HFD7.out.shape
            have hdl2 := listB_len C2 true false
            rw [HT3.out.n, HNA.out.1] at hdl2
            obtain ⟨D2, hD2⟩ : ∃ D2, D2 = listB C2 true false := ⟨_, rfl⟩
            rw [← hD2] at HFD7 hdl2 e7
            rw [← hD2]
            have HD2 := Lib.hid hD2
            clear hD2
            go_wp2
            go_loopw [15] (fun q wr => ∃ k : Nat, q = .int .i64 k ∧ k ≤ D2.length ∧ wr = w7) (fun q _ => D2.length - (intOf q).toNat)
            case atStart => exact ⟨0, rfl, Nat.zero_le _, rfl⟩
            case round =>
              obtain ⟨k, rfl, hk, rfl⟩ := hrel
              by_cases hlk : k < D2.length
              · obtain ⟨gk, rfl, hck⟩ := HFD7.out.cell hlk
                have IN := in_any vp P (D2[k] : Int) (by omega) wr HFP7.out.in
                have hyes : (P.any fun x => (x : Int) == (D2[k] : Int)) = true := by
                  have h1 : D2[k] ∈ listB C2 true false := HD2.out ▸ List.getElem_mem hlk
                  obtain ⟨h2, h3⟩ := (list_mem C2 true false D2[k]).1 h1
                  rw [HT3.out.n] at h2
                  rw [HDP.out.2, list_any C1 false true _ h2]
                  exact synced_dirty HT3.out h2 h3
                rw [hyes] at IN
                have IN := Lib.hid IN
                clear hyes
                generalize D2[k] = dk at *
                go_wp2_with fail
                refine IN.out.mono ?_; rintro e w' ⟨rfl, rfl⟩
                clear IN hck
                go_wp2
                exact ⟨⟨k + 1, by go_num, by omega, by first | trivial | rfl⟩, by simp [intOf]; omega⟩
              · obtain rfl : k = D2.length := by omega
                have HSE : Hid (Seen c d w1.heap.size hi C2 C2 M2 i w1 wr ∧ FreeNats w1.heap.size hi M2 vp P wr ∧ FreeNats w1.heap.size hi M2 (.slice ad7 D2.length cd7) D2 wr) := Lib.hid ⟨⟨HR7.out, HC2.out, rfl, fun _ => rfl⟩, HFP7.out, HFD7.out⟩
                have hi150 : i ≤ 150 := by omega
                clear HFP7 HFD7 HR7 HC2
                have hn2 : C2.st.n = n := HT3.out.n.trans HNA.out.1
                go_wp2
                go_loopw [16] (fun q wr => ∃ (k : Nat) (U : Nat) (C : CS) (M : Nat → Prop), q = .int .i64 k ∧ k ≤ n ∧ U ≤ 150 + k ∧ Seen c d w1.heap.size hi C2 C M U w1 wr ∧ FreeNats w1.heap.size hi M vp P wr ∧ FreeNats w1.heap.size hi M (.slice ad7 D2.length cd7) D2 wr) (fun q _ => n - (intOf q).toNat)
                case atStart => exact ⟨0, i, C2, M2, rfl, Nat.zero_le _, by omega, HSE.out⟩
                case round =>
                  clear HSE
                  obtain ⟨k, U, C, M, rfl, hk, hU, hS, hp, hd⟩ := hrel
                  have HS := Lib.hid hS
                  have HP := Lib.hid hp
                  have HD := Lib.hid hd
                  clear hS hp hd
                  have hnC : C.st.n = n := by rw [HS.out.st]; exact hn2
                  have BL := blocks_any wr HS.out.run.dev
                  rw [hnC] at BL
                  have BL := Lib.hid BL
                  by_cases hlk : k < n
                  · have HH := HS.out.run.hasF k (by omega)
                    have hme : (D2.any fun x => (x : Int) == (k : Int)) = hasB C true false k := by
                      rw [HD2.out, list_any C2 true false k (by rw [hn2]; exact hlk), alike_has HS.out.same]
                    have IN := fun cd => in_any (.slice ad7 D2.length cd) D2 (k : Int) (by omega) wr
                    rw [hme] at IN
                    have IN := Lib.hid (IN cd7 HD.out.in)
                    have hkk : (k : Int) < (n : Int) := by omega
                    clear hme
                    cases hh : hasB C false false k with
                    | false =>
                      rw [hh] at HH
                      have HH := Lib.hid HH
                      clear hh
                      go_wp2_with fail
                      refine BL.out.mono ?_; rintro e w' ⟨rfl, rfl⟩
                      clear BL
                      go_wp2_with fail
                      refine HH.out.mono ?_; rintro e w' ⟨rfl, rfl⟩
                      clear HH IN
                      have HE := Lib.hid (And.intro HS.out (And.intro HP.out HD.out))
                      clear HS HP HD hnC
                      go_wp2
                      exact ⟨⟨k + 1, U, C, M, by go_num, by omega, by omega, HE.out⟩, by simp [intOf]; omega⟩
                    | true =>
                      cases hd : hasB C true false k with
                      | true =>
                        rw [hh] at HH
                        have HH := Lib.hid HH
                        rw [hd] at IN
                        clear hh hd
                        go_wp2_with fail
                        refine BL.out.mono ?_; rintro e w' ⟨rfl, rfl⟩
                        clear BL
                        go_wp2_with fail
                        refine HH.out.mono ?_; rintro e w' ⟨rfl, rfl⟩
                        clear HH
                        go_wp2_with fail
                        refine IN.out.mono ?_; rintro e w' ⟨rfl, rfl⟩
                        clear IN
                        have HE := Lib.hid (And.intro HS.out (And.intro HP.out HD.out))
                        clear HS HP HD hnC
                        go_wp2
                        exact ⟨⟨k + 1, U, C, M, by go_num, by omega, by omega, HE.out⟩, by simp [intOf]; omega⟩
                      | false =>
                        obtain ⟨g1, g2, g3, g4, g5⟩ := get_here (C := C) (b := k) (by omega) hh hd HS.out.tidy
                        have G := HS.out.run.getF (k : Int) ⟨by omega, by omega⟩ (by rw [HS.out.st]; exact HA2.out) (by omega)
                        rw [g1, g2] at G
                        have G := Lib.hid G
                        rw [hh] at HH
                        have HH := Lib.hid HH
                        rw [hd] at IN
                        have hr1 : rText C.st k = C.st.now k := by unfold rText; rw [if_pos ⟨by omega, by omega⟩]; rfl
                        have hr2 : rCode C.st k = 0 := by unfold rCode; rw [if_pos ⟨by omega, by omega⟩]
                        have HRR := Lib.hid (And.intro hr1 hr2)
                        have HG := Lib.hid (And.intro g3 (And.intro g4 g5))
                        clear hh hd g1 g2 g3 g4 g5 hr1 hr2
                        go_wp2_with fail
                        refine BL.out.mono ?_; rintro e w' ⟨rfl, rfl⟩
                        clear BL
                        go_wp2_with fail
                        refine HH.out.mono ?_; rintro e w' ⟨rfl, rfl⟩
                        clear HH
                        go_wp2_with fail
                        refine IN.out.mono ?_; rintro e w' ⟨rfl, rfl⟩
                        clear IN
                        generalize hC3 : (getC C (k : Int)).2.2 = C3 at *
                        clear hC3
                        go_wp2_with fail
                        refine G.out.mono ?_; rintro e w8 ⟨rfl, M3, hr8, hfr⟩
                        have RD := read_any (k : Int) w8 hr8.dev
                        rw [HG.out.1, HRR.out.1, HRR.out.2] at RD
                        have RD := Lib.hid RD
                        have HE : Hid (Seen c d w1.heap.size hi C2 C3 M3 (U + 1) w1 w8 ∧ FreeNats w1.heap.size hi M3 vp P w8 ∧ FreeNats w1.heap.size hi M3 (.slice ad7 D2.length cd7) D2 w8) := Lib.hid ⟨⟨hr8, HG.out.2.2, HG.out.1.trans HS.out.st, fun b => (HG.out.2.1 b).trans (HS.out.same b)⟩, HP.out.kept hfr, HD.out.kept hfr⟩
                        clear G hr8 hfr HS HP HD HRR HG hnC
                        generalize C.st.now k = tx at *
                        go_wp2_with fail
                        refine RD.out.mono ?_; rintro e w' ⟨rfl, rfl⟩
                        clear RD
                        have hs1 : (tx.toList != tx.toList) = false := by simp
                        go_wp2
                        exact ⟨⟨k + 1, U + 1, C3, M3, by go_num, by omega, by omega, HE.out⟩, by simp [intOf]; omega⟩
                  · obtain rfl : k = n := by omega
                    go_wp2_with fail
                    refine BL.out.mono ?_; rintro e w' ⟨rfl, rfl⟩
                    clear BL
                    have FO := Lib.hid (HS.out.run.forgetF bl hbl)
                    have HSY := Lib.hid (synced_alike HT3.out HS.out.same (hnC.trans hn2.symm))
                    have hhas := forget_gone C bl
                    have hno : ∀ dd pp, ((listB (forgetC C bl) dd pp).any fun x => (x : Int) == bl) = false := fun dd pp => list_any_no _ dd pp bl fun kk hkk => by rw [forget_has, bne_eq_false_iff_eq.2 hkk, Bool.and_false]
                    have HNO := Lib.hid hno
                    have HWO : Hid (wo P bl = listB (forgetC C bl) false true) := Lib.hid (by rw [HDP.out.2]; exact forget_list HSY.out bl)
                    have HLN : Hid (∀ dd pp, (listB (forgetC C bl) dd pp).length ≤ k) := Lib.hid fun dd pp => by have := listB_len (forgetC C bl) dd pp; have e : (forgetC C bl).st.n = k := hnC; omega
                    clear HSY HD hno
                    generalize forgetC C bl = C4 at *
                    go_wp2_with fail
                    refine FO.out.mono ?_; rintro e w8 ⟨rfl, M4, hr8, hfr⟩
                    have HP8 := Lib.hid (HP.out.kept hfr)
                    have HR8 := Lib.hid hr8
                    clear FO hfr hr8 HS HP
                    have HH := has_raw bl hbl w8 HR8.out.cache
                    rw [hhas] at HH
                    have HH := Lib.hid HH
                    clear hhas
                    go_wp2_with fail
                    refine HH.out.mono ?_; rintro e w' ⟨rfl, rfl⟩
                    have DI := Lib.hid (dirty_any w8 HR8.out.cache)
                    clear HH
                    go_wp2_with fail
                    refine DI.out.mono ?_; rintro e w9 ⟨v9, rfl, hv9, b9⟩
                    have IN := in_any v9 _ bl (Nat.le_trans (HLN.out _ _) (by omega)) w9 (natsAt_in hv9)
                    rw [HNO.out] at IN
                    have IN := Lib.hid IN
                    have HP9 := Lib.hid (HP8.out.kept1 b9)
                    have HR9 := Lib.hid (HR8.out.kept1 b9)
                    clear DI hv9 b9 HP8 HR8
                    go_wp2_with fail
                    refine IN.out.mono ?_; rintro e w' ⟨rfl, rfl⟩
                    have DI := Lib.hid (pinned_any w9 HR9.out.cache)
                    clear IN
                    go_wp2_with fail
                    refine DI.out.mono ?_; rintro e w10 ⟨v10, rfl, hv10, b10⟩
                    have IN := in_any v10 _ bl (Nat.le_trans (HLN.out _ _) (by omega)) w10 (natsAt_in hv10)
                    rw [HNO.out] at IN
                    have IN := Lib.hid IN
                    have HP10 := Lib.hid (HP9.out.kept1 b10)
                    have HR10 := Lib.hid (HR9.out.kept1 b10)
                    clear DI hv10 b10 HP9 HR9
                    go_wp2_with fail
                    refine IN.out.mono ?_; rintro e w' ⟨rfl, rfl⟩
                    have WO := without_any vp P bl (by omega) w10 HP10.out.in
                    rw [HWO.out] at WO
                    have WO := Lib.hid WO
                    clear IN HP10
                    go_wp2_with fail
                    refine WO.out.mono ?_; rintro e w11 ⟨v11, rfl, hv11, b11⟩
                    have HR11 := Lib.hid (HR10.out.kept1 b11)
                    have HV11 := Lib.hid (natsAt_in hv11)
                    have DI := Lib.hid (pinned_any w11 HR11.out.cache)
                    clear WO hv11 b11 HR10
                    go_wp2_with fail
                    refine DI.out.mono ?_; rintro e w12 ⟨v12, rfl, hv12, b12⟩
                    have SA := Lib.hid (same_yes v11 v12 _ (Nat.le_trans (HLN.out _ _) (by omega)) w12 (HV11.out.kept b12) (natsAt_in hv12))
                    have HR12 := Lib.hid (HR11.out.kept1 b12)
                    clear DI hv12 b12 HR11 HV11
                    go_wp2_with fail
                    refine SA.out.mono ?_; rintro e w13 ⟨rfl, b13⟩
                    have HB13 := Lib.hid (HB1.out.trans ((HR12.out.kept1 b13).below.mono HB1.out.size))
                    clear SA b13 HR12
                    go_wp2_with fail
                    refine (AL.out _).mono ?_; rintro e w14 ⟨rfl, b14⟩
                    have HB14 := Lib.hid (bnext HB13.out b14)
                    clear b14 HB13
                    go_wp2
                    go_ret
                    exact ⟨rfl, HB14.out⟩
end Go.Proofs.Yticbielifcjpdaa
