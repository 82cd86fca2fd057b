/- The document's rising and May. -/
import Derived.Test.YtfgjogaoogiddaaKValid
namespace Go.Proofs.Ytfgjogaoogiddaa
set_option linter.unusedVariables false
open Go.RowKit

set_option maxHeartbeats 4000000 in
theorem rising_any (l : List Int) (most : Int) (hm : I64 most) (hf : ∀ x ∈ l, I64 x) (v : Value) (w : World) (hv : IntsIn v l w) :
    Calls Try.prog 43 #[v, .int .i64 most] w fun e w' => e = .returned (.bool (decide (HomesOk l most))) ∧ Below w.heap.size w w' := by
  obtain ⟨ad, cap, rfl, h1, h2, h3, -⟩ := hv.shape
  by_cases c1 : 1 ≤ l.length
  · by_cases c2 : (l.length : Int) ≤ most
    · have H3 := Lib.hid (row_cells h3)
      have HF := Lib.hid hf
      clear hv h3 hf
      go_enter Try.func43, Try.ntmps43
      go_wp2
      go_loopw [5] (fun q wr => ∃ k : Nat, q = .int .i64 k ∧ k ≤ l.length ∧ Hid (upTo l k) ∧ Below w.heap.size w wr) (fun q _ => l.length - (intOf q).toNat)
      case atStart => exact ⟨0, rfl, Nat.zero_le _, Lib.hid (upTo_zero l), Below.refl _ _⟩
      case round =>
        obtain ⟨k, rfl, hk, HU, hb⟩ := hrel
        by_cases hlt : k < l.length
        · obtain ⟨g, o, rfl, hg, hc⟩ := H3.out (by omega)
          have hh : hat l k = l[k] := hat_eq hlt
          have q1 : ∀ q, (wr.drewN q).cell? ⟨g, o + k, none⟩ = some (.int .i64 l[k]) := fun _ => (hb.cell (p := ⟨g, o + k, none⟩) hg).trans (hc k hlt)
          have hbx := HF.out _ (List.getElem_mem hlt)
          have HN : Hid (prevH l k < l[k] ∧ l[k] < 4096 → upTo l (k + 1)) := Lib.hid fun h => upTo_succ.2 ⟨HU.out, by unfold upAt; rw [hh]; exact h⟩
          have HD : Hid (¬ (prevH l k < l[k] ∧ l[k] < 4096) → decide (HomesOk l most) = false) := Lib.hid fun h => by
            rw [decide_eq_false_iff_not]
            intro hh2
            have := hh2.2.2 k hlt
            unfold upAt at this; rw [hh] at this; exact h this
          by_cases k0 : k = 0
          · subst k0
            have hp : prevH l 0 = -1 := rfl
            rw [hp] at HN HD
            have q1 : ∀ q, (wr.drewN q).cell? ⟨g, o, none⟩ = some (.int .i64 l[0]) := q1
            clear hc hh hp HU
            generalize l[0] = x at *
            have d3 : decide (0 < (0 : Int)) = false := rfl
            by_cases d1 : x < 0
            · have HE := Lib.hid (HD.out (by omega))
              have e1 : decide (x < 0) = true := decide_eq_true d1
              clear HN HD
              go_wp2
              go_quiet (fail)
              go_wp2
              go_ret
              exact ⟨ret_bool (by rw [HE.out]), below_drewN hb _⟩
            · have e1 : decide (x < 0) = false := decide_eq_false d1
              by_cases d2 : 4096 ≤ x
              · have HE := Lib.hid (HD.out (by omega))
                have e2 : decide (4096 ≤ x) = true := decide_eq_true d2
                clear HN HD
                go_wp2
                go_quiet (fail)
                go_wp2
                go_ret
                exact ⟨ret_bool (by rw [HE.out]), below_drewN hb _⟩
              · have HE := Lib.hid (HN.out (by omega))
                have e2 : decide (4096 ≤ x) = false := decide_eq_false d2
                clear HN HD
                go_wp2
                go_quiet (fail)
                go_wp2
                exact ⟨⟨1, by go_num, by omega, HE, below_drewN hb _⟩, by simp [intOf]; omega⟩
          · obtain ⟨j, rfl⟩ : ∃ j, k = j + 1 := ⟨k - 1, by omega⟩
            have hp : prevH l (j + 1) = l[j] := by unfold prevH; rw [if_neg (by omega), Nat.add_sub_cancel, hat_eq (by omega)]
            have q2 : ∀ q, (wr.drewN q).cell? ⟨g, o + j, none⟩ = some (.int .i64 l[j]) := fun _ => (hb.cell (p := ⟨g, o + j, none⟩) hg).trans (hc j (by omega))
            have hby := HF.out _ (List.getElem_mem (show j < l.length by omega))
            have hlow := upTo_low HU.out j (by omega)
            rw [hat_eq (show j < l.length by omega)] at hlow
            rw [hp] at HN HD
            clear hc hh hp HU
            generalize l[j+1] = x at *
            generalize l[j] = y at *
            have d3 : decide (0 < (j : Int) + 1) = true := decide_eq_true (by omega)
            by_cases d1 : x < 0
            · have HE := Lib.hid (HD.out (by omega))
              have e1 : decide (x < 0) = true := decide_eq_true d1
              clear HN HD
              go_wp2
              go_quiet (fail)
              go_wp2
              go_ret
              exact ⟨ret_bool (by rw [HE.out]), below_drewN hb _⟩
            · have e1 : decide (x < 0) = false := decide_eq_false d1
              by_cases d2 : 4096 ≤ x
              · have HE := Lib.hid (HD.out (by omega))
                have e2 : decide (4096 ≤ x) = true := decide_eq_true d2
                clear HN HD
                go_wp2
                go_quiet (fail)
                go_wp2
                go_ret
                exact ⟨ret_bool (by rw [HE.out]), below_drewN hb _⟩
              · have e2 : decide (4096 ≤ x) = false := decide_eq_false d2
                by_cases d4 : x ≤ y
                · have HE := Lib.hid (HD.out (by omega))
                  have e4 : decide (x ≤ y) = true := decide_eq_true d4
                  clear HN HD
                  go_wp2
                  go_quiet (fail)
                  go_wp2
                  go_ret
                  exact ⟨ret_bool (by rw [HE.out]), below_drewN hb _⟩
                · have HE := Lib.hid (HN.out (by omega))
                  have e4 : decide (x ≤ y) = false := decide_eq_false d4
                  clear HN HD
                  go_wp2
                  go_quiet (fail)
                  go_wp2
                  exact ⟨⟨j + 1 + 1, by go_num, by omega, HE, below_drewN hb _⟩, by simp [intOf]; omega⟩
        · obtain rfl : k = l.length := by omega
          have HE : Hid (decide (HomesOk l most) = true) := Lib.hid (decide_eq_true ⟨by omega, c2, HU.out⟩)
          go_wp2
          go_ret
          exact ⟨ret_bool (by rw [HE.out]), hb⟩
    · have HE : Hid (decide (HomesOk l most) = false) := Lib.hid (by rw [decide_eq_false_iff_not]; exact fun h => c2 h.2.1)
      clear hv h3 hf
      rw [HE.out]
      go_enter Try.func43, Try.ntmps43
      go_wp2
      go_ret
      exact ⟨rfl, Below.refl _ _⟩
  · have HE : Hid (decide (HomesOk l most) = false) := Lib.hid (by rw [decide_eq_false_iff_not]; intro h; have := h.1; omega)
    have c3 : l.length = 0 := by omega
    clear hv h3 hf
    rw [HE.out]
    go_enter Try.func43, Try.ntmps43
    go_wp2
    go_ret
    exact ⟨rfl, Below.refl _ _⟩

set_option maxHeartbeats 8000000 in
theorem may_any (r : Rec) (f : Fits r) (vh vm : Value) (w : World) (h : RecIn r vh vm w) :
    Calls Try.prog 26 #[recV r vh vm] w fun e w' => e = .returned (.bool (decide (RecOk r))) ∧ Below w.heap.size w w' := by
  obtain ⟨⟨-, ah, ch, rfl, -⟩, ⟨-, am, cm, rfl, -⟩⟩ := id h
  have gh : Try.prog.stoodInHeld 27 = false := by kernel_rfl
  have hfp := f.pos
  have VH := fun (most : Int) (hm : I64 most) (w' : World) (hw : Below w.heap.size w w') => Lib.hid (rising_any r.homes most hm f.homes (.slice ah r.homes.length ch) w' (h.1.kept hw))
  have hb0 := balloc1 w (.cells (recC r (.slice ah r.homes.length ch) (.slice am r.masked.length cm)) 27)
  have hd := ok_no (r := r)
  by_cases k1 : r.kind = 1
  · rw [dec_iff (ok_1 k1)]
    clear hd
    obtain ⟨kind, seq, pos, homes, masked, sum⟩ := r
    dsimp only at *
    subst k1
    clear h VH f
    by_cases p1 : 0 ≤ pos
    · skip
      have dp1 : decide (pos < 0) = false := decide_eq_false (by omega)
      by_cases p2 : pos ≤ 510
      · skip
        have dp2 : decide (510 < pos) = false := decide_eq_false (by omega)
        by_cases s0 : sum = 0
        · skip
          have ds0 : ((sum : Int) != 0) = false := by rw [bne_eq_false_iff_eq]; omega
          by_cases m0 : masked.length = 0
          · skip
            have dm0 : decide (0 < masked.length) = false := decide_eq_false (by omega)
            by_cases h0 : homes.length = 0
            · skip
              have dh0 : decide (0 < homes.length) = false := decide_eq_false (by omega)
              have HE : Hid (decide ((0 ≤ pos ∧ pos ≤ 510) ∧ Blank 0 homes.length masked.length sum) = true) := Lib.hid (decide_eq_true ⟨⟨p1, p2⟩, rfl, h0, m0, s0⟩)
              rw [HE.out]; clear HE p1 p2 s0 m0 h0
              go_enter Try.func26, Try.ntmps26
              go_wp2
              go_ret
              exact ⟨rfl, hb0⟩
            · skip
              have dh0 : decide (0 < homes.length) = true := decide_eq_true (by omega)
              have HE : Hid (decide ((0 ≤ pos ∧ pos ≤ 510) ∧ Blank 0 homes.length masked.length sum) = false) := Lib.hid (by rw [decide_eq_false_iff_not]; exact fun h => h0 h.2.2.1)
              rw [HE.out]; clear HE p1 p2 s0 m0 h0
              go_enter Try.func26, Try.ntmps26
              go_wp2
              go_ret
              exact ⟨rfl, hb0⟩
          · skip
            have dm0 : decide (0 < masked.length) = true := decide_eq_true (by omega)
            have HE : Hid (decide ((0 ≤ pos ∧ pos ≤ 510) ∧ Blank 0 homes.length masked.length sum) = false) := Lib.hid (by rw [decide_eq_false_iff_not]; exact fun h => m0 h.2.2.2.1)
            rw [HE.out]; clear HE p1 p2 s0 m0
            go_enter Try.func26, Try.ntmps26
            go_wp2
            go_ret
            exact ⟨rfl, hb0⟩
        · skip
          have ds0 : ((sum : Int) != 0) = true := by rw [bne_iff_ne]; omega
          have HE : Hid (decide ((0 ≤ pos ∧ pos ≤ 510) ∧ Blank 0 homes.length masked.length sum) = false) := Lib.hid (by rw [decide_eq_false_iff_not]; exact fun h => s0 h.2.2.2.2)
          rw [HE.out]; clear HE p1 p2 s0
          go_enter Try.func26, Try.ntmps26
          go_wp2
          go_ret
          exact ⟨rfl, hb0⟩
      · skip
        have dp2 : decide (510 < pos) = true := decide_eq_true (by omega)
        have HE : Hid (decide ((0 ≤ pos ∧ pos ≤ 510) ∧ Blank 0 homes.length masked.length sum) = false) := Lib.hid (by rw [decide_eq_false_iff_not]; exact fun h => p2 h.1.2)
        rw [HE.out]; clear HE p1 p2
        go_enter Try.func26, Try.ntmps26
        go_wp2
        go_ret
        exact ⟨rfl, hb0⟩
    · skip
      have dp1 : decide (pos < 0) = true := decide_eq_true (by omega)
      have HE : Hid (decide ((0 ≤ pos ∧ pos ≤ 510) ∧ Blank 0 homes.length masked.length sum) = false) := Lib.hid (by rw [decide_eq_false_iff_not]; exact fun h => p1 h.1.1)
      rw [HE.out]; clear HE p1
      go_enter Try.func26, Try.ntmps26
      go_wp2
      go_ret
      exact ⟨rfl, hb0⟩
  · skip
    by_cases k2 : r.kind = 2
    · rw [dec_iff (ok_2 k2)]
      clear hd k1
      obtain ⟨kind, seq, pos, homes, masked, sum⟩ := r
      dsimp only at *
      subst k2
      have V := VH 24 (by omega)
      clear h VH f
      by_cases p0 : pos = 0
      · skip
        have dp0 : (pos != 0) = false := by rw [bne_eq_false_iff_eq]; omega
        by_cases s0 : sum = 0
        · skip
          have ds0 : ((sum : Int) != 0) = false := by rw [bne_eq_false_iff_eq]; omega
          by_cases H : HomesOk homes 24
          · rw [decide_eq_true H] at V
            by_cases mh : masked.length = homes.length
            · skip
              have dmh : ((masked.length : Int) != (homes.length : Int)) = false := by rw [bne_eq_false_iff_eq]; omega
              have HE : Hid (decide ((HomesOk homes 24 ∧ masked.length = homes.length) ∧ Blank pos 0 0 sum) = true) := Lib.hid (decide_eq_true ⟨⟨H, mh⟩, p0, rfl, rfl, s0⟩)
              rw [HE.out]; clear HE p0 s0 H mh
              go_enter Try.func26, Try.ntmps26
              go_wp2_with fail
              refine ((V _ hb0).out).mono ?_; rintro e w1 ⟨rfl, hb⟩
              obtain ⟨bc1, bc2⟩ := bcell hb
              have hbb := below_boxed hb
              clear hb
              go_wp2
              go_ret
              exact ⟨rfl, hbb⟩
            · skip
              have dmh : ((masked.length : Int) != (homes.length : Int)) = true := by rw [bne_iff_ne]; omega
              have HE : Hid (decide ((HomesOk homes 24 ∧ masked.length = homes.length) ∧ Blank pos 0 0 sum) = false) := Lib.hid (by rw [decide_eq_false_iff_not]; exact fun h => mh h.1.2)
              rw [HE.out]; clear HE p0 s0 H mh
              go_enter Try.func26, Try.ntmps26
              go_wp2_with fail
              refine ((V _ hb0).out).mono ?_; rintro e w1 ⟨rfl, hb⟩
              obtain ⟨bc1, bc2⟩ := bcell hb
              have hbb := below_boxed hb
              clear hb
              go_wp2
              go_ret
              exact ⟨rfl, hbb⟩
          · rw [decide_eq_false H] at V
            have HE : Hid (decide ((HomesOk homes 24 ∧ masked.length = homes.length) ∧ Blank pos 0 0 sum) = false) := Lib.hid (by rw [decide_eq_false_iff_not]; exact fun h => H h.1.1)
            rw [HE.out]; clear HE p0 s0 H
            go_enter Try.func26, Try.ntmps26
            go_wp2_with fail
            refine ((V _ hb0).out).mono ?_; rintro e w1 ⟨rfl, hb⟩
            obtain ⟨bc1, bc2⟩ := bcell hb
            have hbb := below_boxed hb
            clear hb
            go_wp2
            go_ret
            exact ⟨rfl, hbb⟩
        · skip
          have ds0 : ((sum : Int) != 0) = true := by rw [bne_iff_ne]; omega
          have HE : Hid (decide ((HomesOk homes 24 ∧ masked.length = homes.length) ∧ Blank pos 0 0 sum) = false) := Lib.hid (by rw [decide_eq_false_iff_not]; exact fun h => s0 h.2.2.2.2)
          rw [HE.out]; clear HE p0 s0
          go_enter Try.func26, Try.ntmps26
          go_wp2
          go_ret
          exact ⟨rfl, hb0⟩
      · skip
        have dp0 : (pos != 0) = true := by rw [bne_iff_ne]; omega
        have HE : Hid (decide ((HomesOk homes 24 ∧ masked.length = homes.length) ∧ Blank pos 0 0 sum) = false) := Lib.hid (by rw [decide_eq_false_iff_not]; exact fun h => p0 h.2.1)
        rw [HE.out]; clear HE p0
        go_enter Try.func26, Try.ntmps26
        go_wp2
        go_ret
        exact ⟨rfl, hb0⟩
    · skip
      by_cases k3 : r.kind = 3
      · rw [dec_iff (ok_3 k3)]
        clear hd k1 k2
        obtain ⟨kind, seq, pos, homes, masked, sum⟩ := r
        dsimp only at *
        subst k3
        have V := VH 28 (by omega)
        clear h VH f
        by_cases p0 : pos = 0
        · skip
          have dp0 : (pos != 0) = false := by rw [bne_eq_false_iff_eq]; omega
          by_cases s0 : sum = 0
          · skip
            have ds0 : ((sum : Int) != 0) = false := by rw [bne_eq_false_iff_eq]; omega
            by_cases m0 : masked.length = 0
            · skip
              have dm0 : decide (0 < masked.length) = false := decide_eq_false (by omega)
              by_cases H : HomesOk homes 28
              · rw [decide_eq_true H] at V
                have HE : Hid (decide (HomesOk homes 28 ∧ Blank pos 0 masked.length sum) = true) := Lib.hid (decide_eq_true ⟨H, p0, rfl, m0, s0⟩)
                rw [HE.out]; clear HE p0 s0 m0 H
                go_enter Try.func26, Try.ntmps26
                go_wp2_with fail
                refine ((V _ hb0).out).mono ?_; rintro e w1 ⟨rfl, hb⟩
                obtain ⟨bc1, bc2⟩ := bcell hb
                have hbb := below_boxed hb
                clear hb
                go_wp2
                go_ret
                exact ⟨rfl, hbb⟩
              · rw [decide_eq_false H] at V
                have HE : Hid (decide (HomesOk homes 28 ∧ Blank pos 0 masked.length sum) = false) := Lib.hid (by rw [decide_eq_false_iff_not]; exact fun h => H h.1)
                rw [HE.out]; clear HE p0 s0 m0 H
                go_enter Try.func26, Try.ntmps26
                go_wp2_with fail
                refine ((V _ hb0).out).mono ?_; rintro e w1 ⟨rfl, hb⟩
                obtain ⟨bc1, bc2⟩ := bcell hb
                have hbb := below_boxed hb
                clear hb
                go_wp2
                go_ret
                exact ⟨rfl, hbb⟩
            · skip
              have dm0 : decide (0 < masked.length) = true := decide_eq_true (by omega)
              have HE : Hid (decide (HomesOk homes 28 ∧ Blank pos 0 masked.length sum) = false) := Lib.hid (by rw [decide_eq_false_iff_not]; exact fun h => m0 h.2.2.2.1)
              rw [HE.out]; clear HE p0 s0 m0
              go_enter Try.func26, Try.ntmps26
              go_wp2
              go_ret
              exact ⟨rfl, hb0⟩
          · skip
            have ds0 : ((sum : Int) != 0) = true := by rw [bne_iff_ne]; omega
            have HE : Hid (decide (HomesOk homes 28 ∧ Blank pos 0 masked.length sum) = false) := Lib.hid (by rw [decide_eq_false_iff_not]; exact fun h => s0 h.2.2.2.2)
            rw [HE.out]; clear HE p0 s0
            go_enter Try.func26, Try.ntmps26
            go_wp2
            go_ret
            exact ⟨rfl, hb0⟩
        · skip
          have dp0 : (pos != 0) = true := by rw [bne_iff_ne]; omega
          have HE : Hid (decide (HomesOk homes 28 ∧ Blank pos 0 masked.length sum) = false) := Lib.hid (by rw [decide_eq_false_iff_not]; exact fun h => p0 h.2.1)
          rw [HE.out]; clear HE p0
          go_enter Try.func26, Try.ntmps26
          go_wp2
          go_ret
          exact ⟨rfl, hb0⟩
      · skip
        by_cases k4 : r.kind = 4
        · rw [dec_iff (ok_4 k4)]
          clear hd k1 k2 k3
          obtain ⟨kind, seq, pos, homes, masked, sum⟩ := r
          dsimp only at *
          subst k4
          clear h VH f
          by_cases p0 : pos = 0
          · skip
            have dp0 : (pos != 0) = false := by rw [bne_eq_false_iff_eq]; omega
            by_cases m0 : masked.length = 0
            · skip
              have dm0 : decide (0 < masked.length) = false := decide_eq_false (by omega)
              by_cases h0 : homes.length = 0
              · skip
                have dh0 : decide (0 < homes.length) = false := decide_eq_false (by omega)
                have HE : Hid (decide (Blank pos homes.length masked.length 0) = true) := Lib.hid (decide_eq_true ⟨p0, h0, m0, rfl⟩)
                rw [HE.out]; clear HE p0 m0 h0
                go_enter Try.func26, Try.ntmps26
                go_wp2
                go_ret
                exact ⟨rfl, hb0⟩
              · skip
                have dh0 : decide (0 < homes.length) = true := decide_eq_true (by omega)
                have HE : Hid (decide (Blank pos homes.length masked.length 0) = false) := Lib.hid (by rw [decide_eq_false_iff_not]; exact fun h => h0 h.2.1)
                rw [HE.out]; clear HE p0 m0 h0
                go_enter Try.func26, Try.ntmps26
                go_wp2
                go_ret
                exact ⟨rfl, hb0⟩
            · skip
              have dm0 : decide (0 < masked.length) = true := decide_eq_true (by omega)
              have HE : Hid (decide (Blank pos homes.length masked.length 0) = false) := Lib.hid (by rw [decide_eq_false_iff_not]; exact fun h => m0 h.2.2.1)
              rw [HE.out]; clear HE p0 m0
              go_enter Try.func26, Try.ntmps26
              go_wp2
              go_ret
              exact ⟨rfl, hb0⟩
          · skip
            have dp0 : (pos != 0) = true := by rw [bne_iff_ne]; omega
            have HE : Hid (decide (Blank pos homes.length masked.length 0) = false) := Lib.hid (by rw [decide_eq_false_iff_not]; exact fun h => p0 h.1)
            rw [HE.out]; clear HE p0
            go_enter Try.func26, Try.ntmps26
            go_wp2
            go_ret
            exact ⟨rfl, hb0⟩
        · skip
          have HE : Hid (decide (RecOk r) = false) := Lib.hid (decide_eq_false (hd k1 k2 k3 k4))
          clear hd VH f h
          obtain ⟨kind, seq, pos, homes, masked, sum⟩ := r
          dsimp only at *
          have d1 : (kind == 1) = false := by rw [beq_eq_false_iff_ne]; exact k1
          have d2 : (kind == 2) = false := by rw [beq_eq_false_iff_ne]; exact k2
          have d3 : (kind == 3) = false := by rw [beq_eq_false_iff_ne]; exact k3
          have d4 : (kind == 4) = false := by rw [beq_eq_false_iff_ne]; exact k4
          clear k1 k2 k3 k4
          rw [HE.out]; clear HE
          go_enter Try.func26, Try.ntmps26
          go_wp2
          go_ret
          exact ⟨rfl, hb0⟩
end Go.Proofs.Ytfgjogaoogiddaa
