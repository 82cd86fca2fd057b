/- The walk of DirentsPlay. -/
import Derived.Test.YtogdogadejjmeaaELaw2
import Derived.Test.YtogdogadejjmeaaEActs
import Derived.Deep.RegionLaw
import Derived.Deep.CutBlock
import Derived.Deep.DeepCutAuto
namespace Go.Proofs.Ytogdogadejjmeaa
set_option linter.unusedVariables false
open Go.RowKit

def AtI (L : List Den) (s : ByteArray) (p : Value) (j : Nat) : Prop := (p = .int .i64 (-1) ∧ ∀ i, i < j → (dat L i).name ≠ s) ∨ ∃ i, i < j ∧ p = .int .i64 (i : Int) ∧ (dat L i).name = s
theorem hasnt_of {L : List Den} {s : ByteArray} (h : ∀ i, i < L.length → (dat L i).name ≠ s) : ¬ Has L s := fun hm => by
  obtain ⟨d, hd, he⟩ := has_mem hm
  obtain ⟨j, hj, rfl⟩ := List.getElem_of_mem hd
  exact h j hj (by rw [dat_eq hj]; exact he)
theorem has_of {L : List Den} {s : ByteArray} {i : Nat} (hi : i < L.length) (h : (dat L i).name = s) : Has L s := by
  unfold Has; rw [← h]; exact List.mem_map_of_mem (f := Den.name) (dat_mem hi)
theorem insE_N {L : List Den} {x : Den} (h : ¬ Has L x.name) : insE L x = 0 ∨ insE L x = 130 ∨ insE L x = 2 ∨ (insE L x = 120 ∧ 128 < used L + denLen x) := by
  unfold insE
  by_cases h1 : NameOk x.name
  · rw [if_neg (not_not_intro h1)]
    by_cases h2 : InoIn x.ino
    · rw [if_neg (not_not_intro h2), if_neg h]
      by_cases h3 : 128 < used L + denLen x
      · rw [if_pos h3]; exact .inr (.inr (.inr ⟨rfl, h3⟩))
      · rw [if_neg h3]; exact .inl rfl
    · rw [if_pos h2]; exact .inr (.inr (.inl rfl))
  · rw [if_pos h1]; exact .inr (.inl rfl)
theorem insE_Y {L : List Den} (hL : ListOk L) {x : Den} (h : Has L x.name) : (insE L x = 2 ∧ ¬ InoIn x.ino) ∨ (insE L x = 211 ∧ InoIn x.ino) := by
  obtain ⟨d, hd, he⟩ := has_mem h
  have h1 : NameOk x.name := by rw [← he]; exact hL.1 d hd
  unfold insE
  rw [if_neg (not_not_intro h1)]
  by_cases h2 : InoIn x.ino
  · rw [if_neg (not_not_intro h2), if_pos h]; exact .inr ⟨rfl, h2⟩
  · rw [if_pos h2]; exact .inl ⟨rfl, h2⟩
theorem insert_at {L : List Den} (hL : ListOk L) (x : Den) (hx : x.name.size ≤ 100000) (hx2 : I64 x.ino) (w : World) :
    Calls Try.prog 20 #[.string (pack L), denV x] w fun e w' => e = .returned (.tuple #[.string (if insE L x = 0 then pack (L ++ [x]) else ⟨#[]⟩), .int .i64 (insE L x)]) ∧ Below w.heap.size w w' := by
  have hd : IsDir (pack L) := ⟨L, hL, rfl⟩
  have := insert_any (pack L) (by rw [pack_size hL.2.2.2]; omega) x hx hx2 w
  unfold insS insR packS at this
  rw [if_pos hd, if_pos hd, listOf_pack hL, packE_snoc hL] at this
  exact this
theorem remove_at {L : List Den} (hL : ListOk L) (s : ByteArray) (w : World) :
    Calls Try.prog 22 #[.string (pack L), .string s] w fun e w' => e = .returned (.tuple #[.string (if Has L s then pack (dropD L s) else pack L), .bool (decide (Has L s))]) ∧ Below w.heap.size w w' := by
  have := remove_any (pack L) (by rw [pack_size hL.2.2.2]; omega) s w
  unfold remS at this
  rw [listP_pack hL] at this
  exact this
set_option maxRecDepth 100000 in
set_option maxHeartbeats 10000000 in
theorem eplay_walk (A : List EAct) (hf : fitA A) (v : Value) (w : World) (hv : EActsIn v A w) :
    Calls Try.prog 7 #[v] w fun e w' => e = .returned (.bool true) ∧ Below w.heap.size w w' := by
  have mixed : Try.prog.follows .mixedOrders = true := by kernel_rfl
  have AL := Lib.hid ealive_any
  obtain ⟨ad, cap, rfl, p1, p2, p3⟩ := eacts_cells hv
  by_cases hbig : 60 < A.length
  · have t1 : decide ((60 : Int) < (A.length : Int)) = true := decide_eq_true (by omega)
    go_enter Try.func7, Try.ntmps7
    go_wp2
    go_ret
    exact ⟨rfl, Below.refl _ _⟩
  · have t1 : decide ((60 : Int) < (A.length : Int)) = false := decide_eq_false (by omega)
    have hm : ∀ w, (Instr.makeSlice 43 (.int .i64 128) (.int .i64 128)).run Try.prog w = .ok (.slice (some ⟨w.heap.size, 0, none⟩) 128 128) (w.alloc (.cells (madeCells #[.int .u8 0] 128) 5)) := fun w => kz_made 128 (by omega) w
    have hbk := fun w => kz_back w 128
    have HZ : Hid (bs (zeroL 128) = pack []) := Lib.hid ezeros.symm
    rw [HZ.out] at hbk
    have HF := Lib.hid fun k (hk : k < A.length) => fitA_at hf hk
    have H3 := Lib.hid p3
    have hN : A.length ≤ 60 := by omega
    clear hv p3 hf hbig
    go_enter Try.func7, Try.ntmps7
    go_wp2
    clear hm hbk
    go_loopw [3, 4, 5, 6] (fun ps vh pu p wr => ∃ (i : Nat) (L : List Den), p = .int .i64 i ∧ ps = .string (pack L) ∧ pu = .int .i64 (used L : Int) ∧ i ≤ A.length ∧ DensAt w.heap.size vh L wr ∧ Hid (ListOk L) ∧ Below w.heap.size w wr) (fun _ _ _ p _ => A.length - (intOf p).toNat)
    case atStart => exact ⟨0, [], rfl, rfl, rfl, Nat.zero_le _, World.ownsRow_nil _ _ _ _, Lib.hid nil_ok, balloc1 _ _⟩
    case round =>
      obtain ⟨i, L, rfl, rfl, rfl, hi, hown, HL, hb⟩ := hrel
      obtain ⟨adh, caph, rfl, h1, h2, h3⟩ := shape_of hown
      have h2 : caph ≤ 9223372036854775807 := h2
      by_cases hlt : i < A.length
      · obtain ⟨g, o, rfl, hg, hcc⟩ := H3.out (by omega)
        obtain ⟨c0, c1, c2⟩ := hcc wr hb i hlt
        obtain ⟨hf1, hf2⟩ := HF.out i hlt
        have hf1 : (aat A i).1.name.size ≤ 9223372036854775807 := hf1
        have hcell := fun w' (hb' : Below w.heap.size w w') => (hcc w' hb' i hlt).2.2
        generalize aat A i = a at *
        obtain ⟨⟨nm, ino⟩, out⟩ := a
        dsimp only at *
        obtain ⟨wa, hwa⟩ : ∃ wa, wr.alloc (.cells #[.string nm, .int .i64 ino] 25) = wa := ⟨_, rfl⟩
        have hXb : Blk wr.heap.size #[.string nm, .int .i64 ino] 25 wa := by rw [← hwa]; exact Blk.new _ _ wr
        have hba : Below w.heap.size w wa := by rw [← hwa]; exact balloc hb _
        have hra : DensAt w.heap.size (.slice adh L.length caph) L wa := by rw [← hwa]; exact hown.alloc _
        have HWA := Lib.hid hwa
        have x0 : wa.cell? ⟨wr.heap.size, 0, none⟩ = some (.string nm) := hXb.cell 0
        obtain ⟨bx, hBX⟩ : ∃ bx, wr.heap.size = bx := ⟨_, rfl⟩
        rw [hBX] at x0
        have HX : Hid (Blk bx #[.string nm, .int .i64 ino] 25 wa) := Lib.hid (by rw [← hBX]; exact hXb)
        have HBX := Lib.hid hBX
        by_cases hbn : 1000 < nm.size
        · have t2 : decide ((1000 : Int) < (nm.size : Int)) = true := decide_eq_true (by omega)
          clear hcc hown hb hwa hXb hBX
          go_upto_region 10 with fail
          rw [HWA.out]
          try rw [HBX.out]
          go_wp2
          go_ret
          exact ⟨rfl, hba⟩
        · have t2 : decide ((1000 : Int) < (nm.size : Int)) = false := decide_eq_false (by omega)
          clear hcc hown hb hwa hXb hBX
          go_upto_region 10 with fail
          rw [HWA.out]
          try rw [HBX.out]
          go_wp2
          go_loopw [8, 9] (fun pa p wx => ∃ j : Nat, p = .int .i64 j ∧ j ≤ L.length ∧ Hid (AtI L nm pa j) ∧ Below wa.heap.size wa wx) (fun _ p _ => L.length - (intOf p).toNat)
          case atStart => exact ⟨0, rfl, Nat.zero_le _, Lib.hid (.inl ⟨rfl, fun i hi => by omega⟩), Below.refl _ _⟩
          case round =>
            obtain ⟨j, rfl, hj, HJ, hbx⟩ := hrel
            have hbW := hba.trans (hbx.mono hba.size)
            have hrow := row_kept hra hbx
            have HXW := Lib.hid (HX.out.kept1 hbx)
            by_cases hjl : j < L.length
            · obtain ⟨gh, rfl, hg1, hg2⟩ := h3 (by omega)
              obtain ⟨_, _, esh, _, _, hcr, _⟩ := densIn_cells (densAt_in hrow)
              injection esh with esh1 _ esh3
              subst esh1; subst esh3
              obtain ⟨g', o', eg, hg', hcr⟩ := hcr (by omega)
              injection eg with eg; injection eg with eg1 eg2 _
              subst eg1; subst eg2
              have y0 := fun p : BelowP wr => (hcr p.to p.h j hjl).1
              rw [Nat.zero_add] at y0
              have y1 : ∀ p : BelowP wr, p.to.cell? ⟨bx, 0, none⟩ = some (.string nm) := fun p => (HXW.out.kept1 p.h).cell 0
              have hY : (dat L j).name = nm → Hid (AtI L nm (.int .i64 (j : Int)) (j + 1)) := fun h => Lib.hid (.inr ⟨j, by omega, rfl, h⟩)
              by_cases he : (dat L j).name = nm
              · have HJ2 := hY he
                have t3 : ((dat L j).name.toList == nm.toList) = true := by rw [str_beq]; exact decide_eq_true he
                clear hY he hcr HJ
                generalize (dat L j).name = na at *
                go_wp2
                refine wp_region_quiet_below mixed (by kernel_rfl) ?_
                repeat (go_big_quiet_step (fail))
                refine wpQuiet_nil ?_
                intro w0q hw'
                obtain ⟨⟨wq, bq⟩, hw''⟩ := hw'
                have hw2 : wq = w0q := hw''.symm
                clear hw''
                subst hw2
                have hbq := bnext hbx bq
                go_wp2
                exact ⟨⟨j + 1, by go_num, by omega, HJ2, hbq⟩, by simp [intOf]; omega⟩
              · have HJ2 := Lib.hid (show AtI L nm _ (j + 1) from HJ.out.elim (fun h => .inl ⟨h.1, fun i hi => by
                  by_cases e : i = j
                  · subst e; exact he
                  · exact h.2 i (by omega)⟩) (fun ⟨i, h1, h2⟩ => .inr ⟨i, by omega, h2⟩))
                have t3 : ((dat L j).name.toList == nm.toList) = false := by rw [str_beq]; exact decide_eq_false he
                clear hY he hcr HJ
                generalize (dat L j).name = na at *
                go_wp2
                refine wp_region_quiet_below mixed (by kernel_rfl) ?_
                repeat (go_big_quiet_step (fail))
                refine wpQuiet_nil ?_
                intro w0q hw'
                obtain ⟨⟨wq, bq⟩, hw''⟩ := hw'
                have hw2 : wq = w0q := hw''.symm
                clear hw''
                subst hw2
                have hbq := bnext hbx bq
                go_wp2
                exact ⟨⟨j + 1, by go_num, by omega, HJ2, hbq⟩, by simp [intOf]; omega⟩
            · obtain rfl : j = L.length := by omega
              have z2 := hcell _ hbW
              have x0 : wr.cell? ⟨bx, 0, none⟩ = some (.string nm) := HXW.out.cell 0
              have x1 : wr.cell? ⟨bx, 1, none⟩ = some (.int .i64 ino) := HXW.out.cell 1
              have hus : used L ≤ 128 := HL.out.2.2.2
              have hL128 : L.length ≤ 128 := (listOk_fit HL.out).2.1
              go_upto_if 58 with fail
              go_cut [3, 4, 5, 8, 40, 58] (fun ps vh pu _ _ _ wx => ∃ LL : List Den, ps = .string (pack LL) ∧ pu = .int .i64 (used LL : Int) ∧ DensAt w.heap.size vh LL wx ∧ Hid (ListOk LL) ∧ Below w.heap.size w wx)
              case first =>
                rcases HJ.out with ⟨rfl, hno⟩ | ⟨q, hq, rfl, hname⟩
                · have hhas := hasnt_of hno
                  clear HJ hno
                  cases out with
                  | true =>
                    have RM := fun w => remove_at HL.out nm w
                    rw [if_neg hhas, decide_eq_false hhas] at RM
                    have RM := Lib.hid RM
                    have hpk : ((pack L).toList == (pack L).toList) = true := by simp
                    obtain ⟨LL, hLL⟩ : ∃ LL, LL = L := ⟨_, rfl⟩
                    subst hLL
                    have hOK : ListOk LL := HL.out
                    clear hhas
                    go_wp2_with fail
                    refine (RM.out _).mono ?_; rintro e w10 ⟨rfl, b10⟩
                    have hbT := bnext hbW b10
                    have hvT := row_kept hrow b10
                    clear hrow b10 x0 x1 z2 RM
                    go_wp2
                    go_meet
                    case rel => exact ⟨LL, rfl, rfl, hvT, Lib.hid hOK, hbT⟩
                  | false =>
                    have IN := fun w => insert_at HL.out ⟨nm, ino⟩ (by dsimp only; omega) hf2 w
                    rcases insE_N (x := ⟨nm, ino⟩) hhas with h0 | h0 | h0 | ⟨h0, h128⟩
                    · rw [if_pos h0, h0] at IN
                      have hOK := ins_ok HL.out h0
                      obtain ⟨LL, hLL⟩ : ∃ LL, LL = L ++ [(⟨nm, ino⟩ : Den)] := ⟨_, rfl⟩
                      rw [← hLL] at IN hOK
                      have hz : (used L : Int) + 5 + (nm.size : Int) = (used LL : Int) := by rw [hLL, used_snoc]; unfold denLen; dsimp only; omega
                      have hlen : LL.length = L.length + 1 := by rw [hLL]; simp
                      have hnz : nm.size ≤ 1000 := by omega
                      have IN := Lib.hid IN
                      have HLL := Lib.hid hLL
                      clear hhas h0 hLL
                      try dsimp only at IN
                      go_wp2_with fail
                      refine (IN.out _).mono ?_; rintro e w10 ⟨rfl, b10⟩
                      have hbv := bnext hbW b10
                      have hrow2 := row_kept hrow b10
                      have hbvs := hbv.size
                      have x2 : w10.cell? ⟨bx, 0, none⟩ = some (.string nm) := (HXW.out.kept1 b10).cell 0
                      have x3 : w10.cell? ⟨bx, 1, none⟩ = some (.int .i64 ino) := (HXW.out.kept1 b10).cell 1
                      clear hrow b10 x0 x1 z2 IN
                      go_wp2_with (at_builtin; refine wpList_appD rfl _ _ rfl w.heap.size (.slice adh L.length caph) L ⟨nm, ino⟩ rfl (World.ownsRow.alloc hrow2 _) w10 rfl rfl (by omega) (by rw [size_alloc]; omega) ?_)
                      intro v11 w11 hv11 b11
                      have hbT := (balloc hbv _).trans b11
                      rw [← HLL.out] at hv11
                      have hvT := hv11
                      obtain ⟨adT, capT, eT, -⟩ := shape_of hv11
                      subst eT
                      clear hv11 b11 hrow2 hbv x2 x3
                      have hOK := hOK
                      go_wp2
                      go_meet
                      case rel => exact ⟨LL, rfl, rfl, hvT, Lib.hid hOK, hbT⟩
                    · rw [if_neg (by omega), h0] at IN
                      have IN := Lib.hid IN
                      try dsimp only at IN
                      obtain ⟨LL, hLL⟩ : ∃ LL, LL = L := ⟨_, rfl⟩
                      subst hLL
                      clear hhas h0
                      as_aux_lemma =>
                        have hOK : ListOk LL := HL.out
                        go_wp2_with fail
                        refine (IN.out _).mono ?_; rintro e w10 ⟨rfl, b10⟩
                        have hbT := bnext hbW b10
                        have hvT := row_kept hrow b10
                        have x2 : w10.cell? ⟨bx, 0, none⟩ = some (.string nm) := (HXW.out.kept1 b10).cell 0
                        have x3 : w10.cell? ⟨bx, 1, none⟩ = some (.int .i64 ino) := (HXW.out.kept1 b10).cell 1
                        clear hrow b10 x0 x1 z2 IN
                        go_wp2
                        go_meet
                        case rel => exact ⟨LL, rfl, rfl, hvT, HL, hbT⟩
                    · rw [if_neg (by omega), h0] at IN
                      have IN := Lib.hid IN
                      try dsimp only at IN
                      obtain ⟨LL, hLL⟩ : ∃ LL, LL = L := ⟨_, rfl⟩
                      subst hLL
                      clear hhas h0
                      as_aux_lemma =>
                        have hOK : ListOk LL := HL.out
                        go_wp2_with fail
                        refine (IN.out _).mono ?_; rintro e w10 ⟨rfl, b10⟩
                        have hbT := bnext hbW b10
                        have hvT := row_kept hrow b10
                        have x2 : w10.cell? ⟨bx, 0, none⟩ = some (.string nm) := (HXW.out.kept1 b10).cell 0
                        have x3 : w10.cell? ⟨bx, 1, none⟩ = some (.int .i64 ino) := (HXW.out.kept1 b10).cell 1
                        clear hrow b10 x0 x1 z2 IN
                        go_wp2
                        go_meet
                        case rel => exact ⟨LL, rfl, rfl, hvT, HL, hbT⟩
                    · rw [if_neg (by omega), h0] at IN
                      have IN := Lib.hid IN
                      try dsimp only at IN
                      unfold denLen at h128
                      dsimp only at h128
                      have t4 : ¬ ((5 : Int) + (nm.size : Int) ≤ 128 - (used L : Int)) := by omega
                      have t5 : decide ((5 : Int) + (nm.size : Int) ≤ 128 - (used L : Int)) = false := decide_eq_false t4
                      obtain ⟨LL, hLL⟩ : ∃ LL, LL = L := ⟨_, rfl⟩
                      subst hLL
                      clear hhas h0
                      as_aux_lemma =>
                        have hOK : ListOk LL := HL.out
                        go_wp2_with fail
                        refine (IN.out _).mono ?_; rintro e w10 ⟨rfl, b10⟩
                        have hbT := bnext hbW b10
                        have hvT := row_kept hrow b10
                        have x2 : w10.cell? ⟨bx, 0, none⟩ = some (.string nm) := (HXW.out.kept1 b10).cell 0
                        have x3 : w10.cell? ⟨bx, 1, none⟩ = some (.int .i64 ino) := (HXW.out.kept1 b10).cell 1
                        clear hrow b10 x0 x1 z2 IN
                        go_wp2
                        go_meet
                        case rel => exact ⟨LL, rfl, rfl, hvT, HL, hbT⟩
                · have hhas := has_of hq hname
                  obtain ⟨gh, rfl, hg1, hg2⟩ := h3 (by omega)
                  cases out with
                  | true =>
                    have RM := fun w => remove_at HL.out nm w
                    rw [if_pos hhas, decide_eq_true hhas] at RM
                    have hdrop := erase_drop nm L q HL.out.2.2.1 hq hname
                    obtain ⟨d, hd, hdn⟩ := has_mem hhas
                    have hdu := (drop_used HL.out.2.2.1 hd).1
                    rw [hdn] at hdu
                    have hOK := drop_ok HL.out nm
                    obtain ⟨LL, hLL⟩ : ∃ LL, LL = dropD L nm := ⟨_, rfl⟩
                    rw [← hLL] at RM hdrop hdu hOK
                    have hz : (used L : Int) - 5 - (nm.size : Int) = (used LL : Int) := by unfold denLen at hdu; rw [hdn] at hdu; omega
                    have RM := Lib.hid RM
                    have HDR := Lib.hid hdrop
                    clear HJ hhas hdrop hd hdn hdu hLL
                    go_wp2_with fail
                    refine (RM.out _).mono ?_; rintro e w10 ⟨rfl, b10⟩
                    have hbv := bnext hbW b10
                    have hrow2 := row_kept hrow b10
                    have hbvs := hbv.size
                    have x2 : w10.cell? ⟨bx, 0, none⟩ = some (.string nm) := (HXW.out.kept1 b10).cell 0
                    clear hrow b10 x0 x1 z2 RM
                    obtain ⟨AA, hAA⟩ : ∃ AA : Addr, (if caph = q + 1 then some (⟨gh, 0, none⟩ : Addr) else some ⟨gh, (q + 1) * 2, none⟩) = some AA := by
                      by_cases h : caph = q + 1
                      · exact ⟨⟨gh, 0, none⟩, by simp [h]⟩
                      · exact ⟨⟨gh, (q + 1) * 2, none⟩, by simp [h]⟩
                    obtain ⟨v11, w11, v12, w12, r1, r2, k12, b12⟩ := erase_runs w10.drew w.heap.size 22 22 gh caph L (by omega) hrow2 h1 h2 q hq AA hAA
                    rw [HDR.out] at k12
                    have hbT : Below w.heap.size w w12 := bnext hbv ⟨b12.os, b12.tape, b12.output, b12.size, b12.block⟩
                    have hvT : DensAt w.heap.size v12 LL w12 := row_down hbvs k12
                    have R1 := Lib.hid r1
                    have R2 := Lib.hid r2
                    have hq1 : q ≤ caph := by omega
                    have hq2 : q + 1 ≤ caph := by omega
                    have hq3 : (0 : Int) ≤ (q : Int) + 1 := by omega
                    have hq4 : (q : Int) + 1 ≤ (L.length : Int) := by omega
                    have hq5 : (0 : Int) ≤ (q : Int) := by omega
                    have hw1 : IntKind.i64.wrap ((q : Int) + 1) = (q : Int) + 1 := IntWalk.i64_in _ (by omega)
                    have hw2 : ((q : Int) + 1).toNat = q + 1 := by omega
                    clear k12 b12 r1 r2 hrow2 hbv
                    go_upto_region 24 with fail
                    go_region_law (first | refine step_append rfl _ _ _ rfl rfl rfl R1.out ?_ | refine step_append rfl _ _ _ rfl rfl rfl R2.out ?_)
                    obtain ⟨adT, capT, eT, -⟩ := shape_of hvT
                    subst eT
                    clear R1 R2 x2 hAA HDR
                    go_wp2
                    go_meet
                    case rel => exact ⟨LL, rfl, rfl, hvT, Lib.hid hOK, hbT⟩
                  | false =>
                    have IN := fun w => insert_at HL.out ⟨nm, ino⟩ (by dsimp only; omega) hf2 w
                    clear HJ
                    rcases insE_Y HL.out (x := ⟨nm, ino⟩) hhas with ⟨h0, hin⟩ | ⟨h0, hin⟩
                    · rw [if_neg (by omega), h0] at IN
                      have IN := Lib.hid IN
                      try dsimp only at IN
                      by_cases hi0 : ino < 0
                      · have t4 : decide (0 ≤ ino) = false := decide_eq_false (by omega)
                        obtain ⟨LL, hLL⟩ : ∃ LL, LL = L := ⟨_, rfl⟩
                        subst hLL
                        clear hhas h0 hin
                        as_aux_lemma =>
                          have hOK : ListOk LL := HL.out
                          go_wp2_with fail
                          refine (IN.out _).mono ?_; rintro e w10 ⟨rfl, b10⟩
                          have hbT := bnext hbW b10
                          have hvT := row_kept hrow b10
                          have x2 : w10.cell? ⟨bx, 0, none⟩ = some (.string nm) := (HXW.out.kept1 b10).cell 0
                          have x3 : w10.cell? ⟨bx, 1, none⟩ = some (.int .i64 ino) := (HXW.out.kept1 b10).cell 1
                          clear hrow b10 x0 x1 z2 IN
                          go_wp2
                          go_meet
                          case rel => exact ⟨LL, rfl, rfl, hvT, HL, hbT⟩
                      · have t4 : decide (0 ≤ ino) = true := decide_eq_true (by omega)
                        have t5 : decide (ino ≤ 4294967295) = false := decide_eq_false fun h => hin ⟨by dsimp only; omega, h⟩
                        have hi2 : ¬ ino ≤ 4294967295 := of_decide_eq_false t5
                        obtain ⟨LL, hLL⟩ : ∃ LL, LL = L := ⟨_, rfl⟩
                        subst hLL
                        clear hhas h0 hin
                        as_aux_lemma =>
                          have hOK : ListOk LL := HL.out
                          go_wp2_with fail
                          refine (IN.out _).mono ?_; rintro e w10 ⟨rfl, b10⟩
                          have hbT := bnext hbW b10
                          have hvT := row_kept hrow b10
                          have x2 : w10.cell? ⟨bx, 0, none⟩ = some (.string nm) := (HXW.out.kept1 b10).cell 0
                          have x3 : w10.cell? ⟨bx, 1, none⟩ = some (.int .i64 ino) := (HXW.out.kept1 b10).cell 1
                          clear hrow b10 x0 x1 z2 IN
                          go_wp2
                          go_meet
                          case rel => exact ⟨LL, rfl, rfl, hvT, HL, hbT⟩
                    · rw [if_neg (by omega), h0] at IN
                      have IN := Lib.hid IN
                      try dsimp only at IN
                      have hi0 : 0 ≤ ino := hin.1
                      have hi1 : ino ≤ 4294967295 := hin.2
                      have t4 : decide (0 ≤ ino) = true := decide_eq_true hi0
                      have t5 : decide (ino ≤ 4294967295) = true := decide_eq_true hi1
                      obtain ⟨LL, hLL⟩ : ∃ LL, LL = L := ⟨_, rfl⟩
                      subst hLL
                      clear hhas h0 hin
                      as_aux_lemma =>
                        have hOK : ListOk LL := HL.out
                        go_wp2_with fail
                        refine (IN.out _).mono ?_; rintro e w10 ⟨rfl, b10⟩
                        have hbT := bnext hbW b10
                        have hvT := row_kept hrow b10
                        have x2 : w10.cell? ⟨bx, 0, none⟩ = some (.string nm) := (HXW.out.kept1 b10).cell 0
                        have x3 : w10.cell? ⟨bx, 1, none⟩ = some (.int .i64 ino) := (HXW.out.kept1 b10).cell 1
                        clear hrow b10 x0 x1 z2 IN
                        go_wp2
                        go_meet
                        case rel => exact ⟨LL, rfl, rfl, hvT, HL, hbT⟩
              case rest =>
                obtain ⟨LL, rfl, rfl, hvT, HOK0, hbT⟩ := hcut
                have hOK := HOK0.out
                obtain ⟨adT, capT, eT, -⟩ := shape_of hvT
                subst eT
                clear HJ HX HXW hbW hrow hba hra hbx z2 x0 x1 HL HWA HBX hcell
                as_aux_lemma =>
                  have hsz : (pack LL).size ≤ 2000 := by rw [pack_size hOK.2.2.2]; omega
                  have hdir : IsDir (pack LL) := ⟨LL, hOK, rfl⟩
                  have PT := fun w => parse_any (pack LL) hsz w
                  rw [errP_yes hdir, listP_pack hOK] at PT
                  have ST : Hid (∀ v u w, DensIn v LL w → DensIn u LL w → Calls Try.prog 12 #[v, u] w fun e w' => e = .returned (.bool true) ∧ Below w.heap.size w w') := Lib.hid fun v u w h1 h2 => by
                    have := esame_any LL LL v u w h1 h2
                    rwa [decide_eq_true rfl] at this
                  have RT := fun w => room_any (pack LL) hsz w
                  rw [roomP_pack hOK] at RT
                  have FT : Hid (∀ k, k < LL.length → ∀ w, Calls Try.prog 16 #[.string (pack LL), .string (dat LL k).name] w fun e w' => e = .returned (.tuple #[.int .i64 (dat LL k).ino, .bool true]) ∧ Below w.heap.size w w') := Lib.hid fun k hk w => by
                    have := find_any (pack LL) hsz (dat LL k).name w
                    unfold findN at this
                    rw [listP_pack hOK, find_mem hOK.2.2.1 (dat_mem hk)] at this
                    exact this
                  have hu128 : used LL ≤ 128 := hOK.2.2.2
                  have hq1 : (((128 : Int) - (used LL : Int)) == ((128 : Int) - (used LL : Int))) = true := by simp
                  have HPK : Hid (pack LL = pack LL) := Lib.hid rfl
                  have hl128 : LL.length ≤ 128 := (listOk_fit hOK).2.1
                  have PT := Lib.hid PT
                  have RT := Lib.hid RT
                  have HOK := Lib.hid hOK
                  clear hOK hdir hsz
                  go_wp2_with fail
                  refine (PT.out _).mono ?_; rintro e w20 ⟨v20, rfl, hv20, b20⟩
                  obtain ⟨ad20, cap20, rfl, -⟩ := shape_of hv20
                  have hvT2 := row_kept hvT b20
                  have hb20 := bnext hbT b20
                  clear hvT hbT b20
                  go_wp2_with fail
                  refine (ST.out _ _ _ (densAt_in hv20) (densAt_in hvT2)).mono ?_; rintro e w21 ⟨rfl, b21⟩
                  have hvT3 := row_kept hvT2 b21
                  have hb21 := bnext hb20 b21
                  clear hv20 hvT2 hb20 b21
                  go_wp2_with fail
                  refine (RT.out _).mono ?_; rintro e w22 ⟨rfl, b22⟩
                  have HVT := Lib.hid (row_kept hvT3 b22)
                  have hb22 := bnext hb21 b22
                  obtain ⟨_, _, esh, _, _, hcT, _⟩ := densIn_cells (densAt_in (row_kept hvT3 b22))
                  injection esh with esh1 _ esh3
                  subst esh1; subst esh3
                  clear hvT3 hb21 b22
                  go_wp2
                  go_loopw [16] (fun p wx => ∃ k : Nat, p = .int .i64 k ∧ k ≤ LL.length ∧ Below w22.heap.size w22 wx) (fun p _ => LL.length - (intOf p).toNat)
                  case atStart => exact ⟨0, rfl, Nat.zero_le _, Below.refl _ _⟩
                  case round =>
                    obtain ⟨k, rfl, hk, hbx⟩ := hrel
                    by_cases hlt : k < LL.length
                    · obtain ⟨g, o, e, hg, hcc⟩ := hcT (by omega)
                      subst e
                      obtain ⟨z0, z1⟩ := hcc _ hbx k hlt
                      have F := Lib.hid (FT.out k hlt)
                      have hcell := fun w' (hb : Below w22.heap.size w22 w') => (hcc w' hb k hlt).2
                      generalize dat LL k = d at *
                      have hd1 : (d.ino == d.ino) = true := by simp
                      obtain ⟨nm2, ino2⟩ := d
                      dsimp only at *
                      clear hcc
                      go_wp2_with fail
                      refine (F.out _).mono ?_; rintro e w23 ⟨rfl, b23⟩
                      have hb23 := bnext hbx b23
                      have z2 := hcell _ hb23
                      clear hcell z0 z1
                      go_wp2
                      exact ⟨⟨k + 1, by go_num, by omega, hb23⟩, by simp [intOf]; omega⟩
                    · obtain rfl : k = LL.length := by omega
                      have HVX := Lib.hid (row_kept HVT.out hbx)
                      have hbX := bnext hb22 hbx
                      clear hcT HVT hbx PT ST RT FT
                      go_wp2
                      exact ⟨⟨i + 1, LL, by go_num, rfl, rfl, by omega, HVX.out, HOK, hbX⟩, by simp [intOf]; omega⟩
      · obtain rfl : i = A.length := by omega
        go_wp2_with fail
        refine (AL.out _).mono ?_; rintro e w2 ⟨rfl, b2⟩
        go_wp2
        go_ret
        exact ⟨rfl, bnext hb b2⟩
end Go.Proofs.Ytogdogadejjmeaa
