import Derived.Test.YtanghmogeiiooaaGreatDoorPa47
import Derived.Deep.RegionHeld3
import Derived.Deep.RegionLaw
import Derived.Deep.CutBlock
import Derived.Deep.DeepCutAuto
set_option linter.unusedVariables false
set_option linter.unusedSimpArgs false
set_option linter.constructorNameAsVariable false
/- txn, walked. -/
namespace Go.Proofs.YtanghmogeiiooaaGreatDoor
set_option linter.unusedVariables false
set_option linter.unusedSimpArgs false
open Go.RowKit

abbrev falses : Array Value := #[.bool false, .bool false, .bool false, .bool false, .bool false, .bool false, .bool false, .bool false, .bool false, .bool false, .bool false, .bool false]
theorem falses_at {j : Nat} (hj : j < 12) : falses[j]? = some (.bool false) := by
  have : j = 0 ∨ j = 1 ∨ j = 2 ∨ j = 3 ∨ j = 4 ∨ j = 5 ∨ j = 6 ∨ j = 7 ∨ j = 8 ∨ j = 9 ∨ j = 10 ∨ j = 11 := by omega
  rcases this with rfl | rfl | rfl | rfl | rfl | rfl | rfl | rfl | rfl | rfl | rfl | rfl <;> rfl
theorem wpList_store_next {ops : Array Oper} {rest : List Oper} {o : Oper} {a : Act} {w : World} {Q : Exit → Act → World → Prop} (hgd : o.guard = none) (x y : Operand) (ho : o.op = .store 36 x y)
    {g : Nat} (f : Nat → Nat) (hx : a.eval x = .pointer (some ⟨g, 0, none⟩)) (hy : a.eval y = .agg (arr12 f))
    (old : Array Value) (hold : old.size = 12) (hg : Blk g old 36 w)
    (h : ∀ w2, Blk g (arr12 f) 36 w2 → Below g w w2 → w2.heap.size = w.heap.size → wpList Tryz.prog ops Q rest (a.put o.dst undef) w2) : wpList Tryz.prog ops Q (o :: rest) a w :=
  wpList_store_row hgd _ x y ho g (arr12 f) hx hy _ _ hg arr12_info hold (by simp [Value.oneCell'])
    (h _ (setRow_heap w g _ _ _ _ hg) ⟨rfl, rfl, rfl, by simp, fun j hj => setRow_other w g j _ (by omega)⟩ (by simp))
theorem wpList_store_nextZ {ops : Array Oper} {rest : List Oper} {o : Oper} {a : Act} {w : World} {Q : Exit → Act → World → Prop} (hgd : o.guard = none) (x y : Operand) (ho : o.op = .store 36 x y)
    {g : Nat} (f : Nat → Nat) (hx : a.eval x = .pointer (some ⟨g, 0, none⟩)) (hy : a.eval y = .agg (arr12 f))
    (old : Array Value) (hold : old.size = 12) (hg : Blk g old 36 w)
    (h : ∀ w2, Blk g (arr12 f) 36 w2 → Zone g (g + 1) w w2 → wpList Tryz.prog ops Q rest (a.put o.dst undef) w2) : wpList Tryz.prog ops Q (o :: rest) a w :=
  wpList_store_row hgd _ x y ho g (arr12 f) hx hy _ _ hg arr12_info hold (by simp [Value.oneCell'])
    (h _ (setRow_heap w g _ _ _ _ hg) ⟨rfl, rfl, rfl, by simp, fun j _ hj => setRow_other w g j _ (by omega)⟩)
theorem u8_cell {ad : Option Addr} {n cap : Nat} {C : List Nat} {w : World} (h : U8In (.slice ad n cap) C w) {k : Nat} (hk : k < C.length) : ∃ g o, ad = some ⟨g, o, none⟩ ∧ w.cell? ⟨g, o + k, none⟩ = some (.int .u8 (C[k] : Int)) := by
  obtain ⟨ad2, cap2, e, -, -, h3, -⟩ := h.shape
  injection e with e1 _ _
  subst e1
  obtain ⟨g, o, e2, hg, hc⟩ := row_cells h3 (by omega)
  exact ⟨g, o, e2, hc k hk⟩
set_option maxRecDepth 100000 in
set_option maxHeartbeats 4000000 in
theorem txn_any {B wd d lo hi g b l i m t da p q used : Nat} {S : St} {ts : List Tx} {home want : Nat → Nat} (hf : Fit12 l b da) (hda : da = 1 + l + m + t) (x : StepX) (vc vr : Value) (w : World) (h : LwMem B wd d lo hi g b l i m t da S p q used ts home want w) (hx : StepIn x vc vr w) :
    Calls Tryz.prog 24 #[.pointer (some ⟨wd, 0, none⟩), stepV x vc vr] w fun e w' =>
      ∃ va vb vd, e = .returned (.tuple #[.agg #[va, vb], vd, .agg (arr12 (nextOf (chgB x.chg) (chgB x.rev) (fun k => (x.fill + k) % 256) home want))]) ∧ ChgsOwn w.heap.size va (stepL da (chgB x.chg) fun k => (x.fill + k) % 256) w' ∧
        IntsOwn w.heap.size vb (stepR da (chgB x.chg) (chgB x.rev)) w' ∧ ChgsOwn w.heap.size vd (stepD da x.data x.fill) w' ∧ Below w.heap.size w w' := by
  have mixed : Tryz.prog.follows .mixedOrders = true := by kernel_rfl
  have gs : Tryz.prog.stoodInHeld 45 = false := by kernel_rfl
  have gt : Tryz.prog.stoodInHeld 64 = false := by kernel_rfl
  obtain ⟨ac, cc, rfl, c1, c2⟩ := u8In_len hx.vc
  obtain ⟨ar, cr, rfl, r1, r2⟩ := u8In_len hx.vr
  obtain ⟨kind, chg, rev, fl, data⟩ := x
  dsimp only at *
  have HX := Lib.hid hx
  have HM := Lib.hid h
  have HDA := Lib.hid hda
  have htop := hf.htop
  have hb4 := hf.hb
  clear hf hda
  obtain ⟨sb, hsb⟩ : ∃ sb, w.heap.size = sb := ⟨_, rfl⟩
  obtain ⟨wA, hwA⟩ : ∃ wA, w.alloc (.cells #[.int .u8 (kind : Int), .slice ac chg.length cc, .slice ar rev.length cr, .int .u8 (fl : Int), .bool data] 45) = wA := ⟨_, rfl⟩
  obtain ⟨wB, hwB⟩ : ∃ wB, wA.alloc (.cells #[.slice none 0 0, .slice none 0 0] 64) = wB := ⟨_, rfl⟩
  obtain ⟨wC, hwC⟩ : ∃ wC, wB.alloc (.cells #[.int .u8 0, .int .u8 0, .int .u8 0, .int .u8 0, .int .u8 0, .int .u8 0, .int .u8 0, .int .u8 0, .int .u8 0, .int .u8 0, .int .u8 0, .int .u8 0] 36) = wC := ⟨_, rfl⟩
  obtain ⟨wD, hwD⟩ : ∃ wD, wC.alloc (.cells #[.slice none 0 0, .slice none 0 0] 64) = wD := ⟨_, rfl⟩
  have sA : wA.heap.size = sb + 1 := by rw [← hwA, size_alloc, hsb]
  have sB : wB.heap.size = sb + 2 := by rw [← hwB, size_alloc, sA]
  have sC : wC.heap.size = sb + 3 := by rw [← hwC, size_alloc, sB]
  have sD : wD.heap.size = sb + 4 := by rw [← hwD, size_alloc, sC]
  have bA : Below w.heap.size w wA := by rw [← hwA]; exact balloc1 _ _
  have bB : Below wA.heap.size wA wB := by rw [← hwB]; exact balloc1 _ _
  have bC : Below wB.heap.size wB wC := by rw [← hwC]; exact balloc1 _ _
  have bD : Below wC.heap.size wC wD := by rw [← hwD]; exact balloc1 _ _
  have kA : Blk sb #[.int .u8 (kind : Int), .slice ac chg.length cc, .slice ar rev.length cr, .int .u8 (fl : Int), .bool data] 45 wD := by
    have : Blk sb #[.int .u8 (kind : Int), .slice ac chg.length cc, .slice ar rev.length cr, .int .u8 (fl : Int), .bool data] 45 wA := by rw [← hwA, ← hsb]; exact Blk.new _ _ _
    exact ((this.kept1 bB).kept1 bC).kept1 bD
  have kB : Blk (sb + 1) #[.slice none 0 0, .slice none 0 0] 64 wD := by
    have : Blk (sb + 1) #[.slice none 0 0, .slice none 0 0] 64 wB := by rw [← hwB, ← sA]; exact Blk.new _ _ _
    exact (this.kept1 bC).kept1 bD
  have kC : Blk (sb + 2) (arr12 fun _ => 0) 36 wD := by
    have : Blk (sb + 2) (arr12 fun _ => 0) 36 wC := by rw [← hwC, ← sB]; exact Blk.new _ _ _
    exact this.kept1 bD
  have kD : Blk (sb + 3) #[.slice none 0 0, .slice none 0 0] 64 wD := by rw [← hwD, ← sC]; exact Blk.new _ _ _
  have bwD : Below w.heap.size w wD := bnext (bnext (bnext bA bB) bC) bD
  have HWA := Lib.hid hwA
  have HWB := Lib.hid hwB
  have HWC := Lib.hid hwC
  have HWD := Lib.hid hwD
  have HWR := Lib.hid (h.wld.kept1 bwD).wantRange
  have HK := Lib.hid (And.intro kA (And.intro kB (And.intro kC kD)))
  have HBD := Lib.hid bwD
  have HSD := Lib.hid sD
  have HSB := Lib.hid hsb
  have HNX := Lib.hid fun (o : Array Value) => (Blk.new o 36 wD)
  clear h hx hwA hwB hwC hwD sA sB sC sD bA bB bC bD kA kB kC kD bwD hsb
  go_enter Tryz.func24, Tryz.ntmps24
  go_upto_region 2 with fail
  rw [HWA.out, HWB.out, HWC.out, HWD.out]
  go_upto_block 0 with (first | (refine wpList_load_mid rfl _ _ rfl wd 23 rfl (arr12 want).toList _ HWR.out Tryz.underlying36 rfl arr12_info ?_) | (refine wpList_store_next rfl _ _ rfl want rfl rfl _ rfl (HNX.out _) ?_; intro w6 k6 b6 s6))
  obtain ⟨w7, hw7⟩ : ∃ w7, w6.alloc (.cells #[.bool false, .bool false, .bool false, .bool false, .bool false, .bool false, .bool false, .bool false, .bool false, .bool false, .bool false, .bool false] 111) = w7 := ⟨_, rfl⟩
  obtain ⟨w8, hw8⟩ : ∃ w8, w7.alloc (.cells #[.bool false, .bool false, .bool false, .bool false, .bool false, .bool false, .bool false, .bool false, .bool false, .bool false, .bool false, .bool false] 111) = w8 := ⟨_, rfl⟩
  have M8 : TxMem w sb ⟨kind, chg, rev, fl, data⟩ (.slice ac chg.length cc) (.slice ar rev.length cr) want (upB chg 0) (upB rev 0) (.slice none 0 0) (.slice none 0 0) [] [] w8 := by
    obtain ⟨kA, kB, kC, kD⟩ := HK.out
    have hsD := HSD.out
    rw [size_alloc] at s6
    have s6' : w6.heap.size = sb + 5 := by omega
    have s7 : w7.heap.size = sb + 6 := by rw [← hw7, size_alloc, s6']
    have b7 : Below w6.heap.size w6 w7 := by rw [← hw7]; exact balloc1 _ _
    have b8 : Below w7.heap.size w7 w8 := by rw [← hw8]; exact balloc1 _ _
    have b56 : Below (sb + 4) wD w6 := by
      rw [← hsD]; exact (balloc1 wD _).trans b6
    have up : ∀ {k : Nat} {cs : Array Value} {t : TypeId}, k < sb + 4 → Blk k cs t wD → Blk k cs t w8 := fun hk hb => Blk.kept1 (Blk.kept1 (show Blk _ _ _ w6 from (b56.block _ hk).trans hb) b7) b8
    rw [hsD] at k6
    refine ⟨up (by omega) kA, up (by omega) kB, up (by omega) kC, up (by omega) kD, ?_, ?_, ?_, World.ownsRow_nil _ _ _ _, World.ownsRow_nil _ _ _ _, ?_, HSB.out.symm⟩
    · have hh := (Blk.kept1 (Blk.kept1 k6 b7) b8)
      exact ⟨hh.lt, fun j hj => ⟨by rw [Blk.cell hh, arr12_at want hj], Blk.frozen hh j⟩⟩
    · have c : CellsAt w6.heap.size 12 (fun j => .bool (upB chg 0 j)) w7 := by rw [← hw7]; exact CellsAt.alloc_new _ _ _ _ _ fun j hj => by rw [upB_zero]; exact falses_at hj
      rw [s6'] at c
      exact c.kept1 b8
    · have c : CellsAt w7.heap.size 12 (fun j => .bool (upB rev 0 j)) w8 := by rw [← hw8]; exact CellsAt.alloc_new _ _ _ _ _ fun j hj => by rw [upB_zero]; exact falses_at hj
      rw [s7] at c
      exact c
    · have := HBD.out
      have h2 : Below w.heap.size wD w6 := b56.mono (by have := HSB.out; omega)
      exact bnext (bnext (this.trans h2) b7) b8
  have HW7 := Lib.hid hw7
  have HW8 := Lib.hid hw8
  have HM8 := Lib.hid M8
  rw [HW7.out, HW8.out, HSB.out, HSD.out]
  rw [show sb + 1 + 1 + 1 = sb + 3 from rfl, show sb + 1 + 1 = sb + 2 from rfl, show sb + 4 + 1 + 1 = sb + 6 from rfl, show sb + 4 + 1 = sb + 5 from rfl]
  clear hw7 hw8 M8 HW7 HW8 HK HBD HSD HNX HWA HWB HWC HWD HWR k6 b6 s6
  go_cut [11] (fun _ wx => TxMem w sb ⟨kind, chg, rev, fl, data⟩ (.slice ac chg.length cc) (.slice ar rev.length cr) want (chgB chg) (upB rev 0) (.slice none 0 0) (.slice none 0 0) [] [] wx)
  case first =>
    go_wp2_with fail
    go_loopw [11] (fun p wr => ∃ k : Nat, p = .int .i64 (k : Int) ∧ k ≤ chg.length ∧ k ≤ 30 ∧ TxMem w sb ⟨kind, chg, rev, fl, data⟩ (.slice ac chg.length cc) (.slice ar rev.length cr) want (upB chg k) (upB rev 0) (.slice none 0 0) (.slice none 0 0) [] [] wr) (fun p _ => 30 - (intOf p).toNat)
    case atStart => exact ⟨0, rfl, Nat.zero_le _, Nat.zero_le _, HM8.out⟩
    case round =>
      obtain ⟨k, rfl, hk, hk30, M⟩ := hrel
      have e1 := M.step.cell 1
      simp only [List.getElem?_toArray, List.getElem?_cons_zero, List.getElem?_cons_succ] at e1
      by_cases hlt : k < chg.length
      · have tk : decide ((k : Int) < (chg.length : Int)) = true := decide_eq_true (by omega)
        by_cases h30 : k < 30
        · obtain ⟨gx, o, rfl, hcx⟩ := u8_cell (HX.out.vc.kept M.below) hlt
          obtain ⟨c, hc⟩ : ∃ c, chg[k] % 12 = c := ⟨_, rfl⟩
          have hc12 : c < 12 := by omega
          have hc2 : (chg[k] : Int) % 12 = (c : Int) := by omega
          have hcc := M.chg.2 c hc12
          obtain ⟨u1, u2⟩ := hcc
          have HM2 := Lib.hid (M.setChg hc12 _ (upB_set chg hlt c hc))
          have hb256 := HX.out.chg _ (List.getElem_mem hlt)
          try dsimp only at hb256
          generalize chg[k] = ck at *
          clear M hc
          go_wp2
          exact ⟨⟨k + 1, by go_num, by omega, by omega, HM2.out⟩, by simp [intOf]; omega⟩
        · obtain rfl : k = 30 := by omega
          have HM2 := Lib.hid M
          clear M
          go_wp2
          go_meet
          exact HM2.out
      · obtain rfl : k = chg.length := by omega
        have HM2 : Hid (TxMem w sb ⟨kind, chg, rev, fl, data⟩ (.slice ac chg.length cc) (.slice ar rev.length cr) want (chgB chg) (upB rev 0) (.slice none 0 0) (.slice none 0 0) [] [] wr) := Lib.hid (by rw [← upB_end chg (.inl ⟨rfl, hk30⟩)]; exact M)
        have tk : decide ((chg.length : Int) < (chg.length : Int)) = false := decide_eq_false (by omega)
        clear M
        go_wp2
        go_meet
        exact HM2.out
  case rest =>
    have HC1 := Lib.hid hcut
    clear hcut HM8
    go_upto_block 2 with fail
    go_cut [12] (fun _ wx => TxMem w sb ⟨kind, chg, rev, fl, data⟩ (.slice ac chg.length cc) (.slice ar rev.length cr) want (chgB chg) (chgB rev) (.slice none 0 0) (.slice none 0 0) [] [] wx)
    case first =>
      go_wp2_with fail
      go_loopw [12] (fun p wr => ∃ k : Nat, p = .int .i64 (k : Int) ∧ k ≤ rev.length ∧ k ≤ 30 ∧ TxMem w sb ⟨kind, chg, rev, fl, data⟩ (.slice ac chg.length cc) (.slice ar rev.length cr) want (chgB chg) (upB rev k) (.slice none 0 0) (.slice none 0 0) [] [] wr) (fun p _ => 30 - (intOf p).toNat)
      case atStart => exact ⟨0, rfl, Nat.zero_le _, Nat.zero_le _, HC1.out⟩
      case round =>
        obtain ⟨k, rfl, hk, hk30, M⟩ := hrel
        have e1 := M.step.cell 2
        simp only [List.getElem?_toArray, List.getElem?_cons_zero, List.getElem?_cons_succ] at e1
        by_cases hlt : k < rev.length
        · have tk : decide ((k : Int) < (rev.length : Int)) = true := decide_eq_true (by omega)
          by_cases h30 : k < 30
          · obtain ⟨gx, o, rfl, hcx⟩ := u8_cell (HX.out.vr.kept M.below) hlt
            obtain ⟨c, hc⟩ : ∃ c, rev[k] % 12 = c := ⟨_, rfl⟩
            have hc12 : c < 12 := by omega
            have hc2 : (rev[k] : Int) % 12 = (c : Int) := by omega
            have hcc := M.rev.2 c hc12
            obtain ⟨u1, u2⟩ := hcc
            have HM2 := Lib.hid (M.setRev hc12 _ (upB_set rev hlt c hc))
            have hb256 := HX.out.rev _ (List.getElem_mem hlt)
            try dsimp only at hb256
            generalize rev[k] = ck at *
            clear M hc
            go_wp2
            exact ⟨⟨k + 1, by go_num, by omega, by omega, HM2.out⟩, by simp [intOf]; omega⟩
          · obtain rfl : k = 30 := by omega
            have HM2 := Lib.hid M
            clear M
            go_wp2
            go_meet
            exact HM2.out
        · obtain rfl : k = rev.length := by omega
          have HM2 : Hid (TxMem w sb ⟨kind, chg, rev, fl, data⟩ (.slice ac chg.length cc) (.slice ar rev.length cr) want (chgB chg) (chgB rev) (.slice none 0 0) (.slice none 0 0) [] [] wr) := Lib.hid (by rw [← upB_end rev (.inl ⟨rfl, hk30⟩)]; exact M)
          have tk : decide ((rev.length : Int) < (rev.length : Int)) = false := decide_eq_false (by omega)
          clear M
          go_wp2
          go_meet
          exact HM2.out
    case rest =>
      have HC2 := Lib.hid hcut
      clear hcut HC1
      obtain ⟨nx, hnx⟩ : ∃ nx : Nat → Nat, nx = fun k => (fl + k) % 256 := ⟨_, rfl⟩
      have HNX := Lib.hid hnx
      clear hnx
      obtain ⟨cf, hcf⟩ : ∃ cf, chgB chg = cf := ⟨_, rfl⟩
      obtain ⟨rf, hrf⟩ : ∃ rf, chgB rev = rf := ⟨_, rfl⟩
      have HC2 := Lib.hid (show TxMem w sb ⟨kind, chg, rev, fl, data⟩ (.slice ac chg.length cc) (.slice ar rev.length cr) (nextUp cf rf nx home want 0) cf rf (.slice none 0 0) (.slice none 0 0) (lkL da cf nx 0) (lkR da cf rf 0) _ by rw [← hcf, ← hrf, nextUp_zero]; exact HC2.out)
      have HCF := Lib.hid hcf
      have HRF := Lib.hid hrf
      clear hcf hrf
      go_upto_block 4 with fail
      go_cut [13] (fun _ wx => ∃ va vb, TxMem w sb ⟨kind, chg, rev, fl, data⟩ (.slice ac chg.length cc) (.slice ar rev.length cr) (nextUp cf rf nx home want 12) cf rf va vb (lkL da cf nx 12) (lkR da cf rf 12) wx)
      case first =>
        go_wp2_with fail
        go_loopw [13] (fun p wr => ∃ (k : Nat) (va vb : Value), p = .int .i64 (k : Int) ∧ k ≤ 12 ∧ TxMem w sb ⟨kind, chg, rev, fl, data⟩ (.slice ac chg.length cc) (.slice ar rev.length cr) (nextUp cf rf nx home want k) cf rf va vb (lkL da cf nx k) (lkR da cf rf k) wr) (fun p _ => 12 - (intOf p).toNat)
        case atStart => exact ⟨0, _, _, rfl, Nat.zero_le _, HC2.out⟩
        case round =>
          obtain ⟨k, va, vb, rfl, hk, M⟩ := hrel
          by_cases hlt : k < 12
          · have tk : decide ((k : Int) < 12) = true := decide_eq_true (by omega)
            have e1 : wr.cell? ⟨sb + 5, k, none⟩ = some (.bool (cf k)) := (M.chg.2 k hlt).1
            have e2 : wr.cell? ⟨sb + 6, k, none⟩ = some (.bool (rf k)) := (M.rev.2 k hlt).1
            cases hck : cf k with
            | true =>
              rw [hck] at e1
              have e3 := M.step.cell 3
              simp only [List.getElem?_toArray, List.getElem?_cons_zero, List.getElem?_cons_succ] at e3
              obtain ⟨nk, hnk⟩ : ∃ nk, nx k = nk := ⟨_, rfl⟩
              have hnk2 : nk = (fl + k) % 256 := by rw [← hnk, HNX.out]
              have hf256 := HX.out.fill
              try dsimp only at hf256
              have hw1 : IntKind.u8.wrap (k : Int) = (k : Int) := IntWalk.u8_in _ (by omega)
              have hw2 : IntKind.u8.wrap ((fl : Int) + (k : Int)) = (nk : Int) := by rw [IntKind.wrap_u8]; omega
              have hw3 : (k : Int) % 256 = (k : Int) := by omega
              have hw4 : ((fl : Int) + (k : Int)) % 256 = (nk : Int) := by omega
              have hnk3 : nk < 256 := by omega
              obtain ⟨n1, n2⟩ := M.next.2 k hlt
              have n1 : wr.cell? ⟨sb + 4, k, none⟩ = some (.int .u8 (nextUp cf rf nx home want k k : Int)) := n1
              have Mn := M.setNext (v := nk) hlt _ (nextUp_set cf rf nx home want k nk (by unfold nextOf; rw [hck, if_pos rfl]; exact hnk))
              have nk4 : (wr.setCell ⟨sb + 4, k, none⟩ (.int .u8 (nk : Int))).cell? ⟨sb + 4, k, none⟩ = some (.int .u8 (nk : Int)) := World.cell?_setCell_same _ _ _ n1
              obtain ⟨w4, hw4⟩ : ∃ w4, wr.setCell ⟨sb + 4, k, none⟩ (.int .u8 (nk : Int)) = w4 := ⟨_, rfl⟩
              rw [hw4] at Mn nk4
              obtain ⟨yy, hyy⟩ : ∃ yy, da + k = yy := ⟨_, rfl⟩
              have hzz : (1 : Int) + (l : Int) + (m : Int) + (t : Int) + (k : Int) = (yy : Int) := by have := HDA.out; omega
              have hy2 : yy ≤ 4200 := by omega
              have hwr : IntKind.i64.wrap (yy : Int) = (yy : Int) := IntWalk.i64_in _ (by omega)
              have Md := Mn.kept1 (Below.refl _ _).drew
              have nk4 : w4.drew.cell? ⟨sb + 4, k, none⟩ = some (.int .u8 (nk : Int)) := nk4
              have hl5 : (lkL da cf nx k).length ≤ 12 := by have := lkL_len da cf nx k; omega
              have hlt4 : sb + 4 < w4.drew.heap.size := by have := Md.top; omega
              have hwd : wd < sb := by have := HM.out.wld.lt; have := HSB.out; omega
              obtain ⟨av, cv, ev, -⟩ := shape_of M.own1
              have t0 := Md.txn.cell 0
              simp only [List.getElem?_toArray, List.getElem?_cons_zero] at t0
              have q8 := (HM.out.wld.kept1 Md.below).da
              have F0 := Lib.hid fun w => fill_any nk hnk3 w
              have HNK := Lib.hid hnk
              have HYY := Lib.hid hyy
              have HW4 := Lib.hid hw4
              subst ev
              clear M Mn hw4 hyy hnk hnk2 hf256
              have hk12 : (k : Int) < 12 := by omega
              go_upto_region 17 with fail
              rw [HW4.out]
              clear n1 n2 e1 e2 e3 HW4
              refine wp_region_held_drew (S := fun w' => w'.cell? ⟨wd, 8, none⟩ = some (.int .i64 (1 + (l : Int) + (m : Int) + (t : Int))) ∧ w'.cell? ⟨sb + 4, k, none⟩ = some (.int .u8 (nk : Int))) mixed ⟨q8, nk4⟩ (fun hHeld => ?_)
              refine wpAnyH_take (i := 0) (oi := _) (v := ?vq1) rfl (by kernel_rfl) (by kernel_rfl) (by kernel_rfl) (fun _ _ _ h => h) (Or.inl ⟨by kernel_rfl, ?hyq1⟩) hHeld ?restq1
              case hyq1 => (intro w9 hSw; clear hSw; go_simp; try with_reducible rfl)
              try simp only [Act.put, List.getElem_toArray, List.getElem_cons_zero, List.getElem_cons_succ, List.setIfInBounds_toArray, List.set_cons_zero, List.set_cons_succ]
              refine wpAnyH_take (i := 2) (oi := _) (v := ?vq2) rfl (by kernel_rfl) (by kernel_rfl) (by kernel_rfl) (fun _ _ _ h => h) (Or.inl ⟨by kernel_rfl, ?hyq2⟩) hHeld ?restq2
              case hyq2 => (intro w9 hSw; clear hSw; go_simp; try with_reducible rfl)
              try simp only [Act.put, List.getElem_toArray, List.getElem_cons_zero, List.getElem_cons_succ, List.setIfInBounds_toArray, List.set_cons_zero, List.set_cons_succ]
              refine wpAnyH_take (i := 3) (oi := _) (v := ?vq3) rfl (by kernel_rfl) (by kernel_rfl) (by kernel_rfl) (fun _ _ _ h => h) (Or.inl ⟨by kernel_rfl, ?hyq3⟩) hHeld ?restq3
              case hyq3 => (intro w9 hSw; clear hSw; go_simp; try with_reducible rfl)
              try simp only [Act.put, List.getElem_toArray, List.getElem_cons_zero, List.getElem_cons_succ, List.setIfInBounds_toArray, List.set_cons_zero, List.set_cons_succ]
              refine wpAnyH_take (i := 4) (oi := _) (v := ?vq4) rfl (by kernel_rfl) (by kernel_rfl) (by kernel_rfl) (fun _ _ _ h => h) (Or.inl ⟨by kernel_rfl, ?hyq4⟩) hHeld ?restq4
              case hyq4 => (intro w9 hSw; clear hSw; go_simp; try with_reducible rfl)
              try simp only [Act.put, List.getElem_toArray, List.getElem_cons_zero, List.getElem_cons_succ, List.setIfInBounds_toArray, List.set_cons_zero, List.set_cons_succ]
              refine wpAnyH_take (i := 5) (oi := _) (v := ?vq5) rfl (by kernel_rfl) (by kernel_rfl) (by kernel_rfl) (fun _ _ _ h => h) (Or.inl ⟨by kernel_rfl, ?hyq5⟩) hHeld ?restq5
              case hyq5 => (intro w9 hSw; clear hSw; go_simp; try with_reducible rfl)
              try simp only [Act.put, List.getElem_toArray, List.getElem_cons_zero, List.getElem_cons_succ, List.setIfInBounds_toArray, List.set_cons_zero, List.set_cons_succ]
              refine wpAnyH_take (i := 6) (oi := _) (v := ?vq6) rfl (by kernel_rfl) (by kernel_rfl) (by kernel_rfl) (fun _ _ _ h => h) (Or.inl ⟨by kernel_rfl, ?hyq6⟩) hHeld ?restq6
              case hyq6 => (intro w9 hSw; obtain ⟨e9, e10⟩ := hSw; go_simp; try with_reducible rfl)
              try simp only [Act.put, List.getElem_toArray, List.getElem_cons_zero, List.getElem_cons_succ, List.setIfInBounds_toArray, List.set_cons_zero, List.set_cons_succ]
              refine wpAnyH_take (i := 7) (oi := _) (v := ?vq7) rfl (by kernel_rfl) (by kernel_rfl) (by kernel_rfl) (fun _ _ _ h => h) (Or.inl ⟨by kernel_rfl, ?hyq7⟩) hHeld ?restq7
              case hyq7 => (intro w9 hSw; clear hSw; go_simp; try with_reducible rfl)
              try simp only [Act.put, List.getElem_toArray, List.getElem_cons_zero, List.getElem_cons_succ, List.setIfInBounds_toArray, List.set_cons_zero, List.set_cons_succ]
              refine wpAnyH_take (i := 8) (oi := _) (v := ?vq8) rfl (by kernel_rfl) (by kernel_rfl) (by kernel_rfl) (fun _ _ _ h => h) (Or.inl ⟨by kernel_rfl, ?hyq8⟩) hHeld ?restq8
              case hyq8 => (intro w9 hSw; clear hSw; go_simp; try with_reducible rfl)
              try simp only [Act.put, List.getElem_toArray, List.getElem_cons_zero, List.getElem_cons_succ, List.setIfInBounds_toArray, List.set_cons_zero, List.set_cons_succ]
              refine wpAnyH_take (i := 9) (oi := _) (v := ?vq9) rfl (by kernel_rfl) (by kernel_rfl) (by kernel_rfl) (fun _ _ _ h => h) (Or.inl ⟨by kernel_rfl, ?hyq9⟩) hHeld ?restq9
              case hyq9 => (intro w9 hSw; clear hSw; go_simp; try with_reducible rfl)
              try simp only [Act.put, List.getElem_toArray, List.getElem_cons_zero, List.getElem_cons_succ, List.setIfInBounds_toArray, List.set_cons_zero, List.set_cons_succ]
              refine wpAnyH_take (i := 10) (oi := _) (v := ?vq10) rfl (by kernel_rfl) (by kernel_rfl) (by kernel_rfl) (fun _ _ _ h => h) (Or.inl ⟨by kernel_rfl, ?hyq10⟩) hHeld ?restq10
              case hyq10 => (intro w9 hSw; clear hSw; go_simp; try with_reducible rfl)
              try simp only [Act.put, List.getElem_toArray, List.getElem_cons_zero, List.getElem_cons_succ, List.setIfInBounds_toArray, List.set_cons_zero, List.set_cons_succ]
              refine wpAnyH_take (i := 11) (oi := _) (v := ?vq11) rfl (by kernel_rfl) (by kernel_rfl) (by kernel_rfl) (fun _ _ _ h => h) (Or.inl ⟨by kernel_rfl, ?hyq11⟩) hHeld ?restq11
              case hyq11 => (intro w9 hSw; obtain ⟨e9, e10⟩ := hSw; go_simp; try with_reducible rfl)
              try simp only [Act.put, List.getElem_toArray, List.getElem_cons_zero, List.getElem_cons_succ, List.setIfInBounds_toArray, List.set_cons_zero, List.set_cons_succ]
              refine wpAnyH_ready (rs := [1, 12]) (by kernel_rfl) (by simp) ?_
              refine AllReadyH.cons (o := _) rfl (fun K hK => ?_) ?_
              · go_simp
                refine hK.out _ _ ⟨q8, nk4⟩ (fun hHeld3 => ?_)
                clear hK K hHeld
                have hHeld := hHeld3
                clear hHeld3
                try simp only [Act.put, List.getElem_toArray, List.getElem_cons_zero, List.getElem_cons_succ, List.setIfInBounds_toArray, List.set_cons_zero, List.set_cons_succ]
                refine wpAnyH_ready (rs := [12]) (by kernel_rfl) (by simp) ?_
                refine AllReadyH.cons (o := _) rfl (fun K hK => ?_) ?_
                · go_simp
                  refine (F0.out _).mono ?_; rintro e w5 ⟨rfl, b5⟩
                  dsimp only
                  have M5 := Md.kept1 b5
                  have A4 : w5.cell? ⟨wd, 8, none⟩ = some (.int .i64 (1 + (l : Int) + (m : Int) + (t : Int))) := (HM.out.wld.kept1 M5.below).da
                  have A4b : w5.cell? ⟨sb + 4, k, none⟩ = some (.int .u8 (nk : Int)) := (b5.cell (p := ⟨sb + 4, k, none⟩) hlt4).trans nk4
                  obtain ⟨v5, w6, r1, ⟨a5, c5, e5⟩, h6, ⟨A5, A6⟩, A7, A7b, A8, A9, A10⟩ := app_facts M5 hl5 hwd A4 A4b yy (rep nk)
                  have HM6 := Lib.hid (show TxMem w sb ⟨kind, chg, rev, fl, data⟩ (.slice ac chg.length cc) (.slice ar rev.length cr) (nextUp cf rf nx home want (k + 1)) cf rf v5 vb (lkL da cf nx (k + 1)) (lkR da cf rf (k + 1)) (w6.setCell ⟨sb + 3, 0, none⟩ v5) by rw [lkL_yes _ _ _ hck, lkR_no _ _ _ (by rw [hck]; rfl), HNK.out, HYY.out]; exact h6)
                  subst e5
                  have R1 := Lib.hid r1
                  clear M5 h6 r1 b5
                  refine hK.out _ _ ⟨A4, A4b⟩ (fun hHeld3 => ?_)
                  clear hK K hHeld
                  have hHeld := hHeld3
                  clear hHeld3
                  try simp only [Act.put, List.getElem_toArray, List.getElem_cons_zero, List.getElem_cons_succ, List.setIfInBounds_toArray, List.set_cons_zero, List.set_cons_succ]
                  refine wpAnyH_take (i := 13) (oi := _) (v := ?vq12) rfl (by kernel_rfl) (by kernel_rfl) (by kernel_rfl) (fun _ _ _ h => h) (Or.inl ⟨by kernel_rfl, ?hyq12⟩) hHeld ?restq12
                  case hyq12 => (intro w9 hSw; clear hSw; go_simp; try with_reducible rfl)
                  try simp only [Act.put, List.getElem_toArray, List.getElem_cons_zero, List.getElem_cons_succ, List.setIfInBounds_toArray, List.set_cons_zero, List.set_cons_succ]
                  refine wpAnyH_ready (rs := [14]) (by kernel_rfl) (by simp) ?_
                  refine AllReadyH.cons (o := _) rfl (fun K hK => ?_) ?_
                  · go_simp
                    refine hK.out _ _ A8 (fun hHeld3 => ?_)
                    clear hK K hHeld
                    have hHeld := hHeld3
                    clear hHeld3
                    try simp only [Act.put, List.getElem_toArray, List.getElem_cons_zero, List.getElem_cons_succ, List.setIfInBounds_toArray, List.set_cons_zero, List.set_cons_succ]
                    refine wpAnyH_ready (rs := [15]) (by kernel_rfl) (by simp) ?_
                    refine AllReadyH.cons (o := _) rfl (fun K hK => ?_) ?_
                    · refine step_append rfl _ _ _ rfl rfl rfl R1.out ?_
                      try go_simp
                      refine hK.out _ _ A9 (fun hHeld3 => ?_)
                      clear hK K hHeld
                      have hHeld := hHeld3
                      clear hHeld3
                      try simp only [Act.put, List.getElem_toArray, List.getElem_cons_zero, List.getElem_cons_succ, List.setIfInBounds_toArray, List.set_cons_zero, List.set_cons_succ]
                      refine wpAnyH_take (i := 16) (oi := _) (v := ?vq13) rfl (by kernel_rfl) (by kernel_rfl) (by kernel_rfl) (fun _ _ _ h => h) (Or.inl ⟨by kernel_rfl, ?hyq13⟩) hHeld ?restq13
                      case hyq13 => (intro w9 hSw; clear hSw; go_simp; try with_reducible rfl)
                      try simp only [Act.put, List.getElem_toArray, List.getElem_cons_zero, List.getElem_cons_succ, List.setIfInBounds_toArray, List.set_cons_zero, List.set_cons_succ]
                      refine wpAnyH_ready (rs := [17]) (by kernel_rfl) (by simp) ?_
                      refine AllReadyH.cons (o := _) rfl (fun K hK => ?_) ?_
                      · go_simp
                        refine hK.out _ _ A10 (fun hHeld3 => ?_)
                        clear hK K hHeld
                        have hHeld := hHeld3
                        clear hHeld3
                        try simp only [Act.put, List.getElem_toArray, List.getElem_cons_zero, List.getElem_cons_succ, List.setIfInBounds_toArray, List.set_cons_zero, List.set_cons_succ]
                        refine ⟨by kernel_rfl, ?_⟩
                        clear hHeld A4 A4b A5 A6 A7 A7b A8 A9 A10 R1
                        go_wp2
                        exact ⟨⟨k + 1, _, _, by go_num, by omega, HM6.out⟩, by simp [intOf]; omega⟩
                      exact AllReadyH.nil
                    exact AllReadyH.nil
                  exact AllReadyH.nil
                exact AllReadyH.nil
              refine AllReadyH.cons (o := _) rfl (fun K hK => ?_) ?_
              · go_simp
                refine (F0.out _).mono ?_; rintro e w5 ⟨rfl, b5⟩
                dsimp only
                have M5 := Md.kept1 b5
                have A4 : w5.cell? ⟨wd, 8, none⟩ = some (.int .i64 (1 + (l : Int) + (m : Int) + (t : Int))) := (HM.out.wld.kept1 M5.below).da
                have A4b : w5.cell? ⟨sb + 4, k, none⟩ = some (.int .u8 (nk : Int)) := (b5.cell (p := ⟨sb + 4, k, none⟩) hlt4).trans nk4
                obtain ⟨v5, w6, r1, ⟨a5, c5, e5⟩, h6, ⟨A5, A6⟩, A7, A7b, A8, A9, A10⟩ := app_facts M5 hl5 hwd A4 A4b yy (rep nk)
                have HM6 := Lib.hid (show TxMem w sb ⟨kind, chg, rev, fl, data⟩ (.slice ac chg.length cc) (.slice ar rev.length cr) (nextUp cf rf nx home want (k + 1)) cf rf v5 vb (lkL da cf nx (k + 1)) (lkR da cf rf (k + 1)) (w6.setCell ⟨sb + 3, 0, none⟩ v5) by rw [lkL_yes _ _ _ hck, lkR_no _ _ _ (by rw [hck]; rfl), HNK.out, HYY.out]; exact h6)
                subst e5
                have R1 := Lib.hid r1
                clear M5 h6 r1 b5
                refine hK.out _ _ ⟨A4, A4b⟩ (fun hHeld3 => ?_)
                clear hK K hHeld
                have hHeld := hHeld3
                clear hHeld3
                try simp only [Act.put, List.getElem_toArray, List.getElem_cons_zero, List.getElem_cons_succ, List.setIfInBounds_toArray, List.set_cons_zero, List.set_cons_succ]
                refine wpAnyH_take (i := 13) (oi := _) (v := ?vq14) rfl (by kernel_rfl) (by kernel_rfl) (by kernel_rfl) (fun _ _ _ h => h) (Or.inl ⟨by kernel_rfl, ?hyq14⟩) hHeld ?restq14
                case hyq14 => (intro w9 hSw; clear hSw; go_simp; try with_reducible rfl)
                try simp only [Act.put, List.getElem_toArray, List.getElem_cons_zero, List.getElem_cons_succ, List.setIfInBounds_toArray, List.set_cons_zero, List.set_cons_succ]
                refine wpAnyH_ready (rs := [1, 14]) (by kernel_rfl) (by simp) ?_
                refine AllReadyH.cons (o := _) rfl (fun K hK => ?_) ?_
                · go_simp
                  refine hK.out _ _ ⟨A4, A4b⟩ (fun hHeld3 => ?_)
                  clear hK K hHeld
                  have hHeld := hHeld3
                  clear hHeld3
                  try simp only [Act.put, List.getElem_toArray, List.getElem_cons_zero, List.getElem_cons_succ, List.setIfInBounds_toArray, List.set_cons_zero, List.set_cons_succ]
                  refine wpAnyH_ready (rs := [14]) (by kernel_rfl) (by simp) ?_
                  refine AllReadyH.cons (o := _) rfl (fun K hK => ?_) ?_
                  · go_simp
                    refine hK.out _ _ A8 (fun hHeld3 => ?_)
                    clear hK K hHeld
                    have hHeld := hHeld3
                    clear hHeld3
                    try simp only [Act.put, List.getElem_toArray, List.getElem_cons_zero, List.getElem_cons_succ, List.setIfInBounds_toArray, List.set_cons_zero, List.set_cons_succ]
                    refine wpAnyH_ready (rs := [15]) (by kernel_rfl) (by simp) ?_
                    refine AllReadyH.cons (o := _) rfl (fun K hK => ?_) ?_
                    · refine step_append rfl _ _ _ rfl rfl rfl R1.out ?_
                      try go_simp
                      refine hK.out _ _ A9 (fun hHeld3 => ?_)
                      clear hK K hHeld
                      have hHeld := hHeld3
                      clear hHeld3
                      try simp only [Act.put, List.getElem_toArray, List.getElem_cons_zero, List.getElem_cons_succ, List.setIfInBounds_toArray, List.set_cons_zero, List.set_cons_succ]
                      refine wpAnyH_take (i := 16) (oi := _) (v := ?vq15) rfl (by kernel_rfl) (by kernel_rfl) (by kernel_rfl) (fun _ _ _ h => h) (Or.inl ⟨by kernel_rfl, ?hyq15⟩) hHeld ?restq15
                      case hyq15 => (intro w9 hSw; clear hSw; go_simp; try with_reducible rfl)
                      try simp only [Act.put, List.getElem_toArray, List.getElem_cons_zero, List.getElem_cons_succ, List.setIfInBounds_toArray, List.set_cons_zero, List.set_cons_succ]
                      refine wpAnyH_ready (rs := [17]) (by kernel_rfl) (by simp) ?_
                      refine AllReadyH.cons (o := _) rfl (fun K hK => ?_) ?_
                      · go_simp
                        refine hK.out _ _ A10 (fun hHeld3 => ?_)
                        clear hK K hHeld
                        have hHeld := hHeld3
                        clear hHeld3
                        try simp only [Act.put, List.getElem_toArray, List.getElem_cons_zero, List.getElem_cons_succ, List.setIfInBounds_toArray, List.set_cons_zero, List.set_cons_succ]
                        refine ⟨by kernel_rfl, ?_⟩
                        clear hHeld A4 A4b A5 A6 A7 A7b A8 A9 A10 R1
                        go_wp2
                        exact ⟨⟨k + 1, _, _, by go_num, by omega, HM6.out⟩, by simp [intOf]; omega⟩
                      exact AllReadyH.nil
                    exact AllReadyH.nil
                  exact AllReadyH.nil
                refine AllReadyH.cons (o := _) rfl (fun K hK => ?_) ?_
                · go_simp
                  refine hK.out _ _ A8 (fun hHeld3 => ?_)
                  clear hK K hHeld
                  have hHeld := hHeld3
                  clear hHeld3
                  try simp only [Act.put, List.getElem_toArray, List.getElem_cons_zero, List.getElem_cons_succ, List.setIfInBounds_toArray, List.set_cons_zero, List.set_cons_succ]
                  refine wpAnyH_ready (rs := [1]) (by kernel_rfl) (by simp) ?_
                  refine AllReadyH.cons (o := _) rfl (fun K hK => ?_) ?_
                  · go_simp
                    refine hK.out _ _ A8 (fun hHeld3 => ?_)
                    clear hK K hHeld
                    have hHeld := hHeld3
                    clear hHeld3
                    try simp only [Act.put, List.getElem_toArray, List.getElem_cons_zero, List.getElem_cons_succ, List.setIfInBounds_toArray, List.set_cons_zero, List.set_cons_succ]
                    refine wpAnyH_ready (rs := [15]) (by kernel_rfl) (by simp) ?_
                    refine AllReadyH.cons (o := _) rfl (fun K hK => ?_) ?_
                    · refine step_append rfl _ _ _ rfl rfl rfl R1.out ?_
                      try go_simp
                      refine hK.out _ _ A9 (fun hHeld3 => ?_)
                      clear hK K hHeld
                      have hHeld := hHeld3
                      clear hHeld3
                      try simp only [Act.put, List.getElem_toArray, List.getElem_cons_zero, List.getElem_cons_succ, List.setIfInBounds_toArray, List.set_cons_zero, List.set_cons_succ]
                      refine wpAnyH_take (i := 16) (oi := _) (v := ?vq16) rfl (by kernel_rfl) (by kernel_rfl) (by kernel_rfl) (fun _ _ _ h => h) (Or.inl ⟨by kernel_rfl, ?hyq16⟩) hHeld ?restq16
                      case hyq16 => (intro w9 hSw; clear hSw; go_simp; try with_reducible rfl)
                      try simp only [Act.put, List.getElem_toArray, List.getElem_cons_zero, List.getElem_cons_succ, List.setIfInBounds_toArray, List.set_cons_zero, List.set_cons_succ]
                      refine wpAnyH_ready (rs := [17]) (by kernel_rfl) (by simp) ?_
                      refine AllReadyH.cons (o := _) rfl (fun K hK => ?_) ?_
                      · go_simp
                        refine hK.out _ _ A10 (fun hHeld3 => ?_)
                        clear hK K hHeld
                        have hHeld := hHeld3
                        clear hHeld3
                        try simp only [Act.put, List.getElem_toArray, List.getElem_cons_zero, List.getElem_cons_succ, List.setIfInBounds_toArray, List.set_cons_zero, List.set_cons_succ]
                        refine ⟨by kernel_rfl, ?_⟩
                        clear hHeld A4 A4b A5 A6 A7 A7b A8 A9 A10 R1
                        go_wp2
                        exact ⟨⟨k + 1, _, _, by go_num, by omega, HM6.out⟩, by simp [intOf]; omega⟩
                      exact AllReadyH.nil
                    exact AllReadyH.nil
                  exact AllReadyH.nil
                exact AllReadyH.nil
              exact AllReadyH.nil
            | false =>
              rw [hck] at e1
              cases hrk : rf k with
              | true =>
                rw [hrk] at e2
                have eh := (HM.out.wld.kept1 M.below).homeAt hlt
                obtain ⟨n1, n2⟩ := M.next.2 k hlt
                have n1 : wr.cell? ⟨sb + 4, k, none⟩ = some (.int .u8 (nextUp cf rf nx home want k k : Int)) := n1
                have Mn := M.setNext (v := home k) hlt _ (nextUp_set cf rf nx home want k (home k) (by unfold nextOf; rw [hck, hrk]; rfl))
                obtain ⟨w4, hw4⟩ : ∃ w4, wr.setCell ⟨sb + 4, k, none⟩ (.int .u8 (home k : Int)) = w4 := ⟨_, rfl⟩
                rw [hw4] at Mn
                obtain ⟨yy, hyy⟩ : ∃ yy, da + k = yy := ⟨_, rfl⟩
                have hzz : (1 : Int) + (l : Int) + (m : Int) + (t : Int) + (k : Int) = (yy : Int) := by have := HDA.out; omega
                have hy2 : yy ≤ 4200 := by omega
                have hwr : IntKind.i64.wrap (yy : Int) = (yy : Int) := IntWalk.i64_in _ (by omega)
                have Md := Mn.kept1 (Below.refl _ _).drew
                obtain ⟨v5, w6, r1, hv5, g5⟩ := appI_run (ty := 56) (sb + 7) vb _ (yy : Int) w4.drew Md.own2 (by have := lkR_len da cf rf k; omega) Md.top
                have HM6 := Lib.hid (show TxMem w sb ⟨kind, chg, rev, fl, data⟩ (.slice ac chg.length cc) (.slice ar rev.length cr) (nextUp cf rf nx home want (k + 1)) cf rf va v5 (lkL da cf nx (k + 1)) (lkR da cf rf (k + 1)) (w6.setCell ⟨sb + 3, 1, none⟩ v5) ∧ w6.cell? ⟨sb + 3, 1, none⟩ = some vb ∧ w6.frozen? ⟨sb + 3, 1, none⟩ = false by
                  rw [lkL_no _ _ _ hck, lkR_yes _ _ _ hck hrk, hyy]
                  exact Md.appR hv5 g5)
                obtain ⟨a5, c5, e5, -⟩ := shape_of hv5
                obtain ⟨ab, cb, eb, -⟩ := shape_of M.own2
                have hl5 : (lkR da cf rf k).length ≤ 12 := by have := lkR_len da cf rf k; omega
                rw [List.length_append, List.length_singleton] at e5
                generalize (lkR da cf rf k).length = nb at *
                subst e5 eb
                have t1 := Md.txn.cell 1
                have t1a := (Md.kept1 (balloc1 _ (.cells #[.int .i64 (yy : Int)] 3))).txn.cell 1
                simp only [List.getElem?_toArray, List.getElem?_cons_zero, List.getElem?_cons_succ] at t1 t1a
                have t1b : (w4.alloc (.cells #[.int .i64 (yy : Int)] 3)).drew.cell? ⟨sb + 3, 1, none⟩ = some (.slice ab nb cb) := t1a
                have t1c : (w4.alloc (.cells #[.int .i64 (yy : Int)] 3)).cell? ⟨sb + 3, 1, none⟩ = some (.slice ab nb cb) := t1a
                have q8 := (HM.out.wld.kept1 Md.below).da
                have c6 := HM6.out.2.1
                have f6 := HM6.out.2.2
                have R1 := Lib.hid r1
                have HW4 := Lib.hid hw4
                clear M Mn Md hv5 g5 r1 hw4 hyy
                go_upto_region 20 with fail
                rw [HW4.out]
                clear n1 n2 eh e1 e2 HW4
                go_region_law (refine step_append rfl _ _ _ rfl rfl rfl R1.out ?_)
                all_goals (clear R1 t1 t1a t1b t1c q8; go_wp2; exact ⟨⟨k + 1, _, _, by go_num, by omega, HM6.out.1⟩, by simp [intOf]; omega⟩)
              | false =>
                rw [hrk] at e2
                have HM2 := Lib.hid (show TxMem w sb ⟨kind, chg, rev, fl, data⟩ (.slice ac chg.length cc) (.slice ar rev.length cr) (nextUp cf rf nx home want (k + 1)) cf rf va vb (lkL da cf nx (k + 1)) (lkR da cf rf (k + 1)) wr by
                  rw [nextUp_same _ _ _ _ _ _ (by unfold nextOf; rw [hck, hrk]; rfl), lkL_no _ _ _ hck, lkR_no _ _ _ (by rw [hck, hrk]; rfl)]; exact M)
                clear M
                go_wp2
                exact ⟨⟨k + 1, _, _, by go_num, by omega, HM2.out⟩, by simp [intOf]; omega⟩
          · obtain rfl : k = 12 := by omega
            have HM2 := Lib.hid M
            clear M
            go_wp2
            go_meet
            exact ⟨_, _, HM2.out⟩
      case rest =>
        obtain ⟨va, vb, M⟩ := hcut
        clear HC2
        obtain ⟨av, cv, ev, -⟩ := shape_of M.own1
        obtain ⟨ab, cb, eb, -⟩ := shape_of M.own2
        have hLs : lkL da cf nx 12 = stepL da cf nx := rfl
        have hRs : lkR da cf rf 12 = stepR da cf rf := rfl
        rw [hLs, hRs] at M
        rw [hLs] at ev
        rw [hRs] at eb
        obtain ⟨na, hna⟩ : ∃ na, (stepL da cf nx).length = na := ⟨_, rfl⟩
        obtain ⟨nb, hnb⟩ : ∃ nb, (stepR da cf rf).length = nb := ⟨_, rfl⟩
        rw [hna] at ev
        rw [hnb] at eb
        subst ev eb
        obtain ⟨nf, hnf⟩ : ∃ nf, nextOf cf rf nx home want = nf := ⟨_, rfl⟩
        have M : TxMem w sb ⟨kind, chg, rev, fl, data⟩ (.slice ac chg.length cc) (.slice ar rev.length cr) nf cf rf (.slice av na cv) (.slice ab nb cb) (stepL da cf nx) (stepR da cf rf) _ :=
          ⟨M.step, M.res, M.arr, M.txn, M.next.congr fun j hj => by rw [nextUp_end _ _ _ _ _ hj, hnf], M.chg, M.rev, M.own1, M.own2, M.below, M.base⟩
        have e3 := M.step.cell 3
        have e4 := M.step.cell 4
        simp only [List.getElem?_toArray, List.getElem?_cons_zero, List.getElem?_cons_succ] at e3 e4
        have HNF := Lib.hid hnf
        clear hnf hna hnb hLs hRs
        have fin : ∀ (vd : Value) (w' : World), ChgsOwn (sb + 7) (.slice av na cv) (stepL da cf nx) w' → IntsOwn (sb + 7) (.slice ab nb cb) (stepR da cf rf) w' → ChgsOwn (sb + 7) vd (stepD da data fl) w' → Below w.heap.size w w' →
          ∃ va vb vd', Ending.returned (.tuple #[.agg #[.slice av na cv, .slice ab nb cb], vd, .agg (arr12 nf)]) = .returned (.tuple #[.agg #[va, vb], vd', .agg (arr12 (nextOf (chgB chg) (chgB rev) (fun k => (fl + k) % 256) home want))]) ∧ ChgsOwn w.heap.size va (stepL da (chgB chg) fun k => (fl + k) % 256) w' ∧
            IntsOwn w.heap.size vb (stepR da (chgB chg) (chgB rev)) w' ∧ ChgsOwn w.heap.size vd' (stepD da data fl) w' ∧ Below w.heap.size w w' := fun vd w' h1 h2 h3 h4 => by
          have hsb := HSB.out
          rw [HCF.out, HRF.out, ← HNX.out, HNF.out]
          refine ⟨_, _, _, rfl, ?_⟩
          exact ⟨row_down (by omega) h1, row_down (by omega) h2, row_down (by omega) h3, h4⟩
        have HFIN := Lib.hid fin
        clear fin
        cases data with
        | false =>
          obtain ⟨wt, hwt⟩ : ∃ wt, wc = wt := ⟨_, rfl⟩
          rw [hwt] at M e3 e4
          rw [hwt]
          have HTm := Lib.hid M
          have HDm := Lib.hid (show ChgsOwn (sb + 7) (.slice none 0 0) (stepD da false fl) wt from World.ownsRow_nil _ _ _ _)
          clear M hwt
          go_upto_region 24 with fail
          have HTq := Lib.hid (HTm.out.kept1 (Below.refl _ _).drew)
          have HDq := Lib.hid (row_kept HDm.out (Below.refl _ _).drew)
          clear HTm HDm
          obtain ⟨w8, hw8⟩ : ∃ w8, wt.drew.setRow (sb + 1) #[.slice av na cv, .slice ab nb cb] = w8 := ⟨_, rfl⟩
          have HRE : Blk (sb + 1) #[.slice av na cv, .slice ab nb cb] 64 w8 := by rw [← hw8]; exact setRow_heap _ (sb + 1) _ _ _ _ HTq.out.res
          have z12 : Zone (sb + 1) (sb + 1 + 1) wt.drew w8 := by rw [← hw8]; exact ⟨rfl, rfl, rfl, by simp, fun j _ hj => setRow_other _ (sb + 1) j _ (by omega)⟩
          have HAR := Lib.hid (HTq.out.arr.kept z12 (.inr (by omega)))
          have HRE := Lib.hid HRE
          have S2 := And.intro (HTq.out.txn.kept z12 (.inr (by omega))) (HTq.out.next.kept z12 (.inr (by omega)))
          obtain ⟨w10, hw10⟩ : ∃ w10, w8.setRow (sb + 2) (arr12 nf) = w10 := ⟨_, rfl⟩
          have k10 : Blk (sb + 2) (arr12 nf) 36 w10 := by rw [← hw10]; exact setRow_heap _ (sb + 2) _ _ _ _ HAR.out
          have z10 : Zone (sb + 2) (sb + 2 + 1) w8 w10 := by rw [← hw10]; exact ⟨rfl, rfl, rfl, by simp, fun j _ hj => setRow_other _ (sb + 2) j _ (by omega)⟩
          have S3 := And.intro (S2.1.kept z10 (.inr (by omega))) (S2.2.kept z10 (.inr (by omega)))
          have S1 := And.intro HTq.out.txn HTq.out.next
          have HW8 := Lib.hid hw8
          have HW10 := Lib.hid hw10
          have z12 := Lib.hid z12
          clear hw8 hw10
          refine wp_region_held_drew (S := fun w' => Blk (sb + 3) #[.slice av na cv, .slice ab nb cb] 64 w' ∧ CellsAt (sb + 4) 12 (fun j => .int .u8 (nf j : Int)) w') mixed S1 (fun hHeld => ?_)
          refine wpAnyH_take (i := 0) (oi := _) (v := ?vta0) rfl (by kernel_rfl) (by kernel_rfl) (by kernel_rfl) (fun _ _ _ h => h) (Or.inl ⟨by kernel_rfl, ?hyta0⟩) hHeld ?restta0
          case hyta0 => (intro w9 hSw; have p0 := hSw.1.cell 0; have p1 := hSw.1.cell 1; simp only [List.getElem?_toArray, List.getElem?_cons_zero, List.getElem?_cons_succ] at p0 p1; clear hSw; go_simp; try with_reducible rfl)
          try simp only [Act.put, List.getElem_toArray, List.getElem_cons_zero, List.getElem_cons_succ, List.setIfInBounds_toArray, List.set_cons_zero, List.set_cons_succ]
          refine wpAnyH_take (i := 1) (oi := _) (v := ?vta1) rfl (by kernel_rfl) (by kernel_rfl) (by kernel_rfl) (fun _ _ _ h => h) (Or.inl ⟨by kernel_rfl, ?hyta1⟩) hHeld ?restta1
          case hyta1 => (intro w9 hSw; skip; clear hSw; go_simp; try with_reducible rfl)
          try simp only [Act.put, List.getElem_toArray, List.getElem_cons_zero, List.getElem_cons_succ, List.setIfInBounds_toArray, List.set_cons_zero, List.set_cons_succ]
          refine wpAnyH_take (i := 2) (oi := _) (v := ?vta2) rfl (by kernel_rfl) (by kernel_rfl) (by kernel_rfl) (fun _ _ _ h => h) (Or.inl ⟨by kernel_rfl, ?hyta2⟩) hHeld ?restta2
          case hyta2 => (intro w9 hSw; have m0 := (hSw.2.2 0 (by omega)).1; have m1 := (hSw.2.2 1 (by omega)).1; have m2 := (hSw.2.2 2 (by omega)).1; have m3 := (hSw.2.2 3 (by omega)).1; have m4 := (hSw.2.2 4 (by omega)).1; have m5 := (hSw.2.2 5 (by omega)).1; have m6 := (hSw.2.2 6 (by omega)).1; have m7 := (hSw.2.2 7 (by omega)).1; have m8 := (hSw.2.2 8 (by omega)).1; have m9 := (hSw.2.2 9 (by omega)).1; have m10 := (hSw.2.2 10 (by omega)).1; have m11 := (hSw.2.2 11 (by omega)).1; clear hSw; go_simp; try with_reducible rfl)
          try simp only [Act.put, List.getElem_toArray, List.getElem_cons_zero, List.getElem_cons_succ, List.setIfInBounds_toArray, List.set_cons_zero, List.set_cons_succ]
          refine wpAnyH_ready (rs := [3]) (by kernel_rfl) (by simp) ?_
          refine AllReadyH.cons (o := _) rfl (fun K hK => ?_) AllReadyH.nil
          rw [if_pos (by kernel_rfl)]
          refine wp_store_row 64 _ _ rfl (sb + 1) #[.slice av na cv, .slice ab nb cb] rfl rfl _ _ HTq.out.res txn_sz rfl (by simp [Value.oneCell']) ?_
          rw [HW8.out]
          refine hK.out _ _ S2 (fun hHeld3 => ?_)
          clear hK K hHeld
          have hHeld := hHeld3
          clear hHeld3
          try simp only [Act.put, List.getElem_toArray, List.getElem_cons_zero, List.getElem_cons_succ, List.setIfInBounds_toArray, List.set_cons_zero, List.set_cons_succ]
          refine wpAnyH_take (i := 4) (oi := _) (v := ?vta4) rfl (by kernel_rfl) (by kernel_rfl) (by kernel_rfl) (fun _ _ _ h => h) (Or.inl ⟨by kernel_rfl, ?hyta4⟩) hHeld ?restta4
          case hyta4 => (intro w9 hSw; skip; clear hSw; go_simp; try with_reducible rfl)
          try simp only [Act.put, List.getElem_toArray, List.getElem_cons_zero, List.getElem_cons_succ, List.setIfInBounds_toArray, List.set_cons_zero, List.set_cons_succ]
          refine wpAnyH_ready (rs := [5]) (by kernel_rfl) (by simp) ?_
          refine AllReadyH.cons (o := _) rfl (fun K hK => ?_) AllReadyH.nil
          rw [if_pos (by kernel_rfl)]
          refine wp_store_row 36 _ _ rfl (sb + 2) (arr12 nf) rfl rfl _ _ HAR.out arr12_info rfl (by simp [Value.oneCell']) ?_
          rw [HW10.out]
          refine hK.out _ _ S3 (fun hHeld3 => ?_)
          clear hK K hHeld
          have hHeld := hHeld3
          clear hHeld3
          try simp only [Act.put, List.getElem_toArray, List.getElem_cons_zero, List.getElem_cons_succ, List.setIfInBounds_toArray, List.set_cons_zero, List.set_cons_succ]
          refine ⟨by kernel_rfl, ?_⟩
          clear hHeld S1 S2 S3
          go_wp2_with fail
          have HR := Lib.hid (HRE.out.kept z10 (.inl (by omega)))
          have hbs : Below w.heap.size w w10 := (HTq.out.below.trans (z12.out.below (B := w.heap.size) HTq.out.below.size (by have := HTq.out.base; omega))).trans (z10.below (B := w.heap.size) (by have := HTq.out.below.size; have := z12.out.size; omega) (by have := HTq.out.base; omega))
          refine bodyPost_ret (results_ctc (P := Tryz.prog) rfl _ _ (sb + 1) (sb + 2) _ (arr12 nf) _ _ rfl rfl HR.out k10 Tryz.underlying64 rfl txn_sz Tryz.underlying36 rfl arr12_info _ rfl) rfl ?_
          have z12' := z12.out
          refine HFIN.out _ _ (row_zone (row_zone HTq.out.own1 z12' (by omega)) z10 (by omega)) (row_zone (row_zone HTq.out.own2 z12' (by omega)) z10 (by omega)) (row_zone (row_zone HDq.out z12' (by omega)) z10 (by omega)) hbs
        | true =>
          have hf256 := HX.out.fill
          try dsimp only at hf256
          obtain ⟨f1, hf1⟩ : ∃ f1, (fl + 1) % 256 = f1 := ⟨_, rfl⟩
          have hf1b : f1 < 256 := by omega
          have hw1 : IntKind.u8.wrap ((fl : Int) + 1) = (f1 : Int) := by rw [IntKind.wrap_u8]; omega
          have hw2 : ((fl : Int) + 1) % 256 = (f1 : Int) := by omega
          have F0 := Lib.hid fun w => fill_any fl hf256 w
          have F1 := Lib.hid fun w => fill_any f1 hf1b w
          obtain ⟨y1, hy1⟩ : ∃ y, da + 12 = y := ⟨_, rfl⟩
          have hz1 : (1 : Int) + (l : Int) + (m : Int) + (t : Int) + 12 = (y1 : Int) := by have := HDA.out; omega
          have hy2 : y1 ≤ 4200 := by omega
          obtain ⟨y2, hy3⟩ : ∃ y, y1 + 1 = y := ⟨_, rfl⟩
          have hz2 : (y1 : Int) + 1 = (y2 : Int) := by omega
          have hwr1 : IntKind.i64.wrap (y1 : Int) = (y1 : Int) := IntWalk.i64_in _ (by omega)
          have hwr2 : IntKind.i64.wrap (y2 : Int) = (y2 : Int) := IntWalk.i64_in _ (by omega)
          obtain ⟨w0, hw0⟩ : ∃ w0, wc = w0 := ⟨_, rfl⟩
          rw [hw0] at M e3 e4
          rw [hw0]
          have HM0 := Lib.hid M
          have q8 := fun p : BelowP w0 => (HM.out.wld.kept1 (HM0.out.kept1 p.h).below).da
          have q3 := fun p : BelowP w0 => (HM0.out.kept1 p.h).step.cell 3
          simp only [List.getElem?_toArray, List.getElem?_cons_zero, List.getElem?_cons_succ] at q3
          have HY1 := Lib.hid hy1
          have HF1 := Lib.hid hf1
          have HY3 := Lib.hid hy3
          clear M hw0 hy1 hf1 hy3
          go_upto_region 23 with fail
          refine wp_region_tail_below 22 mixed (by kernel_rfl) ?_
          simp only [List.take_succ_cons, List.take_zero, List.drop_succ_cons, List.drop_zero]
          repeat (go_big_quiet_step (first | (go_at_call 20; refine calls_below (F0.out _)) | (go_at_call 20; refine calls_below (F1.out _))))
          refine wpQuiet_nil ?_
          intro w0q hw'
          obtain ⟨⟨wq, bq⟩, hw''⟩ := hw'
          have hw2 : wq = w0q := hw''.symm
          clear hw''
          subst hw2
          have HMq := Lib.hid (HM0.out.kept1 bq)
          obtain ⟨w5, hw5⟩ : ∃ w5, wq = w5 := ⟨_, rfl⟩
          rw [hw5] at HMq
          rw [hw5]
          clear hw5 bq q8 q3 HM0 F0 F1
          obtain ⟨wt, hwt⟩ : ∃ wt, w5.alloc (.cells #[.int .i64 (y1 : Int), .string (rep fl), .int .i64 (y2 : Int), .string (rep f1)] 61) = wt := ⟨_, rfl⟩
          have bt : Below w5.heap.size w5 wt := by rw [← hwt]; exact balloc1 _ _
          obtain ⟨qb, hqb⟩ : ∃ qb, w5.heap.size = qb := ⟨_, rfl⟩
          have kt : Blk qb #[.int .i64 (y1 : Int), .string (rep fl), .int .i64 (y2 : Int), .string (rep f1)] 61 wt := by rw [← hwt, ← hqb]; exact Blk.new _ _ _
          have HTm := Lib.hid (HMq.out.kept1 bt)
          have htop7 := HMq.out.top
          have HDm := Lib.hid (show ChgsOwn (sb + 7) (.slice (some ⟨qb, 0, none⟩) 2 2) (stepD da true fl) wt by
            have h2 := row_down (B' := sb + 7) (by omega) (own_two kt)
            have e1 := HY1.out
            have e2 := HF1.out
            unfold stepD ChgsOwn
            have e3 := HY3.out
            rw [if_pos rfl, show da + 13 = y2 by omega, e1, e2]
            exact h2)
          have HWT := Lib.hid hwt
          have HQB := Lib.hid hqb
          clear hwt bt hqb kt HMq
          go_upto_region 24 with fail
          try rw [HQB.out]
          rw [HWT.out]
          clear HQB HWT
          go_upto_region 24 with fail
          have HTq := Lib.hid (HTm.out.kept1 (Below.refl _ _).drew)
          have HDq := Lib.hid (row_kept HDm.out (Below.refl _ _).drew)
          clear HTm HDm
          obtain ⟨w8, hw8⟩ : ∃ w8, wt.drew.setRow (sb + 1) #[.slice av na cv, .slice ab nb cb] = w8 := ⟨_, rfl⟩
          have HRE : Blk (sb + 1) #[.slice av na cv, .slice ab nb cb] 64 w8 := by rw [← hw8]; exact setRow_heap _ (sb + 1) _ _ _ _ HTq.out.res
          have z12 : Zone (sb + 1) (sb + 1 + 1) wt.drew w8 := by rw [← hw8]; exact ⟨rfl, rfl, rfl, by simp, fun j _ hj => setRow_other _ (sb + 1) j _ (by omega)⟩
          have HAR := Lib.hid (HTq.out.arr.kept z12 (.inr (by omega)))
          have HRE := Lib.hid HRE
          have S2 := And.intro (HTq.out.txn.kept z12 (.inr (by omega))) (HTq.out.next.kept z12 (.inr (by omega)))
          obtain ⟨w10, hw10⟩ : ∃ w10, w8.setRow (sb + 2) (arr12 nf) = w10 := ⟨_, rfl⟩
          have k10 : Blk (sb + 2) (arr12 nf) 36 w10 := by rw [← hw10]; exact setRow_heap _ (sb + 2) _ _ _ _ HAR.out
          have z10 : Zone (sb + 2) (sb + 2 + 1) w8 w10 := by rw [← hw10]; exact ⟨rfl, rfl, rfl, by simp, fun j _ hj => setRow_other _ (sb + 2) j _ (by omega)⟩
          have S3 := And.intro (S2.1.kept z10 (.inr (by omega))) (S2.2.kept z10 (.inr (by omega)))
          have S1 := And.intro HTq.out.txn HTq.out.next
          have HW8 := Lib.hid hw8
          have HW10 := Lib.hid hw10
          have z12 := Lib.hid z12
          clear hw8 hw10
          refine wp_region_held_drew (S := fun w' => Blk (sb + 3) #[.slice av na cv, .slice ab nb cb] 64 w' ∧ CellsAt (sb + 4) 12 (fun j => .int .u8 (nf j : Int)) w') mixed S1 (fun hHeld => ?_)
          refine wpAnyH_take (i := 0) (oi := _) (v := ?vtb0) rfl (by kernel_rfl) (by kernel_rfl) (by kernel_rfl) (fun _ _ _ h => h) (Or.inl ⟨by kernel_rfl, ?hytb0⟩) hHeld ?resttb0
          case hytb0 => (intro w9 hSw; have p0 := hSw.1.cell 0; have p1 := hSw.1.cell 1; simp only [List.getElem?_toArray, List.getElem?_cons_zero, List.getElem?_cons_succ] at p0 p1; clear hSw; go_simp; try with_reducible rfl)
          try simp only [Act.put, List.getElem_toArray, List.getElem_cons_zero, List.getElem_cons_succ, List.setIfInBounds_toArray, List.set_cons_zero, List.set_cons_succ]
          refine wpAnyH_take (i := 1) (oi := _) (v := ?vtb1) rfl (by kernel_rfl) (by kernel_rfl) (by kernel_rfl) (fun _ _ _ h => h) (Or.inl ⟨by kernel_rfl, ?hytb1⟩) hHeld ?resttb1
          case hytb1 => (intro w9 hSw; skip; clear hSw; go_simp; try with_reducible rfl)
          try simp only [Act.put, List.getElem_toArray, List.getElem_cons_zero, List.getElem_cons_succ, List.setIfInBounds_toArray, List.set_cons_zero, List.set_cons_succ]
          refine wpAnyH_take (i := 2) (oi := _) (v := ?vtb2) rfl (by kernel_rfl) (by kernel_rfl) (by kernel_rfl) (fun _ _ _ h => h) (Or.inl ⟨by kernel_rfl, ?hytb2⟩) hHeld ?resttb2
          case hytb2 => (intro w9 hSw; have m0 := (hSw.2.2 0 (by omega)).1; have m1 := (hSw.2.2 1 (by omega)).1; have m2 := (hSw.2.2 2 (by omega)).1; have m3 := (hSw.2.2 3 (by omega)).1; have m4 := (hSw.2.2 4 (by omega)).1; have m5 := (hSw.2.2 5 (by omega)).1; have m6 := (hSw.2.2 6 (by omega)).1; have m7 := (hSw.2.2 7 (by omega)).1; have m8 := (hSw.2.2 8 (by omega)).1; have m9 := (hSw.2.2 9 (by omega)).1; have m10 := (hSw.2.2 10 (by omega)).1; have m11 := (hSw.2.2 11 (by omega)).1; clear hSw; go_simp; try with_reducible rfl)
          try simp only [Act.put, List.getElem_toArray, List.getElem_cons_zero, List.getElem_cons_succ, List.setIfInBounds_toArray, List.set_cons_zero, List.set_cons_succ]
          refine wpAnyH_ready (rs := [3]) (by kernel_rfl) (by simp) ?_
          refine AllReadyH.cons (o := _) rfl (fun K hK => ?_) AllReadyH.nil
          rw [if_pos (by kernel_rfl)]
          refine wp_store_row 64 _ _ rfl (sb + 1) #[.slice av na cv, .slice ab nb cb] rfl rfl _ _ HTq.out.res txn_sz rfl (by simp [Value.oneCell']) ?_
          rw [HW8.out]
          refine hK.out _ _ S2 (fun hHeld3 => ?_)
          clear hK K hHeld
          have hHeld := hHeld3
          clear hHeld3
          try simp only [Act.put, List.getElem_toArray, List.getElem_cons_zero, List.getElem_cons_succ, List.setIfInBounds_toArray, List.set_cons_zero, List.set_cons_succ]
          refine wpAnyH_take (i := 4) (oi := _) (v := ?vtb4) rfl (by kernel_rfl) (by kernel_rfl) (by kernel_rfl) (fun _ _ _ h => h) (Or.inl ⟨by kernel_rfl, ?hytb4⟩) hHeld ?resttb4
          case hytb4 => (intro w9 hSw; skip; clear hSw; go_simp; try with_reducible rfl)
          try simp only [Act.put, List.getElem_toArray, List.getElem_cons_zero, List.getElem_cons_succ, List.setIfInBounds_toArray, List.set_cons_zero, List.set_cons_succ]
          refine wpAnyH_ready (rs := [5]) (by kernel_rfl) (by simp) ?_
          refine AllReadyH.cons (o := _) rfl (fun K hK => ?_) AllReadyH.nil
          rw [if_pos (by kernel_rfl)]
          refine wp_store_row 36 _ _ rfl (sb + 2) (arr12 nf) rfl rfl _ _ HAR.out arr12_info rfl (by simp [Value.oneCell']) ?_
          rw [HW10.out]
          refine hK.out _ _ S3 (fun hHeld3 => ?_)
          clear hK K hHeld
          have hHeld := hHeld3
          clear hHeld3
          try simp only [Act.put, List.getElem_toArray, List.getElem_cons_zero, List.getElem_cons_succ, List.setIfInBounds_toArray, List.set_cons_zero, List.set_cons_succ]
          refine ⟨by kernel_rfl, ?_⟩
          clear hHeld S1 S2 S3
          go_wp2_with fail
          have HR := Lib.hid (HRE.out.kept z10 (.inl (by omega)))
          have hbs : Below w.heap.size w w10 := (HTq.out.below.trans (z12.out.below (B := w.heap.size) HTq.out.below.size (by have := HTq.out.base; omega))).trans (z10.below (B := w.heap.size) (by have := HTq.out.below.size; have := z12.out.size; omega) (by have := HTq.out.base; omega))
          refine bodyPost_ret (results_ctc (P := Tryz.prog) rfl _ _ (sb + 1) (sb + 2) _ (arr12 nf) _ _ rfl rfl HR.out k10 Tryz.underlying64 rfl txn_sz Tryz.underlying36 rfl arr12_info _ rfl) rfl ?_
          have z12' := z12.out
          refine HFIN.out _ _ (row_zone (row_zone HTq.out.own1 z12' (by omega)) z10 (by omega)) (row_zone (row_zone HTq.out.own2 z12' (by omega)) z10 (by omega)) (row_zone (row_zone HDq.out z12' (by omega)) z10 (by omega)) hbs
end Go.Proofs.YtanghmogeiiooaaGreatDoor
