/- Encode, the document's: the whole. -/
import Derived.Test.YtfepjjjoikcljaaIREnc
namespace Go.Proofs.Ytfepjjjoikcljaa
set_option linter.unusedVariables false
open Go.RowKit

theorem irenc_no (x : Ino) (hf : fitE x.root) (h : ¬ InoOk x) (v : Value) (w : World) (hv : EntsIn v x.root w) :
    Calls Try.prog 10 #[inoV x v] w fun e w' => e = inoBad ∧ Below w.heap.size w w' := by
  have C := ircheck_any x hf v (w.alloc (.cells (inoC x v) 24)) (hv.kept (balloc1 _ _))
  rw [decide_eq_false h] at C
  have C := Lib.hid C
  have hB0 := balloc1 w (.cells (inoC x v) 24)
  obtain ⟨ad, cap, rfl, -⟩ := entsIn_cells hv
  obtain ⟨kd, pn, lk, sz, dp, rt⟩ := x
  dsimp only at *
  clear h hf hv
  go_enter Try.func10, Try.ntmps10
  go_wp2_with fail
  refine C.out.mono ?_; rintro e w1 ⟨rfl, b1⟩
  go_wp2
  go_ret2
  exact ⟨rfl, bnext hB0 b1⟩
def zOf : Nat → Int
  | 0 => 1
  | 1 => 1
  | 2 => 2
  | 3 => 8
  | 4 => 1
  | _ => 1
theorem head_parts (x : Ino) : ((((((⟨#[]⟩ : ByteArray) ++ bs (leB 1 x.kind.toNat)) ++ bs (leB 1 (pinB x.pinned))) ++ bs (leB 2 x.links.toNat)) ++ bs (leB 8 x.size.toNat)) ++ bs (leB 1 x.depth.toNat)) ++ bs (leB 1 x.root.length) = bs (headI x) := by
  have e : (⟨#[]⟩ : ByteArray) = bs [] := rfl
  rw [e]
  simp only [bs_append]
  unfold headI
  simp
theorem ino_parts (x : Ino) : bs (headI x) ++ bs (entsB x.root) ++ bs (zeroL (50 - 12 * x.root.length)) = ino x := by
  rw [bs_append, bs_append, List.append_assoc]; rfl
/-- the six puts -/
theorem six_puts (x : Ino) (h : InoOk x) : ∃ (X : Nat → ByteArray) (Y : Nat → Int), X 0 = ⟨#[]⟩ ∧ X 6 = bs (headI x) ∧ Y 0 = x.kind ∧ Y 1 = (pinB x.pinned : Nat) ∧ Y 2 = x.links ∧ Y 3 = x.size ∧ Y 4 = x.depth ∧ Y 5 = (x.root.length : Nat) ∧
    ∀ j, j < 6 → ∀ w, Calls Try.prog 20 #[.string (X j), .int .i64 (zOf j), .int .i64 (Y j)] w fun e w' => e = .returned (.string (X (j + 1))) ∧ Below w.heap.size w w' := by
  have hn := ok_nums h
  have h4 := ok_short h
  have hp : pinB x.pinned ≤ 1 := by unfold pinB; split <;> omega
  have H := head_parts x
  obtain ⟨T1, hT1⟩ : ∃ T, (⟨#[]⟩ : ByteArray) ++ bs (leB 1 x.kind.toNat) = T := ⟨_, rfl⟩
  have s1 : T1.size = 1 := by rw [← hT1, ByteArray.size_append, bs_size, leB_length]; rfl
  obtain ⟨T2, hT2⟩ : ∃ T, T1 ++ bs (leB 1 (pinB x.pinned)) = T := ⟨_, rfl⟩
  have s2 : T2.size = 2 := by rw [← hT2, ByteArray.size_append, bs_size, leB_length, s1]
  obtain ⟨T3, hT3⟩ : ∃ T, T2 ++ bs (leB 2 x.links.toNat) = T := ⟨_, rfl⟩
  have s3 : T3.size = 4 := by rw [← hT3, ByteArray.size_append, bs_size, leB_length, s2]
  obtain ⟨T4, hT4⟩ : ∃ T, T3 ++ bs (leB 8 x.size.toNat) = T := ⟨_, rfl⟩
  have s4 : T4.size = 12 := by rw [← hT4, ByteArray.size_append, bs_size, leB_length, s3]
  obtain ⟨T5, hT5⟩ : ∃ T, T4 ++ bs (leB 1 x.depth.toNat) = T := ⟨_, rfl⟩
  have s5 : T5.size = 13 := by rw [← hT5, ByteArray.size_append, bs_size, leB_length, s4]
  rw [hT1, hT2, hT3, hT4, hT5] at H
  refine ⟨fun j => match j with | 0 => ⟨#[]⟩ | 1 => T1 | 2 => T2 | 3 => T3 | 4 => T4 | 5 => T5 | _ => bs (headI x), fun j => match j with | 0 => x.kind | 1 => (pinB x.pinned : Nat) | 2 => x.links | 3 => x.size | 4 => x.depth | _ => (x.root.length : Nat), rfl, rfl, rfl, rfl, rfl, rfl, rfl, rfl, fun j hj w => ?_⟩
  match j, hj with
  | 0, _ => exact rtput1 ⟨#[]⟩ (by decide) x.kind hn.1.1 (by omega) T1 hT1 w
  | 1, _ => exact rtput1 T1 (by omega) (pinB x.pinned : Nat) (by omega) (by omega) T2 (by rw [Int.toNat_natCast]; exact hT2) w
  | 2, _ => exact rtput2 T2 (by omega) x.links hn.2.1.1 (by omega) T3 hT3 w
  | 3, _ => exact rtput8 T3 (by omega) x.size hn.2.2.1.1 (by omega) T4 hT4 w
  | 4, _ => exact rtput1 T4 (by omega) x.depth hn.2.2.2.1 (by omega) T5 hT5 w
  | 5, _ => exact rtput1 T5 (by omega) (x.root.length : Nat) (by omega) (by omega) _ (by rw [Int.toNat_natCast]; exact H) w
set_option maxRecDepth 100000 in
set_option maxHeartbeats 600000 in
theorem irenc_yes (x : Ino) (h : InoOk x) (v : Value) (w : World) (hf : fitE x.root) (hv : EntsIn v x.root w) :
    Calls Try.prog 10 #[inoV x v] w fun e w' => e = inoRet (ino x) ∧ Below w.heap.size w w' := by
  have mixed : Try.prog.follows .mixedOrders = true := by kernel_rfl
  have C := ircheck_any x hf v (w.alloc (.cells (inoC x v) 24)) (hv.kept (balloc1 _ _))
  rw [decide_eq_true h] at C
  have C := Lib.hid C
  have hS0 : InoAt w.heap.size x v (w.alloc (.cells (inoC x v) 24)) := Blk.new _ _ _
  have hB0 := balloc1 w (.cells (inoC x v) 24)
  have h4 := ok_short h
  obtain ⟨X, Y, e0, e6, y0, y1, y2, y3, y4, y5, PP⟩ := six_puts x h
  have PP := Lib.hid PP
  have EN := Lib.hid fun w1 (hb : Below w.heap.size w w1) => rentries_any (bs (headI x)) (by rw [bs_size, headI_length]; omega) x.root h4 (fun i hi => by have := entOk_low (ok_ent h hi); omega) v w1 (hv.kept hb)
  have HE := ino_parts x
  have hs6 : (bs (headI x)).size = 14 := by rw [bs_size, headI_length]
  have hsE : (bs (headI x) ++ bs (entsB x.root)).size = 14 + 12 * x.root.length := by rw [ByteArray.size_append, hs6, bs_size, entsB_length]
  obtain ⟨m, hm⟩ : ∃ m, m = 50 - 12 * x.root.length := ⟨_, rfl⟩
  rw [← hm] at HE
  have zM : (bs (zeroL m)).size = m := by rw [bs_size, zeroL_length]
  obtain ⟨ZM, hZM⟩ : ∃ ZM, bs (zeroL m) = ZM := ⟨_, rfl⟩
  rw [hZM] at HE zM
  rw [← HE]
  rw [← e6] at EN hsE
  rw [← e6]
  generalize X 6 ++ bs (entsB x.root) = TE at *
  have hsub : (64 : Int) - (TE.size : Int) = (m : Int) := by rw [hsE]; omega
  have hTm : TE.size + m ≤ 64 := by omega
  obtain ⟨ad, cap, rfl, -⟩ := entsIn_cells hv
  obtain ⟨kd, pn, lk, sz, dp, rt⟩ := x
  dsimp only at *
  clear h hf HE hs6 hm e6 hsE
  have hpn : (pn = true ∧ Y 1 = 1) ∨ (pn = false ∧ Y 1 = 0) := by
    rw [y1]; cases pn
    · exact .inr ⟨rfl, rfl⟩
    · exact .inl ⟨rfl, rfl⟩
  clear y1
  rcases hpn with ⟨rfl, y1⟩ | ⟨rfl, y1⟩
  all_goals
    go_enter Try.func10, Try.ntmps10
    go_wp2_with fail
    refine C.out.mono ?_; rintro e w1 ⟨rfl, b1⟩
    have hS1 := hS0.kept1 b1
    have hB1 := bnext hB0 b1
    clear hS0 hB0 b1 C
    have kb := fun p : BelowP w1 => InoAt.cells (hS1.kept1 p.h)
    obtain ⟨c0, c1, c2, c3, c4, c5⟩ := InoAt.cells hS1
    have k0 := fun p => (kb p).1
    have k2 := fun p => (kb p).2.2.1
    have k3 := fun p => (kb p).2.2.2.1
    have k4 := fun p => (kb p).2.2.2.2.1
    have k5 := fun p => (kb p).2.2.2.2.2
    dsimp only at *
    rw [← y0] at k0
    rw [← y2] at k2
    rw [← y3] at k3
    rw [← y4] at k4
    have HS1 := Lib.hid hS1
    clear hS1 kb
    go_upto_region 6 with fail
    have P0 := fun w => PP.out 0 (by decide) w
    rw [e0] at P0
    have P1 := fun w => PP.out 1 (by decide) w
    rw [y1] at P1
    have P5 := fun w => PP.out 5 (by decide) w
    rw [y5] at P5
    have P0 := Lib.hid P0
    have P1 := Lib.hid P1
    have P5 := Lib.hid P5
    clear y0 y1 y2 y3 y4 y5 e0
    refine wp_region_quiet_below mixed (by kernel_rfl) ?_
    iterate 3 (go_big_quiet_step (first | (go_at_call 20; refine calls_below (P0.out _))))
    iterate 2 (go_big_quiet_step (first | (go_at_call 20; refine calls_below (P1.out _))))
    iterate 9 (go_big_quiet_step (first | (go_at_call 20; refine calls_below (PP.out _ (by decide) _))))
    repeat (go_big_quiet_step (first | (go_at_call 20; refine calls_below (P5.out _))))
    refine wpQuiet_nil ?_
    intro w0q hw'
    obtain ⟨⟨wq, bq⟩, hw''⟩ := hw'
    have hw2 : wq = w0q := hw''.symm
    clear hw''
    subst hw2
    have hSq := HS1.out.kept1 bq
    have hBq := bnext hB1 bq
    obtain ⟨d0, d1, d2, d3, d4, d5⟩ := InoAt.cells hSq
    dsimp only at *
    clear hSq HS1 hB1 bq k0 k2 k3 k4 k5 P0 P1 P5 c0 c1 c2 c3 c4 c5
    go_wp2_with fail
    refine (EN.out _ hBq).mono ?_; rintro e w3 ⟨rfl, b3⟩
    have hB3 := bnext hBq b3
    have hmk : (Instr.makeSlice 39 (.int .i64 (m : Int)) (.int .i64 (m : Int))).run Try.prog w3 = .ok (.slice (some ⟨w3.heap.size, 0, none⟩) m m) (w3.alloc (.cells (madeCells #[.int .u8 0] m) 5)) := kz_made m (by omega) w3
    have hbk := kz_back w3 m
    rw [hZM] at hbk
    have hB4 := balloc hB3 (.cells (madeCells #[.int .u8 0] m) 5)
    generalize (w3.alloc (.cells (madeCells #[.int .u8 0] m) 5)) = w4 at *
    clear hBq b3 hB3 d0 d1 d2 d3 d4 d5
    go_wp2
    go_ret2
    exact ⟨rfl, hB4⟩
end Go.Proofs.Ytfepjjjoikcljaa
