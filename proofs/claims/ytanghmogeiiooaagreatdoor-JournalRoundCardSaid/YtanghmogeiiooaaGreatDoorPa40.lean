import Derived.Test.YtanghmogeiiooaaGreatDoorPa39
import Derived.Test.YtanghmogeiiooaaGreatDoorPa20
set_option linter.unusedVariables false
set_option linter.unusedSimpArgs false
set_option linter.constructorNameAsVariable false
/- Checkpoint. -/
namespace Go.Proofs.YtanghmogeiiooaaGreatDoor
set_option linter.unusedVariables false
set_option linter.unusedSimpArgs false
open Go.RowKit

theorem jcheck_failed (g d : Nat) (b l i la ma ml ta tl da slot left : Int) (seq : Nat) (failed : Int) (hf : failed ≠ 0) (w : World) (h : LogAt g d b l i la ma ml ta tl da slot left seq failed w) :
    Calls Tryz.prog 54 #[.pointer (some ⟨g, 0, none⟩)] w fun e w' => e = .returned (.int .i64 failed) ∧ w = w' := by
  have R := Lib.hid (logrefused_any g d b l i la ma ml ta tl da slot left seq failed _ h)
  clear h
  go_enter Tryz.func54, Tryz.ntmps54
  go_wp2_with fail
  refine R.out.mono ?_; rintro e w1 ⟨rfl, rfl⟩
  go_wp2
  go_ret
  exact ⟨rfl, rfl⟩
theorem three_acts {d lo hi : Nat} {v1 v2 v3 : Value} {L1 L2 L3 : List Deed} (W : World) (hhi : hi ≤ W.heap.size) (h1 : DoesV d lo hi v1 L1 W) (h2 : DoesV d lo hi v2 L2 W) (h3 : DoesV d lo hi v3 L3 W) :
    ActsRow2 d lo hi (.slice (some ⟨W.heap.size, 0, none⟩) 3 3) [L1, L2, L3] (W.alloc (.cells #[v1, v2, v3] 95)) :=
  acts_lit (vs := [v1, v2, v3]) W rfl rfl (by decide) hhi fun k a b => by
    match k, a, b with
    | 0, _, _ => exact h1
    | 1, _, _ => exact h2
    | 2, _, _ => exact h3
/-- what a checkpoint does with a device -/
def checkD (slot seq : Nat) : List Deed := [.flush, .write 1 (blk (headR slot seq)), .flush]
theorem LogAt.room {g d : Nat} {b l i la ma ml ta tl da slot left : Int} {seq : Nat} {f : Int} {w : World} (h : LogAt g d b l i la ma ml ta tl da slot left seq f w) (c : Int) :
    LogAt g d b l i la ma ml ta tl da slot c seq f (w.setCell ⟨g, 12, none⟩ (.int .i64 c)) := Blk.set h 12 (.int .i64 c)
set_option maxRecDepth 100000 in
set_option maxHeartbeats 2000000 in
theorem jcheck_empty (g d : Nat) (b l i m t : Nat) (hok : okN b l i m t) (slot : Int) (seq : Nat) (w : World) (left : Int) (hle : left = (l : Int) - 1) (h : LogAt g d b l i 1 (1 + l) m (1 + l + m) t (1 + l + m + t) slot left seq 0 w) :
    Calls Tryz.prog 54 #[.pointer (some ⟨g, 0, none⟩)] w fun e w' => e = .returned (.int .i64 0) ∧ Below w.heap.size w w' := by
  have mixed : Tryz.prog.follows .mixedOrders = true := by kernel_rfl
  have hl : 128 ≤ (l : Int) ∧ (l : Int) ≤ 512 := by have := hok.2.2.1; have := hok.2.2.2.1; omega
  have SL := Lib.hid (jslots_any (some ⟨d, 0, none⟩) b l i 1 (1 + l) m (1 + l + m) t (1 + l + m + t) hl)
  have RF := Lib.hid (logrefused_any g d b l i 1 (1 + l) m (1 + l + m) t (1 + l + m + t) slot left seq 0 w h)
  have k0 := fun p : BelowP w => (LogAt.cells (LogAt.all h p)).1
  have k1 := fun p : BelowP w => (LogAt.cells (LogAt.all h p)).2.1
  have k2 := fun p : BelowP w => (LogAt.cells (LogAt.all h p)).2.2.1
  have k3 := fun p : BelowP w => (LogAt.cells (LogAt.all h p)).2.2.2.1
  have k4 := fun p : BelowP w => (LogAt.cells (LogAt.all h p)).2.2.2.2.1
  have k5 := fun p : BelowP w => (LogAt.cells (LogAt.all h p)).2.2.2.2.2.1
  have k6 := fun p : BelowP w => (LogAt.cells (LogAt.all h p)).2.2.2.2.2.2.1
  have k7 := fun p : BelowP w => (LogAt.cells (LogAt.all h p)).2.2.2.2.2.2.2.1
  have k8 := fun p : BelowP w => (LogAt.cells (LogAt.all h p)).2.2.2.2.2.2.2.2.1
  have k9 := fun p : BelowP w => (LogAt.cells (LogAt.all h p)).2.2.2.2.2.2.2.2.2.1
  have k12 := fun p : BelowP w => (LogAt.cells (LogAt.all h p)).2.2.2.2.2.2.2.2.2.2.2.2.1
  clear h
  go_enter Tryz.func54, Tryz.ntmps54
  go_wp2_with fail
  refine RF.out.mono ?_; rintro e w' ⟨rfl, rfl⟩
  clear RF
  go_upto_region 4 with fail
  refine wp_region_quiet_below mixed (by kernel_rfl) ?_
  repeat (go_big_quiet_step (first | (go_at_call 59; refine calls_below (SL.out _))))
  refine wpQuiet_nil ?_
  intro w0q hw'
  obtain ⟨⟨wq, bq⟩, hw''⟩ := hw'
  have hw2 : wq = w0q := hw''.symm
  clear hw''
  subst hw2
  go_wp2
  go_ret
  exact ⟨rfl, bq⟩
set_option maxRecDepth 100000 in
set_option maxHeartbeats 8000000 in
theorem jcheck_ok (lo hi : Nat) (g d : Nat) (b l i m t : Nat) (hok : okN b l i m t) {S : St} (ha : S.acts ≤ 900000) (slot left : Nat) (hsl : slot ≤ 510) (hle : left ≠ l - 1) (hle2 : left ≤ 511) (seq : Nat) (hq : seq < 18446744073709551616) (w : World) (hdev : DevAt d lo hi S w) (hgh : hi ≤ g) (h : LogAt g d b l i 1 (1 + l) m (1 + l + m) t (1 + l + m + t) slot left seq 0 w) :
    Calls Tryz.prog 54 #[.pointer (some ⟨g, 0, none⟩)] w fun e w' => e = .returned (.int .i64 (deeds S (checkD slot seq)).1) ∧ DevAt d lo hi (deeds S (checkD slot seq)).2 w' ∧ LogZ lo hi g w w' ∧
      LogAt g d b l i 1 (1 + l) m (1 + l + m) t (1 + l + m + t) slot (selI (deeds S (checkD slot seq)).1 ((l : Int) - 1) left) seq (deeds S (checkD slot seq)).1 w' := by
  have mixed : Tryz.prog.follows .mixedOrders = true := by kernel_rfl
  have hl : 128 ≤ (l : Int) ∧ (l : Int) ≤ 512 := by have := hok.2.2.1; have := hok.2.2.2.1; omega
  have SL := Lib.hid (jslots_any (some ⟨d, 0, none⟩) b l i 1 (1 + l) m (1 + l + m) t (1 + l + m + t) hl)
  have RF := Lib.hid (logrefused_any g d b l i 1 (1 + l) m (1 + l + m) t (1 + l + m + t) slot left seq 0 w h)
  have k0 := fun p : BelowP w => (LogAt.cells (LogAt.all h p)).1
  have k1 := fun p : BelowP w => (LogAt.cells (LogAt.all h p)).2.1
  have k2 := fun p : BelowP w => (LogAt.cells (LogAt.all h p)).2.2.1
  have k3 := fun p : BelowP w => (LogAt.cells (LogAt.all h p)).2.2.2.1
  have k4 := fun p : BelowP w => (LogAt.cells (LogAt.all h p)).2.2.2.2.1
  have k5 := fun p : BelowP w => (LogAt.cells (LogAt.all h p)).2.2.2.2.2.1
  have k6 := fun p : BelowP w => (LogAt.cells (LogAt.all h p)).2.2.2.2.2.2.1
  have k7 := fun p : BelowP w => (LogAt.cells (LogAt.all h p)).2.2.2.2.2.2.2.1
  have k8 := fun p : BelowP w => (LogAt.cells (LogAt.all h p)).2.2.2.2.2.2.2.2.1
  have k9 := fun p : BelowP w => (LogAt.cells (LogAt.all h p)).2.2.2.2.2.2.2.2.2.1
  have k12 := fun p : BelowP w => (LogAt.cells (LogAt.all h p)).2.2.2.2.2.2.2.2.2.2.2.2.1
  have hne : ¬ ((left : Int) = (l : Int) - 1) := by have := hok.2.2.1; omega
  have BG := Lib.hid fun W (hW : hi ≤ W.heap.size) => begin_any d b l i 1 (1 + l) m (1 + l + m) t (1 + l + m + t) slot left seq hsl hq lo hi W hW
  have HCD : Hid ([[.flush], [.write 1 (blk (headR slot seq))], [.flush]].flatten = checkD slot seq) := Lib.hid rfl
  have HFL : Hid (S.acts + (checkD slot seq).length ≤ 1000000) := Lib.hid (by show S.acts + 3 ≤ 1000000; omega)
  have HG0 := Lib.hid h
  have HD0 := Lib.hid hdev
  have htop := hdev.top
  generalize checkD slot seq = QD at *
  generalize blk (headR slot seq) = H at *
  clear h hdev hok hq
  go_enter Tryz.func54, Tryz.ntmps54
  go_wp2_with fail
  refine RF.out.mono ?_; rintro e w' ⟨rfl, rfl⟩
  clear RF
  go_upto_region 4 with fail
  refine wp_region_quiet_below mixed (by kernel_rfl) ?_
  repeat (go_big_quiet_step (first | (go_at_call 59; refine calls_below (SL.out _))))
  refine wpQuiet_nil ?_
  intro w0q hw'
  obtain ⟨⟨wq, bq⟩, hw''⟩ := hw'
  have hw2 : wq = w0q := hw''.symm
  clear hw''
  subst hw2
  have HGq : Hid (LogAt g d b l i 1 (1 + l) m (1 + l + m) t (1 + l + m + t) slot left seq 0 wq) := Lib.hid (Blk.kept1 HG0.out bq)
  have HDq := Lib.hid (HD0.out.kept1 bq)
  have HBq := Lib.hid bq
  clear k0 k1 k2 k3 k4 k5 k6 k7 k8 k9 k12 HG0 HD0
  go_upto_region 6 with fail
  have RS := Lib.hid fun W (hW : Below wq.heap.size wq W) => (show ∃ f : Int, LogAt g d b l i 1 (1 + l) m (1 + l + m) t (1 + l + m + t) slot left seq f W from ⟨0, Blk.kept1 HGq.out hW⟩)
  have hgs := HGq.out.lt
  clear bq
  refine wp_region_held_drew (S := fun W => ∃ f : Int, LogAt g d b l i 1 (1 + l) m (1 + l + m) t (1 + l + m + t) slot left seq f W) mixed (RS.out _ (Below.refl _ _).drew) (fun hHeld => ?_)
  refine wpAnyH_take (i := 0) (oi := _) (v := ?ve0) rfl (by kernel_rfl) (by kernel_rfl) (by kernel_rfl) (fun _ _ _ h => h) (Or.inl ⟨by kernel_rfl, ?hye0⟩) hHeld ?reste0
  case hye0 => (intro w9 hSw; clear hSw; go_simp; try with_reducible rfl)
  try simp only [Act.put, List.getElem_toArray, List.getElem_cons_zero, List.getElem_cons_succ, List.setIfInBounds_toArray, List.set_cons_zero, List.set_cons_succ]
  refine wpAnyH_take (i := 1) (oi := _) (v := ?ve1) rfl (by kernel_rfl) (by kernel_rfl) (by kernel_rfl) (fun _ _ _ h => h) (Or.inl ⟨by kernel_rfl, ?hye1⟩) hHeld ?reste1
  case hye1 => (intro w9 hSw; clear hSw; go_simp; try with_reducible rfl)
  try simp only [Act.put, List.getElem_toArray, List.getElem_cons_zero, List.getElem_cons_succ, List.setIfInBounds_toArray, List.set_cons_zero, List.set_cons_succ]
  refine wpAnyH_take (i := 2) (oi := _) (v := ?ve2) rfl (by kernel_rfl) (by kernel_rfl) (by kernel_rfl) (fun _ _ _ h => h) (Or.inl ⟨by kernel_rfl, ?hye2⟩) hHeld ?reste2
  case hye2 => (intro w9 hSw; clear hSw; go_simp; try with_reducible rfl)
  try simp only [Act.put, List.getElem_toArray, List.getElem_cons_zero, List.getElem_cons_succ, List.setIfInBounds_toArray, List.set_cons_zero, List.set_cons_succ]
  refine wpAnyH_take (i := 3) (oi := _) (v := ?ve3) rfl (by kernel_rfl) (by kernel_rfl) (by kernel_rfl) (fun _ _ _ h => h) (Or.inl ⟨by kernel_rfl, ?hye3⟩) hHeld ?reste3
  case hye3 => (intro w9 hSw; clear hSw; go_simp; try with_reducible rfl)
  try simp only [Act.put, List.getElem_toArray, List.getElem_cons_zero, List.getElem_cons_succ, List.setIfInBounds_toArray, List.set_cons_zero, List.set_cons_succ]
  refine wpAnyH_take (i := 4) (oi := _) (v := ?ve4) rfl (by kernel_rfl) (by kernel_rfl) (by kernel_rfl) (fun _ _ _ h => h) (Or.inl ⟨by kernel_rfl, ?hye4⟩) hHeld ?reste4
  case hye4 => (intro w9 hSw; clear hSw; go_simp; try with_reducible rfl)
  try simp only [Act.put, List.getElem_toArray, List.getElem_cons_zero, List.getElem_cons_succ, List.setIfInBounds_toArray, List.set_cons_zero, List.set_cons_succ]
  refine wpAnyH_take (i := 5) (oi := _) (v := ?ve5) rfl (by kernel_rfl) (by kernel_rfl) (by kernel_rfl) (fun _ _ _ h => h) (Or.inl ⟨by kernel_rfl, ?hye5⟩) hHeld ?reste5
  case hye5 => (intro w9 hSw; have hSw2 := hSw; obtain ⟨f9, hL9⟩ := hSw2; obtain ⟨c0, c1, c2, c3, c4, c5, c6, c7, c8, c9, c10, c11, c12, c13, c14⟩ := LogAt.cells hL9; clear hL9; clear hSw; go_simp; try with_reducible rfl)
  try simp only [Act.put, List.getElem_toArray, List.getElem_cons_zero, List.getElem_cons_succ, List.setIfInBounds_toArray, List.set_cons_zero, List.set_cons_succ]
  refine wpAnyH_take (i := 6) (oi := _) (v := ?ve6) rfl (by kernel_rfl) (by kernel_rfl) (by kernel_rfl) (fun _ _ _ h => h) (Or.inl ⟨by kernel_rfl, ?hye6⟩) hHeld ?reste6
  case hye6 => (intro w9 hSw; clear hSw; go_simp; try with_reducible rfl)
  try simp only [Act.put, List.getElem_toArray, List.getElem_cons_zero, List.getElem_cons_succ, List.setIfInBounds_toArray, List.set_cons_zero, List.set_cons_succ]
  refine wpAnyH_take (i := 7) (oi := _) (v := ?ve7) rfl (by kernel_rfl) (by kernel_rfl) (by kernel_rfl) (fun _ _ _ h => h) (Or.inl ⟨by kernel_rfl, ?hye7⟩) hHeld ?reste7
  case hye7 => (intro w9 hSw; clear hSw; go_simp; try with_reducible rfl)
  try simp only [Act.put, List.getElem_toArray, List.getElem_cons_zero, List.getElem_cons_succ, List.setIfInBounds_toArray, List.set_cons_zero, List.set_cons_succ]
  refine wpAnyH_take (i := 8) (oi := _) (v := ?ve8) rfl (by kernel_rfl) (by kernel_rfl) (by kernel_rfl) (fun _ _ _ h => h) (Or.inl ⟨by kernel_rfl, ?hye8⟩) hHeld ?reste8
  case hye8 => (intro w9 hSw; clear hSw; go_simp; try with_reducible rfl)
  try simp only [Act.put, List.getElem_toArray, List.getElem_cons_zero, List.getElem_cons_succ, List.setIfInBounds_toArray, List.set_cons_zero, List.set_cons_succ]
  refine wpAnyH_take (i := 9) (oi := _) (v := ?ve9) rfl (by kernel_rfl) (by kernel_rfl) (by kernel_rfl) (fun _ _ _ h => h) (Or.inl ⟨by kernel_rfl, ?hye9⟩) hHeld ?reste9
  case hye9 => (intro w9 hSw; clear hSw; go_simp; try with_reducible rfl)
  try simp only [Act.put, List.getElem_toArray, List.getElem_cons_zero, List.getElem_cons_succ, List.setIfInBounds_toArray, List.set_cons_zero, List.set_cons_succ]
  refine wpAnyH_take (i := 10) (oi := _) (v := ?ve10) rfl (by kernel_rfl) (by kernel_rfl) (by kernel_rfl) (fun _ _ _ h => h) (Or.inl ⟨by kernel_rfl, ?hye10⟩) hHeld ?reste10
  case hye10 => (intro w9 hSw; have hSw2 := hSw; obtain ⟨f9, hL9⟩ := hSw2; obtain ⟨c0, c1, c2, c3, c4, c5, c6, c7, c8, c9, c10, c11, c12, c13, c14⟩ := LogAt.cells hL9; clear hL9; clear hSw; go_simp; try with_reducible rfl)
  try simp only [Act.put, List.getElem_toArray, List.getElem_cons_zero, List.getElem_cons_succ, List.setIfInBounds_toArray, List.set_cons_zero, List.set_cons_succ]
  refine wpAnyH_take (i := 11) (oi := _) (v := ?ve11) rfl (by kernel_rfl) (by kernel_rfl) (by kernel_rfl) (fun _ _ _ h => h) (Or.inl ⟨by kernel_rfl, ?hye11⟩) hHeld ?reste11
  case hye11 => (intro w9 hSw; clear hSw; go_simp; try with_reducible rfl)
  try simp only [Act.put, List.getElem_toArray, List.getElem_cons_zero, List.getElem_cons_succ, List.setIfInBounds_toArray, List.set_cons_zero, List.set_cons_succ]
  refine wpAnyH_take (i := 12) (oi := _) (v := ?ve12) rfl (by kernel_rfl) (by kernel_rfl) (by kernel_rfl) (fun _ _ _ h => h) (Or.inl ⟨by kernel_rfl, ?hye12⟩) hHeld ?reste12
  case hye12 => (intro w9 hSw; clear hSw; go_simp; try with_reducible rfl)
  try simp only [Act.put, List.getElem_toArray, List.getElem_cons_zero, List.getElem_cons_succ, List.setIfInBounds_toArray, List.set_cons_zero, List.set_cons_succ]
  refine wpAnyH_take (i := 13) (oi := _) (v := ?ve13) rfl (by kernel_rfl) (by kernel_rfl) (by kernel_rfl) (fun _ _ _ h => h) (Or.inl ⟨by kernel_rfl, ?hye13⟩) hHeld ?reste13
  case hye13 => (intro w9 hSw; clear hSw; go_simp; try with_reducible rfl)
  try simp only [Act.put, List.getElem_toArray, List.getElem_cons_zero, List.getElem_cons_succ, List.setIfInBounds_toArray, List.set_cons_zero, List.set_cons_succ]
  refine wpAnyH_take (i := 14) (oi := _) (v := ?ve14) rfl (by kernel_rfl) (by kernel_rfl) (by kernel_rfl) (fun _ _ _ h => h) (Or.inl ⟨by kernel_rfl, ?hye14⟩) hHeld ?reste14
  case hye14 => (intro w9 hSw; have hSw2 := hSw; obtain ⟨f9, hL9⟩ := hSw2; obtain ⟨c0, c1, c2, c3, c4, c5, c6, c7, c8, c9, c10, c11, c12, c13, c14⟩ := LogAt.cells hL9; clear hL9; clear hSw; go_simp; try with_reducible rfl)
  try simp only [Act.put, List.getElem_toArray, List.getElem_cons_zero, List.getElem_cons_succ, List.setIfInBounds_toArray, List.set_cons_zero, List.set_cons_succ]
  refine wpAnyH_take (i := 16) (oi := _) (v := ?ve16) rfl (by kernel_rfl) (by kernel_rfl) (by kernel_rfl) (fun _ _ _ h => h) (Or.inl ⟨by kernel_rfl, ?hye16⟩) hHeld ?reste16
  case hye16 => (intro w9 hSw; clear hSw; go_simp; try with_reducible rfl)
  try simp only [Act.put, List.getElem_toArray, List.getElem_cons_zero, List.getElem_cons_succ, List.setIfInBounds_toArray, List.set_cons_zero, List.set_cons_succ]
  refine wpAnyH_take (i := 17) (oi := _) (v := ?ve17) rfl (by kernel_rfl) (by kernel_rfl) (by kernel_rfl) (fun _ _ _ h => h) (Or.inl ⟨by kernel_rfl, ?hye17⟩) hHeld ?reste17
  case hye17 => (intro w9 hSw; clear hSw; go_simp; try with_reducible rfl)
  try simp only [Act.put, List.getElem_toArray, List.getElem_cons_zero, List.getElem_cons_succ, List.setIfInBounds_toArray, List.set_cons_zero, List.set_cons_succ]
  refine wpAnyH_take (i := 18) (oi := _) (v := ?ve18) rfl (by kernel_rfl) (by kernel_rfl) (by kernel_rfl) (fun _ _ _ h => h) (Or.inl ⟨by kernel_rfl, ?hye18⟩) hHeld ?reste18
  case hye18 => (intro w9 hSw; clear hSw; go_simp; try with_reducible rfl)
  try simp only [Act.put, List.getElem_toArray, List.getElem_cons_zero, List.getElem_cons_succ, List.setIfInBounds_toArray, List.set_cons_zero, List.set_cons_succ]
  refine wpAnyH_take (i := 19) (oi := _) (v := ?ve19) rfl (by kernel_rfl) (by kernel_rfl) (by kernel_rfl) (fun _ _ _ h => h) (Or.inl ⟨by kernel_rfl, ?hye19⟩) hHeld ?reste19
  case hye19 => (intro w9 hSw; clear hSw; go_simp; try with_reducible rfl)
  try simp only [Act.put, List.getElem_toArray, List.getElem_cons_zero, List.getElem_cons_succ, List.setIfInBounds_toArray, List.set_cons_zero, List.set_cons_succ]
  refine wpAnyH_take (i := 20) (oi := _) (v := ?ve20) rfl (by kernel_rfl) (by kernel_rfl) (by kernel_rfl) (fun _ _ _ h => h) (Or.inl ⟨by kernel_rfl, ?hye20⟩) hHeld ?reste20
  case hye20 => (intro w9 hSw; have hSw2 := hSw; obtain ⟨f9, hL9⟩ := hSw2; obtain ⟨c0, c1, c2, c3, c4, c5, c6, c7, c8, c9, c10, c11, c12, c13, c14⟩ := LogAt.cells hL9; clear hL9; clear hSw; go_simp; try with_reducible rfl)
  try simp only [Act.put, List.getElem_toArray, List.getElem_cons_zero, List.getElem_cons_succ, List.setIfInBounds_toArray, List.set_cons_zero, List.set_cons_succ]
  refine wpAnyH_take (i := 21) (oi := _) (v := ?ve21) rfl (by kernel_rfl) (by kernel_rfl) (by kernel_rfl) (fun _ _ _ h => h) (Or.inl ⟨by kernel_rfl, ?hye21⟩) hHeld ?reste21
  case hye21 => (intro w9 hSw; clear hSw; go_simp; try with_reducible rfl)
  try simp only [Act.put, List.getElem_toArray, List.getElem_cons_zero, List.getElem_cons_succ, List.setIfInBounds_toArray, List.set_cons_zero, List.set_cons_succ]
  refine wpAnyH_ready (rs := [15]) (by kernel_rfl) (by simp) ?_
  refine AllReadyH.cons (o := _) rfl (fun K hK => ?_) ?_
  · go_simp
    have hHeldx : Below wq.heap.size wq wq.drew := (Below.refl _ _).drew
    refine (BG.out wq.drew (by have := HBq.out.size; have := hHeldx.size; omega)).mono ?_; rintro e w7 ⟨ab, rfl, hA7, b7⟩
    dsimp only
    have hHeld7 : Below wq.heap.size wq w7 := hHeldx.trans (b7.mono hHeldx.size)
    have HA7 := Lib.hid (does_clo hA7)
    clear hA7 b7 BG
    refine hK.out _ _ (RS.out _ hHeld7) (fun hHeld3 => ?_)
    clear hK K hHeld
    have hHeld := hHeld3
    clear hHeld3
    try simp only [Act.put, List.getElem_toArray, List.getElem_cons_zero, List.getElem_cons_succ, List.setIfInBounds_toArray, List.set_cons_zero, List.set_cons_succ]
    refine wpAnyH_ready (rs := [22]) (by kernel_rfl) (by simp) ?_
    refine AllReadyH.cons (o := _) rfl (fun K hK => ?_) ?_
    · go_simp
      have h6 : hi ≤ w7.heap.size := by have := HBq.out.size; have := hHeld7.size; omega
      have HA := Lib.hid (three_acts w7 h6 (does_flush d lo hi w7) HA7.out (does_flush d lo hi w7))
      clear HA7
      refine hK.out _ _ (RS.out _ (balloc hHeld7 _)) (fun hHeld3 => ?_)
      clear hK K hHeld
      have hHeld := hHeld3
      clear hHeld3
      try simp only [Act.put, List.getElem_toArray, List.getElem_cons_zero, List.getElem_cons_succ, List.setIfInBounds_toArray, List.set_cons_zero, List.set_cons_succ]
      refine wpAnyH_ready (rs := [23]) (by kernel_rfl) (by simp) ?_
      refine AllReadyH.cons (o := _) rfl (fun K hK => ?_) ?_
      · go_simp
        refine (do_any2 _ _ (HDq.out.kept1 (balloc hHeld7 _)) HA.out (by rw [HCD.out]; exact HFL.out)).mono ?_; rintro e w9 ⟨rfl, hd9, hz9⟩
        dsimp only
        rw [HCD.out] at hd9
        try rw [HCD.out]
        have hzB := (Zone.of_below (balloc hHeld7 _) lo hi).trans hz9
        have hzA := (Zone.of_below HBq.out lo hi).trans hzB
        clear hHeldx hHeld7 HA
        refine hK.out _ _ (⟨0, (hzB.block g hgs (.inr hgh)).trans HGq.out⟩) (fun hHeld3 => ?_)
        clear hK K hHeld
        have hHeld := hHeld3
        clear hHeld3
        try simp only [Act.put, List.getElem_toArray, List.getElem_cons_zero, List.getElem_cons_succ, List.setIfInBounds_toArray, List.set_cons_zero, List.set_cons_succ]
        refine wpAnyH_ready (rs := [24]) (by kernel_rfl) (by simp) ?_
        refine AllReadyH.cons (o := _) rfl (fun K hK => ?_) ?_
        · go_simp
          refine hK.out _ _ (hHeld) (fun hHeld3 => ?_)
          clear hK K hHeld
          have hHeld := hHeld3
          clear hHeld3
          try simp only [Act.put, List.getElem_toArray, List.getElem_cons_zero, List.getElem_cons_succ, List.setIfInBounds_toArray, List.set_cons_zero, List.set_cons_succ]
          refine wpAnyH_ready (rs := [25]) (by kernel_rfl) (by simp) ?_
          refine AllReadyH.cons (o := _) rfl (fun K hK => ?_) ?_
          · go_simp
            refine hK.out _ _ (hHeld) (fun hHeld3 => ?_)
            clear hK K hHeld
            have hHeld := hHeld3
            clear hHeld3
            try simp only [Act.put, List.getElem_toArray, List.getElem_cons_zero, List.getElem_cons_succ, List.setIfInBounds_toArray, List.set_cons_zero, List.set_cons_succ]
            refine wpAnyH_ready (rs := [26]) (by kernel_rfl) (by simp) ?_
            refine AllReadyH.cons (o := _) rfl (fun K hK => ?_) ?_
            · have hHeld2 := hHeld
              obtain ⟨f9, hL9⟩ := hHeld2
              have c14 := (LogAt.cells hL9).2.2.2.2.2.2.2.2.2.2.2.2.2.2
              have fr := Blk.frozen hL9 14
              have HL9 := Lib.hid hL9
              clear hL9
              go_simp
              refine hK.out _ _ (⟨_, LogAt.failed HL9.out _⟩) (fun hHeld3 => ?_)
              clear hK K hHeld
              have hHeld := hHeld3
              clear hHeld3
              try simp only [Act.put, List.getElem_toArray, List.getElem_cons_zero, List.getElem_cons_succ, List.setIfInBounds_toArray, List.set_cons_zero, List.set_cons_succ]
              refine ⟨by kernel_rfl, ?_⟩
              have HL10 := Lib.hid (LogAt.failed HL9.out ((deeds S QD).1))
              obtain ⟨cq, hcq⟩ : ∃ c, (deeds S QD).1 = c := ⟨_, rfl⟩
              have HCQ := Lib.hid hcq
              rw [hcq] at HL10
              rw [hcq]
              clear hcq fr c14 hHeld HL9
              obtain ⟨w10, hw10⟩ : ∃ w10, w9.setCell ⟨g, 14, none⟩ (.int .i64 cq) = w10 := ⟨_, rfl⟩
              rw [hw10] at HL10
              rw [hw10]
              have z10 : Zone g (g + 1) w9 w10 := by rw [← hw10]; exact zone_set g w9 14 _
              have HD10 := Lib.hid (hd9.logset hgh z10)
              have HZ10 := Lib.hid ((LogZ.of_zone (g := g) hzA).trans (LogZ.of_set z10))
              clear hw10 z10 hd9 hzA hzB hz9
              have c14 := (LogAt.cells HL10.out).2.2.2.2.2.2.2.2.2.2.2.2.2.2
              by_cases hc0 : cq = 0
              · subst hc0
                obtain ⟨c0, c1, c2, c3, c4, c5, c6, c7, c8, c9, c10, c11, c12, c13, c14⟩ := LogAt.cells HL10.out
                go_wp2_with fail
                refine (SL.out _).mono ?_; rintro e w11 ⟨rfl, b11⟩
                have hL11 : LogAt g d b l i 1 (1 + l) m (1 + l + m) t (1 + l + m + t) slot left seq 0 w11 := Blk.kept1 HL10.out b11
                have HD11 := Lib.hid (HD10.out.kept1 b11)
                have HZ11 := Lib.hid (HZ10.out.trans (LogZ.of_zone (Zone.of_below b11 lo hi)))
                clear c0 c1 c2 c3 c4 c5 c6 c7 c8 c9 c10 c11 c12 c13 c14
                have c12 := (LogAt.cells hL11).2.2.2.2.2.2.2.2.2.2.2.2.1
                have c14 := (LogAt.cells hL11).2.2.2.2.2.2.2.2.2.2.2.2.2.2
                have fr := Blk.frozen hL11 12
                have fr4 := Blk.frozen hL11 14
                have HL12 := Lib.hid (LogAt.room hL11 ((l : Int) - 1))
                have z12 := zone_set g w11 12 (.int .i64 ((l : Int) - 1))
                have HD12 := Lib.hid (HD11.out.logset hgh z12)
                have HZ12 := Lib.hid (HZ11.out.trans (LogZ.of_set z12))
                clear hL11 HL10 HD10 HZ10 HD11 HZ11 b11 z12
                go_wp2
                go_ret
                rw [HCQ.out, selI_yes]
                exact ⟨rfl, HD12.out, HZ12.out, HL12.out⟩
              · go_wp2
                go_ret
                rw [HCQ.out, selI_no hc0]
                exact ⟨rfl, HD10.out, HZ10.out, HL10.out⟩
            exact AllReadyH.nil
          exact AllReadyH.nil
        exact AllReadyH.nil
      exact AllReadyH.nil
    exact AllReadyH.nil
  exact AllReadyH.nil
end Go.Proofs.YtanghmogeiiooaaGreatDoor

/- The log, act by act: what a commit, a checkpoint, a write outside of it make of what is read of it. -/
namespace Go.Proofs.YtanghmogeiiooaaGreatDoor
set_option linter.unusedVariables false
open Go.RowKit

/-! ### flushes turn no text -/
def isW : Deed → Bool
  | .write _ _ => true
  | .flush => false
theorem run_sim : ∀ (L : List Deed) (S S' : St), S.n = S'.n → S.now = S'.now → (runD S L).n = (runD S' (L.filter isW)).n ∧ (runD S L).now = (runD S' (L.filter isW)).now
  | [], S, S', h1, h2 => ⟨h1, h2⟩
  | .flush :: L, S, S', h1, h2 => run_sim L S.flushed S' h1 h2
  | .write b d :: L, S, S', h1, h2 => run_sim L (S.wrote b.toNat d) (S'.wrote b.toNat d) h1 (by show upd S.now b.toNat d = upd S'.now b.toNat d; rw [h2])
theorem rText_run (S : St) (L : List Deed) (y : Int) : rText (runD S L) y = rText (runD S (L.filter isW)) y := by
  obtain ⟨h1, h2⟩ := run_sim L S S rfl rfl
  unfold rText; rw [h1, h2]
theorem filter_writes (C : List (Int × ByteArray)) : (writesD C).filter isW = writesD C := List.filter_eq_self.2 fun a ha => by
  obtain ⟨c, _, rfl⟩ := List.mem_map.1 ha; rfl
theorem filter_commit (slot l seq : Nat) (L : List (Int × ByteArray)) (R : List Int) (D : List (Int × ByteArray)) :
    (commitD slot l seq L R D).filter isW = writesD (D ++ slotsOf 1 (l : Int) slot (blocksT seq L R) (sizeT L.length R.length)) := by
  unfold commitD
  simp only [List.filter_append, filter_writes]
  show writesD D ++ (writesD (List.take _ _) ++ ((writesD (List.drop _ _) ++ [Deed.flush]).filter isW)) = _
  rw [List.filter_append, filter_writes, show [Deed.flush].filter isW = [] from rfl, List.append_nil, ← List.map_append, List.take_append_drop, ← List.map_append]

/-! ### what stands is told by the slots that it takes -/
theorem stand_upto {rd rd' : Nat → ByteArray} {hm : Int → Bool} {p seq left : Nat} : ∀ {f n : Nat} {t t' : Tx} {k : Nat}, stand rd hm p seq left f n t = some (t', k) → (∀ i, i < k → rd (p + i) = rd' (p + i)) → stand rd' hm p seq left f n t = some (t', k)
  | 0, n, t, t', k, h, _ => by simp [stand] at h
  | f + 1, n, t, t', k, h, hr => by
    have hb := stand_bounds h
    unfold stand at h
    unfold stand
    rw [← hr n hb.1, ← bytesOf_congr (rd := rd) (fun i hi => hr i (by omega))]
    split at h
    · cases h
    · rename_i h0
      rw [if_neg h0]
      split at h
      · cases h
      · rename_i h1
        rw [if_neg h1]
        simp only at h ⊢
        split at h
        · cases h
        · rename_i h2
          rw [if_neg h2]
          split at h
          · rename_i h4
            rw [if_pos h4]; exact h
          · rename_i h4
            rw [if_neg h4]
            split at h
            · cases h
            · rename_i h5
              rw [if_neg h5]
              split at h
              · rename_i h6
                rw [if_pos h6]; exact stand_upto h hr
              · rename_i h6
                rw [if_neg h6]
                split at h
                · cases h
                · rename_i h7
                  rw [if_neg h7]
                  have hb2 := stand_bounds h
                  rw [← dataOf_congr (rd := rd) (rd' := rd') fun i hi => by
                    have := hr (n + 1 + i) (by omega)
                    rwa [show p + (n + 1 + i) = p + n + 1 + i by omega] at this]
                  exact stand_upto h hr
theorem stands_le {rd : Nat → ByteArray} {hm : Int → Bool} {p seq slots : Nat} : ∀ (r : List Tx) (used : Nat) (l : List Tx) (e : Nat), Stands rd hm p seq slots used l e r → used ≤ e
  | [], used, l, e, h => by have h : e = used := h; omega
  | t :: r, used, l, e, h => by
    obtain ⟨k, h1, h2⟩ := h
    have := stands_le r _ _ _ h2
    omega
theorem stands_same {rd rd' : Nat → ByteArray} {hm : Int → Bool} {p seq slots e : Nat} (hr : ∀ i, i < e → rd (p + i) = rd' (p + i)) : ∀ (r : List Tx) (used : Nat) (l : List Tx), Stands rd hm p seq slots used l e r → Stands rd' hm p seq slots used l e r
  | [], _, _, h => h
  | t :: r, used, l, h => by
    obtain ⟨k, h1, h2⟩ := h
    have h3 := stands_le _ _ _ _ h2
    exact ⟨k, stand_upto h1 fun i hi => by have := hr (used + i) (by omega); rwa [← Nat.add_assoc] at this, stands_same hr r _ _ h2⟩
theorem stands_snoc {rd : Nat → ByteArray} {hm : Int → Bool} {p seq slots : Nat} {t : Tx} {k : Nat} : ∀ (r : List Tx) (used : Nat) (l : List Tx) (e : Nat), Stands rd hm p seq slots used l e r →
    stand rd hm (p + e) ((seq + (l ++ r).length) % 18446744073709551616) (slots - e) (slots - e) 0 ⟨[], []⟩ = some (t, k) → Stands rd hm p seq slots used l (e + k) (r ++ [t])
  | [], used, l, e, h, hs => by
    have h : e = used := h
    subst h
    rw [List.append_nil] at hs
    exact ⟨k, hs, rfl⟩
  | a :: r, used, l, e, h, hs => by
    obtain ⟨k', h1, h2⟩ := h
    exact ⟨k', h1, stands_snoc r _ _ e h2 (by rw [List.append_assoc]; exact hs)⟩

/-! ### the blocks of a transaction are records of its number, or none -/
theorem maskV_no (s : ByteArray) : ¬ IsBlk (maskV s) := fun h => by
  have hb := isBlk_begins h
  unfold maskV at hb
  split at hb
  · exact mask_off s hb
  · rename_i h2; exact h2 hb
theorem recNo_seq {r : Rec} (h : RecOk r ∧ Fits r) : ¬ IsBlk (blk r) ∨ (readR (blk r)).seq = r.seq := .inr (by rw [(isBlk_of h.1 h.2).2])
theorem body_seq {seq : Nat} (hs : seq < 18446744073709551616) {cs : List (List Int)} {gs : List (List (Int × ByteArray))} (hc : ∀ c ∈ cs, HomesOk c 28) (hg : ∀ g ∈ gs, HomesOk (g.map Prod.fst) 24) :
    ∀ b ∈ bodyOf seq cs gs, ¬ IsBlk b ∨ (readR b).seq = seq := by
  intro b hb
  unfold bodyOf at hb
  rcases List.mem_append.1 hb with h | h
  · obtain ⟨c, hc2, rfl⟩ := List.mem_map.1 h
    exact recNo_seq (revR_ok hs (hc c hc2))
  · obtain ⟨g, hg2, h⟩ := List.mem_flatMap.1 h
    unfold descB at h
    rcases List.mem_cons.1 h with rfl | h
    · exact recNo_seq (descR_ok hs (hg g hg2))
    · obtain ⟨c, _, rfl⟩ := List.mem_map.1 h
      exact .inl (maskV_no c.2)
theorem blocksT_seq {seq : Nat} (hs : seq < 18446744073709551616) {L : List (Int × ByteArray)} {R : List Int} (hc : ∀ c ∈ chunks 28 R, HomesOk c 28) (hg : ∀ g ∈ chunks 24 L, HomesOk (g.map Prod.fst) 24) :
    ∀ b ∈ blocksT seq L R, ¬ IsBlk b ∨ (readR b).seq = seq := by
  intro b hb
  unfold blocksT at hb
  rcases List.mem_append.1 hb with h | h
  · exact body_seq hs hc hg b h
  · rw [List.mem_singleton.1 h]
    exact recNo_seq (comR_ok hs (moreV_lt _ _ (by omega)))

/-! ### the log -/
/-- a transaction that stands ends with a commit record of its number -/
theorem stand_has {rd : Nat → ByteArray} {hm : Int → Bool} {p seq left : Nat} : ∀ {f n : Nat} {t t' : Tx} {k : Nat}, stand rd hm p seq left f n t = some (t', k) → ∃ i, i < k ∧ IsBlk (rd (p + i)) ∧ (readR (rd (p + i))).seq = seq ∧ (readR (rd (p + i))).kind = 4
  | 0, n, t, t', k, h => by simp [stand] at h
  | f + 1, n, t, t', k, h => by
    have hb := stand_bounds h
    unfold stand at h
    split at h
    · cases h
    · split at h
      · cases h
      · rename_i h1
        simp only at h
        split at h
        · cases h
        · rename_i h2
          split at h
          · rename_i h4
            exact ⟨n, hb.1, Decidable.not_not.1 h1, Decidable.not_not.1 fun e => h2 (.inl e), h4⟩
          · split at h
            · cases h
            · split at h
              · exact stand_has h
              · split at h
                · cases h
                · exact stand_has h
/-- a block that ends no transaction of the number s, nor of one beyond -/
def Low (s : Nat) (b : ByteArray) : Prop := ¬ IsBlk b ∨ (readR b).seq < s ∨ ((readR b).seq = s ∧ (readR b).kind ≠ 4)
theorem Low.up {s : Nat} {b : ByteArray} (h : Low s b) : Low (s + 1) b := by
  rcases h with h | h | ⟨h, _⟩
  · exact .inl h
  · exact .inr (.inl (by omega))
  · exact .inr (.inl (by omega))
theorem stand_low {rd : Nat → ByteArray} {hm : Int → Bool} {p seq left f n : Nat} {t : Tx} (h : ∀ i, Low seq (rd (p + i))) : stand rd hm p seq left f n t = none := by
  cases e : stand rd hm p seq left f n t with
  | none => rfl
  | some r =>
    obtain ⟨t', k⟩ := r
    obtain ⟨i, _, h1, h2, h3⟩ := stand_has e
    rcases h i with hh | hh | ⟨_, hh⟩
    · exact absurd h1 hh
    · omega
    · exact absurd h3 hh
/-- the log on a device: its header at p with the number q, the transactions from there on, how many slots they take; no slot bears what would end a transaction yet to come -/
structure LogInv (S : St) (l : Nat) (hm : Int → Bool) (p q : Nat) (ts : List Tx) (used : Nat) : Prop where
  head : rText S 1 = blk (headR p q)
  pos : p < l - 1
  seq : q + ts.length < 18446744073709551615
  fit : used ≤ l - 1
  stands : Stands (slotT S 1 (l : Int)) hm p q (l - 1) 0 [] used ts
  low : ∀ i, Low (q + ts.length) (slotT S 1 (l : Int) i)
theorem LogInv.head_ok {S : St} {l : Nat} {hm : Int → Bool} {p q : Nat} {ts : List Tx} {used : Nat} (hl : 128 ≤ l ∧ l ≤ 512) (h : LogInv S l hm p q ts used) : IsBlk (rText S 1) ∧ readR (rText S 1) = headR p q := by
  obtain ⟨a, b⟩ := headR_ok (slot := p) (seq := q) (by have := h.pos; omega) (by have := h.seq; omega)
  rw [h.head]; exact isBlk_of a b
theorem LogInv.is {S : St} {l : Nat} {b : Int} {p q : Nat} {ts : List Tx} {used : Nat} (hl : 128 ≤ l ∧ l ≤ 512) (h : LogInv S l (hmB b 1 l) p q ts used) : logOf S b 1 l = some (ts, used) := by
  obtain ⟨h1, h2⟩ := h.head_ok hl
  have hp := h.pos
  have hz : ((l : Int) - 1).toNat = l - 1 := by omega
  unfold logOf
  rw [h2, if_pos ⟨h1, rfl, by show (p : Int) < _; omega⟩, hz]
  refine congrArg some ?_
  refine logFrom_stands ts (l - 1) 0 [] used (by omega) (by omega) h.stands ?_
  rw [List.nil_append, Nat.mod_eq_of_lt (by have := h.seq; show q + ts.length < _; omega)]
  show stand (slotT S 1 (l : Int)) (hmB b 1 l) (p + used) (q + ts.length) (l - 1 - used) (l - 1 - used) 0 ⟨[], []⟩ = none
  exact stand_low fun i => h.low (p + used + i)
theorem slotT_in {S : St} {l : Nat} (hl : 128 ≤ l ∧ l ≤ 512) (i : Nat) : slotT S 1 (l : Int) i = rText S ((1 + 1 + i % (l - 1) : Nat) : Int) := by
  unfold slotT; congr 1
  have : ((l : Int) - 1) = ((l - 1 : Nat) : Int) := by omega
  rw [this]; push_cast; omega
/-- a device that has the same text in the log has the same log -/
theorem LogInv.same {S S' : St} {l : Nat} {hm : Int → Bool} {p q : Nat} {ts : List Tx} {used : Nat} (hl : 128 ≤ l ∧ l ≤ 512) (h : LogInv S l hm p q ts used) (hs : ∀ x : Nat, 1 ≤ x → x < l + 1 → rText S' (x : Int) = rText S (x : Int)) : LogInv S' l hm p q ts used := by
  have e : ∀ i, slotT S' 1 (l : Int) i = slotT S 1 (l : Int) i := fun i => by
    rw [slotT_in hl, slotT_in hl]
    have := Nat.mod_lt i (show 0 < l - 1 by omega)
    exact hs _ (by omega) (by omega)
  refine ⟨(hs 1 (by omega) (by omega)).trans h.head, h.pos, h.seq, h.fit, stands_same (fun i _ => (e _).symm) _ _ _ h.stands, fun i => by rw [e]; exact h.low i⟩
end Go.Proofs.YtanghmogeiiooaaGreatDoor
