/- Twin, Left, same: the laws' helpers. -/
import Derived.Test.YtgcbfiecgiijkaaTConcat
import Derived.Test.YtgcbfiecgiijkaaTEnd
import Derived.Test.YtgcbfiecgiijkaaRSame
import Derived.Test.YtgcbfiecgiijkaaKinds
import Derived.Laws.MakeOwn
namespace Go.Proofs.Ytgcbfiecgiijkaa
set_option linter.unusedVariables false
open Go.RowKit

theorem lit_inT (T : TypeId) (W : World) (l : List Ent) (n : Nat) (cs : Array Value) (hn : l.length = n) (hl : l.length ≤ 4000) (hc : cs.toList = cellsE l) : EntsIn (.slice (some ⟨W.heap.size, 0, none⟩) n n) l (W.alloc (.cells cs T)) := by
  subst hn
  refine ⟨cellsE_length l, some ⟨W.heap.size, 0, none⟩, l.length, rfl, Nat.le_refl _, by unfold maxLen; omega, fun _ => ⟨W.heap.size, 0, rfl, by rw [size_alloc]; omega, fun k u hk => ?_⟩, fun h => by cases h⟩
  rw [Nat.zero_add, World.cell?_alloc_mark]
  rw [← hc] at hk
  simpa using hk
def ends2 : List Ent := [⟨0, 0, -70⟩, ⟨0, 0, -71⟩]
/-- a twin of the list: in memory of its own, two exts of its own behind -/
def TwinX (B : Nat) (v : Value) (l : List Ent) (w : World) : Prop :=
  ∃ g cap, v = .slice (some ⟨g, 0, none⟩) l.length cap ∧ g < w.heap.size ∧ w.ownsRow B 37 3 (.slice (some ⟨g, 0, none⟩) (l.length + 2) cap) (l.length + 2) (cellsE (l ++ ends2))
theorem twinX_kept {B : Nat} {v : Value} {l : List Ent} {w w' : World} (h : TwinX B v l w) (hb : Below w.heap.size w w') : TwinX B v l w' := by
  obtain ⟨g, cap, e, hg, r⟩ := h
  exact ⟨g, cap, e, Nat.lt_of_lt_of_le hg hb.size, row_kept r hb⟩
theorem twinX_in {B : Nat} {v : Value} {l : List Ent} {w : World} (h : TwinX B v l w) : EntsIn v l w := by
  obtain ⟨g, cap, rfl, hg, r⟩ := h
  obtain ⟨ad', cp', e1, h1, h2, h3⟩ := shape_of r
  cases e1
  refine ⟨cellsE_length l, _, _, rfl, by omega, h2, fun _ => ⟨g, 0, rfl, hg, fun k u hk => ?_⟩, fun h => by cases h⟩
  have hl := (List.getElem?_eq_some_iff.1 hk).1
  rw [cellsE_length] at hl
  rw [Nat.zero_add, r.cellAt k (by omega), ← hk, cellsE_append, List.getElem?_append_left (by rw [cellsE_length]; exact hl)]
theorem twinX_ends {B : Nat} {g cap : Nat} {l : List Ent} {w : World} (r : w.ownsRow B 37 3 (.slice (some ⟨g, 0, none⟩) (l.length + 2) cap) (l.length + 2) (cellsE (l ++ ends2))) :
    l.length + 2 ≤ cap ∧ cap ≤ 9223372036854775807 ∧ w.cell? ⟨g, l.length * 3 + 2, none⟩ = some (.int .i64 (-70)) ∧ w.cell? ⟨g, (l.length + 1) * 3 + 2, none⟩ = some (.int .i64 (-71)) := by
  obtain ⟨ad', cp', e1, h1, h2, h3⟩ := shape_of r
  cases e1
  have a := (cellsE_at (l ++ ends2) l.length (by simp [ends2])).2.2
  have b := (cellsE_at (l ++ ends2) (l.length + 1) (by simp [ends2])).2.2
  have ea : eat (l ++ ends2) l.length = ⟨0, 0, -70⟩ := by unfold eat; rw [List.getElem?_append_right (Nat.le_refl _), Nat.sub_self]; rfl
  have eb : eat (l ++ ends2) (l.length + 1) = ⟨0, 0, -71⟩ := by unfold eat; rw [List.getElem?_append_right (by omega), Nat.add_sub_cancel_left]; rfl
  rw [ea] at a
  rw [eb] at b
  exact ⟨h1, h2, (r.cellAt _ (by omega)).trans a, (r.cellAt _ (by omega)).trans b⟩
set_option maxRecDepth 100000 in
set_option maxHeartbeats 4000000 in
theorem twinx_any (l : List Ent) (hl : l.length ≤ 1000) (v : Value) (w : World) (hv : EntsIn v l w) :
    Calls Try.prog 11 #[v] w fun e w' => ∃ v', e = .returned v' ∧ TwinX w.heap.size v' l w' ∧ Below w.heap.size w w' := by
  obtain ⟨i0, hi, hz0, hz1, hz2⟩ := info_parts ext_info
  obtain ⟨w1, hmk, hown0, hg0⟩ := run_make_own (P := Try.prog) (w := w) w.heap.size 22 37 i0 (.agg #[.int .i64 0, .int .i64 0, .int .i64 0]) 3 Try.underlying22 hi hz0 hz1 .i64 .i64 (l.length + 2) (by rw [hz2]; omega) (by unfold maxLen; omega) (Nat.le_refl _)
  have hb1 : Below w.heap.size w w1 := (Below.refl _ _).grown hg0 (Nat.le_refl _) (fun k hk => by cases hk)
  have hmk : (Instr.makeSlice 22 (.int .i64 0) (.int .i64 ((l.length : Int) + 2))).run Try.prog w = .ok (.slice (some ⟨w.heap.size, 0, none⟩) 0 (l.length + 2)) w1 := by rw [← hmk]; rfl
  have hown0 : ExtsAt w.heap.size (.slice (some ⟨w.heap.size, 0, none⟩) 0 (l.length + 2)) [] w1 := hown0
  have hv1 := Lib.hid (hv.kept hb1)
  have hs1 := hb1.size
  obtain ⟨ad, cap, rfl, -⟩ := entsIn_cells hv
  clear hv hi hz0 hz1 hz2 hg0
  go_enter Try.func11, Try.ntmps11
  go_wp2_with (at_builtin; refine wpList_appE rfl _ _ 22 37 rfl Try.underlying22 ext_info w.heap.size _ [] rfl hown0 _ l rfl hv1.out (by simp; omega) hs1 ?_)
  intro v2 w2 h2 g2
  have b2 := below_of_row hown0 g2 hs1
  have h2 : ExtsAt w.heap.size v2 l w2 := by simpa using h2
  have hb2 := hb1.trans b2
  have hs2 := hb2.size
  have hL := Lib.hid (lit_inT 37 w2 ends2 2 #[.int .i64 0, .int .i64 0, .int .i64 (-70), .int .i64 0, .int .i64 0, .int .i64 (-71)] rfl (by decide) rfl)
  clear hown0 hv1 b2 hb1 hs1 g2
  go_wp2_with (at_builtin; refine wpList_appE rfl _ _ 22 37 rfl Try.underlying22 ext_info w.heap.size _ l rfl (h2.alloc _) _ ends2 rfl hL.out (by simp [ends2]; omega) (by rw [size_alloc]; omega) ?_)
  intro v3 w3 h3 g3
  have hb3 := (balloc hb2 _).trans (below_of_row (h2.alloc _) g3 (by rw [size_alloc]; omega))
  have h3 : w3.ownsRow w.heap.size 37 3 v3 (l.length + 2) (cellsE (l ++ ends2)) := by simpa [ends2] using h3
  obtain ⟨ad3, cap3, rfl, p1, p2, p3⟩ := shape_of h3
  obtain ⟨g3', rfl, hgB, hg3⟩ := p3 (by omega)
  have p2 : cap3 ≤ 9223372036854775807 := p2
  clear h2 hb2 p3 g3 hL
  have h3 := Lib.hid h3
  go_wp2
  go_ret
  exact ⟨_, rfl, ⟨g3', cap3, rfl, hg3, h3.out⟩, hb3⟩
set_option maxRecDepth 100000 in
set_option maxHeartbeats 4000000 in
theorem leftx_any (l : List Ent) (hl : l.length ≤ 1000) (B : Nat) (vt v : Value) (w : World) (ht : TwinX B vt l w) (hv : EntsIn v l w) :
    Calls Try.prog 23 #[vt, v] w fun e w' => e = .returned (.bool true) ∧ Below w.heap.size w w' := by
  have S := Lib.hid (samex_yes l vt v w (twinX_in ht) hv)
  obtain ⟨g, cap, rfl, hg, r⟩ := ht
  obtain ⟨ad, cap2, rfl, -⟩ := entsIn_cells hv
  obtain ⟨p1, p2, q1, q2⟩ := twinX_ends r
  have dl : ((l.length : Int) != (l.length : Int)) = false := by simp
  have dc : decide ((cap : Int) < (l.length : Int) + 2) = false := decide_eq_false (by omega)
  clear r hv
  go_enter Try.func23, Try.ntmps23
  go_wp2_with fail
  refine S.out.mono ?_; rintro e w1 ⟨rfl, b⟩
  have q1 := (b.cell (p := ⟨g, l.length * 3 + 2, none⟩) hg).trans q1
  have q2 := (b.cell (p := ⟨g, (l.length + 1) * 3 + 2, none⟩) hg).trans q2
  clear S
  go_wp2
  go_ret
  exact ⟨rfl, b⟩
set_option maxRecDepth 100000 in
set_option maxHeartbeats 8000000 in
theorem samea_yes (lo : List Ent) (lf : List (Int × Int)) (c : Int) (B : Nat) (vo vf vw vr : Value) (w : World) (ho : ExtsAt B vo lo w) (hf : RunsAt B vf lf w) (hw : EntsIn vw lo w) (hr : RunsIn vr lf w) (hB : B ≤ w.heap.size) :
    Calls Try.prog 27 #[vo, vf, .int .i64 c, vw, vr, .int .i64 c] w fun e w' => e = .returned (.bool true) ∧ Below B w w' := by
  have S1 := Lib.hid (samex_yes lo vo vw w (rowE_in ho) hw)
  have S2 := Lib.hid fun W (b : Below w.heap.size w W) => same_yes vf vr lf W (runsIn_kept (runsAt_in hf) b) (runsIn_kept hr b)
  obtain ⟨ad, cap, rfl, h1, h2, h3⟩ := shape_of ho
  obtain ⟨adf, capf, rfl, f1, f2, f3⟩ := shape_of hf
  obtain ⟨adw, capw, rfl, -⟩ := entsIn_cells hw
  obtain ⟨adr, capr, rfl, -⟩ := id hr
  have h2 : cap ≤ 9223372036854775807 := h2
  have f2 : capf ≤ 9223372036854775807 := f2
  have dc : (c != c) = false := by simp
  have HO := Lib.hid ho
  have HF := Lib.hid hf
  have HB := Lib.hid hB
  have H3 := Lib.hid h3
  have F3 := Lib.hid f3
  clear ho hf hw hr h3 f3
  go_enter Try.func27, Try.ntmps27
  go_wp2_with fail
  refine S1.out.mono ?_; rintro e w1 ⟨rfl, b1⟩
  go_wp2_with fail
  refine (S2.out _ b1).mono ?_; rintro e w2 ⟨rfl, b2⟩
  have b12 := Lib.hid (bnext b1 b2)
  have HO := Lib.hid (row_kept HO.out b12.out)
  have HF := Lib.hid (row_kept HF.out b12.out)
  have HB2 := Lib.hid (b12.out.mono hB)
  clear b1 b2 S1 S2
  go_wp2
  go_loopw [13] (fun p wr => ∃ (k : Nat) (xs : List Value), p = .int .i64 k ∧ k ≤ lo.length ∧ wr.ownsRow B 37 3 (.slice ad lo.length cap) lo.length xs ∧ w2.grownBy wr (Value.ownBlock (.slice ad lo.length cap)) ∧ Below B w wr) (fun p _ => lo.length - (intOf p).toNat)
  case atStart => exact ⟨0, _, rfl, Nat.zero_le _, HO.out, grown_refl' _ _, HB2.out⟩
  case round =>
    obtain ⟨k, xs, rfl, hk, hx, hg, hb⟩ := hrel
    by_cases hlt : k < lo.length
    · obtain ⟨g, rfl, hgB, hgl⟩ := H3.out (by omega)
      have hxl := hx.1
      have e1 : wr.cell? ⟨g, k * 3, none⟩ = some (xs[k * 3]'(by omega)) := (hx.cellAt _ (by omega)).trans (List.getElem?_eq_getElem _)
      have e2 : wr.cell? ⟨g, k * 3 + 1, none⟩ = some (xs[k * 3 + 1]'(by omega)) := (hx.cellAt _ (by omega)).trans (List.getElem?_eq_getElem _)
      have e3 : wr.cell? ⟨g, k * 3 + 2, none⟩ = some (xs[k * 3 + 2]'(by omega)) := (hx.cellAt _ (by omega)).trans (List.getElem?_eq_getElem _)
      have f1 := hx.frozenAt (k * 3)
      have f2 := hx.frozenAt (k * 3 + 1)
      have f3 := hx.frozenAt (k * 3 + 2)
      have s1 := (hx.stored (k * 3) (.int .i64 0)).1
      have s2 := (s1.stored (k * 3 + 1) (.int .i64 0)).1
      have s3 := (s2.stored (k * 3 + 2) (.int .i64 (-9))).1
      have hg3 := grown_set' (grown_set' (grown_set' hg (k * 3) (.int .i64 0)) (k * 3 + 1) (.int .i64 0)) (k * 3 + 2) (.int .i64 (-9))
      have hb3 := ((hb.setCell (p := ⟨g, k * 3, none⟩) hgB (.int .i64 0)).setCell (p := ⟨g, k * 3 + 1, none⟩) hgB (.int .i64 0)).setCell (p := ⟨g, k * 3 + 2, none⟩) hgB (.int .i64 (-9))
      generalize xs[k * 3]'(by omega) = x1 at *
      generalize xs[k * 3 + 1]'(by omega) = x2 at *
      generalize xs[k * 3 + 2]'(by omega) = x3 at *
      have s3 := Lib.hid s3
      have hg3 := Lib.hid hg3
      have hb3 := Lib.hid hb3
      clear hx s1 s2 hg hb
      go_wp2
      exact ⟨⟨k + 1, _, by go_num, by omega, s3.out, hg3.out, hb3.out⟩, by simp [intOf]; omega⟩
    · obtain rfl : k = lo.length := by omega
      have HF3 : Hid (wr.ownsRow B 32 2 (.slice adf lf.length capf) lf.length (cellsR lf)) := Lib.hid (kept_kinds HO.out HF.out (by decide) hg)
      have HB3 := Lib.hid hb
      clear hx hg hb
      go_wp2
      go_loopw [14] (fun p wr => ∃ (k : Nat) (xs : List Value), p = .int .i64 k ∧ k ≤ lf.length ∧ wr.ownsRow B 32 2 (.slice adf lf.length capf) lf.length xs ∧ Below B w wr) (fun p _ => lf.length - (intOf p).toNat)
      case atStart => exact ⟨0, _, rfl, Nat.zero_le _, HF3.out, HB3.out⟩
      case round =>
        obtain ⟨k, xs, rfl, hk, hx, hb⟩ := hrel
        by_cases hlt : k < lf.length
        · obtain ⟨g, rfl, hgB, hgl⟩ := F3.out (by omega)
          have hxl := hx.1
          have e1 : wr.cell? ⟨g, k * 2, none⟩ = some (xs[k * 2]'(by omega)) := (hx.cellAt _ (by omega)).trans (List.getElem?_eq_getElem _)
          have e2 : wr.cell? ⟨g, k * 2 + 1, none⟩ = some (xs[k * 2 + 1]'(by omega)) := (hx.cellAt _ (by omega)).trans (List.getElem?_eq_getElem _)
          have f1 := hx.frozenAt (k * 2)
          have f2 := hx.frozenAt (k * 2 + 1)
          have s1 := (hx.stored (k * 2) (.int .i64 0)).1
          have s2 := (s1.stored (k * 2 + 1) (.int .i64 (-9))).1
          have hb3 := (hb.setCell (p := ⟨g, k * 2, none⟩) hgB (.int .i64 0)).setCell (p := ⟨g, k * 2 + 1, none⟩) hgB (.int .i64 (-9))
          generalize xs[k * 2]'(by omega) = x1 at *
          generalize xs[k * 2 + 1]'(by omega) = x2 at *
          have s2 := Lib.hid s2
          have hb3 := Lib.hid hb3
          clear hx s1 hb
          go_wp2
          exact ⟨⟨k + 1, _, by go_num, by omega, s2.out, hb3.out⟩, by simp [intOf]; omega⟩
        · obtain rfl : k = lf.length := by omega
          clear hx
          go_wp2
          go_ret
          exact ⟨rfl, hb⟩
end Go.Proofs.Ytgcbfiecgiijkaa
