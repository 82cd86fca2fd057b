/- Twin, Left, spoil. -/
import Derived.Test.YtmdkekbhondkbaaRRef2
import Derived.Laws.MakeOwn
namespace Go.Proofs.Ytmdkekbhondkbaa
set_option linter.unusedVariables false
open Go.RowKit Go.Shelf

/-- a twin of the list: in memory of its own, two runs of its own behind -/
def TwinAt (B : Nat) (v : Value) (l : List (Int × Int)) (w : World) : Prop :=
  ∃ g cap, v = .slice (some ⟨g, 0, none⟩) l.length cap ∧ g < w.heap.size ∧ w.ownsRow B 37 2 (.slice (some ⟨g, 0, none⟩) (l.length + 2) cap) (l.length + 2) (cellsR (l ++ [(-70, 0), (-71, 0)]))
theorem twin_kept {B : Nat} {v : Value} {l : List (Int × Int)} {w w' : World} (h : TwinAt B v l w) (hb : Below w.heap.size w w') : TwinAt B v l w' := by
  obtain ⟨g, cap, e, hg, r⟩ := h
  exact ⟨g, cap, e, Nat.lt_of_lt_of_le hg hb.size, row_kept r hb⟩
theorem row_caps {B g n cap : Nat} {e : TypeId} {z : Nat} {xs : List Value} {w : World} (h : w.ownsRow B e z (.slice (some ⟨g, 0, none⟩) n cap) n xs) : n ≤ cap ∧ cap ≤ maxLen := by
  obtain ⟨ad, cap', e, h1, h2, _⟩ := shape_of h
  cases e; exact ⟨h1, h2⟩
theorem twin_in {B : Nat} {v : Value} {l : List (Int × Int)} {w : World} (h : TwinAt B v l w) : RunsIn v l w := by
  obtain ⟨g, cap, rfl, hg, r⟩ := h
  obtain ⟨h1, h2⟩ := row_caps r
  refine ⟨_, _, rfl, by omega, h2, fun _ => ⟨g, 0, rfl, hg, fun k hk => ?_⟩, fun h => by cases h⟩
  have := run_cells r k (by simp; omega)
  rw [List.getElem_append_left hk] at this
  simpa using this

set_option maxHeartbeats 4000000 in
theorem twin_any (l : List (Int × Int)) (hl : l.length ≤ 1000) (v : Value) (w : World) (hv : RunsIn v l w) :
    Calls Try.prog 11 #[v] w fun e w' => ∃ v', e = .returned v' ∧ TwinAt w.heap.size v' l w' ∧ Below w.heap.size w w' := by
  obtain ⟨i0, hi, hz0, hz1, hz2⟩ := info_parts info_run
  obtain ⟨w1, hmk, hown0, hg0⟩ := run_make_own (P := Try.prog) (w := w) w.heap.size 22 37 i0 (.agg #[.int .i64 0, .int .i64 0]) 2 Try.underlying22 hi hz0 hz1 .i64 .i64 (l.length + 2) (by rw [hz2]; omega) (by unfold maxLen; omega) (Nat.le_refl _)
  have hb1 : Below w.heap.size w w1 := (Below.refl _ _).grown hg0 (Nat.le_refl _) (fun k hk => by cases hk)
  have hmk : (Instr.makeSlice 22 (.int .i64 0) (.int .i64 ((l.length : Int) + 2))).run Try.prog w = .ok (.slice (some ⟨w.heap.size, 0, none⟩) 0 (l.length + 2)) w1 := by rw [← hmk]; rfl
  have hown0 : RunsAt w.heap.size (.slice (some ⟨w.heap.size, 0, none⟩) 0 (l.length + 2)) [] w1 := hown0
  have hv1 := runsIn_kept hv hb1
  have hs1 := hb1.size
  obtain ⟨ad, cap, rfl, -⟩ := id hv
  clear hv hi hz0 hz1 hz2 hg0
  go_enter Try.func11, Try.ntmps11
  go_wp2_with (at_builtin; refine wpList_appv rfl _ _ rfl w.heap.size _ [] rfl hown0 _ l rfl hv1 (by simp; omega) hs1 ?_)
  intro v2 w2 h2 b2
  have hb2 := hb1.trans b2
  have hs2 := hb2.size
  clear hown0 hv1 b2 hb1 hs1
  go_wp2_with (at_builtin; refine wpList_app rfl _ _ rfl w.heap.size _ l rfl (h2.alloc _) ⟨w2.heap.size, 0, none⟩ 2 2 [(-70, 0), (-71, 0)] rfl rfl (cells_of_two (g := w2.heap.size) (o := 0) (l := [(-70, 0), (-71, 0)]) (fun k hk => by
    match k, hk with
    | 0, _ => exact ⟨by rw [World.cell?_alloc_mark]; rfl, by rw [World.cell?_alloc_mark]; rfl⟩
    | 1, _ => exact ⟨by rw [World.cell?_alloc_mark]; rfl, by rw [World.cell?_alloc_mark]; rfl⟩)) (by omega) (by rw [size_alloc]; omega) ?_)
  intro v3 w3 h3 b3
  have hb3 := (balloc' hb2 hs2 _).trans b3
  have h3 : w3.ownsRow w.heap.size 37 2 v3 (l.length + 2) (cellsR (l ++ [(-70, 0), (-71, 0)])) := by
    have h : w3.ownsRow _ _ _ v3 (l ++ [(-70, 0), (-71, 0)]).length _ := h3
    rwa [List.length_append] at h
  obtain ⟨ad3, cap3, rfl, p1, p2, p3⟩ := shape_of h3
  obtain ⟨g3, rfl, hgB, hg3⟩ := p3 (by omega)
  have p2 : cap3 ≤ 9223372036854775807 := p2
  clear h2 b3 hb2 p3
  have h3 := Lib.hid h3
  go_wp2
  go_ret
  exact ⟨_, rfl, ⟨g3, cap3, rfl, hg3, h3.out⟩, hb3⟩

set_option maxHeartbeats 4000000 in
theorem left_any (l : List (Int × Int)) (hl : l.length ≤ 1000) (B : Nat) (vt v : Value) (w : World) (ht : TwinAt B vt l w) (hv : RunsIn v l w) :
    Calls Try.prog 26 #[vt, v] w fun e w' => e = .returned (.bool true) ∧ Below w.heap.size w w' := by
  have S := Lib.hid (same_yes vt v l w (twin_in ht) hv)
  obtain ⟨g, cap, rfl, hg, r⟩ := ht
  obtain ⟨ad, cap2, rfl, -⟩ := id hv
  obtain ⟨p1, p2⟩ := row_caps r
  have p2 : cap ≤ 9223372036854775807 := p2
  have q1 := (run_cells r l.length (by simp)).1
  have q2 := (run_cells r (l.length + 1) (by simp)).1
  simp only [List.getElem_append_right (Nat.le_refl _), Nat.sub_self, List.getElem_cons_zero] at q1
  rw [List.getElem_append_right (by omega)] at q2
  simp only [Nat.add_sub_cancel_left, List.getElem_cons_succ, List.getElem_cons_zero] at q2
  have dl : ((l.length : Int) != (l.length : Int)) = false := by simp
  have dc : decide ((cap : Int) < (l.length : Int) + 2) = false := decide_eq_false (by omega)
  clear r hv
  go_enter Try.func26, Try.ntmps26
  go_wp2_with fail
  refine S.out.mono ?_; rintro e w1 ⟨rfl, b⟩
  have q1 := (b.cell (p := ⟨g, l.length * 2, none⟩) hg).trans q1
  have q2 := (b.cell (p := ⟨g, (l.length + 1) * 2, none⟩) hg).trans q2
  clear S
  go_wp2
  go_ret
  exact ⟨rfl, b⟩

theorem grown_refl (w : World) (row : Option Nat) : w.grownBy w row := ⟨rfl, rfl, rfl, Nat.le_refl _, fun _ _ _ => rfl⟩
theorem grown_set {w w' : World} {g : Nat} (h : w.grownBy w' (some g)) (o : Nat) (u : Value) : w.grownBy (w'.setCell ⟨g, o, none⟩ u) (some g) := by
  refine ⟨h.os, h.tape, h.output, ?_, fun k hk hne => ?_⟩
  · show _ ≤ (w'.heap.modify _ _).size
    rw [Array.size_modify]; exact h.size
  · rw [Below.heap_setCell w' ⟨g, o, none⟩ u k (fun e => hne (by rw [e]))]
    exact h.block k hk hne
set_option maxHeartbeats 4000000 in
theorem spoil_any (l : List (Int × Int)) (B : Nat) (v : Value) (w : World) (h : RunsAt B v l w) :
    Calls Try.prog 25 #[v] w fun e w' => e = .returned (.tuple #[]) ∧ w.grownBy w' v.ownBlock := by
  obtain ⟨ad, cap, rfl, h1, h2, h3⟩ := shape_of h
  have h2 : cap ≤ 9223372036854775807 := h2
  go_enter Try.func25, Try.ntmps25
  go_wp2
  go_loopw [2] (fun p wr => ∃ (k : Nat) (xs : List Value), p = .int .i64 k ∧ k ≤ l.length ∧ wr.ownsRow B 37 2 (.slice ad l.length cap) l.length xs ∧ w.grownBy wr (Value.ownBlock (.slice ad l.length cap))) (fun p _ => l.length - (intOf p).toNat)
  case atStart => exact ⟨0, _, rfl, Nat.zero_le _, h, grown_refl _ _⟩
  case round =>
    obtain ⟨k, xs, rfl, hk, hx, hg⟩ := hrel
    by_cases hlt : k < l.length
    · obtain ⟨g, rfl, hgB, hgl⟩ := h3 (by omega)
      have hxl := hx.1
      have e1 : wr.cell? ⟨g, k * 2, none⟩ = some (xs[k * 2]'(by omega)) := (hx.cellAt _ (by omega)).trans (List.getElem?_eq_getElem _)
      have e2 : wr.cell? ⟨g, k * 2 + 1, none⟩ = some (xs[k * 2 + 1]'(by omega)) := (hx.cellAt _ (by omega)).trans (List.getElem?_eq_getElem _)
      have f1 := hx.frozenAt (k * 2)
      have f2 := hx.frozenAt (k * 2 + 1)
      have s1 := (hx.stored (k * 2) (.int .i64 (-9))).1
      have s2 := (s1.stored (k * 2 + 1) (.int .i64 (-9))).1
      have hg2 := grown_set (grown_set hg (k * 2) (.int .i64 (-9))) (k * 2 + 1) (.int .i64 (-9))
      generalize xs[k * 2]'(by omega) = x1 at *
      generalize xs[k * 2 + 1]'(by omega) = x2 at *
      have s2 := Lib.hid s2
      have hg2 := Lib.hid hg2
      clear h h3 hx s1 hg
      go_wp2
      exact ⟨⟨k + 1, _, by go_num, by omega, s2.out, hg2.out⟩, by simp [intOf]; omega⟩
    · obtain rfl : k = l.length := by omega
      clear h h3 hx
      go_wp2
      go_end0
      exact ⟨rfl, hg⟩
theorem row_spoil {By : Nat} {u v : Value} {m : List (Int × Int)} {w w' : World} (hv : RunsAt By v m w) (hg : w.grownBy w' u.ownBlock) (hne : ∀ g, u.ownBlock = some g → v.ownBlock ≠ some g) : RunsAt By v m w' := kept_of hv hg hne
/-- rows that begin where others end -/
theorem apart_of {Bu Bv : Nat} {u v : Value} {l m : List (Int × Int)} {w0 w : World} (hu : RunsAt Bu u l w0) (hv : RunsAt Bv v m w) (hle : w0.heap.size ≤ Bv) : ∀ g, u.ownBlock = some g → v.ownBlock ≠ some g := fun g h1 h2 => by
  have := (hu.lt g h1).2; have := (hv.lt g h2).1; omega
end Go.Proofs.Ytmdkekbhondkbaa
