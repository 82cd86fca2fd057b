/- Two records that are the same. -/
import Derived.Test.YtfgjogaoogiddaaKVal
namespace Go.Proofs.Ytfgjogaoogiddaa
set_option linter.unusedVariables false
open Go.RowKit

theorem rec_cells' {g : Nat} {r : Rec} {vh vm : Value} {w : World} (h : Blk g (recC r vh vm) 27 w) :
    w.cell? ⟨g, 0, none⟩ = some (.int .i64 r.kind) ∧ w.cell? ⟨g, 1, none⟩ = some (.int .u64 (r.seq : Int)) ∧ w.cell? ⟨g, 2, none⟩ = some (.int .i64 r.pos) ∧ w.cell? ⟨g, 3, none⟩ = some vh ∧ w.cell? ⟨g, 4, none⟩ = some vm ∧ w.cell? ⟨g, 5, none⟩ = some (.int .u32 (r.sum : Int)) :=
  ⟨h.cell 0, h.cell 1, h.cell 2, h.cell 3, h.cell 4, h.cell 5⟩

set_option maxHeartbeats 1000000 in
theorem kints_same (va vb : Value) (L : List Int) (w : World) (ha : IntsIn va L w) (hb : IntsIn vb L w) :
    Calls Try.prog 28 #[va, vb] w fun e w' => e = .returned (.bool true) ∧ Below w.heap.size w w' := by
  obtain ⟨ada, capa, rfl, a1, a2, hada, -⟩ := ha.shape
  obtain ⟨adb, capb, rfl, b1, b2, hadb, -⟩ := hb.shape
  have HA := Lib.hid (row_cells hada)
  have HB := Lib.hid (row_cells hadb)
  clear ha hb hada hadb
  go_enter Try.func28, Try.ntmps28
  go_wp2
  go_loopw [5] (fun q wr => ∃ i : Nat, q = .int .i64 i ∧ i ≤ L.length ∧ Below w.heap.size w wr) (fun q _ => L.length - (intOf q).toNat)
  case atStart => exact ⟨0, rfl, Nat.zero_le _, Below.refl _ _⟩
  case round =>
    obtain ⟨i, rfl, hi, hbr⟩ := hrel
    by_cases hlt : i < L.length
    · obtain ⟨ga, oa, rfl, hga, hca⟩ := HA.out (by omega)
      obtain ⟨gb, ob, rfl, hgb, hcb⟩ := HB.out (by omega)
      have q1 := (hbr.cell (p := ⟨ga, oa + i, none⟩) hga).trans (hca i hlt)
      have q2 := (hbr.cell (p := ⟨gb, ob + i, none⟩) hgb).trans (hcb i hlt)
      generalize L[i] = z at *
      have d1 : ∀ q, (wr.drewN q).cell? ⟨ga, oa + i, none⟩ = some (.int .i64 z) := fun _ => q1
      have d2 : ∀ q, (wr.drewN q).cell? ⟨gb, ob + i, none⟩ = some (.int .i64 z) := fun _ => q2
      clear HA HB hca hcb q1 q2
      go_wp2
      go_quiet (fail)
      go_wp2
      exact ⟨⟨i + 1, by go_num, by omega, below_drewN hbr _⟩, by simp [intOf]; omega⟩
    · obtain rfl : i = L.length := by omega
      clear HA HB
      go_wp2
      go_ret
      exact ⟨rfl, hbr⟩
set_option maxHeartbeats 4000000 in
theorem same_rec (r : Rec) (vh vm vh' vm' : Value) (w : World) (ha : RecIn r vh vm w) (hb : RecIn r vh' vm' w) :
    Calls Try.prog 12 #[recV r vh vm, recV r vh' vm'] w fun e w' => e = .returned (.bool true) ∧ Below w.heap.size w w' := by
  have gh : Try.prog.stoodInHeld 27 = false := by kernel_rfl
  obtain ⟨w0, hw0⟩ : ∃ w0, (w.alloc (.cells (recC r vh vm) 27)).alloc (.cells (recC r vh' vm') 27) = w0 := ⟨_, rfl⟩
  have hb0 : Below w.heap.size w w0 := by rw [← hw0]; exact balloc (balloc1 w _) _
  have ha0 := ha.kept hb0
  have hb1 := hb.kept hb0
  have HA : Blk w.heap.size (recC r vh vm) 27 w0 := by rw [← hw0]; exact (Blk.new _ _ w).kept1 (balloc1 _ _)
  have HB : Blk (w.heap.size + 1) (recC r vh' vm') 27 w0 := by
    rw [← hw0]
    have := Blk.new (recC r vh' vm') 27 (w.alloc (.cells (recC r vh vm) 27))
    rw [size_alloc] at this
    exact this
  have S := Lib.hid (kints_same vh vh' r.homes w0 ha0.1 hb1.1)
  obtain ⟨ah, ch, rfl, a1, a2, a3, -⟩ := ha0.1.shape
  obtain ⟨am, cm, rfl, b1, b2, b3, -⟩ := ha0.2.shape
  obtain ⟨ah', ch', rfl, a1', a2', a3', -⟩ := hb1.1.shape
  obtain ⟨am', cm', rfl, b1', b2', b3', -⟩ := hb1.2.shape
  have M3 := Lib.hid (row_cells b3)
  have M3' := Lib.hid (row_cells b3')
  obtain ⟨kind, seq, pos, homes, masked, sum⟩ := r
  dsimp only at *
  obtain ⟨c0, c1, c2, c3, c4, c5⟩ := rec_cells' HA
  obtain ⟨e0, e1, e2, e3, e4, e5⟩ := rec_cells' HB
  clear ha hb ha0 hb1 a3 a3' b3 b3'
  go_enter Try.func12, Try.ntmps12
  go_wp2_with fail
  refine S.out.mono ?_; rintro e w1 ⟨rfl, b⟩
  have HA1 := HA.kept1 b
  have HB1 := HB.kept1 b
  have hbb := bnext hb0 b
  have hsz := b.size
  obtain ⟨x0, x1, x2, x3, x4, x5⟩ := rec_cells' HA1
  obtain ⟨y0, y1, y2, y3, y4, y5⟩ := rec_cells' HB1
  have HBb := Lib.hid b
  clear c0 c1 c2 c3 c4 c5 e0 e1 e2 e3 e4 e5 HA HB S hw0 b hb0
  go_wp2
  go_loopw [5] (fun q wr => ∃ i : Nat, q = .int .i64 i ∧ i ≤ masked.length ∧ Below w1.heap.size w1 wr) (fun q _ => masked.length - (intOf q).toNat)
  case atStart => exact ⟨0, rfl, Nat.zero_le _, Below.refl _ _⟩
  case round =>
    clear x0 x1 x2 x3 x4 x5 y0 y1 y2 y3 y4 y5
    obtain ⟨i, rfl, hi, hbr⟩ := hrel
    have X := fun q => (rec_cells' ((HA1.kept1 hbr).kept1 (below_drewN (Below.refl wr.heap.size wr) q))).2.2.2.2.1
    have Y := fun q => (rec_cells' ((HB1.kept1 hbr).kept1 (below_drewN (Below.refl wr.heap.size wr) q))).2.2.2.2.1
    have X0 := (rec_cells' (HA1.kept1 hbr)).2.2.2.2.1
    by_cases hlt : i < masked.length
    · obtain ⟨ga, oa, rfl, hga, hca⟩ := M3.out (by omega)
      obtain ⟨gb, ob, rfl, hgb, hcb⟩ := M3'.out (by omega)
      have q1 := (hbr.cell (p := ⟨ga, oa + i, none⟩) (by show ga < _; omega)).trans ((HBb.out.cell (p := ⟨ga, oa + i, none⟩) hga).trans (hca i hlt))
      have q2 := (hbr.cell (p := ⟨gb, ob + i, none⟩) (by show gb < _; omega)).trans ((HBb.out.cell (p := ⟨gb, ob + i, none⟩) hgb).trans (hcb i hlt))
      generalize masked[i] = z at *
      have d1 : ∀ q, (wr.drewN q).cell? ⟨ga, oa + i, none⟩ = some (.bool z) := fun _ => q1
      have d2 : ∀ q, (wr.drewN q).cell? ⟨gb, ob + i, none⟩ = some (.bool z) := fun _ => q2
      clear M3 M3' hca hcb q1 q2
      go_wp2
      go_quiet (fail)
      go_wp2
      exact ⟨⟨i + 1, by go_num, by omega, below_drewN hbr _⟩, by simp [intOf]; omega⟩
    · obtain rfl : i = masked.length := by omega
      clear M3 M3'
      go_wp2
      go_ret
      exact ⟨rfl, bnext hbb hbr⟩
end Go.Proofs.Ytfgjogaoogiddaa
