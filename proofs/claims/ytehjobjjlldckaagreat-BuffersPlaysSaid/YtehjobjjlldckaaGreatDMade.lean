/- Clone, made, New, Open. -/
import Derived.Test.YtehjobjjlldckaaGreatDFlush
import Derived.Deep.RegionHeld3
namespace Go.Proofs.YtehjobjjlldckaaGreat
set_option linter.unusedVariables false
open Go.RowKit

theorem u8_info : (Tryz.prog.info? 5).map (fun i => (i.zero, i.size, i.bytes)) = some (some (.int .u8 0), 1, 1) := by kernel_rfl
theorem bool_info : (Tryz.prog.info? 4).map (fun i => (i.zero, i.size, i.bytes)) = some (some (.bool false), 1, 1) := by kernel_rfl
theorem equal_nil (w : World) (p : Addr) (n c : Nat) : ∀ d, (Op.equalIn (d + 1) 61 (.slice (some p) n c) (.slice none 0 0)).run Tryz.prog w = .ok false w := fun d => by
  simp [Op.equalIn, run_underlying Tryz.underlying61]
theorem run_eql_nil (w : World) (p : Addr) (n c : Nat) : (binOp .eql 61 (.slice (some p) n c) (.slice none 0 0)).run Tryz.prog w = .ok (.bool false) w := by
  have h : (Op.equal 61 (.slice (some p) n c) (.slice none 0 0)).run Tryz.prog w = .ok false w := equal_nil w p n c 9999
  simp only [binOp]
  simp [h]
theorem clone_any (g n cap : Nat) (F : Nat → Value) (hF : ∀ j, j < n → (F j).oneCell' = true) (h0 : 0 < n) (hn : n ≤ 4096 * 128) (hc : n ≤ cap ∧ cap ≤ 9223372036854775807) (w : World) (h : CellsAt g n F w) :
    Calls Tryz.prog 56 #[.slice (some ⟨g, 0, none⟩) n cap] w fun e w' => ∃ gk ck, e = .returned (.slice (some ⟨gk, 0, none⟩) n ck) ∧ (n ≤ ck ∧ ck ≤ 9223372036854775807) ∧ CellsAt gk n F w' ∧ w.heap.size ≤ gk ∧ gk < w'.heap.size ∧ Below w.heap.size w w' := by
  obtain ⟨i0, hi, hz0, hz1, hz2⟩ := info_parts u8_info
  obtain ⟨w0, hw0⟩ : ∃ w0, w0 = w.alloc (.cells #[] 5) := ⟨_, rfl⟩
  have hown : w0.ownsRow w.heap.size 5 1 (.slice (some ⟨w.heap.size, 0, none⟩) 0 0) 0 [] := by
    rw [hw0]
    exact World.ownsRow_lit (e := 5) (size := 1) w #[] 0 (Nat.le_refl _) (by unfold maxLen; omega) rfl
  have h1 : CellsAt g n F w0 := by rw [hw0]; exact h.kept1 (balloc1 _ _)
  have b0 : Below w.heap.size w w0 := by rw [hw0]; exact balloc1 _ _
  have hw0' : w.alloc (.cells #[] 5) = w0 := hw0.symm
  have H1 := Lib.hid h1
  clear h hw0 h1
  have hq := run_eql_nil
  go_enter Tryz.func56, Tryz.ntmps56
  go_wp2_with (at_builtin; refine wpList_append_own _ rfl _ _ 61 rfl w.heap.size 5 i0 (.int .u8 0) 1 1 Tryz.underlying61 hi hz0 hz1 hz2 rfl (by decide) _ _ _ rfl hown ⟨g, 0, none⟩ n cap (cellsL n F) rfl (by simp [cellsL_length]) (fun j v hj => by obtain ⟨h2, h3⟩ := cellsL_some hj; rw [add_at, Nat.zero_add, (H1.out.2 j h2).1, h3]) (fun v hv => by obtain ⟨j, hj, rfl⟩ := List.mem_map.1 hv; exact hF j (List.mem_range.1 hj)) (by unfold maxLen; omega) (by omega) b0.size ?_)
  intro v' w1 hown' hgrow _
  have b1 := b0.trans (below_of_row hown hgrow b0.size)
  obtain ⟨ad, ck, rfl, s1, s2, s3⟩ := shape_of hown'
  obtain ⟨gk, rfl, s4, s5⟩ := s3 h0
  have hk := CellsAt.of_row (F := F) hown' fun j hj => cellsL_at j hj
  have HK := Lib.hid hk
  clear hown hown' hgrow s3 b0 hk
  go_wp2
  go_ret
  exact ⟨gk, ck, rfl, ⟨s1, s2⟩, HK.out, s4, s5, b1⟩

/-- a device that begins with these blocks -/
def freshSt (n : Nat) (f : Nat → ByteArray) : St := ⟨n, f, f, fun _ => false, -1, 0⟩
theorem fresh_ok {n : Nat} {f : Nat → ByteArray} (h1 : 1 ≤ n) (h2 : n ≤ 4096) (hz : ∀ b, b < n → (f b).size = 128) : (freshSt n f).ok :=
  ⟨h1, h2, hz, hz, by show (-1 : Int) ≤ -1 ∧ (-1 : Int) ≤ _; omega, fun _ _ _ => rfl⟩
theorem bools_made (n : Nat) (hn : n ≤ 4096) (w : World) :
    (Instr.makeSlice 51 (.int .i64 n) (.int .i64 n)).run Tryz.prog w = .ok (.slice (some ⟨w.heap.size, 0, none⟩) n n) (w.alloc (.cells (madeCells #[.bool false] n) 4)) := by
  obtain ⟨i, hi, hz, hs, hb⟩ := info_parts bool_info
  have h := run_make (P := Tryz.prog) w 51 4 i (.bool false) Tryz.underlying51 hi hz .i64 .i64 n n (by omega) (Int.le_refl _) (by rw [hb]; omega) (by omega)
  simpa [hs, Value.cells] using h
theorem u8s_made (n : Nat) (hn : n ≤ 4096 * 128) (w : World) :
    (Instr.makeSlice 61 (.int .i64 n) (.int .i64 n)).run Tryz.prog w = .ok (.slice (some ⟨w.heap.size, 0, none⟩) n n) (w.alloc (.cells (madeCells #[.int .u8 0] n) 5)) := by
  obtain ⟨i, hi, hz, hs, hb⟩ := info_parts u8_info
  have h := run_make (P := Tryz.prog) w 61 5 i (.int .u8 0) Tryz.underlying61 hi hz .i64 .i64 n n (by omega) (Int.le_refl _) (by rw [hb]; omega) (by omega)
  simpa [hs, Value.cells] using h
theorem madeCells_at (z : Value) (n j : Nat) (h : j < n) : (madeCells #[z] n)[j]? = some z := by
  have e : (madeCells #[z] n)[j]? = (madeCells #[z] n).toList[j]? := by simp
  rw [e, toList_madeCells_one]; simp [h]
abbrev madeC (gn gk gp n cn ck : Nat) : Array Value := #[.pointer none, .slice (some ⟨gn, 0, none⟩) (n * 128) cn, .slice (some ⟨gk, 0, none⟩) (n * 128) ck, .slice (some ⟨gp, 0, none⟩) n n, .int .i64 (-1), .int .i64 0]
theorem made_end {gn gk gp d n cn ck : Nat} {f : Nat → ByteArray} {w w2 : World} (h1 : 1 ≤ n) (h2 : n ≤ 4096) (hz : ∀ b, b < n → (f b).size = 128) (hc : n * 128 ≤ cn ∧ cn ≤ 9223372036854775807) (hck : n * 128 ≤ ck ∧ ck ≤ 9223372036854775807)
    (h : CellsAt gn (n * 128) (byF f) w) (hk : CellsAt gk (n * 128) (byF f) w2) (hp : CellsAt gp n (fun _ => .bool false) w2) (hd : Blk d (madeC gn gk gp n cn ck) 85 w2) (b : Below w.heap.size w w2)
    (k1 : w.heap.size ≤ gk) (k2 : w.heap.size ≤ gp) (k3 : w.heap.size ≤ d) (k4 : gk ≠ gp) (k5 : gk ≠ d) (k6 : gp ≠ d) :
    DevAt d gn (w2.setCell ⟨d, 0, none⟩ (.pointer (some ⟨d, 0, none⟩))).heap.size (freshSt n f) (w2.setCell ⟨d, 0, none⟩ (.pointer (some ⟨d, 0, none⟩))) ∧ Below w.heap.size w (w2.setCell ⟨d, 0, none⟩ (.pointer (some ⟨d, 0, none⟩))) := by
  have hg := h.1
  have hn2 := h.kept1 b
  have s : (w2.setCell ⟨d, 0, none⟩ (.pointer (some ⟨d, 0, none⟩))).heap.size = w2.heap.size := by simp [World.setCell]
  refine ⟨⟨gn, gk, gp, cn, ck, -1, fresh_ok h1 h2 hz, hd.set 0 _, hn2.other (by show d ≠ gn; omega) _, hk.other (by show d ≠ gk; omega) _, hp.other (by show d ≠ gp; omega) _, rfl, ⟨by omega, by omega⟩, hc, hck, ?_, ?_, ?_, ?_, Nat.le_refl _, by omega, by omega, by omega, by omega, by omega, by omega⟩, b.setCell k3 _⟩
  · have := hd.lt; omega
  · have := hn2.1; omega
  · have := hk.1; omega
  · have := hp.1; omega
set_option maxHeartbeats 2000000 in
theorem made_any (gn n cn : Nat) (f : Nat → ByteArray) (h1 : 1 ≤ n) (h2 : n ≤ 4096) (hz : ∀ b, b < n → (f b).size = 128) (hc : n * 128 ≤ cn ∧ cn ≤ 9223372036854775807) (w : World) (h : CellsAt gn (n * 128) (byF f) w) :
    Calls Tryz.prog 26 #[.slice (some ⟨gn, 0, none⟩) (n * 128) cn] w fun e w' => ∃ d, e = .returned (.pointer (some ⟨d, 0, none⟩)) ∧ DevAt d gn w'.heap.size (freshSt n f) w' ∧ Below w.heap.size w w' := by
  have C := Lib.hid fun w1 (b : Below w.heap.size w w1) => clone_any gn (n * 128) cn (byF f) (fun j _ => byF_one f j) (by omega) (by omega) hc w1 (h.kept1 b)
  have hm := bools_made n h2
  have b0 : Below w.heap.size w w.drew := (Below.refl _ _).drew
  have hdiv : ((n : Int) * 128).tdiv 128 = (n : Int) := by
    rw [Int.mul_tdiv_cancel _ (by decide)]
  have hwr : IntKind.i64.wrap (n : Int) = (n : Int) := IntWalk.i64_in _ (by omega)
  go_enter Tryz.func26, Tryz.ntmps26
  go_wp2
  go_region_held3 (fun w' => Below w.heap.size w w') (first | assumption | exact balloc (by assumption) _) (first | (go_at_call 56; refine (C.out _ (by assumption)).mono ?_; rintro e w1 ⟨gk, ck, rfl, hck, hk, k1, k2, bk⟩; have bk2 := bnext (by assumption) bk))
  · have hk := (hk.kept1 (balloc1 _ (.cells (madeCells #[.bool false] n) 4))).kept1 (balloc1 _ (.cells (madeC gn gk w1.heap.size n cn ck) 85))
    have hp := (CellsAt.alloc_new w1 (madeCells #[.bool false] n) 4 n (fun _ => .bool false) fun j hj => madeCells_at _ _ _ hj).kept1 (balloc1 _ (.cells (madeC gn gk w1.heap.size n cn ck) 85))
    have hd := Blk.new (madeC gn gk w1.heap.size n cn ck) 85 (w1.alloc (.cells (madeCells #[.bool false] n) 4))
    rw [size_alloc] at hd
    have hb : Below w.heap.size w ((w1.alloc (.cells (madeCells #[.bool false] n) 4)).alloc (.cells (madeC gn gk w1.heap.size n cn ck) 85)) := balloc (balloc bk2 _) _
    have k3 : w.heap.size ≤ gk := k1
    have hs := bk2.size
    generalize ((w1.alloc (.cells (madeCells #[.bool false] n) 4)).alloc (.cells (madeC gn gk w1.heap.size n cn ck) 85)) = w2 at *
    have HE := Lib.hid (made_end h1 h2 hz hc hck h hk hp hd hb k3 (by omega) (by omega) (by omega) (by omega) (by omega))
    have c0 := hd.cell 0
    have f0 := hd.frozen 0
    clear hk hp hd hb bk bk2 C hm h hz k1 k3
    go_wp2
    go_ret
    exact ⟨_, rfl, HE.out⟩
  · have hp := (CellsAt.alloc_new w (madeCells #[.bool false] n) 4 n (fun _ => .bool false) fun j hj => madeCells_at _ _ _ hj)
    have hk := hk.kept1 (balloc1 _ (.cells (madeC gn gk w.heap.size n cn ck) 85))
    have hp := (CellsAt.eq_block (w' := w1) hp (by have := bk.size; exact this) (bk.block w.heap.size (by show _ < (w.alloc _).heap.size; rw [size_alloc]; omega))).kept1 (balloc1 _ (.cells (madeC gn gk w.heap.size n cn ck) 85))
    have hd := Blk.new (madeC gn gk w.heap.size n cn ck) 85 w1
    have hb : Below w.heap.size w (w1.alloc (.cells (madeC gn gk w.heap.size n cn ck) 85)) := balloc bk2 _
    have k3 : w.heap.size + 1 ≤ gk := by have h : (w.alloc (.cells (madeCells #[.bool false] n) 4)).heap.size ≤ gk := k1; rw [size_alloc] at h; exact h
    have hs : w.heap.size + 1 ≤ w1.heap.size := by omega
    generalize (w1.alloc (.cells (madeC gn gk w.heap.size n cn ck) 85)) = w2 at *
    have HE := Lib.hid (made_end h1 h2 hz hc hck h hk hp hd hb (by omega) (by omega) (by omega) (by omega) (by omega) (by omega))
    have c0 := hd.cell 0
    have f0 := hd.frozen 0
    clear hk hp hd hb bk bk2 C hm h hz k1 k3
    go_wp2
    go_ret
    exact ⟨_, rfl, HE.out⟩
end Go.Proofs.YtehjobjjlldckaaGreat
