import Derived.Test.YtanghmogeiiooaaGreatDoorPa08
import Derived.Test.YtanghmogeiiooaaGreatDoorPa21
import Derived.Deep.CutBlock
set_option linter.unusedVariables false
set_option linter.unusedSimpArgs false
set_option linter.constructorNameAsVariable false
/- ringOf: the ring of a device and a layout. -/
namespace Go.Proofs.YtanghmogeiiooaaGreatDoor
set_option linter.unusedVariables false
set_option linter.unusedSimpArgs false
open Go.RowKit

theorem ring_info : (Tryz.prog.info? 87).map (·.size) = some 10 := by kernel_rfl
theorem wpList_store_ring {ops : Array Oper} {rest : List Oper} {o : Oper} {a : Act} {w : World} {Q : Exit → Act → World → Prop} (hgd : o.guard = none) (x y : Operand) (ho : o.op = .store 87 x y)
    {q : Nat} {d : Option Addr} {b l i la ma ml ta tl da : Int} (hx : a.eval x = .pointer (some ⟨q, 0, none⟩)) (hy : a.eval y = ringV d b l i la ma ml ta tl da)
    (old : Array Value) (hold : old.size = 10) (hg : Blk q old 87 w)
    (h : ∀ w2, RingAt q d b l i la ma ml ta tl da w2 → Below q w w2 → w2.heap.size = w.heap.size → (∀ j, j ≠ q → w2.heap[j]? = w.heap[j]?) → wpList Tryz.prog ops Q rest (a.put o.dst undef) w2) : wpList Tryz.prog ops Q (o :: rest) a w :=
  wpList_store_row hgd _ x y ho q (ringC d b l i la ma ml ta tl da) hx hy _ _ hg ring_info hold (by simp [Value.oneCell'])
    (h _ (setRow_heap w q _ _ _ _ hg) ⟨rfl, rfl, rfl, by simp, fun j hj => setRow_other w q j _ (by omega)⟩ (by simp) (fun j hj => setRow_other w q j _ hj))
abbrev noRC : Array Value := #[.pointer none, .int .i64 0, .int .i64 0, .int .i64 0, .int .i64 0, .int .i64 0, .int .i64 0, .int .i64 0, .int .i64 0, .int .i64 0]
theorem blocks_none (v : Value) (w : World) (h : NoDev v w) : Calls Tryz.prog 60 #[v] w fun e w' => e = .returned (.int .i64 0) ∧ w = w' := by
  have M := Lib.hid (missing_yes v w h)
  clear h
  go_enter Tryz.func60, Tryz.ntmps60
  go_wp2_with fail
  refine M.out.mono ?_; rintro e w' ⟨rfl, rfl⟩
  go_wp2
  go_ret
  exact ⟨rfl, rfl⟩
theorem NoDev.kept1 {v : Value} {w w' : World} (h : NoDev v w) (b : Below w.heap.size w w') : NoDev v w' := by
  rcases h with rfl | ⟨d, rfl, hc⟩
  · exact .inl rfl
  · exact .inr ⟨d, rfl, (b.cell (p := ⟨d, 0, none⟩) (cell_flat hc).2).trans hc⟩
set_option maxRecDepth 100000 in
set_option maxHeartbeats 4000000 in
theorem ringof_nil (v : Value) (b l i la ma ml ta tl da : Int) (w : World) (h : NoDev v w) :
    Calls Tryz.prog 35 #[v, geo b l i la ma ml ta tl da] w fun e w' => e = .returned (.tuple #[ringV none 0 0 0 0 0 0 0 0 0, .int .i64 1]) ∧ Below w.heap.size w w' := by
  obtain ⟨w1, hw1⟩ : ∃ w1, (w.alloc (.cells (cellsG b l i la ma ml ta tl da) 33)).alloc (.cells noRC 87) = w1 := ⟨_, rfl⟩
  have hb1 : Below w.heap.size w w1 := by rw [← hw1]; exact balloc (balloc1 w _) _
  have R1 : Blk (w.heap.size + 1) noRC 87 w1 := by
    rw [← hw1]
    have := Blk.new noRC 87 (w.alloc (.cells (cellsG b l i la ma ml ta tl da) 33))
    rw [size_alloc] at this; exact this
  obtain ⟨p, rfl⟩ : ∃ p, v = .pointer p := by rcases h with rfl | ⟨d, rfl, _⟩ <;> exact ⟨_, rfl⟩
  have B := Lib.hid (blocks_none (.pointer p) w1 (h.kept1 hb1))
  have HR := Lib.hid R1
  have HW1 := Lib.hid hw1
  clear h hw1 R1
  go_enter Tryz.func35, Tryz.ntmps35
  go_wp2_with fail
  rw [HW1.out]
  refine B.out.mono ?_; rintro e w' ⟨rfl, rfl⟩
  clear HW1 B
  go_wp2_with (refine wpList_store_ring (d := none) (b := 0) (l := 0) (i := 0) (la := 0) (ma := 0) (ml := 0) (ta := 0) (tl := 0) (da := 0) rfl _ _ rfl rfl rfl _ rfl HR.out ?_)
  intro w5 h5 hl5 hs5 he5
  have hbe := hb1.trans (hl5.mono (by omega))
  obtain ⟨c0, c1, c2, c3, c4, c5, c6, c7, c8, c9⟩ := h5.cells
  clear hl5 hs5 he5 HR
  go_wp2
  refine bodyPost_ret (v := .tuple #[ringV none 0 0 0 0 0 0 0 0 0, .int .i64 1]) ?_ rfl ⟨rfl, hbe⟩
  rw [results_cell_tmp rfl]
  go_simp
theorem geo_self (b l i la ma ml ta tl da : Int) (w : World) : (Op.equalIn 10000 33 (geo b l i la ma ml ta tl da) (geo b l i la ma ml ta tl da)).run Tryz.prog w = .ok true w := by
  have gh := geo_held
  have e : ∀ x : Int, (x == x) = true := fun x => by simp
  go_simp
set_option maxRecDepth 100000 in
set_option maxHeartbeats 8000000 in
theorem ringof_ok (d lo hi : Nat) (b l i m t : Nat) (hok : okN b l i m t) {S : St} (hn : S.n = b) (w : World) (h : DevAt d lo hi S w) :
    Calls Tryz.prog 35 #[.pointer (some ⟨d, 0, none⟩), lay b l i m t] w fun e w' => e = .returned (.tuple #[ringV (some ⟨d, 0, none⟩) b l i 1 (1 + l) m (1 + l + m) t (1 + l + m + t), .int .i64 0]) ∧ Below w.heap.size w w' := by
  have mixed : Tryz.prog.follows .mixedOrders = true := by kernel_rfl
  have gg := geo_self b l i 1 (1 + l) m (1 + l + m) t (1 + l + m + t)
  have hb0 : b ≠ 0 := by have := hok.1; omega
  have t0 : ((b : Int) == 0) = false := by rw [beq_eq_false_iff_ne]; omega
  have t1 : ((b : Int) != (b : Int)) = false := by simp
  obtain ⟨w1, hw1⟩ : ∃ w1, (w.alloc (.cells (cellsG b l i 1 (1 + l) m (1 + l + m) t (1 + l + m + t)) 33)).alloc (.cells noRC 87) = w1 := ⟨_, rfl⟩
  have hb1 : Below w.heap.size w w1 := by rw [← hw1]; exact balloc (balloc1 w _) _
  have G1 : GeoAt w.heap.size b l i 1 (1 + l) m (1 + l + m) t (1 + l + m + t) w1 := by rw [← hw1]; exact (GeoAt.new _ _ _ _ _ _ _ _ _ _).kept1 (balloc1 _ _)
  have R1 : Blk (w.heap.size + 1) noRC 87 w1 := by
    rw [← hw1]
    have := Blk.new noRC 87 (w.alloc (.cells (cellsG b l i 1 (1 + l) m (1 + l + m) t (1 + l + m + t)) 33))
    rw [size_alloc] at this; exact this
  have BK : ∀ w, DevAt d lo hi S w → Calls Tryz.prog 60 #[.pointer (some ⟨d, 0, none⟩)] w fun e w' => e = .returned (.int .i64 (b : Int)) ∧ w = w' := fun w h => by
    have := blocks_any w h; rw [hn] at this; exact this
  have D1 := h.kept1 hb1
  have B := Lib.hid (BK w1 D1)
  have BK := Lib.hid BK
  have OF := Lib.hid (of_yes b l i m t hok)
  have HR := Lib.hid R1
  have HG := Lib.hid G1
  have HD := Lib.hid D1
  have HW1 := Lib.hid hw1
  obtain ⟨c0, c1, c2, c3, c4, c5, c6, c7, c8⟩ := G1.cells
  clear h hw1 R1 G1 D1 hok hn hb0
  go_enter Tryz.func35, Tryz.ntmps35
  go_wp2_with fail
  rw [HW1.out]
  refine B.out.mono ?_; rintro e w' ⟨rfl, rfl⟩
  clear HW1 B
  go_wp2_with fail
  refine (OF.out _).mono ?_; rintro e w2 ⟨rfl, b2⟩
  have R2 := HR.out.kept1 b2
  have G2 := HG.out.kept1 b2
  have D2 := HD.out.kept1 b2
  have hb2 := bnext hb1 b2
  obtain ⟨w3, hw3⟩ : ∃ w3, w2.alloc (.cells (cellsG b l i 1 (1 + l) m (1 + l + m) t (1 + l + m + t)) 33) = w3 := ⟨_, rfl⟩
  have b23 : Below w2.heap.size w2 w3 := by rw [← hw3]; exact balloc1 _ _
  have R3 := Lib.hid (R2.kept1 b23)
  have G3 := G2.kept1 b23
  have O3 : GeoAt w2.heap.size b l i 1 (1 + l) m (1 + l + m) t (1 + l + m + t) w3 := by rw [← hw3]; exact GeoAt.new _ _ _ _ _ _ _ _ _ _
  have D3 := D2.kept1 b23
  have hb3 := bnext hb2 b23
  have HW3 := Lib.hid hw3
  have g := G3.all
  obtain ⟨g0, g1, g2, g3, g4, g5, g6, g7, g8⟩ := g
  obtain ⟨o0, o1, o2, o3, o4, o5, o6, o7, o8⟩ := O3.all
  have BQ : Hid (∀ p : BelowP w3, Calls Tryz.prog 60 #[.pointer (some ⟨d, 0, none⟩)] p.to fun e w' => e = .returned (.int .i64 (b : Int)) ∧ Below p.to.heap.size p.to w') := Lib.hid fun p => (BK.out p.to (D3.kept1 p.h)).mono fun e w' ⟨q1, q2⟩ => ⟨q1, q2 ▸ Below.refl _ _⟩
  have HG3 := Lib.hid G3
  clear b2 R2 G2 D2 hb2 hw3 b23 G3 O3 D3 HR HG HD c0 c1 c2 c3 c4 c5 c6 c7 c8 BK OF
  go_upto_region 4 with fail
  rw [HW3.out]
  refine wp_region_quiet_below mixed (by kernel_rfl) ?_
  repeat (go_big_quiet_step (first | (go_at_call 60; refine calls_below (BQ.out _))))
  refine wpQuiet_nil ?_
  intro w0q hw'
  obtain ⟨⟨wq, bq⟩, hw''⟩ := hw'
  have hw2 : wq = w0q := hw''.symm
  clear hw''
  subst hw2
  have R4 := Lib.hid (R3.out.kept1 bq)
  obtain ⟨c0, c1, c2, c3, c4, c5, c6, c7, c8⟩ := (HG3.out.kept1 bq).cells
  have hb4 := bnext hb3 bq
  clear g0 g1 g2 g3 g4 g5 g6 g7 g8 o0 o1 o2 o3 o4 o5 o6 o7 o8 BQ R3 HG3 HW3 bq gg
  go_wp2_with (refine wpList_store_ring (d := some ⟨d, 0, none⟩) rfl _ _ rfl rfl rfl _ rfl R4.out ?_)
  intro w5 h5 hl5 hs5 he5
  have hbe := hb4.trans (hl5.mono (by omega))
  obtain ⟨c0, c1, c2, c3, c4, c5, c6, c7, c8, c9⟩ := h5.cells
  clear hl5 hs5 he5 R4
  go_wp2
  refine bodyPost_ret (v := .tuple #[ringV (some ⟨d, 0, none⟩) b l i 1 (1 + l) m (1 + l + m) t (1 + l + m + t), .int .i64 0]) ?_ rfl ⟨rfl, hbe⟩
  rw [results_cell_tmp rfl]
  go_simp
end Go.Proofs.YtanghmogeiiooaaGreatDoor
