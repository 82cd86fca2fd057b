/- The walk of GeometryOf. -/
import Derived.Test.YtpgpglnbpahcjaaGAlive
namespace Go.Proofs.Ytpgpglnbpahcjaa
set_option linter.unusedVariables false
open Go.RowKit

theorem of_law (b l i x0 x1 x2 x3 x4 x5 x6 x7 x8 r : Int)
    (h1 : ∀ w, Calls Try.prog 8 #[.int .i64 b, .int .i64 l, .int .i64 i] w fun e w' => e = .returned (.tuple #[geo x0 x1 x2 x3 x4 x5 x6 x7 x8, .int .i64 r]) ∧ Below w.heap.size w w')
    (h2 : ∀ w, Calls Try.prog 9 #[.int .i64 b, .int .i64 l, .int .i64 i] w fun e w' => e = .returned (.tuple #[geo x0 x1 x2 x3 x4 x5 x6 x7 x8, .int .i64 r]) ∧ Below w.heap.size w w') (w : World) :
    Calls Try.prog 3 #[.int .i64 b, .int .i64 l, .int .i64 i] w fun e w' => e = .returned (.bool true) ∧ Below w.heap.size w w' := by
  have O1 := Lib.hid h1
  have O2 := Lib.hid h2
  clear h1 h2
  have AL := Lib.hid alive_any
  have gh := geo_held
  go_enter Try.func3, Try.ntmps3
  go_wp2_with fail
  refine (O1.out _).mono ?_; rintro e w1 ⟨rfl, hb⟩
  have hb := balloc hb (.cells (cellsG x0 x1 x2 x3 x4 x5 x6 x7 x8) 23)
  have G := GeoAt.new x0 x1 x2 x3 x4 x5 x6 x7 x8 w1
  go_wp2_with fail
  refine (O2.out _).mono ?_; rintro e w2 ⟨rfl, b⟩
  have hb := bnext hb b
  have hb := balloc hb (.cells (cellsG x0 x1 x2 x3 x4 x5 x6 x7 x8) 23)
  have G := G.kept1 b
  obtain ⟨c0, c1, c2, c3, c4, c5, c6, c7, c8⟩ := G.cells
  have hlt := G.lt
  clear b O1 O2 G
  go_wp2_with fail
  refine (AL.out _).mono ?_; rintro e w3 ⟨rfl, b⟩
  have hb := bnext hb b
  clear b AL c0 c1 c2 c3 c4 c5 c6 c7 c8
  go_wp2
  go_ret
  exact ⟨rfl, hb⟩
theorem of_walk (b l i : Int) (w : World) :
    Calls Try.prog 3 #[.int .i64 b, .int .i64 l, .int .i64 i] w fun e w' => e = .returned (.bool true) ∧ Below w.heap.size w w' := by
  by_cases h : okG b l i
  · obtain ⟨b', l', i', m, t, rfl, rfl, rfl, h2⟩ := okG_yes h
    exact of_law _ _ _ _ _ _ _ _ _ _ _ _ _ (of_yes b' l' i' m t h2) (rof_yes b' l' i' m t h2) w
  · exact of_law _ _ _ _ _ _ _ _ _ _ _ _ _ (of_off b l i h) (rof_off b l i h) w
end Go.Proofs.Ytpgpglnbpahcjaa
