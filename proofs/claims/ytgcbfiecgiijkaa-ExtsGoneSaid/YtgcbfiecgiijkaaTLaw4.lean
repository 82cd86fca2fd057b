/- The walk of ExtsGone. -/
import Derived.Test.YtgcbfiecgiijkaaTLaw4a
import Derived.Test.YtgcbfiecgiijkaaTLaw4b
import Derived.Test.YtgcbfiecgiijkaaTLaw4c
import Derived.Test.YtgcbfiecgiijkaaTLaw4d
import Derived.Test.YtgcbfiecgiijkaaTLaw4e
namespace Go.Proofs.Ytgcbfiecgiijkaa
set_option linter.unusedVariables false
set_option linter.unusedSimpArgs false
open Go.RowKit Go.Shelf

set_option maxRecDepth 100000 in
set_option maxHeartbeats 8000000 in
theorem tgone_walk (l : List Ent) (hf : fitE l) (a n : Int) (ha : I64 a) (hn : I64 n) (p : Int) (hp : I64 p) (v : Value) (w : World) (hv : EntsIn v l w) :
    Calls Try.prog 8 #[v, .agg #[.int .i64 a, .int .i64 n], .int .i64 p] w fun e w' => e = .returned (.bool true) ∧ Below w.heap.size w w' := by
  have hl0 := hl_of hv
  by_cases hl : l.length ≤ 200
  · by_cases h1 : RowOk true l
    · by_cases h0 : 0 ≤ a
      · by_cases hpu : PunOk l a n
        · by_cases q1 : a ≤ p
          · by_cases q2 : p < a + n
            · exact tgone_y1 l hf a n ha hn p hp v w hv hl h1 h0 hpu q1 q2
            · exact tgone_y2 l hf a n ha hn p hp v w hv hl h1 h0 hpu q1 q2
          · exact tgone_y3 l hf a n ha hn p hp v w hv hl h1 h0 hpu q1
        · by_cases q1 : a ≤ p
          · exact tgone_r1 l hf a n ha hn p hp v w hv hl h1 h0 hpu q1
          · exact tgone_r2 l hf a n ha hn p hp v w hv hl h1 h0 hpu q1
      · exact tgone_b2 l hf a n ha hn p hp v w hv hl h1 (by omega)
    · exact tgone_b1 l hf a n ha hn p hp v w hv hl h1
  · have HB := Lib.hid (balloc1 w (.cells #[.int .i64 a, .int .i64 n] 49))
    have dl : decide ((200 : Int) < (l.length : Int)) = true := decide_eq_true (by omega)
    obtain ⟨ad, cap, rfl, -⟩ := entsIn_cells hv
    clear hv hl0
    go_enter Try.func8, Try.ntmps8
    go_wp2
    go_ret
    exact ⟨rfl, HB.out⟩
end Go.Proofs.Ytgcbfiecgiijkaa
