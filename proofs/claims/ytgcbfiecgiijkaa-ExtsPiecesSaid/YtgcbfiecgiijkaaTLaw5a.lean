/- The walk of ExtsPieces. -/
import Derived.Test.YtgcbfiecgiijkaaTLaw5M
namespace Go.Proofs.Ytgcbfiecgiijkaa
set_option linter.unusedVariables false
set_option linter.unusedSimpArgs false
open Go.RowKit Go.Shelf

set_option maxRecDepth 100000 in
set_option maxHeartbeats 8000000 in
theorem tpieces_lo (l : List Ent) (hf : fitE l) (x : Ent) (hx : I64 x.log ∧ I64 x.phys ∧ I64 x.len) (c : Int) (hc : I64 c) (v : Value) (w : World) (hv : EntsIn v l w) (hl : l.length ≤ 200) (hok : PutOk l x) (c1 : c < 1) :
    Calls Try.prog 9 #[v, entV x, .int .i64 c] w fun e w' => e = .returned (.bool true) ∧ Below w.heap.size w w' := by
  have hl0 := hl_of hv
  have HB := Lib.hid (balloc1 w (.cells (entC x) 37))
  have dl : decide ((200 : Int) < (l.length : Int)) = false := decide_eq_false (by omega)
  have AL := Lib.hid talive_any
  have HV := Lib.hid (hv.kept (balloc1 w (.cells (entC x) 37)))
  have HX := Lib.hid (Blk.new (entC x) 37 w)
  have hr := (row_rise l).1 hok.1
  have hk := (entT x).1 hok.2
  have hpr := put_rise hr hok.2
  have hoL : (putX l x).length ≤ 401 := by have := change_len l x.log (x.log + x.len) [x]; simp only [List.length_singleton] at this; unfold putX; omega
  have PP := Lib.hid fun v w hv => put_calls l (putX l x) hr (by omega) x hok.2 rfl v w hv
  have P1 := Lib.hid fun v w hv => punch_calls (putX l x) (change l x.log (x.log + x.len) []) hpr (by omega) x.log x.len (by omega) (by omega) (by omega) (put_change hr hok.2) v w hv
  have P2 := Lib.hid fun v w hv => punch_calls l (change l x.log (x.log + x.len) []) hr (by omega) x.log x.len (by omega) (by omega) (by omega) rfl v w hv
  have SA := Lib.hid fun (m : List Ent) v u w hv hu => (by have := samex_any m m v u w hv hu; rw [decide_eq_true (rfl : m = m)] at this; exact this : Calls Try.prog 34 #[v, u] w fun e w' => e = .returned (.bool true) ∧ Below w.heap.size w w')
  have d1 : decide (c < 1) = true := decide_eq_true c1
  generalize freedX l (putX l x) = F1 at *
  generalize freedX (putX l x) (change l x.log (x.log + x.len) []) = F2 at *
  generalize freedX l (change l x.log (x.log + x.len) []) = F3 at *
  generalize putX l x = O at *
  generalize change l x.log (x.log + x.len) [] = A at *
  obtain ⟨ad, cap, rfl, -⟩ := entsIn_cells hv
  obtain ⟨xa, xp, xz⟩ := x
  try dsimp only at *
  clear hv hl0 hok hr hk hpr hoL hx hf hl c1
  go_enter Try.func9, Try.ntmps9
  have x0 := HX.out.cell 0
  have x1 := HX.out.cell 1
  have x2 := HX.out.cell 2
  simp only [List.getElem?_toArray, List.getElem?_cons_zero, List.getElem?_cons_succ] at x0 x1 x2
  go_wp2_with fail
  refine (PP.out _ _ HV.out).mono ?_; rintro e w2 ⟨ado2, cpo2, adf2, cpf2, rfl, ro2, b2⟩
  have HV := Lib.hid (HV.out.kept b2)
  have HX := Lib.hid (HX.out.kept1 b2)
  have HB := Lib.hid (bnext HB.out b2)
  have HO := Lib.hid ro2
  clear b2 ro2 x0 x1 x2
  have x0 := HX.out.cell 0
  have x1 := HX.out.cell 1
  have x2 := HX.out.cell 2
  simp only [List.getElem?_toArray, List.getElem?_cons_zero, List.getElem?_cons_succ] at x0 x1 x2
  go_wp2_with fail
  refine (P1.out _ _ HO.out).mono ?_; rintro e w3 ⟨ado3, cpo3, adf3, cpf3, rfl, ro3, b3⟩
  have HV := Lib.hid (HV.out.kept b3)
  have HX := Lib.hid (HX.out.kept1 b3)
  have HO := Lib.hid (HO.out.kept b3)
  have HB := Lib.hid (bnext HB.out b3)
  have HA := Lib.hid ro3
  clear b3 ro3 x0 x1 x2
  have x0 := HX.out.cell 0
  have x1 := HX.out.cell 1
  have x2 := HX.out.cell 2
  simp only [List.getElem?_toArray, List.getElem?_cons_zero, List.getElem?_cons_succ] at x0 x1 x2
  go_wp2_with fail
  refine (P2.out _ _ HV.out).mono ?_; rintro e w4 ⟨ado4, cpo4, adf4, cpf4, rfl, ro4, b4⟩
  have HV := Lib.hid (HV.out.kept b4)
  have HX := Lib.hid (HX.out.kept1 b4)
  have HO := Lib.hid (HO.out.kept b4)
  have HA := Lib.hid (HA.out.kept b4)
  have HB := Lib.hid (bnext HB.out b4)
  have HC := Lib.hid ro4
  clear b4 ro4 x0 x1 x2
  clear PP P1 P2
  go_wp2_with fail
  refine (SA.out _ _ _ _ HA.out HC.out).mono ?_; rintro e w5 ⟨rfl, b5⟩
  have HV := Lib.hid (HV.out.kept b5)
  have HX := Lib.hid (HX.out.kept1 b5)
  have HO := Lib.hid (HO.out.kept b5)
  have HA := Lib.hid (HA.out.kept b5)
  have HC := Lib.hid (HC.out.kept b5)
  have HB := Lib.hid (bnext HB.out b5)
  clear b5
  clear HA HC
  have x0 := HX.out.cell 0
  have x1 := HX.out.cell 1
  have x2 := HX.out.cell 2
  simp only [List.getElem?_toArray, List.getElem?_cons_zero, List.getElem?_cons_succ] at x0 x1 x2
  go_wp2_with fail
  refine (AL.out _).mono ?_; rintro e w6 ⟨rfl, b6⟩
  have HB := Lib.hid (bnext HB.out b6)
  clear b6
  go_wp2
  go_ret
  exact ⟨rfl, HB.out⟩
end Go.Proofs.Ytgcbfiecgiijkaa
