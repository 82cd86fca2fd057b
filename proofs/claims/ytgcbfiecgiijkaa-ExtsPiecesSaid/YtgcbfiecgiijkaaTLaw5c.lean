/- The walk of ExtsPieces. -/
import Derived.Test.YtgcbfiecgiijkaaTLaw5M
namespace Go.Proofs.Ytgcbfiecgiijkaa
set_option linter.unusedVariables false
set_option linter.unusedSimpArgs false
open Go.RowKit Go.Shelf

set_option maxRecDepth 100000 in
set_option maxHeartbeats 8000000 in
theorem tpieces_two (l : List Ent) (hf : fitE l) (x : Ent) (hx : I64 x.log ∧ I64 x.phys ∧ I64 x.len) (c : Int) (hc : I64 c) (v : Value) (w : World) (hv : EntsIn v l w) (hl : l.length ≤ 200) (hok : PutOk l x) (c1 : ¬ c < 1) (c2 : ¬ x.len ≤ c) :
    Calls Try.prog 9 #[v, entV x, .int .i64 c] w fun e w' => e = .returned (.bool true) ∧ Below w.heap.size w w' := by
  have hl0 := hl_of hv
  have HB := Lib.hid (balloc1 w (.cells (entC x) 37))
  have dl : decide ((200 : Int) < (l.length : Int)) = false := decide_eq_false (by omega)
  have AL := Lib.hid talive_any
  have HV := Lib.hid (hv.kept (balloc1 w (.cells (entC x) 37)))
  have HX := Lib.hid (Blk.new (entC x) 37 w)
  have hr := (row_rise l).1 hok.1
  have hk := (entT x).1 hok.2
  have hpr := put_rise hr hok.2
  have hoL : (putX l x).length ≤ 401 := by have := change_len l x.log (x.log + x.len) [x]; simp only [List.length_singleton] at this; unfold putX; omega
  have PP := Lib.hid fun v w hv => put_calls l (putX l x) hr (by omega) x hok.2 rfl v w hv
  have P1 := Lib.hid fun v w hv => punch_calls (putX l x) (change l x.log (x.log + x.len) []) hpr (by omega) x.log x.len (by omega) (by omega) (by omega) (put_change hr hok.2) v w hv
  have P2 := Lib.hid fun v w hv => punch_calls l (change l x.log (x.log + x.len) []) hr (by omega) x.log x.len (by omega) (by omega) (by omega) rfl v w hv
  have SA := Lib.hid fun (m : List Ent) v u w hv hu => (by have := samex_any m m v u w hv hu; rw [decide_eq_true (rfl : m = m)] at this; exact this : Calls Try.prog 34 #[v, u] w fun e w' => e = .returned (.bool true) ∧ Below w.heap.size w w')
  have d1 : decide (c < 1) = false := decide_eq_false c1
  have d2 : decide (x.len ≤ c) = false := decide_eq_false c2
  have hfh := fore_ok hok.2 (c := c) (by omega) (by omega)
  have s1 : IntKind.i64.wrap (x.log + c) = x.log + c := IntWalk.i64_in _ (by omega)
  have s2 : IntKind.i64.wrap (x.phys + c) = x.phys + c := IntWalk.i64_in _ (by omega)
  have s3 : IntKind.i64.wrap (x.len - c) = x.len - c := IntWalk.i64_in _ (by omega)
  have hD1 := pieces_fore hr hok.2 (c := c) (by omega) (by omega)
  have hD2 := pieces_hind hr hok.2 (c := c) (by omega) (by omega)
  have hO : putX l x = keep l 0 x.log ++ ([x] ++ keep l (x.log + x.len) 2048) := rfl
  have hJ : joinX (keep l 0 x.log ++ ([fore x c, hind x c] ++ keep l (x.log + x.len) 2048)) = joinX (putX l x) := by rw [hO]; exact pieces_join _ _ _ _
  have hDr : Rise 0 (keep l 0 x.log ++ ([fore x c, hind x c] ++ keep l (x.log + x.len) 2048)) := by rw [← hD1]; exact put_rise (put_rise hr hfh.1) hfh.2
  have hDn : (keep l 0 x.log ++ ([fore x c, hind x c] ++ keep l (x.log + x.len) 2048)).length = (putX l x).length + 1 := by rw [hO]; simp only [List.length_append, List.length_cons, List.length_nil]; omega
  have hcL : (putX l (fore x c)).length ≤ 401 := by have := change_len l (fore x c).log ((fore x c).log + (fore x c).len) [fore x c]; simp only [List.length_singleton] at this; unfold putX; omega
  have hmL : (putX l (hind x c)).length ≤ 401 := by have := change_len l (hind x c).log ((hind x c).log + (hind x c).len) [hind x c]; simp only [List.length_singleton] at this; unfold putX; omega
  have G1 := Lib.hid fun v w hv => put_calls l (putX l (fore x c)) hr (by omega) (fore x c) hfh.1 rfl v w hv
  have G2 := Lib.hid fun v w hv => put_calls (putX l (fore x c)) _ (put_rise hr hfh.1) (by omega) (hind x c) hfh.2 hD1 v w hv
  have G3 := Lib.hid fun v w hv => put_calls l (putX l (hind x c)) hr (by omega) (hind x c) hfh.2 rfl v w hv
  have G4 := Lib.hid fun v w hv => put_calls (putX l (hind x c)) _ (put_rise hr hfh.2) (by omega) (fore x c) hfh.1 hD2 v w hv
  have SY := fun v u w hv hu => says_any (keep l 0 x.log ++ ([fore x c, hind x c] ++ keep l (x.log + x.len) 2048)) (putX l x) (fun e he => (hDr.mem e he).1) (fun e he => (hpr.mem e he).1) (by omega) (by omega) v u w hv hu
  rw [decide_eq_true hJ] at SY
  have SY := Lib.hid SY
  have hDl : ((keep l 0 x.log ++ ([fore x c, hind x c] ++ keep l (x.log + x.len) 2048)).length : Int) = ((putX l x).length : Int) + 1 := by omega
  have s4 : IntKind.i64.wrap (((putX l x).length : Int) + 1) = ((putX l x).length : Int) + 1 := IntWalk.i64_in _ (by omega)
  generalize freedX l (putX l x) = F1 at *
  generalize freedX (putX l x) (change l x.log (x.log + x.len) []) = F2 at *
  generalize freedX l (change l x.log (x.log + x.len) []) = F3 at *
  generalize keep l 0 x.log ++ ([fore x c, hind x c] ++ keep l (x.log + x.len) 2048) = D at *
  generalize freedX l (putX l (fore x c)) = F4 at *
  generalize freedX (putX l (fore x c)) D = F5 at *
  generalize freedX l (putX l (hind x c)) = F6 at *
  generalize freedX (putX l (hind x c)) D = F7 at *
  generalize putX l x = O at *
  generalize putX l (fore x c) = C at *
  generalize putX l (hind x c) = M at *
  generalize change l x.log (x.log + x.len) [] = A at *
  have d3 : ((D.length : Int) == (O.length : Int) + 1) = true := by rw [beq_iff_eq]; exact hDl
  clear hO hJ hDr hcL hmL hD1 hD2 hDl hDn
  obtain ⟨ad, cap, rfl, -⟩ := entsIn_cells hv
  obtain ⟨xa, xp, xz⟩ := x
  unfold fore hind at *
  try dsimp only [entV] at *
  clear hv hl0 hok hr hk hpr hoL hx hf hl c1 c2 hfh hc
  go_enter Try.func9, Try.ntmps9
  have x0 := HX.out.cell 0
  have x1 := HX.out.cell 1
  have x2 := HX.out.cell 2
  simp only [List.getElem?_toArray, List.getElem?_cons_zero, List.getElem?_cons_succ] at x0 x1 x2
  go_wp2_with fail
  refine (PP.out _ _ HV.out).mono ?_; rintro e w2 ⟨ado2, cpo2, adf2, cpf2, rfl, ro2, b2⟩
  have HV := Lib.hid (HV.out.kept b2)
  have HX := Lib.hid (HX.out.kept1 b2)
  have HB := Lib.hid (bnext HB.out b2)
  have HO := Lib.hid ro2
  clear b2 ro2 x0 x1 x2
  have x0 := HX.out.cell 0
  have x1 := HX.out.cell 1
  have x2 := HX.out.cell 2
  simp only [List.getElem?_toArray, List.getElem?_cons_zero, List.getElem?_cons_succ] at x0 x1 x2
  go_wp2_with fail
  refine (P1.out _ _ HO.out).mono ?_; rintro e w3 ⟨ado3, cpo3, adf3, cpf3, rfl, ro3, b3⟩
  have HV := Lib.hid (HV.out.kept b3)
  have HX := Lib.hid (HX.out.kept1 b3)
  have HO := Lib.hid (HO.out.kept b3)
  have HB := Lib.hid (bnext HB.out b3)
  have HA := Lib.hid ro3
  clear b3 ro3 x0 x1 x2
  have x0 := HX.out.cell 0
  have x1 := HX.out.cell 1
  have x2 := HX.out.cell 2
  simp only [List.getElem?_toArray, List.getElem?_cons_zero, List.getElem?_cons_succ] at x0 x1 x2
  go_wp2_with fail
  refine (P2.out _ _ HV.out).mono ?_; rintro e w4 ⟨ado4, cpo4, adf4, cpf4, rfl, ro4, b4⟩
  have HV := Lib.hid (HV.out.kept b4)
  have HX := Lib.hid (HX.out.kept1 b4)
  have HO := Lib.hid (HO.out.kept b4)
  have HA := Lib.hid (HA.out.kept b4)
  have HB := Lib.hid (bnext HB.out b4)
  have HC := Lib.hid ro4
  clear b4 ro4 x0 x1 x2
  clear PP P1 P2
  go_wp2_with fail
  refine (SA.out _ _ _ _ HA.out HC.out).mono ?_; rintro e w5 ⟨rfl, b5⟩
  have HV := Lib.hid (HV.out.kept b5)
  have HX := Lib.hid (HX.out.kept1 b5)
  have HO := Lib.hid (HO.out.kept b5)
  have HA := Lib.hid (HA.out.kept b5)
  have HC := Lib.hid (HC.out.kept b5)
  have HB := Lib.hid (bnext HB.out b5)
  clear b5
  clear HA HC
  have x0 := HX.out.cell 0
  have x1 := HX.out.cell 1
  have x2 := HX.out.cell 2
  simp only [List.getElem?_toArray, List.getElem?_cons_zero, List.getElem?_cons_succ] at x0 x1 x2
  go_upto_region 13 with fail
  obtain ⟨Wa, hWa⟩ : ∃ W9, w5.alloc (.cells #[.int .i64 xa, .int .i64 xp, .int .i64 c] 37) = W9 := ⟨_, rfl⟩
  have bq : Below w5.heap.size w5 Wa := by rw [← hWa]; exact balloc1 _ _
  have hB9 : Blk w5.heap.size #[.int .i64 xa, .int .i64 xp, .int .i64 c] 37 Wa := by rw [← hWa]; exact Blk.new _ _ _
  rw [hWa]
  have HV := Lib.hid (HV.out.kept bq)
  have HO := Lib.hid (HO.out.kept bq)
  have HX := Lib.hid (HX.out.kept1 bq)
  have HB := Lib.hid (bnext HB.out bq)
  have H1 := Lib.hid hB9
  clear bq hB9 hWa
  clear x0 x1 x2
  have x0 := HX.out.cell 0
  have x1 := HX.out.cell 1
  have x2 := HX.out.cell 2
  simp only [List.getElem?_toArray, List.getElem?_cons_zero, List.getElem?_cons_succ] at x0 x1 x2
  go_upto_region 14 with fail
  obtain ⟨Wb, hWb⟩ : ∃ W9, Wa.alloc (.cells #[.int .i64 (xa + c), .int .i64 (xp + c), .int .i64 (xz - c)] 37) = W9 := ⟨_, rfl⟩
  have bq : Below Wa.heap.size Wa Wb := by rw [← hWb]; exact balloc1 _ _
  have hB9 : Blk Wa.heap.size #[.int .i64 (xa + c), .int .i64 (xp + c), .int .i64 (xz - c)] 37 Wb := by rw [← hWb]; exact Blk.new _ _ _
  rw [hWb]
  have HV := Lib.hid (HV.out.kept bq)
  have HO := Lib.hid (HO.out.kept bq)
  have HX := Lib.hid (HX.out.kept1 bq)
  have H1 := Lib.hid (H1.out.kept1 bq)
  have HB := Lib.hid (bnext HB.out bq)
  have H2 := Lib.hid hB9
  clear bq hB9 hWb
  clear x0 x1 x2
  clear HX
  have y0 := H1.out.cell 0
  have y1 := H1.out.cell 1
  have y2 := H1.out.cell 2
  simp only [List.getElem?_toArray, List.getElem?_cons_zero, List.getElem?_cons_succ] at y0 y1 y2
  go_wp2_with fail
  refine (G1.out _ _ HV.out).mono ?_; rintro e w6 ⟨ado6, cpo6, adf6, cpf6, rfl, ro6, b6⟩
  have HV := Lib.hid (HV.out.kept b6)
  have HO := Lib.hid (HO.out.kept b6)
  have H1 := Lib.hid (H1.out.kept1 b6)
  have H2 := Lib.hid (H2.out.kept1 b6)
  have HB := Lib.hid (bnext HB.out b6)
  have HC := Lib.hid ro6
  clear b6 ro6 y0 y1 y2
  have y0 := H2.out.cell 0
  have y1 := H2.out.cell 1
  have y2 := H2.out.cell 2
  simp only [List.getElem?_toArray, List.getElem?_cons_zero, List.getElem?_cons_succ] at y0 y1 y2
  go_wp2_with fail
  refine (G2.out _ _ HC.out).mono ?_; rintro e w7 ⟨ado7, cpo7, adf7, cpf7, rfl, ro7, b7⟩
  have HV := Lib.hid (HV.out.kept b7)
  have HO := Lib.hid (HO.out.kept b7)
  have H1 := Lib.hid (H1.out.kept1 b7)
  have H2 := Lib.hid (H2.out.kept1 b7)
  have HC := Lib.hid (HC.out.kept b7)
  have HB := Lib.hid (bnext HB.out b7)
  have HD := Lib.hid ro7
  clear b7 ro7 y0 y1 y2
  clear HC
  have y0 := H2.out.cell 0
  have y1 := H2.out.cell 1
  have y2 := H2.out.cell 2
  simp only [List.getElem?_toArray, List.getElem?_cons_zero, List.getElem?_cons_succ] at y0 y1 y2
  go_wp2_with fail
  refine (G3.out _ _ HV.out).mono ?_; rintro e w8 ⟨ado8, cpo8, adf8, cpf8, rfl, ro8, b8⟩
  have HV := Lib.hid (HV.out.kept b8)
  have HO := Lib.hid (HO.out.kept b8)
  have H1 := Lib.hid (H1.out.kept1 b8)
  have H2 := Lib.hid (H2.out.kept1 b8)
  have HD := Lib.hid (HD.out.kept b8)
  have HB := Lib.hid (bnext HB.out b8)
  have HM := Lib.hid ro8
  clear b8 ro8 y0 y1 y2
  have y0 := H1.out.cell 0
  have y1 := H1.out.cell 1
  have y2 := H1.out.cell 2
  simp only [List.getElem?_toArray, List.getElem?_cons_zero, List.getElem?_cons_succ] at y0 y1 y2
  go_wp2_with fail
  refine (G4.out _ _ HM.out).mono ?_; rintro e w9 ⟨ado9, cpo9, adf9, cpf9, rfl, ro9, b9⟩
  have HV := Lib.hid (HV.out.kept b9)
  have HO := Lib.hid (HO.out.kept b9)
  have H1 := Lib.hid (H1.out.kept1 b9)
  have H2 := Lib.hid (H2.out.kept1 b9)
  have HD := Lib.hid (HD.out.kept b9)
  have HM := Lib.hid (HM.out.kept b9)
  have HB := Lib.hid (bnext HB.out b9)
  have HN := Lib.hid ro9
  clear b9 ro9 y0 y1 y2
  clear HM
  go_wp2_with fail
  refine (SA.out _ _ _ _ HD.out HN.out).mono ?_; rintro e w10 ⟨rfl, b10⟩
  have HV := Lib.hid (HV.out.kept b10)
  have HO := Lib.hid (HO.out.kept b10)
  have H1 := Lib.hid (H1.out.kept1 b10)
  have H2 := Lib.hid (H2.out.kept1 b10)
  have HD := Lib.hid (HD.out.kept b10)
  have HN := Lib.hid (HN.out.kept b10)
  have HB := Lib.hid (bnext HB.out b10)
  clear b10
  go_wp2_with fail
  refine (SY.out _ _ _ HD.out HO.out).mono ?_; rintro e w11 ⟨rfl, b11⟩
  have HV := Lib.hid (HV.out.kept b11)
  have HO := Lib.hid (HO.out.kept b11)
  have H1 := Lib.hid (H1.out.kept1 b11)
  have H2 := Lib.hid (H2.out.kept1 b11)
  have HD := Lib.hid (HD.out.kept b11)
  have HN := Lib.hid (HN.out.kept b11)
  have HB := Lib.hid (bnext HB.out b11)
  clear b11
  go_wp2_with fail
  refine (AL.out _).mono ?_; rintro e w12 ⟨rfl, b12⟩
  have HV := Lib.hid (HV.out.kept b12)
  have HO := Lib.hid (HO.out.kept b12)
  have H1 := Lib.hid (H1.out.kept1 b12)
  have H2 := Lib.hid (H2.out.kept1 b12)
  have HD := Lib.hid (HD.out.kept b12)
  have HN := Lib.hid (HN.out.kept b12)
  have HB := Lib.hid (bnext HB.out b12)
  clear b12
  go_wp2
  go_ret
  exact ⟨rfl, HB.out⟩
end Go.Proofs.Ytgcbfiecgiijkaa
