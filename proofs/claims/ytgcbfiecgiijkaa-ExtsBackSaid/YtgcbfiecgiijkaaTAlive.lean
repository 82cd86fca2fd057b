/- The chapter's examples. -/
import Derived.Test.YtgcbfiecgiijkaaTPunch
namespace Go.Proofs.Ytgcbfiecgiijkaa
set_option linter.unusedVariables false
set_option linter.unusedSimpArgs false
open Go.RowKit Go.Shelf

def exL : List Ent := [⟨0, 100, 4⟩, ⟨6, 200, 2⟩]
def exA : List Ent := [⟨0, 100, 2⟩, ⟨2, 50, 6⟩]
def exB : List Ent := [⟨0, 100, 1⟩, ⟨7, 201, 1⟩]
def exF : List (Int × Int) := [(102, 2), (200, 2)]
def exG : List (Int × Int) := [(101, 3), (200, 1)]
theorem ex_find : fP exL 2 = 102 ∧ fL exL 2 = 2 ∧ fB exL 2 = true := by decide +kernel
theorem ex_put : putO exL ⟨2, 50, 6⟩ = exA ∧ putF exL ⟨2, 50, 6⟩ = exF ∧ putE exL ⟨2, 50, 6⟩ = 0 := by decide +kernel
theorem ex_pun : punO exL 1 6 = exB ∧ punF exL 1 6 = exG ∧ punE exL 1 6 = 0 := by decide +kernel
theorem ex_bad : putO exL ⟨0, 0, 1⟩ = [] ∧ putF exL ⟨0, 0, 1⟩ = [] ∧ putE exL ⟨0, 0, 1⟩ = 2 := by decide +kernel
theorem ex_end : endV exL = 8 ∧ countV exL = 6 := by decide +kernel
theorem ex_fit : fitE exL := fit_small (by decide)
set_option maxRecDepth 100000 in
set_option maxHeartbeats 8000000 in
theorem talive_any (w : World) :
    Calls Try.prog 24 #[] w fun e w' => e = .returned (.bool true) ∧ Below w.heap.size w w' := by
  have F1 : Hid (∀ v W, EntsIn v exL W → Calls Try.prog 12 #[v, .int .i64 2] W fun e w' => e = .returned (.tuple #[.int .i64 102, .int .i64 2, .bool true]) ∧ Below W.heap.size W w') := Lib.hid fun v W hv => by
    have := xfind_any exL ex_fit (by decide) 2 (by decide) v W hv
    unfold foundV at this
    rw [ex_find.1, ex_find.2.1, ex_find.2.2] at this; exact this
  have P1 : Hid (∀ v W, EntsIn v exL W → Calls Try.prog 25 #[v, .agg #[.int .i64 2, .int .i64 50, .int .i64 6]] W fun e w' => ∃ vo vf, e = .returned (.tuple #[vo, vf, .int .i64 0]) ∧ ExtsAt W.heap.size vo exA w' ∧ RunsAt W.heap.size vf exF w' ∧ Below W.heap.size W w') := Lib.hid fun v W hv => by
    have := xput_any exL ex_fit (by decide) ⟨2, 50, 6⟩ (by decide) v W hv
    rw [ex_put.1, ex_put.2.1, ex_put.2.2] at this; exact this
  have U1 : Hid (∀ v W, EntsIn v exL W → Calls Try.prog 28 #[v, .int .i64 1, .int .i64 6] W fun e w' => ∃ vo vf, e = .returned (.tuple #[vo, vf, .int .i64 0]) ∧ ExtsAt W.heap.size vo exB w' ∧ RunsAt W.heap.size vf exG w' ∧ Below W.heap.size W w') := Lib.hid fun v W hv => by
    have := xpunch_any exL ex_fit (by decide) 1 6 (by decide) (by decide) v W hv
    rw [ex_pun.1, ex_pun.2.1, ex_pun.2.2] at this; exact this
  have P2 : Hid (∀ v W, EntsIn v exL W → Calls Try.prog 25 #[v, .agg #[.int .i64 0, .int .i64 0, .int .i64 1]] W fun e w' => ∃ vo vf, e = .returned (.tuple #[vo, vf, .int .i64 2]) ∧ Below W.heap.size W w') := Lib.hid fun v W hv => by
    have := xput_any exL ex_fit (by decide) ⟨0, 0, 1⟩ (by decide) v W hv
    rw [ex_bad.1, ex_bad.2.1, ex_bad.2.2] at this
    exact this.mono fun e w' ⟨vo, vf, he, _, _, hb⟩ => ⟨vo, vf, he, hb⟩
  have E1 : Hid (∀ v W, EntsIn v exL W → Calls Try.prog 19 #[v] W fun e w' => e = .returned (.int .i64 8) ∧ Below W.heap.size W w') := Lib.hid fun v W hv => by
    have := xendl_any exL ex_fit (by decide) v W hv
    rw [ex_end.1] at this; exact this
  have C1 : Hid (∀ v W, EntsIn v exL W → Calls Try.prog 21 #[v] W fun e w' => e = .returned (.int .i64 6) ∧ Below W.heap.size W w') := Lib.hid fun v W hv => by
    have := xcount_any exL ex_fit (by decide) v W hv
    rw [ex_end.2] at this; exact this
  have SX := Lib.hid samex_yes
  have SR := Lib.hid same_yes
  obtain ⟨w1, hw1⟩ : ∃ w1, w.alloc (.cells #[.int .i64 0, .int .i64 100, .int .i64 4, .int .i64 6, .int .i64 200, .int .i64 2] 37) = w1 := ⟨_, rfl⟩
  have HL : Hid (EntsIn (.slice (some ⟨w.heap.size, 0, none⟩) 2 2) exL w1) := Lib.hid (by rw [← hw1]; exact lit_inT _ w exL 2 _ rfl (by decide) rfl)
  have HB : Hid (Below w.heap.size w w1) := Lib.hid (by rw [← hw1]; exact balloc1 _ _)
  have HW1 := Lib.hid hw1
  clear hw1
  go_enter Try.func24, Try.ntmps24
  go_wp2_with fail
  try rw [HW1.out]
  refine (F1.out _ _ HL.out).mono ?_; rintro e w2 ⟨rfl, b⟩
  have HL := Lib.hid (HL.out.kept b)
  have HB := Lib.hid (bnext HB.out b)
  clear b F1 HW1
  go_wp2_with fail
  refine (P1.out _ _ HL.out).mono ?_; rintro e w3 ⟨va, vf, rfl, ra, rf, b⟩
  have HL := Lib.hid (HL.out.kept b)
  have HB := Lib.hid (bnext HB.out b)
  obtain ⟨ada, cpa, hsa, -⟩ := shape_of ra
  obtain ⟨adf, cpf, hsf, -⟩ := shape_of rf
  have hsa : va = .slice ada 2 cpa := hsa
  have hsf : vf = .slice adf 2 cpf := hsf
  subst hsa hsf
  have HA := Lib.hid (rowE_in ra)
  have HF := Lib.hid (runsAt_in rf)
  clear b P1 ra rf
  go_wp2_with fail
  refine (U1.out _ _ HL.out).mono ?_; rintro e w4 ⟨vb, vg, rfl, rb, rg, b⟩
  have HL := Lib.hid (HL.out.kept b)
  have HB := Lib.hid (bnext HB.out b)
  have HA := Lib.hid (HA.out.kept b)
  have HF := Lib.hid (runsIn_kept HF.out b)
  obtain ⟨adb, cpb, hsb, -⟩ := shape_of rb
  obtain ⟨adg, cpg, hsg, -⟩ := shape_of rg
  have hsb : vb = .slice adb 2 cpb := hsb
  have hsg : vg = .slice adg 2 cpg := hsg
  subst hsb hsg
  have HBB := Lib.hid (rowE_in rb)
  have HG := Lib.hid (runsAt_in rg)
  clear b U1 rb rg
  go_wp2_with fail
  refine (P2.out _ _ HL.out).mono ?_; rintro e w5 ⟨vc, vh, rfl, b⟩
  have HL := Lib.hid (HL.out.kept b)
  have HB := Lib.hid (bnext HB.out b)
  have b2 := b.trans ((balloc1 w5 (.cells #[.int .i64 0, .int .i64 100, .int .i64 2, .int .i64 2, .int .i64 50, .int .i64 6] 37)).mono b.size)
  have HA := Lib.hid (HA.out.kept b2)
  have HF := Lib.hid (runsIn_kept HF.out b2)
  have HBB := Lib.hid (HBB.out.kept b2)
  have HG := Lib.hid (runsIn_kept HG.out b2)
  have HLA := Lib.hid (lit_inT 37 w5 exA 2 #[.int .i64 0, .int .i64 100, .int .i64 2, .int .i64 2, .int .i64 50, .int .i64 6] rfl (by decide) rfl)
  have HL := Lib.hid (HL.out.kept (balloc1 w5 (.cells #[.int .i64 0, .int .i64 100, .int .i64 2, .int .i64 2, .int .i64 50, .int .i64 6] 37)))
  have HB := Lib.hid (balloc HB.out (.cells #[.int .i64 0, .int .i64 100, .int .i64 2, .int .i64 2, .int .i64 50, .int .i64 6] 37))
  clear b b2 P2
  go_wp2_with fail
  refine (SX.out exA _ _ _ HA.out HLA.out).mono ?_; rintro e w6 ⟨rfl, b⟩
  have b2 := b.trans ((balloc1 w6 (.cells #[.int .i64 102, .int .i64 2, .int .i64 200, .int .i64 2] 32)).mono b.size)
  have HL := Lib.hid (HL.out.kept b2)
  have HF := Lib.hid (runsIn_kept HF.out b2)
  have HBB := Lib.hid (HBB.out.kept b2)
  have HG := Lib.hid (runsIn_kept HG.out b2)
  have HB := Lib.hid (bnext HB.out b2)
  have HLF := Lib.hid (lit_in exF w6 #[.int .i64 102, .int .i64 2, .int .i64 200, .int .i64 2] rfl (by decide) 2 rfl)
  clear b b2 HA HLA
  go_wp2_with fail
  refine (SR.out _ _ exF _ HF.out HLF.out).mono ?_; rintro e w7 ⟨rfl, b⟩
  have b2 := b.trans ((balloc1 w7 (.cells #[.int .i64 0, .int .i64 100, .int .i64 1, .int .i64 7, .int .i64 201, .int .i64 1] 37)).mono b.size)
  have HL := Lib.hid (HL.out.kept b2)
  have HBB := Lib.hid (HBB.out.kept b2)
  have HG := Lib.hid (runsIn_kept HG.out b2)
  have HB := Lib.hid (bnext HB.out b2)
  have HLA := Lib.hid (lit_inT 37 w7 exB 2 #[.int .i64 0, .int .i64 100, .int .i64 1, .int .i64 7, .int .i64 201, .int .i64 1] rfl (by decide) rfl)
  clear b b2 HF HLF
  go_wp2_with fail
  refine (SX.out exB _ _ _ HBB.out HLA.out).mono ?_; rintro e w8 ⟨rfl, b⟩
  have b2 := b.trans ((balloc1 w8 (.cells #[.int .i64 101, .int .i64 3, .int .i64 200, .int .i64 1] 32)).mono b.size)
  have HL := Lib.hid (HL.out.kept b2)
  have HG := Lib.hid (runsIn_kept HG.out b2)
  have HB := Lib.hid (bnext HB.out b2)
  have HLF := Lib.hid (lit_in exG w8 #[.int .i64 101, .int .i64 3, .int .i64 200, .int .i64 1] rfl (by decide) 2 rfl)
  clear b b2 HBB HLA SX
  go_wp2_with fail
  refine (SR.out _ _ exG _ HG.out HLF.out).mono ?_; rintro e w9 ⟨rfl, b⟩
  have HL := Lib.hid (HL.out.kept b)
  have HB := Lib.hid (bnext HB.out b)
  clear b HG HLF SR
  go_wp2_with fail
  refine (E1.out _ _ HL.out).mono ?_; rintro e w10 ⟨rfl, b⟩
  have HL := Lib.hid (HL.out.kept b)
  have HB := Lib.hid (bnext HB.out b)
  clear b E1
  go_wp2_with fail
  refine (C1.out _ _ HL.out).mono ?_; rintro e w11 ⟨rfl, b⟩
  have HL := Lib.hid (HL.out.kept b)
  have HB := Lib.hid (bnext HB.out b)
  clear b C1
  go_wp2
  go_ret
  exact ⟨rfl, HB.out⟩
end Go.Proofs.Ytgcbfiecgiijkaa
