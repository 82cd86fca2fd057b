/- The program's Punch, Cut. -/
import Derived.Test.YtgcbfiecgiijkaaTPut
namespace Go.Proofs.Ytgcbfiecgiijkaa
set_option linter.unusedVariables false
set_option linter.unusedSimpArgs false
open Go.RowKit Go.Shelf

def PunOk (l : List Ent) (a n : Int) : Prop := RowOk true l ∧ (0 ≤ a ∧ 0 ≤ n ∧ a ≤ 2048 ∧ n ≤ 2048 - a)
instance (l : List Ent) (a n : Int) : Decidable (PunOk l a n) := by unfold PunOk; infer_instance
def punX (l : List Ent) (a n : Int) : List Ent := if n = 0 then l else change l a (a + n) []
def punO (l : List Ent) (a n : Int) : List Ent := if PunOk l a n then punX l a n else []
def punF (l : List Ent) (a n : Int) : List (Int × Int) := if PunOk l a n then freedX l (punX l a n) else []
def punE (l : List Ent) (a n : Int) : Int := if PunOk l a n then 0 else 2
theorem pun_yes {l : List Ent} {a n : Int} (h : PunOk l a n) : punO l a n = punX l a n ∧ punF l a n = freedX l (punX l a n) ∧ punE l a n = 0 := by unfold punO punF punE; rw [if_pos h, if_pos h, if_pos h]; exact ⟨rfl, rfl, rfl⟩
theorem pun_no {l : List Ent} {a n : Int} (h : ¬ PunOk l a n) : punO l a n = [] ∧ punF l a n = [] ∧ punE l a n = 2 := by unfold punO punF punE; rw [if_neg h, if_neg h, if_neg h]; exact ⟨rfl, rfl, rfl⟩
set_option maxRecDepth 100000 in
set_option maxHeartbeats 8000000 in
theorem xpunch_any (l : List Ent) (hf : fitE l) (hl : l.length ≤ 1000) (a n : Int) (ha : I64 a) (hn : I64 n) (v : Value) (w : World) (hv : EntsIn v l w) :
    Calls Try.prog 28 #[v, .int .i64 a, .int .i64 n] w fun e w' => ∃ vo vf, e = .returned (.tuple #[vo, vf, .int .i64 (punE l a n)]) ∧ ExtsAt w.heap.size vo (punO l a n) w' ∧ RunsAt w.heap.size vf (punF l a n) w' ∧ Below w.heap.size w w' := by
  have C := fun w hv => xcheck_any l hf v w hv
  have HV := Lib.hid hv
  obtain ⟨ha1, ha2⟩ := ha
  obtain ⟨hn1, hn2⟩ := hn
  by_cases h1 : RowOk true l
  · rw [decide_eq_true h1] at C
    have C := Lib.hid C
    have NO : Hid (¬ (0 ≤ a ∧ 0 ≤ n ∧ a ≤ 2048 ∧ n ≤ 2048 - a) → punO l a n = [] ∧ punF l a n = [] ∧ punE l a n = 2) := Lib.hid fun h => pun_no fun k => h k.2
    by_cases c1 : a < 0
    · have d1 : decide (a < 0) = true := decide_eq_true c1
      have HN := Lib.hid (NO.out (by omega))
      clear NO
      rw [HN.out.1, HN.out.2.1, HN.out.2.2]
      obtain ⟨ad, cap, rfl, -⟩ := entsIn_cells hv
      go_enter Try.func28, Try.ntmps28
      go_wp2_with fail
      refine (C.out _ HV.out).mono ?_; rintro e w1 ⟨rfl, b1⟩
      go_wp2
      go_ret3
      exact ⟨_, _, rfl, World.ownsRow_nil _ _ _ _, World.ownsRow_nil _ _ _ _, b1⟩
    have d1 : decide (a < 0) = false := decide_eq_false c1
    by_cases c2 : n < 0
    · have d2 : decide (n < 0) = true := decide_eq_true c2
      have HN := Lib.hid (NO.out (by omega))
      clear NO
      rw [HN.out.1, HN.out.2.1, HN.out.2.2]
      obtain ⟨ad, cap, rfl, -⟩ := entsIn_cells hv
      go_enter Try.func28, Try.ntmps28
      go_wp2_with fail
      refine (C.out _ HV.out).mono ?_; rintro e w1 ⟨rfl, b1⟩
      go_wp2
      go_ret3
      exact ⟨_, _, rfl, World.ownsRow_nil _ _ _ _, World.ownsRow_nil _ _ _ _, b1⟩
    have d2 : decide (n < 0) = false := decide_eq_false c2
    by_cases c3 : 2048 < a
    · have d3 : decide (2048 < a) = true := decide_eq_true c3
      have HN := Lib.hid (NO.out (by omega))
      clear NO
      rw [HN.out.1, HN.out.2.1, HN.out.2.2]
      obtain ⟨ad, cap, rfl, -⟩ := entsIn_cells hv
      go_enter Try.func28, Try.ntmps28
      go_wp2_with fail
      refine (C.out _ HV.out).mono ?_; rintro e w1 ⟨rfl, b1⟩
      go_wp2
      go_ret3
      exact ⟨_, _, rfl, World.ownsRow_nil _ _ _ _, World.ownsRow_nil _ _ _ _, b1⟩
    have d3 : decide (2048 < a) = false := decide_eq_false c3
    by_cases c4 : 2048 - a < n
    · have d4 : decide (2048 - a < n) = true := decide_eq_true c4
      have HN := Lib.hid (NO.out (by omega))
      clear NO
      rw [HN.out.1, HN.out.2.1, HN.out.2.2]
      obtain ⟨ad, cap, rfl, -⟩ := entsIn_cells hv
      go_enter Try.func28, Try.ntmps28
      go_wp2_with fail
      refine (C.out _ HV.out).mono ?_; rintro e w1 ⟨rfl, b1⟩
      go_wp2
      go_ret3
      exact ⟨_, _, rfl, World.ownsRow_nil _ _ _ _, World.ownsRow_nil _ _ _ _, b1⟩
    have d4 : decide (2048 - a < n) = false := decide_eq_false c4
    obtain ⟨e1, e2, e3⟩ := pun_yes (l := l) (a := a) (n := n) ⟨h1, by omega, by omega, by omega, by omega⟩
    rw [e1, e2, e3]
    clear e1 e2 e3 NO
    have hr := (row_rise l).1 h1
    have hok : ∀ e ∈ l, EntOk true e := fun e he => (hr.mem e he).1
    by_cases c5 : n = 0
    · have d5 : (n == 0) = true := by rw [beq_iff_eq]; exact c5
      unfold punX
      rw [if_pos c5, freed_self]
      have CL := Lib.hid fun W hv => xclone_any l (by omega) v W hv
      clear h1 hr hok c5
      obtain ⟨ad, cap, rfl, -⟩ := entsIn_cells hv
      go_enter Try.func28, Try.ntmps28
      go_wp2_with fail
      refine (C.out _ HV.out).mono ?_; rintro e w1 ⟨rfl, b1⟩
      have HV := Lib.hid (HV.out.kept b1)
      clear C
      go_wp2_with fail
      refine (CL.out _ HV.out).mono ?_; rintro e w2 ⟨v2, rfl, r2, b2⟩
      have R2 := Lib.hid (row_down b1.size r2)
      go_wp2
      go_ret3
      exact ⟨_, _, rfl, R2.out, World.ownsRow_nil _ _ _ _, bnext b1 b2⟩
    · have d5 : (n == 0) = false := by rw [beq_eq_false_iff_ne]; exact c5
      unfold punX
      rw [if_neg c5]
      have hsum : a + n ≤ 2048 := by omega
      have hwr : IntKind.i64.wrap (a + n) = a + n := IntWalk.i64_in _ (by omega)
      have hp := punch_rise hr (a := a) (b := a + n) (by omega) (by omega)
      have HPL : (change l a (a + n) []).length ≤ 4000 := by have := change_len l a (a + n) []; simp only [List.length_nil] at this; omega
      have hcat : keep l 0 a ++ keep l (a + n) 2048 = change l a (a + n) [] := by unfold change; rw [List.nil_append]
      have W1 := Lib.hid fun W hv => xwithin_any l hok (by omega) 0 a v W hv
      have W2 := Lib.hid fun W hv => xwithin_any l hok (by omega) (a + n) 2048 v W hv
      have W3 := Lib.hid fun W hv => xwithin_any l hok (by omega) a (a + n) v W hv
      have CC := fun (W : World) (g : Nat) (va vb : Value) (h : Blk g #[va, vb] 22 W) ha hb => concat2_any (keep l 0 a) (keep l (a + n) 2048) (by rw [hcat]; exact HPL) va vb g 22 W h ha hb
      rw [hcat] at CC
      have CC := Lib.hid CC
      have hkl : (keep l a (a + n)).length ≤ 4000 := by have := keep_len l a (a + n); omega
      have L := fun v u W hv hu => xlost_any (keep l a (a + n)) (change l a (a + n) []) ((keep_rise hr _ _).1.down (by omega)) hp hkl HPL v u W hv hu
      rw [lostX_is hr (a := a) (b := a + n) (by omega) (by omega) (nilOk _ 0).1 (nilOk 0 _).2] at L
      have L := Lib.hid L
      generalize change l a (a + n) [] = O at *
      generalize freedX l O = F at *
      generalize keep l 0 a = KA at *
      generalize keep l (a + n) 2048 = KB at *
      generalize keep l a (a + n) = KM at *
      clear h1 hr hok hp HPL hkl hcat c5
      obtain ⟨ad, cap, rfl, -⟩ := entsIn_cells hv
      go_enter Try.func28, Try.ntmps28
      go_wp2_with fail
      refine (C.out _ HV.out).mono ?_; rintro e w1 ⟨rfl, b1⟩
      have HV := Lib.hid (HV.out.kept b1)
      have hb1 := b1
      clear C b1
      go_wp2_with fail
      refine (W1.out _ HV.out).mono ?_; rintro e w2 ⟨v2, rfl, r2, b2⟩
      have hb2 := bnext hb1 b2
      have HV := Lib.hid (HV.out.kept b2)
      obtain ⟨ad2, cp2, hs2, -⟩ := shape_of r2
      subst hs2
      have RA := Lib.hid (rowE_in r2)
      clear r2 b2 W1
      go_wp2_with fail
      refine (W2.out _ HV.out).mono ?_; rintro e w3 ⟨v3, rfl, r3, b3⟩
      have hb3 := bnext hb2 b3
      have HV := Lib.hid (HV.out.kept b3)
      obtain ⟨ad3, cp3, hs3, -⟩ := shape_of r3
      subst hs3
      have bq := balloc1 w3 (.cells #[.slice ad2 KA.length cp2, .slice ad3 KB.length cp3] 22)
      have RB := Lib.hid ((rowE_in r3).kept bq)
      have RA := Lib.hid ((RA.out.kept b3).kept bq)
      have HT := Lib.hid (Blk.new #[.slice ad2 KA.length cp2, .slice ad3 KB.length cp3] 22 w3)
      have HV := Lib.hid (HV.out.kept bq)
      have hb4 := bnext hb3 bq
      clear r3 b3 W2 bq
      go_wp2_with fail
      refine (CC.out _ _ _ _ HT.out RA.out RB.out).mono ?_; rintro e w5 ⟨v5, rfl, r5, b5⟩
      have hb5 := bnext hb4 b5
      have HV := Lib.hid (HV.out.kept b5)
      obtain ⟨ad5, cp5, hs5, -⟩ := shape_of r5
      subst hs5
      have RO := Lib.hid (row_down hb4.size r5)
      clear r5 b5 CC HT RA RB
      go_wp2_with fail
      refine (W3.out _ HV.out).mono ?_; rintro e w6 ⟨v6, rfl, r6, b6⟩
      have hb6 := bnext hb5 b6
      obtain ⟨ad6, cp6, hs6, -⟩ := shape_of r6
      subst hs6
      have RM := Lib.hid (rowE_in r6)
      have RO := Lib.hid (row_kept RO.out b6)
      clear r6 b6 W3
      go_wp2_with fail
      refine (L.out _ _ _ RM.out (rowE_in RO.out)).mono ?_; rintro e w7 ⟨v7, rfl, r7, b7⟩
      have hb7 := bnext hb6 b7
      have RO := Lib.hid (row_kept RO.out b7)
      have RF := Lib.hid (row_down hb6.size r7)
      clear r7 b7 L
      go_wp2
      go_ret3
      exact ⟨_, _, rfl, RO.out, RF.out, hb7⟩
  · rw [decide_eq_false h1] at C
    have C := Lib.hid C
    have NO : Hid (0 = 0 → punO l a n = [] ∧ punF l a n = [] ∧ punE l a n = 2) := Lib.hid fun _ => pun_no fun k => h1 k.1
    have HN := Lib.hid (NO.out (by omega))
    clear NO
    rw [HN.out.1, HN.out.2.1, HN.out.2.2]
    obtain ⟨ad, cap, rfl, -⟩ := entsIn_cells hv
    go_enter Try.func28, Try.ntmps28
    go_wp2_with fail
    refine (C.out _ HV.out).mono ?_; rintro e w1 ⟨rfl, b1⟩
    go_wp2
    go_ret3
    exact ⟨_, _, rfl, World.ownsRow_nil _ _ _ _, World.ownsRow_nil _ _ _ _, b1⟩
def CutOk (l : List Ent) (f : Int) : Prop := RowOk true l ∧ 0 ≤ f
instance (l : List Ent) (f : Int) : Decidable (CutOk l f) := by unfold CutOk; infer_instance
def cutO (l : List Ent) (f : Int) : List Ent := if CutOk l f then cutX l f else []
def cutF (l : List Ent) (f : Int) : List (Int × Int) := if CutOk l f then freedX l (cutX l f) else []
def cutE (l : List Ent) (f : Int) : Int := if CutOk l f then 0 else 2
theorem cut_yes {l : List Ent} {f : Int} (h : CutOk l f) : cutO l f = cutX l f ∧ cutF l f = freedX l (cutX l f) ∧ cutE l f = 0 := by unfold cutO cutF cutE; rw [if_pos h, if_pos h, if_pos h]; exact ⟨rfl, rfl, rfl⟩
theorem cut_no {l : List Ent} {f : Int} (h : ¬ CutOk l f) : cutO l f = [] ∧ cutF l f = [] ∧ cutE l f = 2 := by unfold cutO cutF cutE; rw [if_neg h, if_neg h, if_neg h]; exact ⟨rfl, rfl, rfl⟩
set_option maxRecDepth 100000 in
set_option maxHeartbeats 8000000 in
theorem xcut_any (l : List Ent) (hf : fitE l) (hl : l.length ≤ 1000) (a : Int) (ha : I64 a) (v : Value) (w : World) (hv : EntsIn v l w) :
    Calls Try.prog 30 #[v, .int .i64 a] w fun e w' => ∃ vo vf, e = .returned (.tuple #[vo, vf, .int .i64 (cutE l a)]) ∧ ExtsAt w.heap.size vo (cutO l a) w' ∧ RunsAt w.heap.size vf (cutF l a) w' ∧ Below w.heap.size w w' := by
  have C := fun w hv => xcheck_any l hf v w hv
  have HV := Lib.hid hv
  obtain ⟨ha1, ha2⟩ := ha
  by_cases h1 : RowOk true l
  · rw [decide_eq_true h1] at C
    have C := Lib.hid C
    by_cases c1 : a < 0
    · have d1 : decide (a < 0) = true := decide_eq_true c1
      obtain ⟨e1, e2, e3⟩ := cut_no (l := l) (f := a) fun h => by have := h.2; omega
      rw [e1, e2, e3]
      clear e1 e2 e3
      obtain ⟨ad, cap, rfl, -⟩ := entsIn_cells hv
      go_enter Try.func30, Try.ntmps30
      go_wp2_with fail
      refine (C.out _ HV.out).mono ?_; rintro e w1 ⟨rfl, b1⟩
      go_wp2
      go_ret3
      exact ⟨_, _, rfl, World.ownsRow_nil _ _ _ _, World.ownsRow_nil _ _ _ _, b1⟩
    · have d1 : decide (a < 0) = false := decide_eq_false c1
      obtain ⟨e1, e2, e3⟩ := cut_yes (l := l) (f := a) ⟨h1, by omega⟩
      rw [e1, e2, e3]
      clear e1 e2 e3
      have hr := (row_rise l).1 h1
      have hok : ∀ e ∈ l, EntOk true e := fun e he => (hr.mem e he).1
      obtain ⟨q1, q2⟩ := lowC_ok (f := a) (by omega)
      have hp : Rise 0 (cutX l a) := punch_rise hr q1 q2
      have HPL : (cutX l a).length ≤ 4000 := by have := change_len l (lowC a) 2048 []; simp only [List.length_nil] at this; unfold cutX; omega
      have W1 := fun W hv => xwithin_any l hok (by omega) 0 a v W hv
      rw [← cutX_is hr a] at W1
      have W1 := Lib.hid W1
      have W3 := Lib.hid fun W hv => xwithin_any l hok (by omega) a 2048 v W hv
      have hkl : (keep l a 2048).length ≤ 4000 := by have := keep_len l a 2048; omega
      have L := fun v u W hv hu => xlost_any (keep l a 2048) (cutX l a) ((keep_rise hr _ _).1.down (by omega)) hp hkl HPL v u W hv hu
      have hlo : lostX (keep l a 2048) (cutX l a) = freedX l (cutX l a) := by
        rw [keep_low1 hr a]; exact lostX_is hr q1 q2 (nilOk _ 0).1 (nilOk 0 _).2
      rw [hlo] at L
      have L := Lib.hid L
      generalize cutX l a = O at *
      generalize freedX l O = F at *
      generalize keep l a 2048 = KM at *
      clear h1 hr hok hp HPL hkl hlo q1 q2 c1
      obtain ⟨ad, cap, rfl, -⟩ := entsIn_cells hv
      go_enter Try.func30, Try.ntmps30
      go_wp2_with fail
      refine (C.out _ HV.out).mono ?_; rintro e w1 ⟨rfl, b1⟩
      have HV := Lib.hid (HV.out.kept b1)
      have hb1 := b1
      clear C b1
      go_wp2_with fail
      refine (W1.out _ HV.out).mono ?_; rintro e w5 ⟨v5, rfl, r5, b5⟩
      have hb5 := bnext hb1 b5
      have HV := Lib.hid (HV.out.kept b5)
      obtain ⟨ad5, cp5, hs5, -⟩ := shape_of r5
      subst hs5
      have RO := Lib.hid (row_down hb1.size r5)
      clear r5 b5 W1
      go_wp2_with fail
      refine (W3.out _ HV.out).mono ?_; rintro e w6 ⟨v6, rfl, r6, b6⟩
      have hb6 := bnext hb5 b6
      obtain ⟨ad6, cp6, hs6, -⟩ := shape_of r6
      subst hs6
      have RM := Lib.hid (rowE_in r6)
      have RO := Lib.hid (row_kept RO.out b6)
      clear r6 b6 W3
      go_wp2_with fail
      refine (L.out _ _ _ RM.out (rowE_in RO.out)).mono ?_; rintro e w7 ⟨v7, rfl, r7, b7⟩
      have hb7 := bnext hb6 b7
      have RO := Lib.hid (row_kept RO.out b7)
      have RF := Lib.hid (row_down hb6.size r7)
      clear r7 b7 L
      go_wp2
      go_ret3
      exact ⟨_, _, rfl, RO.out, RF.out, hb7⟩
  · rw [decide_eq_false h1] at C
    have C := Lib.hid C
    obtain ⟨e1, e2, e3⟩ := cut_no (l := l) (f := a) fun h => h1 h.1
    rw [e1, e2, e3]
    clear e1 e2 e3
    obtain ⟨ad, cap, rfl, -⟩ := entsIn_cells hv
    go_enter Try.func30, Try.ntmps30
    go_wp2_with fail
    refine (C.out _ HV.out).mono ?_; rintro e w1 ⟨rfl, b1⟩
    go_wp2
    go_ret3
    exact ⟨_, _, rfl, World.ownsRow_nil _ _ _ _, World.ownsRow_nil _ _ _ _, b1⟩
end Go.Proofs.Ytgcbfiecgiijkaa
