/- The document's Put, Punch, Cut. -/
import Derived.Test.YtgcbfiecgiijkaaTRef3
namespace Go.Proofs.Ytgcbfiecgiijkaa
set_option linter.unusedVariables false
set_option linter.unusedSimpArgs false
open Go.RowKit Go.Shelf

theorem row_one (x : Ent) : RowOk true [x] ↔ EntOk true x := by
  rw [row_rise]
  constructor
  · intro h; exact h.2.1
  · intro h; have := (entT x).1 h; exact ⟨by omega, h, trivial⟩
theorem fit_one {x : Ent} (h : I64 x.log ∧ I64 x.phys ∧ I64 x.len) : fitE [x] := fun e he => by simp at he; subst he; exact h
set_option maxRecDepth 100000 in
set_option maxHeartbeats 8000000 in
theorem rput_any (l : List Ent) (hf : fitE l) (hl : l.length ≤ 200) (x : Ent) (hx : I64 x.log ∧ I64 x.phys ∧ I64 x.len) (v : Value) (w : World) (hv : EntsIn v l w) :
    Calls Try.prog 26 #[v, entV x] w fun e w' => ∃ vo vf, e = .returned (.tuple #[vo, vf, .int .i64 (putE l x)]) ∧ ExtsAt w.heap.size vo (putO l x) w' ∧ RunsAt w.heap.size vf (putF l x) w' ∧ Below w.heap.size w w' := by
  have C := fun w hv => xrcheck_any l hf (by omega) v w hv
  have V := fun v w hv => xrcheck_any [x] (fit_one hx) (by simp) v w hv
  rw [show decide (RowOk true [x]) = decide (EntOk true x) by rw [decide_eq_decide, row_one]] at V
  have hb0 := balloc1 w (.cells (entC x) 37)
  have HV := Lib.hid (hv.kept hb0)
  have HX := Lib.hid (Blk.new (entC x) 37 w)
  by_cases h1 : RowOk true l
  · rw [decide_eq_true h1] at C
    have C := Lib.hid C
    by_cases h2 : EntOk true x
    · rw [decide_eq_true h2] at V
      have V := Lib.hid V
      obtain ⟨e1, e2, e3⟩ := put_yes ⟨h1, h2⟩
      rw [e1, e2, e3]
      have hr := (row_rise l).1 h1
      have hk := (entT x).1 h2
      have hp := put_rise hr h2
      have CH := fun v u W hv hu => rchange_any l hr hl x.log (x.log + x.len) ⟨by omega, by omega⟩ ⟨by omega, by omega⟩ [x] (by simp) hp v u W hv hu
      rw [show change l x.log (x.log + x.len) [x] = putX l x from rfl] at CH
      have CH := Lib.hid CH
      have hsum : I64 (x.log + x.len) := ⟨by omega, by omega⟩
      obtain ⟨s1, s2⟩ := hsum
      generalize putX l x = O at *
      generalize freedX l O = F at *
      clear h1 h2 hr hk hp e1 e2 e3 hx
      obtain ⟨ad, cap, rfl, -⟩ := entsIn_cells hv
      obtain ⟨xa, xp, xz⟩ := x
      try dsimp only at *
      go_enter Try.func26, Try.ntmps26
      go_wp2_with fail
      refine (C.out _ HV.out).mono ?_; rintro e w1 ⟨rfl, b1⟩
      have hb1 := bnext hb0 b1
      have HV := Lib.hid (HV.out.kept b1)
      have HX := Lib.hid (HX.out.kept1 b1)
      have x0 := HX.out.cell 0
      have x1 := HX.out.cell 1
      have x2 := HX.out.cell 2
      simp only [List.getElem?_toArray, List.getElem?_cons_zero, List.getElem?_cons_succ] at x0 x1 x2
      have bq := balloc1 w1 (.cells #[.int .i64 xa, .int .i64 xp, .int .i64 xz] 37)
      have H1 := Lib.hid (one_in (x := ⟨xa, xp, xz⟩) (Blk.new #[.int .i64 xa, .int .i64 xp, .int .i64 xz] 37 w1))
      have HV := Lib.hid (HV.out.kept bq)
      have HX := Lib.hid (HX.out.kept1 bq)
      have hb1 := bnext hb1 bq
      clear b1 C bq
      go_wp2_with fail
      refine (V.out _ _ H1.out).mono ?_; rintro e w2 ⟨rfl, b2⟩
      have hb2 := bnext hb1 b2
      have HV := Lib.hid (HV.out.kept b2)
      have HX := Lib.hid (HX.out.kept1 b2)
      have x0 := HX.out.cell 0
      have x1 := HX.out.cell 1
      have x2 := HX.out.cell 2
      simp only [List.getElem?_toArray, List.getElem?_cons_zero, List.getElem?_cons_succ] at x0 x1 x2
      have bq := balloc1 w2 (.cells #[.int .i64 xa, .int .i64 xp, .int .i64 xz] 37)
      have H1 := Lib.hid (one_in (x := ⟨xa, xp, xz⟩) (Blk.new #[.int .i64 xa, .int .i64 xp, .int .i64 xz] 37 w2))
      have HV := Lib.hid (HV.out.kept bq)
      have hb2 := bnext hb2 bq
      have hs2 := hb2.size
      clear b2 V bq hb1
      go_wp2_with fail
      refine (CH.out _ _ _ HV.out H1.out).mono ?_; rintro e w3 ⟨vo, vf, rfl, r1, r2, b3⟩
      have R1 := Lib.hid (row_down hs2 r1)
      have R2 := Lib.hid (row_down hs2 r2)
      clear r1 r2
      go_wp2
      go_ret3
      exact ⟨_, _, rfl, R1.out, R2.out, bnext hb2 b3⟩
    · rw [decide_eq_false h2] at V
      have V := Lib.hid V
      obtain ⟨e1, e2, e3⟩ := put_no (l := l) (x := x) fun h => h2 h.2
      rw [e1, e2, e3]
      clear h1 h2 e1 e2 e3 hx
      obtain ⟨ad, cap, rfl, -⟩ := entsIn_cells hv
      obtain ⟨xa, xp, xz⟩ := x
      try dsimp only at *
      go_enter Try.func26, Try.ntmps26
      go_wp2_with fail
      refine (C.out _ HV.out).mono ?_; rintro e w1 ⟨rfl, b1⟩
      have hb1 := bnext hb0 b1
      have HX := Lib.hid (HX.out.kept1 b1)
      have x0 := HX.out.cell 0
      have x1 := HX.out.cell 1
      have x2 := HX.out.cell 2
      simp only [List.getElem?_toArray, List.getElem?_cons_zero, List.getElem?_cons_succ] at x0 x1 x2
      have bq := balloc1 w1 (.cells #[.int .i64 xa, .int .i64 xp, .int .i64 xz] 37)
      have H1 := Lib.hid (one_in (x := ⟨xa, xp, xz⟩) (Blk.new #[.int .i64 xa, .int .i64 xp, .int .i64 xz] 37 w1))
      have hb1 := bnext hb1 bq
      clear b1 C bq
      go_wp2_with fail
      refine (V.out _ _ H1.out).mono ?_; rintro e w2 ⟨rfl, b2⟩
      have hb2 := bnext hb1 b2
      go_wp2
      go_ret3
      exact ⟨_, _, rfl, World.ownsRow_nil _ _ _ _, World.ownsRow_nil _ _ _ _, hb2⟩
  · rw [decide_eq_false h1] at C
    have C := Lib.hid C
    obtain ⟨e1, e2, e3⟩ := put_no (l := l) (x := x) fun h => h1 h.1
    rw [e1, e2, e3]
    clear h1 e1 e2 e3 V
    obtain ⟨ad, cap, rfl, -⟩ := entsIn_cells hv
    go_enter Try.func26, Try.ntmps26
    go_wp2_with fail
    refine (C.out _ HV.out).mono ?_; rintro e w1 ⟨rfl, b1⟩
    have hb1 := bnext hb0 b1
    go_wp2
    go_ret3
    exact ⟨_, _, rfl, World.ownsRow_nil _ _ _ _, World.ownsRow_nil _ _ _ _, hb1⟩
set_option maxRecDepth 100000 in
set_option maxHeartbeats 8000000 in
theorem rpunch_any (l : List Ent) (hf : fitE l) (hl : l.length ≤ 200) (a n : Int) (ha : I64 a) (hn : I64 n) (v : Value) (w : World) (hv : EntsIn v l w) :
    Calls Try.prog 29 #[v, .int .i64 a, .int .i64 n] w fun e w' => ∃ vo vf, e = .returned (.tuple #[vo, vf, .int .i64 (punE l a n)]) ∧ ExtsAt w.heap.size vo (punO l a n) w' ∧ RunsAt w.heap.size vf (punF l a n) w' ∧ Below w.heap.size w w' := by
  have C := fun w hv => xrcheck_any l hf (by omega) v w hv
  have HV := Lib.hid hv
  obtain ⟨ha1, ha2⟩ := ha
  obtain ⟨hn1, hn2⟩ := hn
  by_cases h1 : RowOk true l
  · rw [decide_eq_true h1] at C
    have C := Lib.hid C
    have NO : Hid (¬ (0 ≤ a ∧ 0 ≤ n ∧ a ≤ 2048 ∧ n ≤ 2048 - a) → punO l a n = [] ∧ punF l a n = [] ∧ punE l a n = 2) := Lib.hid fun h => pun_no fun k => h k.2
    by_cases c1 : a < 0
    · have d1 : decide (a < 0) = true := decide_eq_true c1
      have HN := Lib.hid (NO.out (by omega))
      clear NO
      rw [HN.out.1, HN.out.2.1, HN.out.2.2]
      obtain ⟨ad, cap, rfl, -⟩ := entsIn_cells hv
      go_enter Try.func29, Try.ntmps29
      go_wp2_with fail
      refine (C.out _ HV.out).mono ?_; rintro e w1 ⟨rfl, b1⟩
      go_wp2
      go_ret3
      exact ⟨_, _, rfl, World.ownsRow_nil _ _ _ _, World.ownsRow_nil _ _ _ _, b1⟩
    have d1 : decide (a < 0) = false := decide_eq_false c1
    by_cases c2 : n < 0
    · have d2 : decide (n < 0) = true := decide_eq_true c2
      have HN := Lib.hid (NO.out (by omega))
      clear NO
      rw [HN.out.1, HN.out.2.1, HN.out.2.2]
      obtain ⟨ad, cap, rfl, -⟩ := entsIn_cells hv
      go_enter Try.func29, Try.ntmps29
      go_wp2_with fail
      refine (C.out _ HV.out).mono ?_; rintro e w1 ⟨rfl, b1⟩
      go_wp2
      go_ret3
      exact ⟨_, _, rfl, World.ownsRow_nil _ _ _ _, World.ownsRow_nil _ _ _ _, b1⟩
    have d2 : decide (n < 0) = false := decide_eq_false c2
    by_cases c3 : 2048 < a
    · have d3 : decide (2048 < a) = true := decide_eq_true c3
      have HN := Lib.hid (NO.out (by omega))
      clear NO
      rw [HN.out.1, HN.out.2.1, HN.out.2.2]
      obtain ⟨ad, cap, rfl, -⟩ := entsIn_cells hv
      go_enter Try.func29, Try.ntmps29
      go_wp2_with fail
      refine (C.out _ HV.out).mono ?_; rintro e w1 ⟨rfl, b1⟩
      go_wp2
      go_ret3
      exact ⟨_, _, rfl, World.ownsRow_nil _ _ _ _, World.ownsRow_nil _ _ _ _, b1⟩
    have d3 : decide (2048 < a) = false := decide_eq_false c3
    by_cases c4 : 2048 - a < n
    · have d4 : decide (2048 - a < n) = true := decide_eq_true c4
      have HN := Lib.hid (NO.out (by omega))
      clear NO
      rw [HN.out.1, HN.out.2.1, HN.out.2.2]
      obtain ⟨ad, cap, rfl, -⟩ := entsIn_cells hv
      go_enter Try.func29, Try.ntmps29
      go_wp2_with fail
      refine (C.out _ HV.out).mono ?_; rintro e w1 ⟨rfl, b1⟩
      go_wp2
      go_ret3
      exact ⟨_, _, rfl, World.ownsRow_nil _ _ _ _, World.ownsRow_nil _ _ _ _, b1⟩
    have d4 : decide (2048 - a < n) = false := decide_eq_false c4
    obtain ⟨e1, e2, e3⟩ := pun_yes (l := l) (a := a) (n := n) ⟨h1, by omega, by omega, by omega, by omega⟩
    rw [e1, e2, e3]
    clear e1 e2 e3 NO
    have hr := (row_rise l).1 h1
    by_cases c5 : n = 0
    · have d5 : (n == 0) = true := by rw [beq_iff_eq]; exact c5
      unfold punX
      rw [if_pos c5, freed_self]
      clear h1 hr c5
      obtain ⟨ad, cap, rfl, -⟩ := entsIn_cells hv
      go_enter Try.func29, Try.ntmps29
      go_wp2_with fail
      refine (C.out _ HV.out).mono ?_; rintro e w1 ⟨rfl, b1⟩
      have HV := Lib.hid (HV.out.kept b1)
      have hs := b1.size
      clear C
      go_wp2_with (at_builtin; refine wpList_appE rfl _ _ 22 37 rfl Try.underlying22 ext_info w.heap.size _ [] rfl (World.ownsRow_nil _ _ _ _) _ l rfl HV.out (by simp; omega) hs ?_)
      intro v3 w3 h3 g3
      have b3 := b1.trans (below_of_row (World.ownsRow_nil w1 w.heap.size 37 3) g3 hs)
      have h3 : ExtsAt w.heap.size v3 l w3 := by simpa using h3
      have h3 := Lib.hid h3
      go_wp2
      go_ret3
      exact ⟨_, _, rfl, h3.out, World.ownsRow_nil _ _ _ _, b3⟩
    · have d5 : (n == 0) = false := by rw [beq_eq_false_iff_ne]; exact c5
      unfold punX
      rw [if_neg c5]
      have hsum : a + n ≤ 2048 := by omega
      have hwr : IntKind.i64.wrap (a + n) = a + n := IntWalk.i64_in _ (by omega)
      have hp := punch_rise hr (a := a) (b := a + n) (by omega) (by omega)
      have CH := Lib.hid fun v W hv => rchange_any l hr hl a (a + n) ⟨by omega, by omega⟩ ⟨by omega, by omega⟩ [] (by simp) hp v (.slice none 0 0) W hv (ents_nil W)
      generalize change l a (a + n) [] = O at *
      generalize freedX l O = F at *
      clear h1 hr hp c5
      obtain ⟨ad, cap, rfl, -⟩ := entsIn_cells hv
      go_enter Try.func29, Try.ntmps29
      go_wp2_with fail
      refine (C.out _ HV.out).mono ?_; rintro e w1 ⟨rfl, b1⟩
      have HV := Lib.hid (HV.out.kept b1)
      have hs := b1.size
      clear C
      go_wp2_with fail
      refine (CH.out _ _ HV.out).mono ?_; rintro e w3 ⟨vo, vf, rfl, r1, r2, b3⟩
      have R1 := Lib.hid (row_down hs r1)
      have R2 := Lib.hid (row_down hs r2)
      clear r1 r2
      go_wp2
      go_ret3
      exact ⟨_, _, rfl, R1.out, R2.out, bnext b1 b3⟩
  · rw [decide_eq_false h1] at C
    have C := Lib.hid C
    have NO : Hid (0 = 0 → punO l a n = [] ∧ punF l a n = [] ∧ punE l a n = 2) := Lib.hid fun _ => pun_no fun k => h1 k.1
    have HN := Lib.hid (NO.out (by omega))
    clear NO
    rw [HN.out.1, HN.out.2.1, HN.out.2.2]
    obtain ⟨ad, cap, rfl, -⟩ := entsIn_cells hv
    go_enter Try.func29, Try.ntmps29
    go_wp2_with fail
    refine (C.out _ HV.out).mono ?_; rintro e w1 ⟨rfl, b1⟩
    go_wp2
    go_ret3
    exact ⟨_, _, rfl, World.ownsRow_nil _ _ _ _, World.ownsRow_nil _ _ _ _, b1⟩
theorem cut_low {l : List Ent} (h : Rise 0 l) (a : Int) : change l a 2048 [] = cutX l a := by
  rw [cutX_is h]
  unfold change
  rw [keep_empty l (c := 2048) (d := 2048) (by omega)]; simp
set_option maxRecDepth 100000 in
set_option maxHeartbeats 8000000 in
theorem rcut_any (l : List Ent) (hf : fitE l) (hl : l.length ≤ 200) (a : Int) (ha : I64 a) (v : Value) (w : World) (hv : EntsIn v l w) :
    Calls Try.prog 31 #[v, .int .i64 a] w fun e w' => ∃ vo vf, e = .returned (.tuple #[vo, vf, .int .i64 (cutE l a)]) ∧ ExtsAt w.heap.size vo (cutO l a) w' ∧ RunsAt w.heap.size vf (cutF l a) w' ∧ Below w.heap.size w w' := by
  have C := fun w hv => xrcheck_any l hf (by omega) v w hv
  have HV := Lib.hid hv
  have hai := ha
  obtain ⟨ha1, ha2⟩ := ha
  by_cases h1 : RowOk true l
  · rw [decide_eq_true h1] at C
    have C := Lib.hid C
    by_cases c1 : a < 0
    · have d1 : decide (a < 0) = true := decide_eq_true c1
      obtain ⟨e1, e2, e3⟩ := cut_no (l := l) (f := a) fun h => by have := h.2; omega
      rw [e1, e2, e3]
      clear e1 e2 e3
      obtain ⟨ad, cap, rfl, -⟩ := entsIn_cells hv
      go_enter Try.func31, Try.ntmps31
      go_wp2_with fail
      refine (C.out _ HV.out).mono ?_; rintro e w1 ⟨rfl, b1⟩
      go_wp2
      go_ret3
      exact ⟨_, _, rfl, World.ownsRow_nil _ _ _ _, World.ownsRow_nil _ _ _ _, b1⟩
    · have d1 : decide (a < 0) = false := decide_eq_false c1
      obtain ⟨e1, e2, e3⟩ := cut_yes (l := l) (f := a) ⟨h1, by omega⟩
      rw [e1, e2, e3]
      clear e1 e2 e3
      have hr := (row_rise l).1 h1
      obtain ⟨q1, q2⟩ := lowC_ok (f := a) (by omega)
      have hp : Rise 0 (change l a 2048 []) := by rw [cut_low hr]; exact punch_rise hr q1 q2
      have CH := fun v W hv => rchange_any l hr hl a 2048 hai ⟨by omega, by omega⟩ [] (by simp) hp v (.slice none 0 0) W hv (ents_nil W)
      rw [cut_low hr] at CH
      have CH := Lib.hid CH
      generalize cutX l a = O at *
      generalize freedX l O = F at *
      clear h1 hr hp q1 q2 c1
      obtain ⟨ad, cap, rfl, -⟩ := entsIn_cells hv
      go_enter Try.func31, Try.ntmps31
      go_wp2_with fail
      refine (C.out _ HV.out).mono ?_; rintro e w1 ⟨rfl, b1⟩
      have HV := Lib.hid (HV.out.kept b1)
      have hs := b1.size
      clear C
      go_wp2_with fail
      refine (CH.out _ _ HV.out).mono ?_; rintro e w3 ⟨vo, vf, rfl, r1, r2, b3⟩
      have R1 := Lib.hid (row_down hs r1)
      have R2 := Lib.hid (row_down hs r2)
      clear r1 r2
      go_wp2
      go_ret3
      exact ⟨_, _, rfl, R1.out, R2.out, bnext b1 b3⟩
  · rw [decide_eq_false h1] at C
    have C := Lib.hid C
    obtain ⟨e1, e2, e3⟩ := cut_no (l := l) (f := a) fun h => h1 h.1
    rw [e1, e2, e3]
    clear e1 e2 e3
    obtain ⟨ad, cap, rfl, -⟩ := entsIn_cells hv
    go_enter Try.func31, Try.ntmps31
    go_wp2_with fail
    refine (C.out _ HV.out).mono ?_; rintro e w1 ⟨rfl, b1⟩
    go_wp2
    go_ret3
    exact ⟨_, _, rfl, World.ownsRow_nil _ _ _ _, World.ownsRow_nil _ _ _ _, b1⟩
end Go.Proofs.Ytgcbfiecgiijkaa
