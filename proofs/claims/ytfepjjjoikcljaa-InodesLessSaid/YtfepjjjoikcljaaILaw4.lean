/- The walk of InodesLess. -/
import Derived.Test.YtfepjjjoikcljaaIAlive
namespace Go.Proofs.Ytfepjjjoikcljaa
set_option linter.unusedVariables false
open Go.RowKit

theorem ents_take {g o j cap : Nat} {l : List Ent} {w : World} (hl : l.length = j + 1) (h : RowIn 3 (.slice (some ⟨g, o, none⟩) (j + 1) cap) (j + 1) (cellsE l) w) : EntsIn (.slice (some ⟨g, o, none⟩) j cap) (l.take j) w := by
  obtain ⟨h0, ad, cap', e, h1, h2, h3, h4⟩ := h
  cases e
  have ht : (l.take j).length = j := by rw [List.length_take]; omega
  refine ⟨by rw [cellsE_length], some ⟨g, o, none⟩, cap, by rw [ht], by rw [ht]; omega, h2, fun hp => ?_, fun h => by cases h⟩
  obtain ⟨g', o', e, hg, hc⟩ := h3 (by rw [cellsE_length]; omega)
  cases e
  refine ⟨g, o, rfl, hg, fun k u hk => hc k u ?_⟩
  have e : cellsE l = cellsE (l.take j) ++ cellsE (l.drop j) := by rw [← cellsE_append, List.take_append_drop]
  rw [e, List.getElem?_append_left (List.getElem?_eq_some_iff.1 hk).1]
  exact hk
set_option maxRecDepth 100000 in
set_option maxHeartbeats 8000000 in
theorem iless_walk (x : Ino) (hf : fitE x.root) (links size : Int) (v : Value) (w : World) (hv : EntsIn v x.root w) :
    Calls Try.prog 6 #[inoV x v, .int .i64 links, .int .i64 size] w fun e w' => e = .returned (.bool true) ∧ Below w.heap.size w w' := by
  have mixed : Try.prog.follows .mixedOrders = true := by kernel_rfl
  have hb0 := balloc1 w (.cells (inoC x v) 24)
  have AL := Lib.hid ialive_any
  have C := fun v w hv => icheck_any x hf v w hv
  obtain ⟨ad, cap, rfl, c1, c2, c3, -⟩ := entsIn_cells hv
  have hv0 := hv.kept hb0
  have hX0 : InoAt w.heap.size x (.slice ad x.root.length cap) (w.alloc (.cells (inoC x (.slice ad x.root.length cap)) 24)) := Blk.new _ _ w
  by_cases hl : x.root.length ≤ 1000
  · have dl : decide ((1000 : Int) < (x.root.length : Int)) = false := decide_eq_false (by omega)
    by_cases hok : InoOk x
    · rw [decide_eq_true hok] at C
      by_cases hk : x.kind = 0
      · have ek : (x.kind == 0) = true := by rw [beq_iff_eq]; exact hk
        obtain ⟨kd, pn, lk, sz, dp, rt⟩ := x
        try dsimp only at *
        have C := Lib.hid C
        have HV0 := Lib.hid hv0
        have HX0 := Lib.hid hX0
        clear hok hk hf hv hl hv0 hX0 c3
        go_enter Try.func6, Try.ntmps6
        go_wp2_with fail
        refine (C.out _ _ HV0.out).mono ?_; rintro e w1 ⟨rfl, b1⟩
        have HB := bnext hb0 b1
        obtain ⟨x0, x1, x2, x3, x4, x5⟩ := InoAt.cells (HX0.out.kept1 b1)
        try dsimp only at *
        clear HX0 HV0 b1 hb0
        go_wp2_with fail
        refine (AL.out _).mono ?_; rintro e w6 ⟨rfl, b6⟩
        have HB6 := bnext HB b6
        go_wp2
        go_ret
        exact ⟨rfl, HB6⟩
      · have ek : (x.kind == 0) = false := by rw [beq_eq_false_iff_ne]; exact hk
        have hfull := (ok_kindN hk).1 hok
        have CL := fun v w hv => icheck_any { x with links := links, pinned := !x.pinned, kind := 3 - x.kind } hf v w hv
        have CS := fun v w hv => icheck_any { x with size := size, pinned := !x.pinned, kind := 3 - x.kind } hf v w hv
        have eL : decide (InoOk { x with links := links, pinned := !x.pinned, kind := 3 - x.kind }) = decide (0 ≤ links ∧ links ≤ 100) := by rw [decide_eq_decide]; exact less_links hfull _ _
        have eS : decide (InoOk { x with size := size, pinned := !x.pinned, kind := 3 - x.kind }) = decide (0 ≤ size ∧ size ≤ 262144) := by rw [decide_eq_decide]; exact less_size hfull _ _
        have CL : ∀ v w, EntsIn v x.root w → _ := CL
        have CS : ∀ v w, EntsIn v x.root w → _ := CS
        rw [eL] at CL
        rw [eS] at CS
        have hkr : 1 ≤ x.kind ∧ x.kind ≤ 2 := by have := hfull.1; omega
        have TAKE : ∀ j, x.root.length = j + 1 → ∀ v w, EntsIn v (x.root.take j) w → Calls Try.prog 11 #[inoV { x with root := x.root.take j } v] w fun e w' => e = .returned (.bool (decide (0 < j) || decide (x.depth = 0))) ∧ Below w.heap.size w w' := fun j hj v w hv => by
          have := icheck_any { x with root := x.root.take j } (fun e he => hf e (List.mem_of_mem_take he)) v w hv
          have e : decide (InoOk { x with root := x.root.take j }) = (decide (0 < j) || decide (x.depth = 0)) := by
            have hsp : x.root = x.root.take j ++ [x.root[j]'(by omega)] := by
              conv => lhs; rw [← List.take_append_drop j x.root, List.drop_eq_getElem_cons (show j < x.root.length by omega), List.drop_of_length_le (show x.root.length ≤ j + 1 by omega)]
            have k := less_iff hfull hsp
            have ht : (x.root.take j).length = j := by rw [List.length_take]; omega
            rw [ht] at k
            rw [← Bool.decide_or, decide_eq_decide]; exact k
          rw [e] at this; exact this
        obtain ⟨kd, pn, lk, sz, dp, rt⟩ := x
        try dsimp only at *
        obtain ⟨n, hn⟩ : ∃ n, rt.length = n := ⟨_, rfl⟩
        have HN := Lib.hid hn
        unfold EntsIn at C CL CS hv
        rw [hn] at C CL CS c1 dl c3 hl hv hv0 hX0 hb0 ⊢
        have C := Lib.hid C
        have CL := Lib.hid CL
        have CS := Lib.hid CS
        have HV := Lib.hid hv
        have HV0 := Lib.hid hv0
        have HX0 := Lib.hid hX0
        have HT := Lib.hid TAKE
        have H3 := Lib.hid c3
        clear hok hk hf hv hv0 hX0 c3 TAKE hfull eL eS hn
        go_enter Try.func6, Try.ntmps6
        go_wp2_with fail
        refine (C.out _ _ HV0.out).mono ?_; rintro e w1 ⟨rfl, b1⟩
        have HX1 := Lib.hid (HX0.out.kept1 b1)
        have HV1 := Lib.hid (HV0.out.kept b1)
        have HB1 := Lib.hid (bnext hb0 b1)
        clear HX0 HV0 hb0 b1 C
        obtain ⟨x0, x1, x2, x3, x4, x5⟩ := InoAt.cells HX1.out
        try dsimp only at *
        rcases Nat.eq_zero_or_pos n with h0 | h0
        · subst h0
          obtain ⟨w3, hw3⟩ : ∃ w3, w1.alloc (.cells #[.int .i64 kd, .bool pn, .int .i64 lk, .int .i64 sz, .int .i64 dp, .slice ad 0 cap] 24) = w3 := ⟨_, rfl⟩
          have b13 : Below w1.heap.size w1 w3 := by rw [← hw3]; exact balloc1 _ _
          have HX3 := HX1.out.kept1 b13
          have HV3 := HV1.out.kept b13
          have HB3 := bnext HB1.out b13
          obtain ⟨k0, k1, k2, k3, k4, k5⟩ := InoAt.cells HX3
          clear b13
          try dsimp only at *
          go_upto_region 8 with fail
          try rw [hw3]
          clear hw3
          clear x0 x1 x2 x3 x4 x5 k0 k1 k2 k3 k4 k5
          have HX3 := Lib.hid HX3
          have HB3 := Lib.hid HB3
          have HV3 := Lib.hid HV3
          obtain ⟨x0, x1, x2, x3, x4, x5⟩ := InoAt.cells HX3.out
          obtain ⟨w5, hw5⟩ : ∃ w5, w3.alloc (.cells #[.int .i64 (3 - kd), .bool (!pn), .int .i64 links, .int .i64 sz, .int .i64 dp, .slice ad 0 cap] 24) = w5 := ⟨_, rfl⟩
          have b35 : Below w3.heap.size w3 w5 := by rw [← hw5]; exact balloc1 _ _
          have HZ5 := Lib.hid (show Blk w3.heap.size #[.int .i64 (3 - kd), .bool (!pn), .int .i64 links, .int .i64 sz, .int .i64 dp, .slice ad 0 cap] 24 w5 by rw [← hw5]; exact Blk.new _ _ w3)
          have HX5 := Lib.hid (HX3.out.kept1 b35)
          have HV5 := Lib.hid (HV3.out.kept b35)
          have HB5 := Lib.hid (bnext HB3.out b35)
          have a0 := fun o => (HX3.out.kept1 (balloc1 w3 o)).cell 0
          have a1 := fun o => (HX3.out.kept1 (balloc1 w3 o)).cell 1
          have hlt3 : w.heap.size < w3.heap.size := HX3.out.lt
          clear b35
          try dsimp only at *
          go_upto_region 12 with fail
          try rw [hw5]
          clear hw5 a0 a1
          clear x0 x1 x2 x3 x4 x5
          have hz := HZ5.out
          obtain ⟨z0, z1, z2, z3, z4, z5⟩ : w5.cell? ⟨w3.heap.size, 0, none⟩ = some (.int .i64 (3 - kd)) ∧ w5.cell? ⟨w3.heap.size, 1, none⟩ = some (.bool (!pn)) ∧ w5.cell? ⟨w3.heap.size, 2, none⟩ = some (.int .i64 links) ∧ w5.cell? ⟨w3.heap.size, 3, none⟩ = some (.int .i64 sz) ∧ w5.cell? ⟨w3.heap.size, 4, none⟩ = some (.int .i64 dp) ∧ w5.cell? ⟨w3.heap.size, 5, none⟩ = some (.slice ad 0 cap) := ⟨hz.cell 0, hz.cell 1, hz.cell 2, hz.cell 3, hz.cell 4, hz.cell 5⟩
          clear hz
          go_wp2_with fail
          refine (CL.out _ _ HV5.out).mono ?_; rintro e w6 ⟨rfl, b6⟩
          clear z0 z1 z2 z3 z4 z5
          have HX6 := Lib.hid (HX5.out.kept1 b6)
          have HZ6 := Lib.hid (HZ5.out.kept1 b6)
          have HV6 := Lib.hid (HV5.out.kept b6)
          have HB6 := Lib.hid (bnext HB5.out b6)
          clear HX5 HZ5 HV5 HB5 b6
          have x2 := HX6.out.cell 2
          obtain ⟨w7, hw7⟩ : ∃ w7, (w6.setCell ⟨w3.heap.size, 2, none⟩ (.int .i64 lk)).setCell ⟨w3.heap.size, 3, none⟩ (.int .i64 size) = w7 := ⟨_, rfl⟩
          have HZ7 := Lib.hid (show Blk w3.heap.size #[.int .i64 (3 - kd), .bool (!pn), .int .i64 lk, .int .i64 size, .int .i64 dp, .slice ad 0 cap] 24 w7 by
            rw [← hw7]
            have := (HZ6.out.set 2 (.int .i64 lk)).set 3 (.int .i64 size)
            simpa using this)
          have hwB : Below w3.heap.size w6 w7 := by rw [← hw7]; exact ((Below.refl _ _).setCell (p := ⟨w3.heap.size, 2, none⟩) (Nat.le_refl _) _).setCell (p := ⟨w3.heap.size, 3, none⟩) (Nat.le_refl _) _
          have HB7 := Lib.hid (HB6.out.trans (hwB.mono (by omega)))
          have HV7 := Lib.hid (HV.out.kept HB7.out)
          have hz := HZ6.out
          obtain ⟨z0, z1, z2, z3, z4, z5⟩ : w6.cell? ⟨w3.heap.size, 0, none⟩ = some (.int .i64 (3 - kd)) ∧ w6.cell? ⟨w3.heap.size, 1, none⟩ = some (.bool (!pn)) ∧ w6.cell? ⟨w3.heap.size, 2, none⟩ = some (.int .i64 links) ∧ w6.cell? ⟨w3.heap.size, 3, none⟩ = some (.int .i64 sz) ∧ w6.cell? ⟨w3.heap.size, 4, none⟩ = some (.int .i64 dp) ∧ w6.cell? ⟨w3.heap.size, 5, none⟩ = some (.slice ad 0 cap) := ⟨hz.cell 0, hz.cell 1, hz.cell 2, hz.cell 3, hz.cell 4, hz.cell 5⟩
          have fz := fun j => hz.frozen j
          have hz := HZ7.out
          obtain ⟨t0, t1, t2, t3, t4, t5⟩ : w7.cell? ⟨w3.heap.size, 0, none⟩ = some (.int .i64 (3 - kd)) ∧ w7.cell? ⟨w3.heap.size, 1, none⟩ = some (.bool (!pn)) ∧ w7.cell? ⟨w3.heap.size, 2, none⟩ = some (.int .i64 lk) ∧ w7.cell? ⟨w3.heap.size, 3, none⟩ = some (.int .i64 size) ∧ w7.cell? ⟨w3.heap.size, 4, none⟩ = some (.int .i64 dp) ∧ w7.cell? ⟨w3.heap.size, 5, none⟩ = some (.slice ad 0 cap) := ⟨hz.cell 0, hz.cell 1, hz.cell 2, hz.cell 3, hz.cell 4, hz.cell 5⟩
          clear hz hwB HZ7 HZ6 HX6 HV6
          by_cases s1 : 0 ≤ links
          · have r1 : decide (0 ≤ links) = true := decide_eq_true s1
            by_cases s2 : links ≤ 100
            · have r2 : decide (links ≤ 100) = true := decide_eq_true s2
              have r3 : decide (0 ≤ links ∧ links ≤ 100) = true := decide_eq_true ⟨s1, s2⟩
              clear s1 s2
              go_upto_region 16 with fail
              try rw [hw7]
              clear hw7 z0 z1 z2 z3 z4 z5 fz
              go_wp2_with fail
              refine (CS.out _ _ HV7.out).mono ?_; rintro e w8 ⟨rfl, b8⟩
              have HB := bnext HB7.out b8
              clear t0 t1 t2 t3 t4 t5 HV7 HB7 b8
              by_cases s1 : 0 ≤ size
              · have q1 : decide (0 ≤ size) = true := decide_eq_true s1
                by_cases s2 : size ≤ 262144
                · have q2 : decide (size ≤ 262144) = true := decide_eq_true s2
                  have q3 : decide (0 ≤ size ∧ size ≤ 262144) = true := decide_eq_true ⟨s1, s2⟩
                  clear s1 s2
                  go_wp2_with fail
                  refine (AL.out _).mono ?_; rintro e w6 ⟨rfl, b6⟩
                  have HB6 := bnext HB b6
                  go_wp2
                  go_ret
                  exact ⟨rfl, HB6⟩
                · have q2 : decide (size ≤ 262144) = false := decide_eq_false s2
                  have q3 : decide (0 ≤ size ∧ size ≤ 262144) = false := decide_eq_false fun h => s2 h.2
                  clear s1 s2
                  go_wp2_with fail
                  refine (AL.out _).mono ?_; rintro e w6 ⟨rfl, b6⟩
                  have HB6 := bnext HB b6
                  go_wp2
                  go_ret
                  exact ⟨rfl, HB6⟩
              · have q1 : decide (0 ≤ size) = false := decide_eq_false s1
                have q3 : decide (0 ≤ size ∧ size ≤ 262144) = false := decide_eq_false fun h => s1 h.1
                clear s1
                go_wp2_with fail
                refine (AL.out _).mono ?_; rintro e w6 ⟨rfl, b6⟩
                have HB6 := bnext HB b6
                go_wp2
                go_ret
                exact ⟨rfl, HB6⟩
            · have r2 : decide (links ≤ 100) = false := decide_eq_false s2
              have r3 : decide (0 ≤ links ∧ links ≤ 100) = false := decide_eq_false fun h => s2 h.2
              clear s1 s2
              go_upto_region 16 with fail
              try rw [hw7]
              clear hw7 z0 z1 z2 z3 z4 z5 fz
              go_wp2_with fail
              refine (CS.out _ _ HV7.out).mono ?_; rintro e w8 ⟨rfl, b8⟩
              have HB := bnext HB7.out b8
              clear t0 t1 t2 t3 t4 t5 HV7 HB7 b8
              by_cases s1 : 0 ≤ size
              · have q1 : decide (0 ≤ size) = true := decide_eq_true s1
                by_cases s2 : size ≤ 262144
                · have q2 : decide (size ≤ 262144) = true := decide_eq_true s2
                  have q3 : decide (0 ≤ size ∧ size ≤ 262144) = true := decide_eq_true ⟨s1, s2⟩
                  clear s1 s2
                  go_wp2_with fail
                  refine (AL.out _).mono ?_; rintro e w6 ⟨rfl, b6⟩
                  have HB6 := bnext HB b6
                  go_wp2
                  go_ret
                  exact ⟨rfl, HB6⟩
                · have q2 : decide (size ≤ 262144) = false := decide_eq_false s2
                  have q3 : decide (0 ≤ size ∧ size ≤ 262144) = false := decide_eq_false fun h => s2 h.2
                  clear s1 s2
                  go_wp2_with fail
                  refine (AL.out _).mono ?_; rintro e w6 ⟨rfl, b6⟩
                  have HB6 := bnext HB b6
                  go_wp2
                  go_ret
                  exact ⟨rfl, HB6⟩
              · have q1 : decide (0 ≤ size) = false := decide_eq_false s1
                have q3 : decide (0 ≤ size ∧ size ≤ 262144) = false := decide_eq_false fun h => s1 h.1
                clear s1
                go_wp2_with fail
                refine (AL.out _).mono ?_; rintro e w6 ⟨rfl, b6⟩
                have HB6 := bnext HB b6
                go_wp2
                go_ret
                exact ⟨rfl, HB6⟩
          · have r1 : decide (0 ≤ links) = false := decide_eq_false s1
            have r3 : decide (0 ≤ links ∧ links ≤ 100) = false := decide_eq_false fun h => s1 h.1
            clear s1
            go_upto_region 16 with fail
            try rw [hw7]
            clear hw7 z0 z1 z2 z3 z4 z5 fz
            go_wp2_with fail
            refine (CS.out _ _ HV7.out).mono ?_; rintro e w8 ⟨rfl, b8⟩
            have HB := bnext HB7.out b8
            clear t0 t1 t2 t3 t4 t5 HV7 HB7 b8
            by_cases s1 : 0 ≤ size
            · have q1 : decide (0 ≤ size) = true := decide_eq_true s1
              by_cases s2 : size ≤ 262144
              · have q2 : decide (size ≤ 262144) = true := decide_eq_true s2
                have q3 : decide (0 ≤ size ∧ size ≤ 262144) = true := decide_eq_true ⟨s1, s2⟩
                clear s1 s2
                go_wp2_with fail
                refine (AL.out _).mono ?_; rintro e w6 ⟨rfl, b6⟩
                have HB6 := bnext HB b6
                go_wp2
                go_ret
                exact ⟨rfl, HB6⟩
              · have q2 : decide (size ≤ 262144) = false := decide_eq_false s2
                have q3 : decide (0 ≤ size ∧ size ≤ 262144) = false := decide_eq_false fun h => s2 h.2
                clear s1 s2
                go_wp2_with fail
                refine (AL.out _).mono ?_; rintro e w6 ⟨rfl, b6⟩
                have HB6 := bnext HB b6
                go_wp2
                go_ret
                exact ⟨rfl, HB6⟩
            · have q1 : decide (0 ≤ size) = false := decide_eq_false s1
              have q3 : decide (0 ≤ size ∧ size ≤ 262144) = false := decide_eq_false fun h => s1 h.1
              clear s1
              go_wp2_with fail
              refine (AL.out _).mono ?_; rintro e w6 ⟨rfl, b6⟩
              have HB6 := bnext HB b6
              go_wp2
              go_ret
              exact ⟨rfl, HB6⟩
        · obtain ⟨j, rfl⟩ : ∃ j, n = j + 1 := ⟨n - 1, by omega⟩
          obtain ⟨g, o, rfl, hg, -⟩ := H3.out (by omega)
          obtain ⟨w2, hw2⟩ : ∃ w2, w1.alloc (.cells #[.int .i64 kd, .bool pn, .int .i64 lk, .int .i64 sz, .int .i64 dp, .slice (some ⟨g, o, none⟩) j cap] 24) = w2 := ⟨_, rfl⟩
          have b12 : Below w1.heap.size w1 w2 := by rw [← hw2]; exact balloc1 _ _
          have HY2 := Lib.hid (show Blk w1.heap.size #[.int .i64 kd, .bool pn, .int .i64 lk, .int .i64 sz, .int .i64 dp, .slice (some ⟨g, o, none⟩) j cap] 24 w2 by rw [← hw2]; exact Blk.new _ _ w1)
          have HX2 := Lib.hid (HX1.out.kept1 b12)
          have HV2 := Lib.hid (HV1.out.kept b12)
          have HB2 := Lib.hid (bnext HB1.out b12)
          have TK := Lib.hid (HT.out j HN.out _ w2 (ents_take HN.out HV2.out))
          have a5 := fun o => (HX1.out.kept1 (balloc1 w1 o)).cell 5
          have hlt1 : w.heap.size < w1.heap.size := HX1.out.lt
          clear b12
          try dsimp only at *
          go_upto_region 6 with fail
          try rw [hw2]
          clear hw2 a5 x0 x1 x2 x3 x4 x5
          have hy := fun p : BelowP w2 => HY2.out.kept1 p.h
          have k0 : ∀ p : BelowP w2, p.to.cell? ⟨w1.heap.size, 0, none⟩ = some (.int .i64 kd) := fun p => (hy p).cell 0
          have k1 : ∀ p : BelowP w2, p.to.cell? ⟨w1.heap.size, 1, none⟩ = some (.bool pn) := fun p => (hy p).cell 1
          have k2 : ∀ p : BelowP w2, p.to.cell? ⟨w1.heap.size, 2, none⟩ = some (.int .i64 lk) := fun p => (hy p).cell 2
          have k3 : ∀ p : BelowP w2, p.to.cell? ⟨w1.heap.size, 3, none⟩ = some (.int .i64 sz) := fun p => (hy p).cell 3
          have k4 : ∀ p : BelowP w2, p.to.cell? ⟨w1.heap.size, 4, none⟩ = some (.int .i64 dp) := fun p => (hy p).cell 4
          have k5 : ∀ p : BelowP w2, p.to.cell? ⟨w1.heap.size, 5, none⟩ = some (.slice (some ⟨g, o, none⟩) j cap) := fun p => (hy p).cell 5
          have e4 : ∀ p : BelowP w2, p.to.cell? ⟨w.heap.size, 4, none⟩ = some (.int .i64 dp) := fun p => (HX2.out.kept1 p.h).cell 4
          clear hy
          have TKB := Lib.hid fun p : BelowP w2 => HT.out j HN.out _ p.to ((ents_take HN.out HV2.out).kept p.h)
          by_cases hd : dp = 0
          · have ed : (dp == 0) = true := by rw [beq_iff_eq]; exact hd
            have ed2 : decide (dp = 0) = true := decide_eq_true hd
            rcases Nat.eq_zero_or_pos j with hj | hj
            · have ej : decide (0 < j) = false := decide_eq_false (by omega)
              have ej2 : decide ((0 : Int) < (j : Int)) = false := decide_eq_false (by omega)
              clear hd hj
              refine wp_region_quiet_below mixed (by kernel_rfl) ?_
              repeat (go_big_quiet_step (first | (go_at_call 11; refine calls_below (TKB.out _))))
              refine wpQuiet_nil ?_
              intro w0q hw'
              obtain ⟨⟨wq, bq⟩, hw''⟩ := hw'
              have hw2 : wq = w0q := hw''.symm
              clear hw''
              subst hw2
              have HX3 := HX2.out.kept1 bq
              have HV3 := HV2.out.kept bq
              have HB3 := bnext HB2.out bq
              clear k0 k1 k2 k3 k4 k5 e4 TKB bq HX2 HV2 HB2 HX1 HV1 HB1 TK HY2 ed ed2 hlt1
              obtain ⟨w3, rfl⟩ : ∃ w3, w3 = wq := ⟨_, rfl⟩
              go_upto_region 8 with fail
              have HX3 := Lib.hid HX3
              have HB3 := Lib.hid HB3
              have HV3 := Lib.hid HV3
              obtain ⟨x0, x1, x2, x3, x4, x5⟩ := InoAt.cells HX3.out
              obtain ⟨w5, hw5⟩ : ∃ w5, w3.alloc (.cells #[.int .i64 (3 - kd), .bool (!pn), .int .i64 links, .int .i64 sz, .int .i64 dp, .slice (some ⟨g, o, none⟩) (j + 1) cap] 24) = w5 := ⟨_, rfl⟩
              have b35 : Below w3.heap.size w3 w5 := by rw [← hw5]; exact balloc1 _ _
              have HZ5 := Lib.hid (show Blk w3.heap.size #[.int .i64 (3 - kd), .bool (!pn), .int .i64 links, .int .i64 sz, .int .i64 dp, .slice (some ⟨g, o, none⟩) (j + 1) cap] 24 w5 by rw [← hw5]; exact Blk.new _ _ w3)
              have HX5 := Lib.hid (HX3.out.kept1 b35)
              have HV5 := Lib.hid (HV3.out.kept b35)
              have HB5 := Lib.hid (bnext HB3.out b35)
              have a0 := fun o => (HX3.out.kept1 (balloc1 w3 o)).cell 0
              have a1 := fun o => (HX3.out.kept1 (balloc1 w3 o)).cell 1
              have hlt3 : w.heap.size < w3.heap.size := HX3.out.lt
              clear b35
              try dsimp only at *
              go_upto_region 12 with fail
              try rw [hw5]
              clear hw5 a0 a1
              clear x0 x1 x2 x3 x4 x5
              have hz := HZ5.out
              obtain ⟨z0, z1, z2, z3, z4, z5⟩ : w5.cell? ⟨w3.heap.size, 0, none⟩ = some (.int .i64 (3 - kd)) ∧ w5.cell? ⟨w3.heap.size, 1, none⟩ = some (.bool (!pn)) ∧ w5.cell? ⟨w3.heap.size, 2, none⟩ = some (.int .i64 links) ∧ w5.cell? ⟨w3.heap.size, 3, none⟩ = some (.int .i64 sz) ∧ w5.cell? ⟨w3.heap.size, 4, none⟩ = some (.int .i64 dp) ∧ w5.cell? ⟨w3.heap.size, 5, none⟩ = some (.slice (some ⟨g, o, none⟩) (j + 1) cap) := ⟨hz.cell 0, hz.cell 1, hz.cell 2, hz.cell 3, hz.cell 4, hz.cell 5⟩
              clear hz
              go_wp2_with fail
              refine (CL.out _ _ HV5.out).mono ?_; rintro e w6 ⟨rfl, b6⟩
              clear z0 z1 z2 z3 z4 z5
              have HX6 := Lib.hid (HX5.out.kept1 b6)
              have HZ6 := Lib.hid (HZ5.out.kept1 b6)
              have HV6 := Lib.hid (HV5.out.kept b6)
              have HB6 := Lib.hid (bnext HB5.out b6)
              clear HX5 HZ5 HV5 HB5 b6
              have x2 := HX6.out.cell 2
              obtain ⟨w7, hw7⟩ : ∃ w7, (w6.setCell ⟨w3.heap.size, 2, none⟩ (.int .i64 lk)).setCell ⟨w3.heap.size, 3, none⟩ (.int .i64 size) = w7 := ⟨_, rfl⟩
              have HZ7 := Lib.hid (show Blk w3.heap.size #[.int .i64 (3 - kd), .bool (!pn), .int .i64 lk, .int .i64 size, .int .i64 dp, .slice (some ⟨g, o, none⟩) (j + 1) cap] 24 w7 by
                rw [← hw7]
                have := (HZ6.out.set 2 (.int .i64 lk)).set 3 (.int .i64 size)
                simpa using this)
              have hwB : Below w3.heap.size w6 w7 := by rw [← hw7]; exact ((Below.refl _ _).setCell (p := ⟨w3.heap.size, 2, none⟩) (Nat.le_refl _) _).setCell (p := ⟨w3.heap.size, 3, none⟩) (Nat.le_refl _) _
              have HB7 := Lib.hid (HB6.out.trans (hwB.mono (by omega)))
              have HV7 := Lib.hid (HV.out.kept HB7.out)
              have hz := HZ6.out
              obtain ⟨z0, z1, z2, z3, z4, z5⟩ : w6.cell? ⟨w3.heap.size, 0, none⟩ = some (.int .i64 (3 - kd)) ∧ w6.cell? ⟨w3.heap.size, 1, none⟩ = some (.bool (!pn)) ∧ w6.cell? ⟨w3.heap.size, 2, none⟩ = some (.int .i64 links) ∧ w6.cell? ⟨w3.heap.size, 3, none⟩ = some (.int .i64 sz) ∧ w6.cell? ⟨w3.heap.size, 4, none⟩ = some (.int .i64 dp) ∧ w6.cell? ⟨w3.heap.size, 5, none⟩ = some (.slice (some ⟨g, o, none⟩) (j + 1) cap) := ⟨hz.cell 0, hz.cell 1, hz.cell 2, hz.cell 3, hz.cell 4, hz.cell 5⟩
              have fz := fun j => hz.frozen j
              have hz := HZ7.out
              obtain ⟨t0, t1, t2, t3, t4, t5⟩ : w7.cell? ⟨w3.heap.size, 0, none⟩ = some (.int .i64 (3 - kd)) ∧ w7.cell? ⟨w3.heap.size, 1, none⟩ = some (.bool (!pn)) ∧ w7.cell? ⟨w3.heap.size, 2, none⟩ = some (.int .i64 lk) ∧ w7.cell? ⟨w3.heap.size, 3, none⟩ = some (.int .i64 size) ∧ w7.cell? ⟨w3.heap.size, 4, none⟩ = some (.int .i64 dp) ∧ w7.cell? ⟨w3.heap.size, 5, none⟩ = some (.slice (some ⟨g, o, none⟩) (j + 1) cap) := ⟨hz.cell 0, hz.cell 1, hz.cell 2, hz.cell 3, hz.cell 4, hz.cell 5⟩
              clear hz hwB HZ7 HZ6 HX6 HV6
              by_cases s1 : 0 ≤ links
              · have r1 : decide (0 ≤ links) = true := decide_eq_true s1
                by_cases s2 : links ≤ 100
                · have r2 : decide (links ≤ 100) = true := decide_eq_true s2
                  have r3 : decide (0 ≤ links ∧ links ≤ 100) = true := decide_eq_true ⟨s1, s2⟩
                  clear s1 s2
                  go_upto_region 16 with fail
                  try rw [hw7]
                  clear hw7 z0 z1 z2 z3 z4 z5 fz
                  go_wp2_with fail
                  refine (CS.out _ _ HV7.out).mono ?_; rintro e w8 ⟨rfl, b8⟩
                  have HB := bnext HB7.out b8
                  clear t0 t1 t2 t3 t4 t5 HV7 HB7 b8
                  by_cases s1 : 0 ≤ size
                  · have q1 : decide (0 ≤ size) = true := decide_eq_true s1
                    by_cases s2 : size ≤ 262144
                    · have q2 : decide (size ≤ 262144) = true := decide_eq_true s2
                      have q3 : decide (0 ≤ size ∧ size ≤ 262144) = true := decide_eq_true ⟨s1, s2⟩
                      clear s1 s2
                      go_wp2_with fail
                      refine (AL.out _).mono ?_; rintro e w6 ⟨rfl, b6⟩
                      have HB6 := bnext HB b6
                      go_wp2
                      go_ret
                      exact ⟨rfl, HB6⟩
                    · have q2 : decide (size ≤ 262144) = false := decide_eq_false s2
                      have q3 : decide (0 ≤ size ∧ size ≤ 262144) = false := decide_eq_false fun h => s2 h.2
                      clear s1 s2
                      go_wp2_with fail
                      refine (AL.out _).mono ?_; rintro e w6 ⟨rfl, b6⟩
                      have HB6 := bnext HB b6
                      go_wp2
                      go_ret
                      exact ⟨rfl, HB6⟩
                  · have q1 : decide (0 ≤ size) = false := decide_eq_false s1
                    have q3 : decide (0 ≤ size ∧ size ≤ 262144) = false := decide_eq_false fun h => s1 h.1
                    clear s1
                    go_wp2_with fail
                    refine (AL.out _).mono ?_; rintro e w6 ⟨rfl, b6⟩
                    have HB6 := bnext HB b6
                    go_wp2
                    go_ret
                    exact ⟨rfl, HB6⟩
                · have r2 : decide (links ≤ 100) = false := decide_eq_false s2
                  have r3 : decide (0 ≤ links ∧ links ≤ 100) = false := decide_eq_false fun h => s2 h.2
                  clear s1 s2
                  go_upto_region 16 with fail
                  try rw [hw7]
                  clear hw7 z0 z1 z2 z3 z4 z5 fz
                  go_wp2_with fail
                  refine (CS.out _ _ HV7.out).mono ?_; rintro e w8 ⟨rfl, b8⟩
                  have HB := bnext HB7.out b8
                  clear t0 t1 t2 t3 t4 t5 HV7 HB7 b8
                  by_cases s1 : 0 ≤ size
                  · have q1 : decide (0 ≤ size) = true := decide_eq_true s1
                    by_cases s2 : size ≤ 262144
                    · have q2 : decide (size ≤ 262144) = true := decide_eq_true s2
                      have q3 : decide (0 ≤ size ∧ size ≤ 262144) = true := decide_eq_true ⟨s1, s2⟩
                      clear s1 s2
                      go_wp2_with fail
                      refine (AL.out _).mono ?_; rintro e w6 ⟨rfl, b6⟩
                      have HB6 := bnext HB b6
                      go_wp2
                      go_ret
                      exact ⟨rfl, HB6⟩
                    · have q2 : decide (size ≤ 262144) = false := decide_eq_false s2
                      have q3 : decide (0 ≤ size ∧ size ≤ 262144) = false := decide_eq_false fun h => s2 h.2
                      clear s1 s2
                      go_wp2_with fail
                      refine (AL.out _).mono ?_; rintro e w6 ⟨rfl, b6⟩
                      have HB6 := bnext HB b6
                      go_wp2
                      go_ret
                      exact ⟨rfl, HB6⟩
                  · have q1 : decide (0 ≤ size) = false := decide_eq_false s1
                    have q3 : decide (0 ≤ size ∧ size ≤ 262144) = false := decide_eq_false fun h => s1 h.1
                    clear s1
                    go_wp2_with fail
                    refine (AL.out _).mono ?_; rintro e w6 ⟨rfl, b6⟩
                    have HB6 := bnext HB b6
                    go_wp2
                    go_ret
                    exact ⟨rfl, HB6⟩
              · have r1 : decide (0 ≤ links) = false := decide_eq_false s1
                have r3 : decide (0 ≤ links ∧ links ≤ 100) = false := decide_eq_false fun h => s1 h.1
                clear s1
                go_upto_region 16 with fail
                try rw [hw7]
                clear hw7 z0 z1 z2 z3 z4 z5 fz
                go_wp2_with fail
                refine (CS.out _ _ HV7.out).mono ?_; rintro e w8 ⟨rfl, b8⟩
                have HB := bnext HB7.out b8
                clear t0 t1 t2 t3 t4 t5 HV7 HB7 b8
                by_cases s1 : 0 ≤ size
                · have q1 : decide (0 ≤ size) = true := decide_eq_true s1
                  by_cases s2 : size ≤ 262144
                  · have q2 : decide (size ≤ 262144) = true := decide_eq_true s2
                    have q3 : decide (0 ≤ size ∧ size ≤ 262144) = true := decide_eq_true ⟨s1, s2⟩
                    clear s1 s2
                    go_wp2_with fail
                    refine (AL.out _).mono ?_; rintro e w6 ⟨rfl, b6⟩
                    have HB6 := bnext HB b6
                    go_wp2
                    go_ret
                    exact ⟨rfl, HB6⟩
                  · have q2 : decide (size ≤ 262144) = false := decide_eq_false s2
                    have q3 : decide (0 ≤ size ∧ size ≤ 262144) = false := decide_eq_false fun h => s2 h.2
                    clear s1 s2
                    go_wp2_with fail
                    refine (AL.out _).mono ?_; rintro e w6 ⟨rfl, b6⟩
                    have HB6 := bnext HB b6
                    go_wp2
                    go_ret
                    exact ⟨rfl, HB6⟩
                · have q1 : decide (0 ≤ size) = false := decide_eq_false s1
                  have q3 : decide (0 ≤ size ∧ size ≤ 262144) = false := decide_eq_false fun h => s1 h.1
                  clear s1
                  go_wp2_with fail
                  refine (AL.out _).mono ?_; rintro e w6 ⟨rfl, b6⟩
                  have HB6 := bnext HB b6
                  go_wp2
                  go_ret
                  exact ⟨rfl, HB6⟩
            · have ej : decide (0 < j) = true := decide_eq_true hj
              have ej2 : decide ((0 : Int) < (j : Int)) = true := decide_eq_true (by omega)
              clear hd hj
              refine wp_region_quiet_below mixed (by kernel_rfl) ?_
              repeat (go_big_quiet_step (first | (go_at_call 11; refine calls_below (TKB.out _))))
              refine wpQuiet_nil ?_
              intro w0q hw'
              obtain ⟨⟨wq, bq⟩, hw''⟩ := hw'
              have hw2 : wq = w0q := hw''.symm
              clear hw''
              subst hw2
              have HX3 := HX2.out.kept1 bq
              have HV3 := HV2.out.kept bq
              have HB3 := bnext HB2.out bq
              clear k0 k1 k2 k3 k4 k5 e4 TKB bq HX2 HV2 HB2 HX1 HV1 HB1 TK HY2 ed ed2 hlt1
              obtain ⟨w3, rfl⟩ : ∃ w3, w3 = wq := ⟨_, rfl⟩
              go_upto_region 8 with fail
              have HX3 := Lib.hid HX3
              have HB3 := Lib.hid HB3
              have HV3 := Lib.hid HV3
              obtain ⟨x0, x1, x2, x3, x4, x5⟩ := InoAt.cells HX3.out
              obtain ⟨w5, hw5⟩ : ∃ w5, w3.alloc (.cells #[.int .i64 (3 - kd), .bool (!pn), .int .i64 links, .int .i64 sz, .int .i64 dp, .slice (some ⟨g, o, none⟩) (j + 1) cap] 24) = w5 := ⟨_, rfl⟩
              have b35 : Below w3.heap.size w3 w5 := by rw [← hw5]; exact balloc1 _ _
              have HZ5 := Lib.hid (show Blk w3.heap.size #[.int .i64 (3 - kd), .bool (!pn), .int .i64 links, .int .i64 sz, .int .i64 dp, .slice (some ⟨g, o, none⟩) (j + 1) cap] 24 w5 by rw [← hw5]; exact Blk.new _ _ w3)
              have HX5 := Lib.hid (HX3.out.kept1 b35)
              have HV5 := Lib.hid (HV3.out.kept b35)
              have HB5 := Lib.hid (bnext HB3.out b35)
              have a0 := fun o => (HX3.out.kept1 (balloc1 w3 o)).cell 0
              have a1 := fun o => (HX3.out.kept1 (balloc1 w3 o)).cell 1
              have hlt3 : w.heap.size < w3.heap.size := HX3.out.lt
              clear b35
              try dsimp only at *
              go_upto_region 12 with fail
              try rw [hw5]
              clear hw5 a0 a1
              clear x0 x1 x2 x3 x4 x5
              have hz := HZ5.out
              obtain ⟨z0, z1, z2, z3, z4, z5⟩ : w5.cell? ⟨w3.heap.size, 0, none⟩ = some (.int .i64 (3 - kd)) ∧ w5.cell? ⟨w3.heap.size, 1, none⟩ = some (.bool (!pn)) ∧ w5.cell? ⟨w3.heap.size, 2, none⟩ = some (.int .i64 links) ∧ w5.cell? ⟨w3.heap.size, 3, none⟩ = some (.int .i64 sz) ∧ w5.cell? ⟨w3.heap.size, 4, none⟩ = some (.int .i64 dp) ∧ w5.cell? ⟨w3.heap.size, 5, none⟩ = some (.slice (some ⟨g, o, none⟩) (j + 1) cap) := ⟨hz.cell 0, hz.cell 1, hz.cell 2, hz.cell 3, hz.cell 4, hz.cell 5⟩
              clear hz
              go_wp2_with fail
              refine (CL.out _ _ HV5.out).mono ?_; rintro e w6 ⟨rfl, b6⟩
              clear z0 z1 z2 z3 z4 z5
              have HX6 := Lib.hid (HX5.out.kept1 b6)
              have HZ6 := Lib.hid (HZ5.out.kept1 b6)
              have HV6 := Lib.hid (HV5.out.kept b6)
              have HB6 := Lib.hid (bnext HB5.out b6)
              clear HX5 HZ5 HV5 HB5 b6
              have x2 := HX6.out.cell 2
              obtain ⟨w7, hw7⟩ : ∃ w7, (w6.setCell ⟨w3.heap.size, 2, none⟩ (.int .i64 lk)).setCell ⟨w3.heap.size, 3, none⟩ (.int .i64 size) = w7 := ⟨_, rfl⟩
              have HZ7 := Lib.hid (show Blk w3.heap.size #[.int .i64 (3 - kd), .bool (!pn), .int .i64 lk, .int .i64 size, .int .i64 dp, .slice (some ⟨g, o, none⟩) (j + 1) cap] 24 w7 by
                rw [← hw7]
                have := (HZ6.out.set 2 (.int .i64 lk)).set 3 (.int .i64 size)
                simpa using this)
              have hwB : Below w3.heap.size w6 w7 := by rw [← hw7]; exact ((Below.refl _ _).setCell (p := ⟨w3.heap.size, 2, none⟩) (Nat.le_refl _) _).setCell (p := ⟨w3.heap.size, 3, none⟩) (Nat.le_refl _) _
              have HB7 := Lib.hid (HB6.out.trans (hwB.mono (by omega)))
              have HV7 := Lib.hid (HV.out.kept HB7.out)
              have hz := HZ6.out
              obtain ⟨z0, z1, z2, z3, z4, z5⟩ : w6.cell? ⟨w3.heap.size, 0, none⟩ = some (.int .i64 (3 - kd)) ∧ w6.cell? ⟨w3.heap.size, 1, none⟩ = some (.bool (!pn)) ∧ w6.cell? ⟨w3.heap.size, 2, none⟩ = some (.int .i64 links) ∧ w6.cell? ⟨w3.heap.size, 3, none⟩ = some (.int .i64 sz) ∧ w6.cell? ⟨w3.heap.size, 4, none⟩ = some (.int .i64 dp) ∧ w6.cell? ⟨w3.heap.size, 5, none⟩ = some (.slice (some ⟨g, o, none⟩) (j + 1) cap) := ⟨hz.cell 0, hz.cell 1, hz.cell 2, hz.cell 3, hz.cell 4, hz.cell 5⟩
              have fz := fun j => hz.frozen j
              have hz := HZ7.out
              obtain ⟨t0, t1, t2, t3, t4, t5⟩ : w7.cell? ⟨w3.heap.size, 0, none⟩ = some (.int .i64 (3 - kd)) ∧ w7.cell? ⟨w3.heap.size, 1, none⟩ = some (.bool (!pn)) ∧ w7.cell? ⟨w3.heap.size, 2, none⟩ = some (.int .i64 lk) ∧ w7.cell? ⟨w3.heap.size, 3, none⟩ = some (.int .i64 size) ∧ w7.cell? ⟨w3.heap.size, 4, none⟩ = some (.int .i64 dp) ∧ w7.cell? ⟨w3.heap.size, 5, none⟩ = some (.slice (some ⟨g, o, none⟩) (j + 1) cap) := ⟨hz.cell 0, hz.cell 1, hz.cell 2, hz.cell 3, hz.cell 4, hz.cell 5⟩
              clear hz hwB HZ7 HZ6 HX6 HV6
              by_cases s1 : 0 ≤ links
              · have r1 : decide (0 ≤ links) = true := decide_eq_true s1
                by_cases s2 : links ≤ 100
                · have r2 : decide (links ≤ 100) = true := decide_eq_true s2
                  have r3 : decide (0 ≤ links ∧ links ≤ 100) = true := decide_eq_true ⟨s1, s2⟩
                  clear s1 s2
                  go_upto_region 16 with fail
                  try rw [hw7]
                  clear hw7 z0 z1 z2 z3 z4 z5 fz
                  go_wp2_with fail
                  refine (CS.out _ _ HV7.out).mono ?_; rintro e w8 ⟨rfl, b8⟩
                  have HB := bnext HB7.out b8
                  clear t0 t1 t2 t3 t4 t5 HV7 HB7 b8
                  by_cases s1 : 0 ≤ size
                  · have q1 : decide (0 ≤ size) = true := decide_eq_true s1
                    by_cases s2 : size ≤ 262144
                    · have q2 : decide (size ≤ 262144) = true := decide_eq_true s2
                      have q3 : decide (0 ≤ size ∧ size ≤ 262144) = true := decide_eq_true ⟨s1, s2⟩
                      clear s1 s2
                      go_wp2_with fail
                      refine (AL.out _).mono ?_; rintro e w6 ⟨rfl, b6⟩
                      have HB6 := bnext HB b6
                      go_wp2
                      go_ret
                      exact ⟨rfl, HB6⟩
                    · have q2 : decide (size ≤ 262144) = false := decide_eq_false s2
                      have q3 : decide (0 ≤ size ∧ size ≤ 262144) = false := decide_eq_false fun h => s2 h.2
                      clear s1 s2
                      go_wp2_with fail
                      refine (AL.out _).mono ?_; rintro e w6 ⟨rfl, b6⟩
                      have HB6 := bnext HB b6
                      go_wp2
                      go_ret
                      exact ⟨rfl, HB6⟩
                  · have q1 : decide (0 ≤ size) = false := decide_eq_false s1
                    have q3 : decide (0 ≤ size ∧ size ≤ 262144) = false := decide_eq_false fun h => s1 h.1
                    clear s1
                    go_wp2_with fail
                    refine (AL.out _).mono ?_; rintro e w6 ⟨rfl, b6⟩
                    have HB6 := bnext HB b6
                    go_wp2
                    go_ret
                    exact ⟨rfl, HB6⟩
                · have r2 : decide (links ≤ 100) = false := decide_eq_false s2
                  have r3 : decide (0 ≤ links ∧ links ≤ 100) = false := decide_eq_false fun h => s2 h.2
                  clear s1 s2
                  go_upto_region 16 with fail
                  try rw [hw7]
                  clear hw7 z0 z1 z2 z3 z4 z5 fz
                  go_wp2_with fail
                  refine (CS.out _ _ HV7.out).mono ?_; rintro e w8 ⟨rfl, b8⟩
                  have HB := bnext HB7.out b8
                  clear t0 t1 t2 t3 t4 t5 HV7 HB7 b8
                  by_cases s1 : 0 ≤ size
                  · have q1 : decide (0 ≤ size) = true := decide_eq_true s1
                    by_cases s2 : size ≤ 262144
                    · have q2 : decide (size ≤ 262144) = true := decide_eq_true s2
                      have q3 : decide (0 ≤ size ∧ size ≤ 262144) = true := decide_eq_true ⟨s1, s2⟩
                      clear s1 s2
                      go_wp2_with fail
                      refine (AL.out _).mono ?_; rintro e w6 ⟨rfl, b6⟩
                      have HB6 := bnext HB b6
                      go_wp2
                      go_ret
                      exact ⟨rfl, HB6⟩
                    · have q2 : decide (size ≤ 262144) = false := decide_eq_false s2
                      have q3 : decide (0 ≤ size ∧ size ≤ 262144) = false := decide_eq_false fun h => s2 h.2
                      clear s1 s2
                      go_wp2_with fail
                      refine (AL.out _).mono ?_; rintro e w6 ⟨rfl, b6⟩
                      have HB6 := bnext HB b6
                      go_wp2
                      go_ret
                      exact ⟨rfl, HB6⟩
                  · have q1 : decide (0 ≤ size) = false := decide_eq_false s1
                    have q3 : decide (0 ≤ size ∧ size ≤ 262144) = false := decide_eq_false fun h => s1 h.1
                    clear s1
                    go_wp2_with fail
                    refine (AL.out _).mono ?_; rintro e w6 ⟨rfl, b6⟩
                    have HB6 := bnext HB b6
                    go_wp2
                    go_ret
                    exact ⟨rfl, HB6⟩
              · have r1 : decide (0 ≤ links) = false := decide_eq_false s1
                have r3 : decide (0 ≤ links ∧ links ≤ 100) = false := decide_eq_false fun h => s1 h.1
                clear s1
                go_upto_region 16 with fail
                try rw [hw7]
                clear hw7 z0 z1 z2 z3 z4 z5 fz
                go_wp2_with fail
                refine (CS.out _ _ HV7.out).mono ?_; rintro e w8 ⟨rfl, b8⟩
                have HB := bnext HB7.out b8
                clear t0 t1 t2 t3 t4 t5 HV7 HB7 b8
                by_cases s1 : 0 ≤ size
                · have q1 : decide (0 ≤ size) = true := decide_eq_true s1
                  by_cases s2 : size ≤ 262144
                  · have q2 : decide (size ≤ 262144) = true := decide_eq_true s2
                    have q3 : decide (0 ≤ size ∧ size ≤ 262144) = true := decide_eq_true ⟨s1, s2⟩
                    clear s1 s2
                    go_wp2_with fail
                    refine (AL.out _).mono ?_; rintro e w6 ⟨rfl, b6⟩
                    have HB6 := bnext HB b6
                    go_wp2
                    go_ret
                    exact ⟨rfl, HB6⟩
                  · have q2 : decide (size ≤ 262144) = false := decide_eq_false s2
                    have q3 : decide (0 ≤ size ∧ size ≤ 262144) = false := decide_eq_false fun h => s2 h.2
                    clear s1 s2
                    go_wp2_with fail
                    refine (AL.out _).mono ?_; rintro e w6 ⟨rfl, b6⟩
                    have HB6 := bnext HB b6
                    go_wp2
                    go_ret
                    exact ⟨rfl, HB6⟩
                · have q1 : decide (0 ≤ size) = false := decide_eq_false s1
                  have q3 : decide (0 ≤ size ∧ size ≤ 262144) = false := decide_eq_false fun h => s1 h.1
                  clear s1
                  go_wp2_with fail
                  refine (AL.out _).mono ?_; rintro e w6 ⟨rfl, b6⟩
                  have HB6 := bnext HB b6
                  go_wp2
                  go_ret
                  exact ⟨rfl, HB6⟩
          · have ed : (dp == 0) = false := by rw [beq_eq_false_iff_ne]; exact hd
            have ed2 : decide (dp = 0) = false := decide_eq_false hd
            rcases Nat.eq_zero_or_pos j with hj | hj
            · have ej : decide (0 < j) = false := decide_eq_false (by omega)
              have ej2 : decide ((0 : Int) < (j : Int)) = false := decide_eq_false (by omega)
              clear hd hj
              refine wp_region_quiet_below mixed (by kernel_rfl) ?_
              repeat (go_big_quiet_step (first | (go_at_call 11; refine calls_below (TKB.out _))))
              refine wpQuiet_nil ?_
              intro w0q hw'
              obtain ⟨⟨wq, bq⟩, hw''⟩ := hw'
              have hw2 : wq = w0q := hw''.symm
              clear hw''
              subst hw2
              have HX3 := HX2.out.kept1 bq
              have HV3 := HV2.out.kept bq
              have HB3 := bnext HB2.out bq
              clear k0 k1 k2 k3 k4 k5 e4 TKB bq HX2 HV2 HB2 HX1 HV1 HB1 TK HY2 ed ed2 hlt1
              obtain ⟨w3, rfl⟩ : ∃ w3, w3 = wq := ⟨_, rfl⟩
              go_upto_region 8 with fail
              have HX3 := Lib.hid HX3
              have HB3 := Lib.hid HB3
              have HV3 := Lib.hid HV3
              obtain ⟨x0, x1, x2, x3, x4, x5⟩ := InoAt.cells HX3.out
              obtain ⟨w5, hw5⟩ : ∃ w5, w3.alloc (.cells #[.int .i64 (3 - kd), .bool (!pn), .int .i64 links, .int .i64 sz, .int .i64 dp, .slice (some ⟨g, o, none⟩) (j + 1) cap] 24) = w5 := ⟨_, rfl⟩
              have b35 : Below w3.heap.size w3 w5 := by rw [← hw5]; exact balloc1 _ _
              have HZ5 := Lib.hid (show Blk w3.heap.size #[.int .i64 (3 - kd), .bool (!pn), .int .i64 links, .int .i64 sz, .int .i64 dp, .slice (some ⟨g, o, none⟩) (j + 1) cap] 24 w5 by rw [← hw5]; exact Blk.new _ _ w3)
              have HX5 := Lib.hid (HX3.out.kept1 b35)
              have HV5 := Lib.hid (HV3.out.kept b35)
              have HB5 := Lib.hid (bnext HB3.out b35)
              have a0 := fun o => (HX3.out.kept1 (balloc1 w3 o)).cell 0
              have a1 := fun o => (HX3.out.kept1 (balloc1 w3 o)).cell 1
              have hlt3 : w.heap.size < w3.heap.size := HX3.out.lt
              clear b35
              try dsimp only at *
              go_upto_region 12 with fail
              try rw [hw5]
              clear hw5 a0 a1
              clear x0 x1 x2 x3 x4 x5
              have hz := HZ5.out
              obtain ⟨z0, z1, z2, z3, z4, z5⟩ : w5.cell? ⟨w3.heap.size, 0, none⟩ = some (.int .i64 (3 - kd)) ∧ w5.cell? ⟨w3.heap.size, 1, none⟩ = some (.bool (!pn)) ∧ w5.cell? ⟨w3.heap.size, 2, none⟩ = some (.int .i64 links) ∧ w5.cell? ⟨w3.heap.size, 3, none⟩ = some (.int .i64 sz) ∧ w5.cell? ⟨w3.heap.size, 4, none⟩ = some (.int .i64 dp) ∧ w5.cell? ⟨w3.heap.size, 5, none⟩ = some (.slice (some ⟨g, o, none⟩) (j + 1) cap) := ⟨hz.cell 0, hz.cell 1, hz.cell 2, hz.cell 3, hz.cell 4, hz.cell 5⟩
              clear hz
              go_wp2_with fail
              refine (CL.out _ _ HV5.out).mono ?_; rintro e w6 ⟨rfl, b6⟩
              clear z0 z1 z2 z3 z4 z5
              have HX6 := Lib.hid (HX5.out.kept1 b6)
              have HZ6 := Lib.hid (HZ5.out.kept1 b6)
              have HV6 := Lib.hid (HV5.out.kept b6)
              have HB6 := Lib.hid (bnext HB5.out b6)
              clear HX5 HZ5 HV5 HB5 b6
              have x2 := HX6.out.cell 2
              obtain ⟨w7, hw7⟩ : ∃ w7, (w6.setCell ⟨w3.heap.size, 2, none⟩ (.int .i64 lk)).setCell ⟨w3.heap.size, 3, none⟩ (.int .i64 size) = w7 := ⟨_, rfl⟩
              have HZ7 := Lib.hid (show Blk w3.heap.size #[.int .i64 (3 - kd), .bool (!pn), .int .i64 lk, .int .i64 size, .int .i64 dp, .slice (some ⟨g, o, none⟩) (j + 1) cap] 24 w7 by
                rw [← hw7]
                have := (HZ6.out.set 2 (.int .i64 lk)).set 3 (.int .i64 size)
                simpa using this)
              have hwB : Below w3.heap.size w6 w7 := by rw [← hw7]; exact ((Below.refl _ _).setCell (p := ⟨w3.heap.size, 2, none⟩) (Nat.le_refl _) _).setCell (p := ⟨w3.heap.size, 3, none⟩) (Nat.le_refl _) _
              have HB7 := Lib.hid (HB6.out.trans (hwB.mono (by omega)))
              have HV7 := Lib.hid (HV.out.kept HB7.out)
              have hz := HZ6.out
              obtain ⟨z0, z1, z2, z3, z4, z5⟩ : w6.cell? ⟨w3.heap.size, 0, none⟩ = some (.int .i64 (3 - kd)) ∧ w6.cell? ⟨w3.heap.size, 1, none⟩ = some (.bool (!pn)) ∧ w6.cell? ⟨w3.heap.size, 2, none⟩ = some (.int .i64 links) ∧ w6.cell? ⟨w3.heap.size, 3, none⟩ = some (.int .i64 sz) ∧ w6.cell? ⟨w3.heap.size, 4, none⟩ = some (.int .i64 dp) ∧ w6.cell? ⟨w3.heap.size, 5, none⟩ = some (.slice (some ⟨g, o, none⟩) (j + 1) cap) := ⟨hz.cell 0, hz.cell 1, hz.cell 2, hz.cell 3, hz.cell 4, hz.cell 5⟩
              have fz := fun j => hz.frozen j
              have hz := HZ7.out
              obtain ⟨t0, t1, t2, t3, t4, t5⟩ : w7.cell? ⟨w3.heap.size, 0, none⟩ = some (.int .i64 (3 - kd)) ∧ w7.cell? ⟨w3.heap.size, 1, none⟩ = some (.bool (!pn)) ∧ w7.cell? ⟨w3.heap.size, 2, none⟩ = some (.int .i64 lk) ∧ w7.cell? ⟨w3.heap.size, 3, none⟩ = some (.int .i64 size) ∧ w7.cell? ⟨w3.heap.size, 4, none⟩ = some (.int .i64 dp) ∧ w7.cell? ⟨w3.heap.size, 5, none⟩ = some (.slice (some ⟨g, o, none⟩) (j + 1) cap) := ⟨hz.cell 0, hz.cell 1, hz.cell 2, hz.cell 3, hz.cell 4, hz.cell 5⟩
              clear hz hwB HZ7 HZ6 HX6 HV6
              by_cases s1 : 0 ≤ links
              · have r1 : decide (0 ≤ links) = true := decide_eq_true s1
                by_cases s2 : links ≤ 100
                · have r2 : decide (links ≤ 100) = true := decide_eq_true s2
                  have r3 : decide (0 ≤ links ∧ links ≤ 100) = true := decide_eq_true ⟨s1, s2⟩
                  clear s1 s2
                  go_upto_region 16 with fail
                  try rw [hw7]
                  clear hw7 z0 z1 z2 z3 z4 z5 fz
                  go_wp2_with fail
                  refine (CS.out _ _ HV7.out).mono ?_; rintro e w8 ⟨rfl, b8⟩
                  have HB := bnext HB7.out b8
                  clear t0 t1 t2 t3 t4 t5 HV7 HB7 b8
                  by_cases s1 : 0 ≤ size
                  · have q1 : decide (0 ≤ size) = true := decide_eq_true s1
                    by_cases s2 : size ≤ 262144
                    · have q2 : decide (size ≤ 262144) = true := decide_eq_true s2
                      have q3 : decide (0 ≤ size ∧ size ≤ 262144) = true := decide_eq_true ⟨s1, s2⟩
                      clear s1 s2
                      go_wp2_with fail
                      refine (AL.out _).mono ?_; rintro e w6 ⟨rfl, b6⟩
                      have HB6 := bnext HB b6
                      go_wp2
                      go_ret
                      exact ⟨rfl, HB6⟩
                    · have q2 : decide (size ≤ 262144) = false := decide_eq_false s2
                      have q3 : decide (0 ≤ size ∧ size ≤ 262144) = false := decide_eq_false fun h => s2 h.2
                      clear s1 s2
                      go_wp2_with fail
                      refine (AL.out _).mono ?_; rintro e w6 ⟨rfl, b6⟩
                      have HB6 := bnext HB b6
                      go_wp2
                      go_ret
                      exact ⟨rfl, HB6⟩
                  · have q1 : decide (0 ≤ size) = false := decide_eq_false s1
                    have q3 : decide (0 ≤ size ∧ size ≤ 262144) = false := decide_eq_false fun h => s1 h.1
                    clear s1
                    go_wp2_with fail
                    refine (AL.out _).mono ?_; rintro e w6 ⟨rfl, b6⟩
                    have HB6 := bnext HB b6
                    go_wp2
                    go_ret
                    exact ⟨rfl, HB6⟩
                · have r2 : decide (links ≤ 100) = false := decide_eq_false s2
                  have r3 : decide (0 ≤ links ∧ links ≤ 100) = false := decide_eq_false fun h => s2 h.2
                  clear s1 s2
                  go_upto_region 16 with fail
                  try rw [hw7]
                  clear hw7 z0 z1 z2 z3 z4 z5 fz
                  go_wp2_with fail
                  refine (CS.out _ _ HV7.out).mono ?_; rintro e w8 ⟨rfl, b8⟩
                  have HB := bnext HB7.out b8
                  clear t0 t1 t2 t3 t4 t5 HV7 HB7 b8
                  by_cases s1 : 0 ≤ size
                  · have q1 : decide (0 ≤ size) = true := decide_eq_true s1
                    by_cases s2 : size ≤ 262144
                    · have q2 : decide (size ≤ 262144) = true := decide_eq_true s2
                      have q3 : decide (0 ≤ size ∧ size ≤ 262144) = true := decide_eq_true ⟨s1, s2⟩
                      clear s1 s2
                      go_wp2_with fail
                      refine (AL.out _).mono ?_; rintro e w6 ⟨rfl, b6⟩
                      have HB6 := bnext HB b6
                      go_wp2
                      go_ret
                      exact ⟨rfl, HB6⟩
                    · have q2 : decide (size ≤ 262144) = false := decide_eq_false s2
                      have q3 : decide (0 ≤ size ∧ size ≤ 262144) = false := decide_eq_false fun h => s2 h.2
                      clear s1 s2
                      go_wp2_with fail
                      refine (AL.out _).mono ?_; rintro e w6 ⟨rfl, b6⟩
                      have HB6 := bnext HB b6
                      go_wp2
                      go_ret
                      exact ⟨rfl, HB6⟩
                  · have q1 : decide (0 ≤ size) = false := decide_eq_false s1
                    have q3 : decide (0 ≤ size ∧ size ≤ 262144) = false := decide_eq_false fun h => s1 h.1
                    clear s1
                    go_wp2_with fail
                    refine (AL.out _).mono ?_; rintro e w6 ⟨rfl, b6⟩
                    have HB6 := bnext HB b6
                    go_wp2
                    go_ret
                    exact ⟨rfl, HB6⟩
              · have r1 : decide (0 ≤ links) = false := decide_eq_false s1
                have r3 : decide (0 ≤ links ∧ links ≤ 100) = false := decide_eq_false fun h => s1 h.1
                clear s1
                go_upto_region 16 with fail
                try rw [hw7]
                clear hw7 z0 z1 z2 z3 z4 z5 fz
                go_wp2_with fail
                refine (CS.out _ _ HV7.out).mono ?_; rintro e w8 ⟨rfl, b8⟩
                have HB := bnext HB7.out b8
                clear t0 t1 t2 t3 t4 t5 HV7 HB7 b8
                by_cases s1 : 0 ≤ size
                · have q1 : decide (0 ≤ size) = true := decide_eq_true s1
                  by_cases s2 : size ≤ 262144
                  · have q2 : decide (size ≤ 262144) = true := decide_eq_true s2
                    have q3 : decide (0 ≤ size ∧ size ≤ 262144) = true := decide_eq_true ⟨s1, s2⟩
                    clear s1 s2
                    go_wp2_with fail
                    refine (AL.out _).mono ?_; rintro e w6 ⟨rfl, b6⟩
                    have HB6 := bnext HB b6
                    go_wp2
                    go_ret
                    exact ⟨rfl, HB6⟩
                  · have q2 : decide (size ≤ 262144) = false := decide_eq_false s2
                    have q3 : decide (0 ≤ size ∧ size ≤ 262144) = false := decide_eq_false fun h => s2 h.2
                    clear s1 s2
                    go_wp2_with fail
                    refine (AL.out _).mono ?_; rintro e w6 ⟨rfl, b6⟩
                    have HB6 := bnext HB b6
                    go_wp2
                    go_ret
                    exact ⟨rfl, HB6⟩
                · have q1 : decide (0 ≤ size) = false := decide_eq_false s1
                  have q3 : decide (0 ≤ size ∧ size ≤ 262144) = false := decide_eq_false fun h => s1 h.1
                  clear s1
                  go_wp2_with fail
                  refine (AL.out _).mono ?_; rintro e w6 ⟨rfl, b6⟩
                  have HB6 := bnext HB b6
                  go_wp2
                  go_ret
                  exact ⟨rfl, HB6⟩
            · have ej : decide (0 < j) = true := decide_eq_true hj
              have ej2 : decide ((0 : Int) < (j : Int)) = true := decide_eq_true (by omega)
              clear hd hj
              refine wp_region_quiet_below mixed (by kernel_rfl) ?_
              repeat (go_big_quiet_step (first | (go_at_call 11; refine calls_below (TKB.out _))))
              refine wpQuiet_nil ?_
              intro w0q hw'
              obtain ⟨⟨wq, bq⟩, hw''⟩ := hw'
              have hw2 : wq = w0q := hw''.symm
              clear hw''
              subst hw2
              have HX3 := HX2.out.kept1 bq
              have HV3 := HV2.out.kept bq
              have HB3 := bnext HB2.out bq
              clear k0 k1 k2 k3 k4 k5 e4 TKB bq HX2 HV2 HB2 HX1 HV1 HB1 TK HY2 ed ed2 hlt1
              obtain ⟨w3, rfl⟩ : ∃ w3, w3 = wq := ⟨_, rfl⟩
              go_upto_region 8 with fail
              have HX3 := Lib.hid HX3
              have HB3 := Lib.hid HB3
              have HV3 := Lib.hid HV3
              obtain ⟨x0, x1, x2, x3, x4, x5⟩ := InoAt.cells HX3.out
              obtain ⟨w5, hw5⟩ : ∃ w5, w3.alloc (.cells #[.int .i64 (3 - kd), .bool (!pn), .int .i64 links, .int .i64 sz, .int .i64 dp, .slice (some ⟨g, o, none⟩) (j + 1) cap] 24) = w5 := ⟨_, rfl⟩
              have b35 : Below w3.heap.size w3 w5 := by rw [← hw5]; exact balloc1 _ _
              have HZ5 := Lib.hid (show Blk w3.heap.size #[.int .i64 (3 - kd), .bool (!pn), .int .i64 links, .int .i64 sz, .int .i64 dp, .slice (some ⟨g, o, none⟩) (j + 1) cap] 24 w5 by rw [← hw5]; exact Blk.new _ _ w3)
              have HX5 := Lib.hid (HX3.out.kept1 b35)
              have HV5 := Lib.hid (HV3.out.kept b35)
              have HB5 := Lib.hid (bnext HB3.out b35)
              have a0 := fun o => (HX3.out.kept1 (balloc1 w3 o)).cell 0
              have a1 := fun o => (HX3.out.kept1 (balloc1 w3 o)).cell 1
              have hlt3 : w.heap.size < w3.heap.size := HX3.out.lt
              clear b35
              try dsimp only at *
              go_upto_region 12 with fail
              try rw [hw5]
              clear hw5 a0 a1
              clear x0 x1 x2 x3 x4 x5
              have hz := HZ5.out
              obtain ⟨z0, z1, z2, z3, z4, z5⟩ : w5.cell? ⟨w3.heap.size, 0, none⟩ = some (.int .i64 (3 - kd)) ∧ w5.cell? ⟨w3.heap.size, 1, none⟩ = some (.bool (!pn)) ∧ w5.cell? ⟨w3.heap.size, 2, none⟩ = some (.int .i64 links) ∧ w5.cell? ⟨w3.heap.size, 3, none⟩ = some (.int .i64 sz) ∧ w5.cell? ⟨w3.heap.size, 4, none⟩ = some (.int .i64 dp) ∧ w5.cell? ⟨w3.heap.size, 5, none⟩ = some (.slice (some ⟨g, o, none⟩) (j + 1) cap) := ⟨hz.cell 0, hz.cell 1, hz.cell 2, hz.cell 3, hz.cell 4, hz.cell 5⟩
              clear hz
              go_wp2_with fail
              refine (CL.out _ _ HV5.out).mono ?_; rintro e w6 ⟨rfl, b6⟩
              clear z0 z1 z2 z3 z4 z5
              have HX6 := Lib.hid (HX5.out.kept1 b6)
              have HZ6 := Lib.hid (HZ5.out.kept1 b6)
              have HV6 := Lib.hid (HV5.out.kept b6)
              have HB6 := Lib.hid (bnext HB5.out b6)
              clear HX5 HZ5 HV5 HB5 b6
              have x2 := HX6.out.cell 2
              obtain ⟨w7, hw7⟩ : ∃ w7, (w6.setCell ⟨w3.heap.size, 2, none⟩ (.int .i64 lk)).setCell ⟨w3.heap.size, 3, none⟩ (.int .i64 size) = w7 := ⟨_, rfl⟩
              have HZ7 := Lib.hid (show Blk w3.heap.size #[.int .i64 (3 - kd), .bool (!pn), .int .i64 lk, .int .i64 size, .int .i64 dp, .slice (some ⟨g, o, none⟩) (j + 1) cap] 24 w7 by
                rw [← hw7]
                have := (HZ6.out.set 2 (.int .i64 lk)).set 3 (.int .i64 size)
                simpa using this)
              have hwB : Below w3.heap.size w6 w7 := by rw [← hw7]; exact ((Below.refl _ _).setCell (p := ⟨w3.heap.size, 2, none⟩) (Nat.le_refl _) _).setCell (p := ⟨w3.heap.size, 3, none⟩) (Nat.le_refl _) _
              have HB7 := Lib.hid (HB6.out.trans (hwB.mono (by omega)))
              have HV7 := Lib.hid (HV.out.kept HB7.out)
              have hz := HZ6.out
              obtain ⟨z0, z1, z2, z3, z4, z5⟩ : w6.cell? ⟨w3.heap.size, 0, none⟩ = some (.int .i64 (3 - kd)) ∧ w6.cell? ⟨w3.heap.size, 1, none⟩ = some (.bool (!pn)) ∧ w6.cell? ⟨w3.heap.size, 2, none⟩ = some (.int .i64 links) ∧ w6.cell? ⟨w3.heap.size, 3, none⟩ = some (.int .i64 sz) ∧ w6.cell? ⟨w3.heap.size, 4, none⟩ = some (.int .i64 dp) ∧ w6.cell? ⟨w3.heap.size, 5, none⟩ = some (.slice (some ⟨g, o, none⟩) (j + 1) cap) := ⟨hz.cell 0, hz.cell 1, hz.cell 2, hz.cell 3, hz.cell 4, hz.cell 5⟩
              have fz := fun j => hz.frozen j
              have hz := HZ7.out
              obtain ⟨t0, t1, t2, t3, t4, t5⟩ : w7.cell? ⟨w3.heap.size, 0, none⟩ = some (.int .i64 (3 - kd)) ∧ w7.cell? ⟨w3.heap.size, 1, none⟩ = some (.bool (!pn)) ∧ w7.cell? ⟨w3.heap.size, 2, none⟩ = some (.int .i64 lk) ∧ w7.cell? ⟨w3.heap.size, 3, none⟩ = some (.int .i64 size) ∧ w7.cell? ⟨w3.heap.size, 4, none⟩ = some (.int .i64 dp) ∧ w7.cell? ⟨w3.heap.size, 5, none⟩ = some (.slice (some ⟨g, o, none⟩) (j + 1) cap) := ⟨hz.cell 0, hz.cell 1, hz.cell 2, hz.cell 3, hz.cell 4, hz.cell 5⟩
              clear hz hwB HZ7 HZ6 HX6 HV6
              by_cases s1 : 0 ≤ links
              · have r1 : decide (0 ≤ links) = true := decide_eq_true s1
                by_cases s2 : links ≤ 100
                · have r2 : decide (links ≤ 100) = true := decide_eq_true s2
                  have r3 : decide (0 ≤ links ∧ links ≤ 100) = true := decide_eq_true ⟨s1, s2⟩
                  clear s1 s2
                  go_upto_region 16 with fail
                  try rw [hw7]
                  clear hw7 z0 z1 z2 z3 z4 z5 fz
                  go_wp2_with fail
                  refine (CS.out _ _ HV7.out).mono ?_; rintro e w8 ⟨rfl, b8⟩
                  have HB := bnext HB7.out b8
                  clear t0 t1 t2 t3 t4 t5 HV7 HB7 b8
                  by_cases s1 : 0 ≤ size
                  · have q1 : decide (0 ≤ size) = true := decide_eq_true s1
                    by_cases s2 : size ≤ 262144
                    · have q2 : decide (size ≤ 262144) = true := decide_eq_true s2
                      have q3 : decide (0 ≤ size ∧ size ≤ 262144) = true := decide_eq_true ⟨s1, s2⟩
                      clear s1 s2
                      go_wp2_with fail
                      refine (AL.out _).mono ?_; rintro e w6 ⟨rfl, b6⟩
                      have HB6 := bnext HB b6
                      go_wp2
                      go_ret
                      exact ⟨rfl, HB6⟩
                    · have q2 : decide (size ≤ 262144) = false := decide_eq_false s2
                      have q3 : decide (0 ≤ size ∧ size ≤ 262144) = false := decide_eq_false fun h => s2 h.2
                      clear s1 s2
                      go_wp2_with fail
                      refine (AL.out _).mono ?_; rintro e w6 ⟨rfl, b6⟩
                      have HB6 := bnext HB b6
                      go_wp2
                      go_ret
                      exact ⟨rfl, HB6⟩
                  · have q1 : decide (0 ≤ size) = false := decide_eq_false s1
                    have q3 : decide (0 ≤ size ∧ size ≤ 262144) = false := decide_eq_false fun h => s1 h.1
                    clear s1
                    go_wp2_with fail
                    refine (AL.out _).mono ?_; rintro e w6 ⟨rfl, b6⟩
                    have HB6 := bnext HB b6
                    go_wp2
                    go_ret
                    exact ⟨rfl, HB6⟩
                · have r2 : decide (links ≤ 100) = false := decide_eq_false s2
                  have r3 : decide (0 ≤ links ∧ links ≤ 100) = false := decide_eq_false fun h => s2 h.2
                  clear s1 s2
                  go_upto_region 16 with fail
                  try rw [hw7]
                  clear hw7 z0 z1 z2 z3 z4 z5 fz
                  go_wp2_with fail
                  refine (CS.out _ _ HV7.out).mono ?_; rintro e w8 ⟨rfl, b8⟩
                  have HB := bnext HB7.out b8
                  clear t0 t1 t2 t3 t4 t5 HV7 HB7 b8
                  by_cases s1 : 0 ≤ size
                  · have q1 : decide (0 ≤ size) = true := decide_eq_true s1
                    by_cases s2 : size ≤ 262144
                    · have q2 : decide (size ≤ 262144) = true := decide_eq_true s2
                      have q3 : decide (0 ≤ size ∧ size ≤ 262144) = true := decide_eq_true ⟨s1, s2⟩
                      clear s1 s2
                      go_wp2_with fail
                      refine (AL.out _).mono ?_; rintro e w6 ⟨rfl, b6⟩
                      have HB6 := bnext HB b6
                      go_wp2
                      go_ret
                      exact ⟨rfl, HB6⟩
                    · have q2 : decide (size ≤ 262144) = false := decide_eq_false s2
                      have q3 : decide (0 ≤ size ∧ size ≤ 262144) = false := decide_eq_false fun h => s2 h.2
                      clear s1 s2
                      go_wp2_with fail
                      refine (AL.out _).mono ?_; rintro e w6 ⟨rfl, b6⟩
                      have HB6 := bnext HB b6
                      go_wp2
                      go_ret
                      exact ⟨rfl, HB6⟩
                  · have q1 : decide (0 ≤ size) = false := decide_eq_false s1
                    have q3 : decide (0 ≤ size ∧ size ≤ 262144) = false := decide_eq_false fun h => s1 h.1
                    clear s1
                    go_wp2_with fail
                    refine (AL.out _).mono ?_; rintro e w6 ⟨rfl, b6⟩
                    have HB6 := bnext HB b6
                    go_wp2
                    go_ret
                    exact ⟨rfl, HB6⟩
              · have r1 : decide (0 ≤ links) = false := decide_eq_false s1
                have r3 : decide (0 ≤ links ∧ links ≤ 100) = false := decide_eq_false fun h => s1 h.1
                clear s1
                go_upto_region 16 with fail
                try rw [hw7]
                clear hw7 z0 z1 z2 z3 z4 z5 fz
                go_wp2_with fail
                refine (CS.out _ _ HV7.out).mono ?_; rintro e w8 ⟨rfl, b8⟩
                have HB := bnext HB7.out b8
                clear t0 t1 t2 t3 t4 t5 HV7 HB7 b8
                by_cases s1 : 0 ≤ size
                · have q1 : decide (0 ≤ size) = true := decide_eq_true s1
                  by_cases s2 : size ≤ 262144
                  · have q2 : decide (size ≤ 262144) = true := decide_eq_true s2
                    have q3 : decide (0 ≤ size ∧ size ≤ 262144) = true := decide_eq_true ⟨s1, s2⟩
                    clear s1 s2
                    go_wp2_with fail
                    refine (AL.out _).mono ?_; rintro e w6 ⟨rfl, b6⟩
                    have HB6 := bnext HB b6
                    go_wp2
                    go_ret
                    exact ⟨rfl, HB6⟩
                  · have q2 : decide (size ≤ 262144) = false := decide_eq_false s2
                    have q3 : decide (0 ≤ size ∧ size ≤ 262144) = false := decide_eq_false fun h => s2 h.2
                    clear s1 s2
                    go_wp2_with fail
                    refine (AL.out _).mono ?_; rintro e w6 ⟨rfl, b6⟩
                    have HB6 := bnext HB b6
                    go_wp2
                    go_ret
                    exact ⟨rfl, HB6⟩
                · have q1 : decide (0 ≤ size) = false := decide_eq_false s1
                  have q3 : decide (0 ≤ size ∧ size ≤ 262144) = false := decide_eq_false fun h => s1 h.1
                  clear s1
                  go_wp2_with fail
                  refine (AL.out _).mono ?_; rintro e w6 ⟨rfl, b6⟩
                  have HB6 := bnext HB b6
                  go_wp2
                  go_ret
                  exact ⟨rfl, HB6⟩
    · have hC := C
      rw [decide_eq_false hok] at hC
      obtain ⟨kd, pn, lk, sz, dp, rt⟩ := x
      try dsimp only at *
      have C := Lib.hid hC
      have HV0 := Lib.hid hv0
      clear hok hf hv hl hv0 hX0 c3 hC
      go_enter Try.func6, Try.ntmps6
      go_wp2_with fail
      refine (C.out _ _ HV0.out).mono ?_; rintro e w1 ⟨rfl, b1⟩
      have HB := bnext hb0 b1
      clear HV0 b1 hb0
      go_wp2_with fail
      refine (AL.out _).mono ?_; rintro e w6 ⟨rfl, b6⟩
      have HB6 := bnext HB b6
      go_wp2
      go_ret
      exact ⟨rfl, HB6⟩
  · have dl : decide ((1000 : Int) < (x.root.length : Int)) = true := decide_eq_true (by omega)
    have HB := hb0
    obtain ⟨kd, pn, lk, sz, dp, rt⟩ := x
    try dsimp only at *
    clear hl hv hf hv0 hX0 C c3
    go_enter Try.func6, Try.ntmps6
    go_wp2_with fail
    refine (AL.out _).mono ?_; rintro e w6 ⟨rfl, b6⟩
    have HB6 := bnext HB b6
    go_wp2
    go_ret
    exact ⟨rfl, HB6⟩
end Go.Proofs.Ytfepjjjoikcljaa
