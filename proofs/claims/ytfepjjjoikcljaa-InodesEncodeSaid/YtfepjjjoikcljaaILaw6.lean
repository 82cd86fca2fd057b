/- The walk of InodesEncode. -/
import Derived.Test.YtfepjjjoikcljaaITwin
import Derived.Test.YtfepjjjoikcljaaILaw1
import Derived.Test.YtfepjjjoikcljaaIREnc2
import Derived.Deep.CutBlock
import Derived.Deep.DeepCutAuto
namespace Go.Proofs.Ytfepjjjoikcljaa
set_option linter.unusedVariables false
open Go.RowKit

theorem enc_bothI (x : Ino) (hf : fitE x.root) : ∃ (T : ByteArray) (c : Int), (∀ v w, EntsIn v x.root w → Calls Try.prog 9 #[inoV x v] w fun e w' => e = .returned (.tuple #[.string T, .int .i64 c]) ∧ Below w.heap.size w w') ∧
    (∀ v w, EntsIn v x.root w → Calls Try.prog 10 #[inoV x v] w fun e w' => e = .returned (.tuple #[.string T, .int .i64 c]) ∧ Below w.heap.size w w') := by
  by_cases h : InoOk x
  · exact ⟨ino x, 0, fun v w hv => ienc_yes x h v w hf hv, fun v w hv => irenc_yes x h v w hf hv⟩
  · exact ⟨⟨#[]⟩, 2, fun v w hv => ienc_no x hf h v w hv, fun v w hv => irenc_no x hf h v w hv⟩
set_option maxRecDepth 100000 in
set_option maxHeartbeats 8000000 in
theorem iencode_walk (x : Ino) (hf : fitE x.root) (v : Value) (w : World) (hv : EntsIn v x.root w) :
    Calls Try.prog 3 #[inoV x v] w fun e w' => e = .returned (.bool true) ∧ Below w.heap.size w w' := by
  have mixed : Try.prog.follows .mixedOrders = true := by kernel_rfl
  have hb0 := balloc1 w (.cells (inoC x v) 24)
  obtain ⟨ad, cap, rfl, c1, c2, -⟩ := entsIn_cells hv
  by_cases hl : x.root.length ≤ 1000
  · have dl : decide ((1000 : Int) < (x.root.length : Int)) = false := decide_eq_false (by omega)
    have AL := Lib.hid ialive_any
    obtain ⟨T, c, E, RE⟩ := enc_bothI x hf
    have C := fun v w hv => icheck_any x hf v w hv
    have RC := fun v w hv => ircheck_any x hf v w hv
    have S := fun v u w hv hu => isame_any x x v u w hv hu
    rw [decide_eq_true (rfl : x = x)] at S
    generalize decide (InoOk x) = okb at *
    obtain ⟨kd, pn, lk, sz, dp, rt⟩ := x
    dsimp only at *
    obtain ⟨n, hn⟩ : ∃ n, rt.length = n := ⟨_, rfl⟩
    have HN := Lib.hid hn
    have hlen2 : (rt ++ [(⟨0, 0, -70⟩ : Ent), ⟨0, 0, -71⟩]).length = n + 2 := by simp [hn]
    have RUN0 := fun (W0 : World) (hu : EntsIn (.slice ad n cap) rt W0) => three_runs W0 (.cells (madeCells #[.int .i64 0, .int .i64 0, .int .i64 0] ((n + 2) * 3)) 26) (.cells #[.int .i64 0, .int .i64 0, .int .i64 (-70), .int .i64 0, .int .i64 0, .int .i64 (-71)] 26) (n + 2) 2 rt [⟨0, 0, -70⟩, ⟨0, 0, -71⟩] (.slice ad n cap) hu rfl (by omega) (by rw [hn]; show n + 2 ≤ 4000; omega)
      (fun W => (room_ents (n + 2) (by omega) W).2) (fun W => lit_row W _ 2 _ rfl (by omega) rfl)
    have hvA := hv
    rw [hn] at hvA c1 dl hl hb0 ⊢
    obtain ⟨w1, hw1⟩ : ∃ w1, (w.alloc (.cells #[.int .i64 kd, .bool pn, .int .i64 lk, .int .i64 sz, .int .i64 dp, .slice ad n cap] 24)).alloc (.cells #[.int .i64 kd, .bool pn, .int .i64 lk, .int .i64 sz, .int .i64 dp, .slice ad n cap] 24) = w1 := ⟨_, rfl⟩
    have hb1 : Below w.heap.size w w1 := by rw [← hw1]; exact balloc (balloc1 w _) _
    have HX1 : Blk w.heap.size #[.int .i64 kd, .bool pn, .int .i64 lk, .int .i64 sz, .int .i64 dp, .slice ad n cap] 24 w1 := by rw [← hw1]; exact (Blk.new _ _ w).kept1 (balloc1 _ _)
    have HT1 : Blk (w.heap.size + 1) #[.int .i64 kd, .bool pn, .int .i64 lk, .int .i64 sz, .int .i64 dp, .slice ad n cap] 24 w1 := by
      rw [← hw1]
      have := Blk.new #[.int .i64 kd, .bool pn, .int .i64 lk, .int .i64 sz, .int .i64 dp, .slice ad n cap] 24 (w.alloc (.cells #[.int .i64 kd, .bool pn, .int .i64 lk, .int .i64 sz, .int .i64 dp, .slice ad n cap] 24))
      rw [size_alloc] at this; exact this
    have hs1 : w1.heap.size = w.heap.size + 2 := by rw [← hw1, size_alloc, size_alloc]
    have RUNS := RUN0 w1.drew (hvA.kept hb1.drew)
    have mk : ∀ W, (Instr.makeSlice 22 (.int .i64 0) (.int .i64 ((n : Int) + 2))).run Try.prog W = .ok (.slice (some ⟨W.heap.size, 0, none⟩) 0 (n + 2)) (W.alloc (.cells (madeCells #[.int .i64 0, .int .i64 0, .int .i64 0] ((n + 2) * 3)) 26)) := fun W => by
      have := (room_ents (n + 2) (by omega) W).1
      rwa [show ((n + 2 : Nat) : Int) = (n : Int) + 2 by omega] at this
    obtain ⟨O1, hO1⟩ : ∃ O1 : Obj, (.cells (madeCells #[.int .i64 0, .int .i64 0, .int .i64 0] ((n + 2) * 3)) 26) = O1 := ⟨_, rfl⟩
    rw [hO1] at RUNS mk
    obtain ⟨O2, hO2⟩ : ∃ O2 : Obj, (.cells #[.int .i64 0, .int .i64 0, .int .i64 (-70), .int .i64 0, .int .i64 0, .int .i64 (-71)] 26) = O2 := ⟨_, rfl⟩
    rw [hO2] at RUNS
    have hwr : IntKind.i64.wrap ((n : Int) + 2) = (n : Int) + 2 := IntWalk.i64_in _ (by omega)
    have KS : ∀ W, Below w1.drew.heap.size w1.drew W → W.cell? ⟨w.heap.size, 5, none⟩ = some (.slice ad n cap) := fun W b => (Blk.kept1 (w := w1.drew) HX1 b).cell 5
    obtain ⟨⟨vA, wA, vA2, wA2, rA1, rA2, bA, kA, qA⟩, ⟨vB, wB, vB2, wB2, rB1, rB2, bB, kB, qB⟩, ⟨vC, wC, vC2, wC2, rC1, rC2, bC, kC, qC⟩⟩ := RUNS
    have sA1 := KS _ (balloc1 w1.drew O1)
    have sA2 := KS _ bA
    have sA3 := KS _ (balloc bA O2)
    have sA4 := KS _ qA
    have sB2 := KS _ (balloc (balloc1 w1.drew O1) O2)
    have sB3 := KS _ bB
    have sB4 := KS _ qB
    have sC1 := KS _ (balloc1 w1.drew O2)
    have sC2 := KS _ (balloc (balloc1 w1.drew O2) O1)
    have sC3 := KS _ bC
    have sC4 := KS _ qC
    have hS0 := KS _ (Below.refl _ _)
    obtain ⟨aA, cA, hvA, g1A, g2A, g3A⟩ := shape_of kA
    rw [hlen2] at hvA g1A g3A
    obtain ⟨ggA, rfl, -⟩ := g3A (by omega)
    clear g3A
    subst hvA
    have g2A : cA ≤ 9223372036854775807 := g2A
    have g4A : n ≤ cA := by omega
    have tA := HT1.kept1 (show Below w1.heap.size w1 wA2 from ⟨qA.os, qA.tape, qA.output, qA.size, qA.block⟩)
    have yA := tA.cell 5
    have zA := tA.frozen 5
    have fA := Lib.hid (show EntsAt w1.heap.size (.slice (some ⟨ggA, 0, none⟩) (n + 2) cA) (rt ++ [⟨0, 0, -70⟩, ⟨0, 0, -71⟩]) wA2 ∧ Below w1.heap.size w1 wA2 from ⟨kA, ⟨qA.os, qA.tape, qA.output, qA.size, qA.block⟩⟩)
    have sA5 : (wA2.setCell ⟨w.heap.size + 1, 5, none⟩ (.slice (some ⟨ggA, 0, none⟩) n cA)).cell? ⟨w.heap.size, 5, none⟩ = some (.slice ad n cap) := (World.cell?_setCell_other _ _ _ _ (fun e => by have e2 : w.heap.size + 1 = w.heap.size := congrArg Addr.block e; omega)).trans sA4
    have rA1 := Lib.hid rA1
    have rA2 := Lib.hid rA2
    clear kA qA bA tA
    obtain ⟨aB, cB, hvB, g1B, g2B, g3B⟩ := shape_of kB
    rw [hlen2] at hvB g1B g3B
    obtain ⟨ggB, rfl, -⟩ := g3B (by omega)
    clear g3B
    subst hvB
    have g2B : cB ≤ 9223372036854775807 := g2B
    have g4B : n ≤ cB := by omega
    have tB := HT1.kept1 (show Below w1.heap.size w1 wB2 from ⟨qB.os, qB.tape, qB.output, qB.size, qB.block⟩)
    have yB := tB.cell 5
    have zB := tB.frozen 5
    have fB := Lib.hid (show EntsAt w1.heap.size (.slice (some ⟨ggB, 0, none⟩) (n + 2) cB) (rt ++ [⟨0, 0, -70⟩, ⟨0, 0, -71⟩]) wB2 ∧ Below w1.heap.size w1 wB2 from ⟨kB, ⟨qB.os, qB.tape, qB.output, qB.size, qB.block⟩⟩)
    have sB5 : (wB2.setCell ⟨w.heap.size + 1, 5, none⟩ (.slice (some ⟨ggB, 0, none⟩) n cB)).cell? ⟨w.heap.size, 5, none⟩ = some (.slice ad n cap) := (World.cell?_setCell_other _ _ _ _ (fun e => by have e2 : w.heap.size + 1 = w.heap.size := congrArg Addr.block e; omega)).trans sB4
    have rB1 := Lib.hid rB1
    have rB2 := Lib.hid rB2
    clear kB qB bB tB
    obtain ⟨aC, cC, hvC, g1C, g2C, g3C⟩ := shape_of kC
    rw [hlen2] at hvC g1C g3C
    obtain ⟨ggC, rfl, -⟩ := g3C (by omega)
    clear g3C
    subst hvC
    have g2C : cC ≤ 9223372036854775807 := g2C
    have g4C : n ≤ cC := by omega
    have tC := HT1.kept1 (show Below w1.heap.size w1 wC2 from ⟨qC.os, qC.tape, qC.output, qC.size, qC.block⟩)
    have yC := tC.cell 5
    have zC := tC.frozen 5
    have fC := Lib.hid (show EntsAt w1.heap.size (.slice (some ⟨ggC, 0, none⟩) (n + 2) cC) (rt ++ [⟨0, 0, -70⟩, ⟨0, 0, -71⟩]) wC2 ∧ Below w1.heap.size w1 wC2 from ⟨kC, ⟨qC.os, qC.tape, qC.output, qC.size, qC.block⟩⟩)
    have sC5 : (wC2.setCell ⟨w.heap.size + 1, 5, none⟩ (.slice (some ⟨ggC, 0, none⟩) n cC)).cell? ⟨w.heap.size, 5, none⟩ = some (.slice ad n cap) := (World.cell?_setCell_other _ _ _ _ (fun e => by have e2 : w.heap.size + 1 = w.heap.size := congrArg Addr.block e; omega)).trans sC4
    have rC1 := Lib.hid rC1
    have rC2 := Lib.hid rC2
    clear kC qC bC tC
    have HX1 := Lib.hid HX1
    have HTT1 := Lib.hid HT1
    have HB1 := Lib.hid hb1
    have HW1 := Lib.hid hw1
    have HS1 := Lib.hid hs1
    have HVA := Lib.hid hvA
    have E' := Lib.hid E
    clear E
    have E := E'
    clear E'
    have RE' := Lib.hid RE
    clear RE
    have RE := RE'
    clear RE'
    have C' := Lib.hid C
    clear C
    have C := C'
    clear C'
    have RC' := Lib.hid RC
    clear RC
    have RC := RC'
    clear RC'
    have S' := Lib.hid S
    clear S
    have S := S'
    clear S'
    have HO1 := Lib.hid hO1
    clear hv hvA hf RUN0 hlen2 hb0 hb1 HT1 hs1 KS hw1 hO1 hl
    go_enter Try.func3, Try.ntmps3
    go_upto_region 4 with fail
    try rw [HW1.out]
    go_cut [] (fun wx => ∃ ad2 cp2 w2, wx = w2.setCell ⟨w.heap.size + 1, 5, none⟩ (.slice ad2 n cp2) ∧ EntsAt w1.heap.size (.slice ad2 (n + 2) cp2) (rt ++ [⟨0, 0, -70⟩, ⟨0, 0, -71⟩]) w2 ∧ Below w1.heap.size w1 w2)
    case first =>
      refine wp_region_held_drew (S := fun w' => w'.cell? ⟨w.heap.size, 5, none⟩ = some (.slice ad n cap)) mixed hS0 (fun hHeld => ?_)
      clear hHeld
      refine wpAnyH_take (i := 0) (oi := _) (v := ?v90) rfl (by kernel_rfl) (by kernel_rfl) (by kernel_rfl) (fun _ _ _ h => h) (Or.inl ⟨by kernel_rfl, ?hy90⟩) hS0 ?rest90
      case hy90 => (intro w9 hSw; go_simp; try with_reducible rfl)
      try simp only [Act.put, List.setIfInBounds_toArray, List.set_cons_zero, List.set_cons_succ]
      refine wpAnyH_take (i := 1) (oi := _) (v := ?v91) rfl (by kernel_rfl) (by kernel_rfl) (by kernel_rfl) (fun _ _ _ h => h) (Or.inl ⟨by kernel_rfl, ?hy91⟩) hS0 ?rest91
      case hy91 => (intro w9 hSw; go_simp; try with_reducible rfl)
      try simp only [Act.put, List.setIfInBounds_toArray, List.set_cons_zero, List.set_cons_succ]
      refine wpAnyH_take (i := 2) (oi := _) (v := ?v92) rfl (by kernel_rfl) (by kernel_rfl) (by kernel_rfl) (fun _ _ _ h => h) (Or.inl ⟨by kernel_rfl, ?hy92⟩) hS0 ?rest92
      case hy92 => (intro w9 hSw; go_simp; try with_reducible rfl)
      try simp only [Act.put, List.setIfInBounds_toArray, List.set_cons_zero, List.set_cons_succ]
      refine wpAnyH_take (i := 3) (oi := _) (v := ?v93) rfl (by kernel_rfl) (by kernel_rfl) (by kernel_rfl) (fun _ _ _ h => h) (Or.inl ⟨by kernel_rfl, ?hy93⟩) hS0 ?rest93
      case hy93 => (intro w9 hSw; go_simp; try with_reducible rfl)
      try simp only [Act.put, List.setIfInBounds_toArray, List.set_cons_zero, List.set_cons_succ]
      refine wpAnyH_take (i := 5) (oi := _) (v := ?v95) rfl (by kernel_rfl) (by kernel_rfl) (by kernel_rfl) (fun _ _ _ h => h) (Or.inl ⟨by kernel_rfl, ?hy95⟩) hS0 ?rest95
      case hy95 => (intro w9 hSw; go_simp; try with_reducible rfl)
      try simp only [Act.put, List.setIfInBounds_toArray, List.set_cons_zero, List.set_cons_succ]
      refine wpAnyH_take (i := 6) (oi := _) (v := ?v96) rfl (by kernel_rfl) (by kernel_rfl) (by kernel_rfl) (fun _ _ _ h => h) (Or.inl ⟨by kernel_rfl, ?hy96⟩) hS0 ?rest96
      case hy96 => (intro w9 hSw; go_simp; try with_reducible rfl)
      try simp only [Act.put, List.setIfInBounds_toArray, List.set_cons_zero, List.set_cons_succ]
      refine wpAnyH_take (i := 8) (oi := _) (v := ?v98) rfl (by kernel_rfl) (by kernel_rfl) (by kernel_rfl) (fun _ _ _ h => h) (Or.inl ⟨by kernel_rfl, ?hy98⟩) hS0 ?rest98
      case hy98 => (intro w9 hSw; go_simp; try with_reducible rfl)
      try simp only [Act.put, List.setIfInBounds_toArray, List.set_cons_zero, List.set_cons_succ]
      refine wpAnyH_take (i := 9) (oi := _) (v := ?v99) rfl (by kernel_rfl) (by kernel_rfl) (by kernel_rfl) (fun _ _ _ h => h) (Or.inl ⟨by kernel_rfl, ?hy99⟩) hS0 ?rest99
      case hy99 => (intro w9 hSw; go_simp; try with_reducible rfl)
      try simp only [Act.put, List.setIfInBounds_toArray, List.set_cons_zero, List.set_cons_succ]
      refine wpAnyH_take (i := 12) (oi := _) (v := ?v912) rfl (by kernel_rfl) (by kernel_rfl) (by kernel_rfl) (fun _ _ _ h => h) (Or.inl ⟨by kernel_rfl, ?hy912⟩) hS0 ?rest912
      case hy912 => (intro w9 hSw; go_simp; try with_reducible rfl)
      try simp only [Act.put, List.setIfInBounds_toArray, List.set_cons_zero, List.set_cons_succ]
      refine wpAnyH_take (i := 13) (oi := _) (v := ?v913) rfl (by kernel_rfl) (by kernel_rfl) (by kernel_rfl) (fun _ _ _ h => h) (Or.inl ⟨by kernel_rfl, ?hy913⟩) hS0 ?rest913
      case hy913 => (intro w9 hSw; go_simp; try with_reducible rfl)
      try simp only [Act.put, List.setIfInBounds_toArray, List.set_cons_zero, List.set_cons_succ]
      refine wpAnyH_take (i := 14) (oi := _) (v := ?v914) rfl (by kernel_rfl) (by kernel_rfl) (by kernel_rfl) (fun _ _ _ h => h) (Or.inl ⟨by kernel_rfl, ?hy914⟩) hS0 ?rest914
      case hy914 => (intro w9 hSw; go_simp; try with_reducible rfl)
      try simp only [Act.put, List.setIfInBounds_toArray, List.set_cons_zero, List.set_cons_succ]
      refine wpAnyH_ready (rs := [4, 10]) (by kernel_rfl) (by simp) ?_
      refine AllReadyH.cons (o := _) rfl (fun K hK => ?_) ?_
      · go_simp
        refine hK.out _ _ (sA1) (fun hHeld => ?_)
        clear hK K hHeld
        try simp only [Act.put, List.setIfInBounds_toArray, List.set_cons_zero, List.set_cons_succ]
        refine wpAnyH_ready (rs := [7, 10]) (by kernel_rfl) (by simp) ?_
        refine AllReadyH.cons (o := _) rfl (fun K hK => ?_) ?_
        · refine step_append rfl _ _ _ rfl rfl rfl rA1.out ?_
          refine hK.out _ _ (sA2) (fun hHeld => ?_)
          clear hK K hHeld
          try simp only [Act.put, List.setIfInBounds_toArray, List.set_cons_zero, List.set_cons_succ]
          refine wpAnyH_ready (rs := [10]) (by kernel_rfl) (by simp) ?_
          refine AllReadyH.cons (o := _) rfl (fun K hK => ?_) ?_
          · go_simp
            refine hK.out _ _ (sA3) (fun hHeld => ?_)
            clear hK K hHeld
            try simp only [Act.put, List.setIfInBounds_toArray, List.set_cons_zero, List.set_cons_succ]
            refine wpAnyH_ready (rs := [11]) (by kernel_rfl) (by simp) ?_
            refine AllReadyH.cons (o := _) rfl (fun K hK => ?_) ?_
            · refine step_append rfl _ _ _ rfl rfl rfl rA2.out ?_
              refine hK.out _ _ (sA4) (fun hHeld => ?_)
              clear hK K hHeld
              try simp only [Act.put, List.setIfInBounds_toArray, List.set_cons_zero, List.set_cons_succ]
              refine wpAnyH_ready (rs := [15]) (by kernel_rfl) (by simp) ?_
              refine AllReadyH.cons (o := _) rfl (fun K hK => ?_) ?_
              · go_simp
                refine hK.out _ _ (sA4) (fun hHeld => ?_)
                clear hK K hHeld
                try simp only [Act.put, List.setIfInBounds_toArray, List.set_cons_zero, List.set_cons_succ]
                refine wpAnyH_ready (rs := [16]) (by kernel_rfl) (by simp) ?_
                refine AllReadyH.cons (o := _) rfl (fun K hK => ?_) ?_
                · go_simp
                  refine hK.out _ _ (sA4) (fun hHeld => ?_)
                  clear hK K hHeld
                  try simp only [Act.put, List.setIfInBounds_toArray, List.set_cons_zero, List.set_cons_succ]
                  refine wpAnyH_ready (rs := [17]) (by kernel_rfl) (by simp) ?_
                  refine AllReadyH.cons (o := _) rfl (fun K hK => ?_) ?_
                  · go_simp
                    refine hK.out _ _ (sA5) (fun hHeld => ?_)
                    clear hK K hHeld
                    try simp only [Act.put, List.setIfInBounds_toArray, List.set_cons_zero, List.set_cons_succ]
                    refine ⟨by kernel_rfl, ?_⟩
                    go_wp2
                    go_meet
                    case rel => exact ⟨_, _, _, rfl, fA.out.1, fA.out.2⟩
                  exact AllReadyH.nil
                exact AllReadyH.nil
              exact AllReadyH.nil
            exact AllReadyH.nil
          exact AllReadyH.nil
        refine AllReadyH.cons (o := _) rfl (fun K hK => ?_) ?_
        · go_simp
          refine hK.out _ _ (sB2) (fun hHeld => ?_)
          clear hK K hHeld
          try simp only [Act.put, List.setIfInBounds_toArray, List.set_cons_zero, List.set_cons_succ]
          refine wpAnyH_ready (rs := [7]) (by kernel_rfl) (by simp) ?_
          refine AllReadyH.cons (o := _) rfl (fun K hK => ?_) ?_
          · refine step_append rfl _ _ _ rfl rfl rfl rB1.out ?_
            refine hK.out _ _ (sB3) (fun hHeld => ?_)
            clear hK K hHeld
            try simp only [Act.put, List.setIfInBounds_toArray, List.set_cons_zero, List.set_cons_succ]
            refine wpAnyH_ready (rs := [11]) (by kernel_rfl) (by simp) ?_
            refine AllReadyH.cons (o := _) rfl (fun K hK => ?_) ?_
            · refine step_append rfl _ _ _ rfl rfl rfl rB2.out ?_
              refine hK.out _ _ (sB4) (fun hHeld => ?_)
              clear hK K hHeld
              try simp only [Act.put, List.setIfInBounds_toArray, List.set_cons_zero, List.set_cons_succ]
              refine wpAnyH_ready (rs := [15]) (by kernel_rfl) (by simp) ?_
              refine AllReadyH.cons (o := _) rfl (fun K hK => ?_) ?_
              · go_simp
                refine hK.out _ _ (sB4) (fun hHeld => ?_)
                clear hK K hHeld
                try simp only [Act.put, List.setIfInBounds_toArray, List.set_cons_zero, List.set_cons_succ]
                refine wpAnyH_ready (rs := [16]) (by kernel_rfl) (by simp) ?_
                refine AllReadyH.cons (o := _) rfl (fun K hK => ?_) ?_
                · go_simp
                  refine hK.out _ _ (sB4) (fun hHeld => ?_)
                  clear hK K hHeld
                  try simp only [Act.put, List.setIfInBounds_toArray, List.set_cons_zero, List.set_cons_succ]
                  refine wpAnyH_ready (rs := [17]) (by kernel_rfl) (by simp) ?_
                  refine AllReadyH.cons (o := _) rfl (fun K hK => ?_) ?_
                  · go_simp
                    refine hK.out _ _ (sB5) (fun hHeld => ?_)
                    clear hK K hHeld
                    try simp only [Act.put, List.setIfInBounds_toArray, List.set_cons_zero, List.set_cons_succ]
                    refine ⟨by kernel_rfl, ?_⟩
                    go_wp2
                    go_meet
                    case rel => exact ⟨_, _, _, rfl, fB.out.1, fB.out.2⟩
                  exact AllReadyH.nil
                exact AllReadyH.nil
              exact AllReadyH.nil
            exact AllReadyH.nil
          exact AllReadyH.nil
        exact AllReadyH.nil
      refine AllReadyH.cons (o := _) rfl (fun K hK => ?_) ?_
      · go_simp
        refine hK.out _ _ (sC1) (fun hHeld => ?_)
        clear hK K hHeld
        try simp only [Act.put, List.setIfInBounds_toArray, List.set_cons_zero, List.set_cons_succ]
        refine wpAnyH_ready (rs := [4]) (by kernel_rfl) (by simp) ?_
        refine AllReadyH.cons (o := _) rfl (fun K hK => ?_) ?_
        · go_simp
          refine hK.out _ _ (sC2) (fun hHeld => ?_)
          clear hK K hHeld
          try simp only [Act.put, List.setIfInBounds_toArray, List.set_cons_zero, List.set_cons_succ]
          refine wpAnyH_ready (rs := [7]) (by kernel_rfl) (by simp) ?_
          refine AllReadyH.cons (o := _) rfl (fun K hK => ?_) ?_
          · refine step_append rfl _ _ _ rfl rfl rfl rC1.out ?_
            refine hK.out _ _ (sC3) (fun hHeld => ?_)
            clear hK K hHeld
            try simp only [Act.put, List.setIfInBounds_toArray, List.set_cons_zero, List.set_cons_succ]
            refine wpAnyH_ready (rs := [11]) (by kernel_rfl) (by simp) ?_
            refine AllReadyH.cons (o := _) rfl (fun K hK => ?_) ?_
            · refine step_append rfl _ _ _ rfl rfl rfl rC2.out ?_
              refine hK.out _ _ (sC4) (fun hHeld => ?_)
              clear hK K hHeld
              try simp only [Act.put, List.setIfInBounds_toArray, List.set_cons_zero, List.set_cons_succ]
              refine wpAnyH_ready (rs := [15]) (by kernel_rfl) (by simp) ?_
              refine AllReadyH.cons (o := _) rfl (fun K hK => ?_) ?_
              · go_simp
                refine hK.out _ _ (sC4) (fun hHeld => ?_)
                clear hK K hHeld
                try simp only [Act.put, List.setIfInBounds_toArray, List.set_cons_zero, List.set_cons_succ]
                refine wpAnyH_ready (rs := [16]) (by kernel_rfl) (by simp) ?_
                refine AllReadyH.cons (o := _) rfl (fun K hK => ?_) ?_
                · go_simp
                  refine hK.out _ _ (sC4) (fun hHeld => ?_)
                  clear hK K hHeld
                  try simp only [Act.put, List.setIfInBounds_toArray, List.set_cons_zero, List.set_cons_succ]
                  refine wpAnyH_ready (rs := [17]) (by kernel_rfl) (by simp) ?_
                  refine AllReadyH.cons (o := _) rfl (fun K hK => ?_) ?_
                  · go_simp
                    refine hK.out _ _ (sC5) (fun hHeld => ?_)
                    clear hK K hHeld
                    try simp only [Act.put, List.setIfInBounds_toArray, List.set_cons_zero, List.set_cons_succ]
                    refine ⟨by kernel_rfl, ?_⟩
                    go_wp2
                    go_meet
                    case rel => exact ⟨_, _, _, rfl, fC.out.1, fC.out.2⟩
                  exact AllReadyH.nil
                exact AllReadyH.nil
              exact AllReadyH.nil
            exact AllReadyH.nil
          exact AllReadyH.nil
        exact AllReadyH.nil
      exact AllReadyH.nil
    case rest =>
      obtain ⟨ad2, cp2, w2, rfl, h2, q2⟩ := hcut
      have hs1 := HS1.out
      have hsz2 := q2.size
      have hn := HN.out
      have HX2 := HX1.out.kept1 q2
      have HT2 := HTT1.out.kept1 q2
      have TI2 := twin_inE hn h2
      obtain ⟨g, rfl, hg2, hc2, hc3, t70, t71⟩ := twin_endsE hn h2
      have hgB : w1.heap.size ≤ g := by
        have hl : (rt ++ [(⟨0, 0, -70⟩ : Ent), ⟨0, 0, -71⟩]).length = n + 2 := by simp [hn]
        exact (h2.lt g rfl).1
      obtain ⟨w3, hw3⟩ : ∃ w3, w2.setCell ⟨w.heap.size + 1, 5, none⟩ (.slice (some ⟨g, 0, none⟩) n cp2) = w3 := ⟨_, rfl⟩
      have HX3 : Blk w.heap.size #[.int .i64 kd, .bool pn, .int .i64 lk, .int .i64 sz, .int .i64 dp, .slice ad n cap] 24 w3 := by rw [← hw3]; exact HX2.other (by show w.heap.size + 1 ≠ w.heap.size; omega) _
      have HT3 : Blk (w.heap.size + 1) #[.int .i64 kd, .bool pn, .int .i64 lk, .int .i64 sz, .int .i64 dp, .slice (some ⟨g, 0, none⟩) n cp2] 24 w3 := by
        rw [← hw3]
        have := HT2.set 5 (.slice (some ⟨g, 0, none⟩) n cp2)
        simpa using this
      have b13 : Below w.heap.size w w3 := by rw [← hw3]; exact (HB1.out.trans (q2.mono (by omega))).setCell (show w.heap.size ≤ w.heap.size + 1 by omega) _
      have hkeep : ∀ j, w3.cell? ⟨g, j, none⟩ = w2.cell? ⟨g, j, none⟩ := fun j => by rw [← hw3]; exact World.cell?_of_block (a := ⟨g, j, none⟩) (Below.heap_setCell w2 _ _ g (by show g ≠ w.heap.size + 1; omega))
      have t70 := (hkeep (n * 3 + 2)).trans t70
      have t71 := (hkeep ((n + 1) * 3 + 2)).trans t71
      have hg3 : g < w3.heap.size := by rw [← hw3]; show g < (w2.heap.modify _ _).size; rw [Array.size_modify]; exact hg2
      have TI3 : EntsIn (.slice (some ⟨g, 0, none⟩) n cp2) rt w3 := by
        obtain ⟨z0, za, zc, ze, z1, z2, z3, z4⟩ := TI2
        cases ze
        refine ⟨z0, _, _, by rw [hn], by omega, z2, fun hp => ?_, fun h => by cases h⟩
        obtain ⟨g', o', e, zg, hc⟩ := z3 hp
        cases e
        exact ⟨g, 0, rfl, hg3, fun k u hk => by rw [hkeep]; exact hc k u hk⟩
      have TV3 : EntsIn (.slice ad n cap) rt w3 := HVA.out.kept b13
      rw [hw3]
      have HX3 := Lib.hid HX3
      have HT3 := Lib.hid HT3
      have HB3 := Lib.hid b13
      have TI3 := Lib.hid TI3
      have TV3 := Lib.hid TV3
      have n70 := Lib.hid t70
      have n71 := Lib.hid t71
      clear hw3 hkeep TI2 HX2 HT2 h2 q2 hgB b13 hs1 hsz2 hg2 HTT1 HX1 HW1 HB1 HO1 t70 t71
      obtain ⟨x0, x1, x2, x3, x4, x5⟩ : w3.cell? ⟨w.heap.size, 0, none⟩ = some (.int .i64 kd) ∧ w3.cell? ⟨w.heap.size, 1, none⟩ = some (.bool pn) ∧ w3.cell? ⟨w.heap.size, 2, none⟩ = some (.int .i64 lk) ∧ w3.cell? ⟨w.heap.size, 3, none⟩ = some (.int .i64 sz) ∧ w3.cell? ⟨w.heap.size, 4, none⟩ = some (.int .i64 dp) ∧ w3.cell? ⟨w.heap.size, 5, none⟩ = some (.slice ad n cap) := ⟨HX3.out.cell 0, HX3.out.cell 1, HX3.out.cell 2, HX3.out.cell 3, HX3.out.cell 4, HX3.out.cell 5⟩
      obtain ⟨t0, t1, t2, t3, t4, t5⟩ : w3.cell? ⟨w.heap.size + 1, 0, none⟩ = some (.int .i64 kd) ∧ w3.cell? ⟨w.heap.size + 1, 1, none⟩ = some (.bool pn) ∧ w3.cell? ⟨w.heap.size + 1, 2, none⟩ = some (.int .i64 lk) ∧ w3.cell? ⟨w.heap.size + 1, 3, none⟩ = some (.int .i64 sz) ∧ w3.cell? ⟨w.heap.size + 1, 4, none⟩ = some (.int .i64 dp) ∧ w3.cell? ⟨w.heap.size + 1, 5, none⟩ = some (.slice (some ⟨g, 0, none⟩) n cp2) := ⟨HT3.out.cell 0, HT3.out.cell 1, HT3.out.cell 2, HT3.out.cell 3, HT3.out.cell 4, HT3.out.cell 5⟩
      go_wp2_with fail
      refine (E.out _ _ TI3.out).mono ?_; rintro e w4 ⟨rfl, b4⟩
      have HX4 := Lib.hid (HX3.out.kept1 b4)
      have HT4 := Lib.hid (HT3.out.kept1 b4)
      have TI4 := Lib.hid (TI3.out.kept b4)
      have TV4 := Lib.hid (TV3.out.kept b4)
      have m70 := Lib.hid ((b4.cell (p := ⟨g, n * 3 + 2, none⟩) hg3).trans n70.out)
      have m71 := Lib.hid ((b4.cell (p := ⟨g, (n + 1) * 3 + 2, none⟩) hg3).trans n71.out)
      have HB4 := Lib.hid (bnext HB3.out b4)
      have hg4 : g < w4.heap.size := Nat.lt_of_lt_of_le hg3 b4.size
      clear x0 x1 x2 x3 x4 x5 t0 t1 t2 t3 t4 t5 HX3 HT3 TI3 TV3 n70 n71 HB3 b4 hg3
      obtain ⟨x0, x1, x2, x3, x4, x5⟩ : w4.cell? ⟨w.heap.size, 0, none⟩ = some (.int .i64 kd) ∧ w4.cell? ⟨w.heap.size, 1, none⟩ = some (.bool pn) ∧ w4.cell? ⟨w.heap.size, 2, none⟩ = some (.int .i64 lk) ∧ w4.cell? ⟨w.heap.size, 3, none⟩ = some (.int .i64 sz) ∧ w4.cell? ⟨w.heap.size, 4, none⟩ = some (.int .i64 dp) ∧ w4.cell? ⟨w.heap.size, 5, none⟩ = some (.slice ad n cap) := ⟨HX4.out.cell 0, HX4.out.cell 1, HX4.out.cell 2, HX4.out.cell 3, HX4.out.cell 4, HX4.out.cell 5⟩
      go_wp2_with fail
      refine (RE.out _ _ TV4.out).mono ?_; rintro e w5 ⟨rfl, b5⟩
      have HX5 := Lib.hid (HX4.out.kept1 b5)
      have HT5 := Lib.hid (HT4.out.kept1 b5)
      have TI5 := Lib.hid fun p : BelowP w5 => (TI4.out.kept b5).kept p.h
      have TV5 := Lib.hid fun p : BelowP w5 => (TV4.out.kept b5).kept p.h
      have hg5 : g < w5.heap.size := Nat.lt_of_lt_of_le hg4 b5.size
      have u70 := (b5.cell (p := ⟨g, n * 3 + 2, none⟩) hg4).trans m70.out
      have u71 := (b5.cell (p := ⟨g, (n + 1) * 3 + 2, none⟩) hg4).trans m71.out
      have v70 : ∀ p : BelowP w5, p.to.cell? ⟨g, n * 3 + 2, none⟩ = some (.int .i64 (-70)) := fun p => (p.h.cell (p := ⟨g, n * 3 + 2, none⟩) hg5).trans u70
      have v71 : ∀ p : BelowP w5, p.to.cell? ⟨g, (n + 1) * 3 + 2, none⟩ = some (.int .i64 (-71)) := fun p => (p.h.cell (p := ⟨g, (n + 1) * 3 + 2, none⟩) hg5).trans u71
      have HB5 := Lib.hid (bnext HB4.out b5)
      clear x0 x1 x2 x3 x4 x5 HX4 HT4 TI4 TV4 m70 m71 HB4 b5 hg4 u70 u71
      obtain ⟨x0, x1, x2, x3, x4, x5⟩ : w5.cell? ⟨w.heap.size, 0, none⟩ = some (.int .i64 kd) ∧ w5.cell? ⟨w.heap.size, 1, none⟩ = some (.bool pn) ∧ w5.cell? ⟨w.heap.size, 2, none⟩ = some (.int .i64 lk) ∧ w5.cell? ⟨w.heap.size, 3, none⟩ = some (.int .i64 sz) ∧ w5.cell? ⟨w.heap.size, 4, none⟩ = some (.int .i64 dp) ∧ w5.cell? ⟨w.heap.size, 5, none⟩ = some (.slice ad n cap) := ⟨HX5.out.cell 0, HX5.out.cell 1, HX5.out.cell 2, HX5.out.cell 3, HX5.out.cell 4, HX5.out.cell 5⟩
      have t5 := HT5.out.cell 5
      go_upto_region 8 with fail
      clear x0 x1 x2 x3 x4 x5 t5
      have k0 : ∀ p : BelowP w5, p.to.cell? ⟨w.heap.size, 0, none⟩ = some (.int .i64 kd) := fun p => (HX5.out.kept1 p.h).cell 0
      have j0 : ∀ p : BelowP w5, p.to.cell? ⟨w.heap.size + 1, 0, none⟩ = some (.int .i64 kd) := fun p => (HT5.out.kept1 p.h).cell 0
      have k1 : ∀ p : BelowP w5, p.to.cell? ⟨w.heap.size, 1, none⟩ = some (.bool pn) := fun p => (HX5.out.kept1 p.h).cell 1
      have j1 : ∀ p : BelowP w5, p.to.cell? ⟨w.heap.size + 1, 1, none⟩ = some (.bool pn) := fun p => (HT5.out.kept1 p.h).cell 1
      have k2 : ∀ p : BelowP w5, p.to.cell? ⟨w.heap.size, 2, none⟩ = some (.int .i64 lk) := fun p => (HX5.out.kept1 p.h).cell 2
      have j2 : ∀ p : BelowP w5, p.to.cell? ⟨w.heap.size + 1, 2, none⟩ = some (.int .i64 lk) := fun p => (HT5.out.kept1 p.h).cell 2
      have k3 : ∀ p : BelowP w5, p.to.cell? ⟨w.heap.size, 3, none⟩ = some (.int .i64 sz) := fun p => (HX5.out.kept1 p.h).cell 3
      have j3 : ∀ p : BelowP w5, p.to.cell? ⟨w.heap.size + 1, 3, none⟩ = some (.int .i64 sz) := fun p => (HT5.out.kept1 p.h).cell 3
      have k4 : ∀ p : BelowP w5, p.to.cell? ⟨w.heap.size, 4, none⟩ = some (.int .i64 dp) := fun p => (HX5.out.kept1 p.h).cell 4
      have j4 : ∀ p : BelowP w5, p.to.cell? ⟨w.heap.size + 1, 4, none⟩ = some (.int .i64 dp) := fun p => (HT5.out.kept1 p.h).cell 4
      have k5 : ∀ p : BelowP w5, p.to.cell? ⟨w.heap.size, 5, none⟩ = some (.slice ad n cap) := fun p => (HX5.out.kept1 p.h).cell 5
      have j5 : ∀ p : BelowP w5, p.to.cell? ⟨w.heap.size + 1, 5, none⟩ = some (.slice (some ⟨g, 0, none⟩) n cp2) := fun p => (HT5.out.kept1 p.h).cell 5
      have ce : (c == c) = true := by simp
      have CT := Lib.hid fun p : BelowP w5 => C.out _ p.to (TI5.out p)
      have RCT := Lib.hid fun p : BelowP w5 => RC.out _ p.to (TV5.out p)
      have ST := Lib.hid fun p : BelowP w5 => S.out _ _ p.to (TI5.out p) (TV5.out p)
      clear HX5 HT5 TI5 TV5 C RC S E RE
      refine wp_region_quiet_below mixed (by kernel_rfl) ?_
      repeat (go_big_quiet_step (first | (go_at_call 11; refine calls_below (CT.out _)) | (go_at_call 12; refine calls_below (RCT.out _)) | (go_at_call 13; refine calls_below (ST.out _)) | (go_at_call 14; refine calls_below (AL.out _))))
      refine wpQuiet_nil ?_
      intro w0q hw'
      obtain ⟨⟨wq, bq⟩, hw''⟩ := hw'
      have hw2 : wq = w0q := hw''.symm
      clear hw''
      subst hw2
      have HBq := bnext HB5.out bq
      clear k0 k1 k2 k3 k4 k5 j0 j1 j2 j3 j4 j5 v70 v71 CT RCT ST
      go_wp2
      go_ret
      exact ⟨rfl, HBq⟩
  · have dl : decide ((1000 : Int) < (x.root.length : Int)) = true := decide_eq_true (by omega)
    obtain ⟨kd, pn, lk, sz, dp, rt⟩ := x
    dsimp only at *
    clear hl hv hf
    go_enter Try.func3, Try.ntmps3
    go_wp2
    go_ret
    exact ⟨rfl, hb0⟩
end Go.Proofs.Ytfepjjjoikcljaa
