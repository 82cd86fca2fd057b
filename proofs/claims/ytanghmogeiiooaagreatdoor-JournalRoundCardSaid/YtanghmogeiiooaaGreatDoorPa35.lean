import Derived.Test.YtanghmogeiiooaaGreatDoorPa31
import Derived.Test.YtanghmogeiiooaaGreatDoorPa11
import Derived.Test.YtanghmogeiiooaaGreatDoorPa21
import Derived.Shelf.Bits.Mul64
import Derived.Deep.CutBlock
set_option linter.unusedVariables false
set_option linter.unusedSimpArgs false
set_option linter.constructorNameAsVariable false
/- slices.Repeat of one text. -/
namespace Go.Proofs.YtanghmogeiiooaaGreatDoor
set_option linter.unusedVariables false
set_option linter.unusedSimpArgs false
open Go.RowKit

theorem step_copy {ops : Array Oper} {o : Oper} {a : Act} {w w2 : World} {K : Act → World → Prop} {Q : Exit → Act → World → Prop} {E : Prop} (hw : Region.wanted o (yielded ops a.tmps) = true) (s x : Operand) (T : TypeId)
    (ho : o.op = .call { callee := .builtin .copy, args := #[s, x], argTypes := #[T, T] }) {vs vx v' : Value} (hs : a.eval s = vs) (hx : a.eval x = vx)
    (hrun : (Builtin.copy_ #[T, T] o.type #[vs, vx]).run Tryz.prog w = .ok v' w2) (h : K (a.put o.dst v') w2) : if Region.wanted o (yielded ops a.tmps) = true then Oper.wp Tryz.prog o a w K Q else E := by
  rw [if_pos hw]
  unfold Oper.wp execOp
  simp only [ho, resolve, invoke, builtin, Sem.run_bind, Sem.run_pure, Result.andThen_ok, List.map_toArray, List.map_cons, List.map_nil, hs, hx, hrun]
  exact h
theorem wpList_run_copy {ops : Array Oper} {rest : List Oper} {o : Oper} {a : Act} {Q : Exit → Act → World → Prop} {w w2 : World} (hgd : o.guard = none) (s x : Operand) (T : TypeId)
    (ho : o.op = .call { callee := .builtin .copy, args := #[s, x], argTypes := #[T, T] }) {vs vx v' : Value} (hs : a.eval s = vs) (hx : a.eval x = vx)
    (hrun : (Builtin.copy_ #[T, T] o.type #[vs, vx]).run Tryz.prog w = .ok v' w2) (h : wpList Tryz.prog ops Q rest (a.put o.dst v') w2) : wpList Tryz.prog ops Q (o :: rest) a w := by
  refine wpList_plain hgd fun K' hK' => ?_
  unfold Oper.wp execOp
  simp only [ho, resolve, invoke, builtin, Sem.run_bind, Sem.run_pure, Result.andThen_ok, List.map_toArray, List.map_cons, List.map_nil, hs, hx, hrun]
  exact hK' _ _ h
theorem str_size : (Tryz.prog.info? 9).map (·.size) = some 1 := by kernel_rfl
/-- the first k texts are s -/
def fillS (s : ByteArray) (k : Nat) : Nat → Value := fun j => if j < k then .string s else .string ⟨#[]⟩
theorem texts_made (n : Nat) (hn : n ≤ 4096) (w : World) :
    (Instr.makeSlice 106 (.int .i64 n) (.int .i64 n)).run Tryz.prog w = .ok (.slice (some ⟨w.heap.size, 0, none⟩) n n) (w.alloc (.cells (madeCells #[.string ⟨#[]⟩] n) 9)) := by
  obtain ⟨i, hi, hz, hs, hb⟩ := info_parts str_info
  have h := run_make (P := Tryz.prog) w 106 9 i (.string ⟨#[]⟩) Tryz.underlying106 hi hz .i64 .i64 n n (by omega) (Int.le_refl _) (by rw [hb]; omega) (by omega)
  simpa [hs, Value.cells] using h
/-- copying the first of them behind -/
theorem run_copy_fill {w : World} {ty : TypeId} {g k N p cap cap' : Nat} {s : ByteArray} {a : Addr} {m q : Nat} (h : CellsAt g N (fillS s k) w) (hm : m = min q p) (hk : k + m ≤ N) (hsrc : ∀ j, j < m → w.cell? (a.add j) = some (.string s)) :
    ∃ w', (Builtin.copy_ #[106, 106] ty #[.slice (some ⟨g, k, none⟩) p cap, .slice (some a) q cap']).run Tryz.prog w = .ok (goInt m) w' ∧ CellsAt g N (fillS s (k + m)) w' ∧ (∀ B w0, Below B w0 w → B ≤ g → Below B w0 w') := by
  have hlen : (List.replicate m (Value.string s)).length = m := by simp
  have hrun := run_copy_cells (P := Tryz.prog) w 106 106 ty 9 g k p cap a q cap' (List.replicate m (.string s)) Tryz.underlying106 str_size
    (by rw [hlen, hm]) (fun j v hj => by
      obtain ⟨h1, h2⟩ := List.getElem?_eq_some_iff.1 hj
      rw [hlen] at h1
      rw [List.getElem_replicate] at h2
      rw [hsrc j h1, h2])
    (fun j hj => by rw [hlen] at hj; rw [(h.2 (k + j) (by omega)).1]; rfl) (fun j hj => by rw [hlen] at hj; exact (h.2 (k + j) (by omega)).2)
    (fun v hv => by rw [List.eq_of_mem_replicate hv]; rfl)
  rw [hlen] at hrun
  refine ⟨_, hrun, h.sets (by rw [hlen]; omega) _ (fun j hj => ?_) (fun j hj hn => ?_), fun B w0 hb hg => ?_⟩
  · rw [hlen] at hj
    rw [List.getElem_replicate]; unfold fillS; rw [if_pos (by omega)]
  · rw [hlen] at hn
    unfold fillS
    by_cases e : j < k
    · rw [if_pos (by omega), if_pos e]
    · rw [if_neg (by omega), if_neg e]
  · obtain ⟨k1, k2, k3, k4, k5⟩ := setCells_keeps g (List.replicate m (Value.string s)) k w
    exact ⟨k1.trans hb.os, k2.trans hb.tape, k3.trans hb.output, by rw [k4]; exact hb.size, fun i hi => (k5 i (by omega)).trans (hb.block i hi)⟩
theorem texts_filled {g N : Nat} {s : ByteArray} {w : World} (h : CellsAt g N (fillS s N) w) (hN : N ≤ 4096) : TextsIn (.slice (some ⟨g, 0, none⟩) N N) (List.replicate N s) w := by
  have hl : (List.replicate N s).length = N := by simp
  unfold TextsIn
  rw [hl]
  refine ⟨by simp, _, _, rfl, Nat.le_refl _, by unfold maxLen; omega, fun _ => ⟨g, 0, rfl, h.1, fun k u hk => ?_⟩, fun e => by cases e⟩
  obtain ⟨h1, h2⟩ := List.getElem?_eq_some_iff.1 hk
  rw [List.length_map, hl] at h1
  rw [List.getElem_map, List.getElem_replicate] at h2
  rw [Nat.zero_add, (h.2 k h1).1, ← h2]
  unfold fillS; rw [if_pos h1]
theorem jmul_any (N : Nat) (hN : N ≤ 4096) (w : World) : Calls Tryz.prog 83 #[.int .u64 1, .int .u64 (N : Int)] w fun e w' => e = .returned (.tuple #[.int .u64 0, .int .u64 (N : Int)]) ∧ w = w' := by
  have h := Any.bits_Mul { Tryz.repeatS with } 1 N (by decide) (by omega) w
  rw [show Tryz.repeatS_ren.f 212 = 83 by kernel_rfl, show 1 * N / 18446744073709551616 = 0 by omega, show 1 * N % 18446744073709551616 = N by omega] at h
  exact h.mono fun e w' ⟨he, hw⟩ => ⟨he, hw.symm⟩
set_option maxRecDepth 100000 in
set_option maxHeartbeats 1000000 in
theorem jrepeat_any (s : ByteArray) (N : Nat) (h1 : 1 ≤ N) (hN : N ≤ 4096) (v : Value) (w : World) (hv : TextsIn v [s] w) :
    Calls Tryz.prog 58 #[v, .int .i64 (N : Int)] w fun e w' => ∃ v', e = .returned v' ∧ TextsIn v' (List.replicate N s) w' ∧ Below w.heap.size w w' := by
  have mixed : Tryz.prog.follows .mixedOrders = true := by kernel_rfl
  have mk := texts_made N hN
  obtain ⟨ad, cap, rfl, f1, f2, f3, -⟩ := hv.shape
  obtain ⟨gs, os, rfl, hg, hc⟩ := row_cells f3 (by simp)
  have c0 : w.cell? ⟨gs, os, none⟩ = some (.string s) := by have := hc 0 (by simp); rw [Nat.add_zero] at this; exact this
  have MU := Lib.hid (jmul_any N hN w)
  have t0 : ((N : Int) == 0) = false := by rw [beq_eq_false_iff_ne]; omega
  have hcp : cap ≤ 9223372036854775807 := f2
  have HC : Hid (w.cell? ⟨gs, os, none⟩ = some (.string s)) := Lib.hid c0
  have M0 : CellsAt w.heap.size N (fillS s 0) (w.alloc (.cells (madeCells #[.string ⟨#[]⟩] N) 9)) := CellsAt.alloc_new w _ _ N _ fun j hj => by
    rw [madeCells_at _ _ _ hj]; unfold fillS; rw [if_neg (by omega)]
  obtain ⟨w5, hr5, M5, K5⟩ := run_copy_fill (ty := 3) (p := N) (cap := N) (cap' := cap) (a := ⟨gs, os, none⟩) (m := 1) (q := 1) M0 (by omega) (by omega) (fun j hj => by
    obtain rfl : j = 0 := by omega
    rw [add_at, Nat.add_zero]
    exact ((balloc1 w _).cell (p := ⟨gs, os, none⟩) hg).trans c0)
  have HM5 := Lib.hid M5
  have HB5 := Lib.hid (K5 w.heap.size w (balloc1 w _) (Nat.le_refl _))
  have HR5 := Lib.hid hr5
  simp only [List.length_cons, List.length_nil, Nat.zero_add] at f1 ⊢
  clear hv f3 hc c0 M0 M5 K5 hr5
  have hgo : ∀ k : Nat, goInt k = .int .i64 (k : Int) := fun k => rfl
  go_enter Tryz.func58, Tryz.ntmps58
  go_wp2_with fail
  refine MU.out.mono ?_; rintro e w2 ⟨rfl, rfl⟩
  clear MU
  go_wp2_with (refine wpList_run_copy rfl _ _ _ rfl rfl rfl HR5.out ?_)
  clear HR5 mk
  obtain ⟨g, hge⟩ : ∃ g, w.heap.size = g := ⟨_, rfl⟩
  rw [hge] at HM5 HB5 ⊢
  go_loopw [8] (fun q wr => ∃ k : Nat, q = .int .i64 k ∧ 1 ≤ k ∧ k ≤ N ∧ CellsAt g N (fillS s k) wr ∧ Below g w wr) (fun q _ => N - (intOf q).toNat)
  case atStart => exact ⟨1, rfl, Nat.le_refl _, h1, HM5.out, HB5.out⟩
  case round =>
    clear HM5 HB5 HC
    obtain ⟨k, rfl, hk1, hk, hM, hB⟩ := hrel
    by_cases hlt : k < N
    · obtain ⟨m, hm⟩ : ∃ m, m = min k (N - k) := ⟨_, rfl⟩
      have hNk : ¬ (N = k) := by omega
      have hkm : k + m ≤ N := by omega
      have hm1 : 1 ≤ m := by omega
      have hwr : IntKind.i64.wrap ((k : Int) + (m : Int)) = (k : Int) + (m : Int) := IntWalk.i64_in _ (by omega)
      have hMd : CellsAt g N (fillS s k) wr.drew := hM
      obtain ⟨w3, hr3, M3, K3⟩ := run_copy_fill (ty := 3) (p := N - k) (cap := N - k) (cap' := N) (a := ⟨g, 0, none⟩) (m := m) (q := k) hMd hm hkm (fun j hj => by
        rw [add_at, Nat.zero_add, (hMd.2 j (by omega)).1]; unfold fillS; rw [if_pos (by omega)])
      rw [hgo] at hr3
      have HM3 := Lib.hid M3
      have HB3 := Lib.hid (K3 g w hB.drew (Nat.le_refl _))
      have HR3 := Lib.hid hr3
      clear hM hB hMd hr3 M3 K3 hm hgo
      go_upto_region 9 with fail
      refine wp_region_held_drew (S := fun _ => True) mixed (trivial) (fun hHeld => ?_)
      refine wpAnyH_take (i := 0) (oi := _) (v := ?vf0) rfl (by kernel_rfl) (by kernel_rfl) (by kernel_rfl) (fun _ _ _ h => h) (Or.inl ⟨by kernel_rfl, ?hyf0⟩) hHeld ?restf0
      case hyf0 => (intro w9 hSw; clear hSw; go_simp; try with_reducible rfl)
      try simp only [Act.put, List.getElem_toArray, List.getElem_cons_zero, List.getElem_cons_succ, List.setIfInBounds_toArray, List.set_cons_zero, List.set_cons_succ]
      refine wpAnyH_take (i := 1) (oi := _) (v := ?vf1) rfl (by kernel_rfl) (by kernel_rfl) (by kernel_rfl) (fun _ _ _ h => h) (Or.inl ⟨by kernel_rfl, ?hyf1⟩) hHeld ?restf1
      case hyf1 => (intro w9 hSw; clear hSw; go_simp; try with_reducible rfl)
      try simp only [Act.put, List.getElem_toArray, List.getElem_cons_zero, List.getElem_cons_succ, List.setIfInBounds_toArray, List.set_cons_zero, List.set_cons_succ]
      refine wpAnyH_take (i := 2) (oi := _) (v := ?vf2) rfl (by kernel_rfl) (by kernel_rfl) (by kernel_rfl) (fun _ _ _ h => h) (Or.inl ⟨by kernel_rfl, ?hyf2⟩) hHeld ?restf2
      case hyf2 => (intro w9 hSw; clear hSw; go_simp; try with_reducible rfl)
      try simp only [Act.put, List.getElem_toArray, List.getElem_cons_zero, List.getElem_cons_succ, List.setIfInBounds_toArray, List.set_cons_zero, List.set_cons_succ]
      refine wpAnyH_take (i := 3) (oi := _) (v := ?vf3) rfl (by kernel_rfl) (by kernel_rfl) (by kernel_rfl) (fun _ _ _ h => h) (Or.inl ⟨by kernel_rfl, ?hyf3⟩) hHeld ?restf3
      case hyf3 => (intro w9 hSw; clear hSw; go_simp; try with_reducible rfl)
      try simp only [Act.put, List.getElem_toArray, List.getElem_cons_zero, List.getElem_cons_succ, List.setIfInBounds_toArray, List.set_cons_zero, List.set_cons_succ]
      refine wpAnyH_take (i := 4) (oi := _) (v := ?vf4) rfl (by kernel_rfl) (by kernel_rfl) (by kernel_rfl) (fun _ _ _ h => h) (Or.inl ⟨by kernel_rfl, ?hyf4⟩) hHeld ?restf4
      case hyf4 => (intro w9 hSw; clear hSw; go_simp; try with_reducible rfl)
      try simp only [Act.put, List.getElem_toArray, List.getElem_cons_zero, List.getElem_cons_succ, List.setIfInBounds_toArray, List.set_cons_zero, List.set_cons_succ]
      refine wpAnyH_take (i := 5) (oi := _) (v := ?vf5) rfl (by kernel_rfl) (by kernel_rfl) (by kernel_rfl) (fun _ _ _ h => h) (Or.inl ⟨by kernel_rfl, ?hyf5⟩) hHeld ?restf5
      case hyf5 => (intro w9 hSw; clear hSw; go_simp; try with_reducible rfl)
      try simp only [Act.put, List.getElem_toArray, List.getElem_cons_zero, List.getElem_cons_succ, List.setIfInBounds_toArray, List.set_cons_zero, List.set_cons_succ]
      refine wpAnyH_take (i := 6) (oi := _) (v := ?vf6) rfl (by kernel_rfl) (by kernel_rfl) (by kernel_rfl) (fun _ _ _ h => h) (Or.inl ⟨by kernel_rfl, ?hyf6⟩) hHeld ?restf6
      case hyf6 => (intro w9 hSw; clear hSw; go_simp; try with_reducible rfl)
      try simp only [Act.put, List.getElem_toArray, List.getElem_cons_zero, List.getElem_cons_succ, List.setIfInBounds_toArray, List.set_cons_zero, List.set_cons_succ]
      refine wpAnyH_ready (rs := [7]) (by kernel_rfl) (by simp) ?_
      refine AllReadyH.cons (o := _) rfl (fun K hK => ?_) ?_
      · refine step_copy rfl _ _ _ rfl rfl rfl HR3.out ?_
        refine hK.out _ _ (trivial) (fun hHeld3 => ?_)
        clear hK K hHeld
        have hHeld := hHeld3
        clear hHeld3
        try simp only [Act.put, List.getElem_toArray, List.getElem_cons_zero, List.getElem_cons_succ, List.setIfInBounds_toArray, List.set_cons_zero, List.set_cons_succ]
        refine wpAnyH_ready (rs := [8]) (by kernel_rfl) (by simp) ?_
        refine AllReadyH.cons (o := _) rfl (fun K hK => ?_) ?_
        · go_simp
          refine hK.out _ _ (trivial) (fun hHeld3 => ?_)
          clear hK K hHeld
          have hHeld := hHeld3
          clear hHeld3
          try simp only [Act.put, List.getElem_toArray, List.getElem_cons_zero, List.getElem_cons_succ, List.setIfInBounds_toArray, List.set_cons_zero, List.set_cons_succ]
          refine wpAnyH_ready (rs := [9]) (by kernel_rfl) (by simp) ?_
          refine AllReadyH.cons (o := _) rfl (fun K hK => ?_) ?_
          · go_simp
            refine hK.out _ _ (hHeld) (fun hHeld3 => ?_)
            clear hK K hHeld
            have hHeld := hHeld3
            clear hHeld3
            try simp only [Act.put, List.getElem_toArray, List.getElem_cons_zero, List.getElem_cons_succ, List.setIfInBounds_toArray, List.set_cons_zero, List.set_cons_succ]
            refine ⟨by kernel_rfl, ?_⟩
            go_wp2
            exact ⟨⟨k + m, by go_num, by omega, hkm, HM3.out, HB3.out⟩, by simp [intOf]; omega⟩
          exact AllReadyH.nil
        exact AllReadyH.nil
      exact AllReadyH.nil
    · obtain rfl : k = N := by omega
      have HT := Lib.hid (texts_filled hM hN)
      have HB := Lib.hid hB
      clear hM hB
      go_wp2
      go_ret
      exact ⟨_, rfl, HT.out, hge ▸ HB.out⟩
end Go.Proofs.YtanghmogeiiooaaGreatDoor
