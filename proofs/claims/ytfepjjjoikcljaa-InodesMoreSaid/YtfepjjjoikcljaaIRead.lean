/- number, read. -/
import Derived.Test.YtfepjjjoikcljaaIRMath
import Derived.Test.YtfepjjjoikcljaaIFields
import Derived.Test.YtfepjjjoikcljaaStepApp
import Derived.Deep.RegionHeld3
import Derived.Deep.RegionLaw
namespace Go.Proofs.Ytfepjjjoikcljaa
set_option linter.unusedVariables false
open Go.RowKit

theorem inumber_any (s : ByteArray) (hs : s.size ≤ maxLen) (a z : Int) (w : World) :
    Calls Try.prog 40 #[.string s, .int .i64 a, .int .i64 z] w fun e w' => e = .returned (.int .i64 (numP s a z)) ∧ w = w' := by
  have G := Lib.hid fun w => getInt_any s hs a z w
  unfold numP
  generalize intOk s a z = b at *
  generalize ((intV s a z : Nat) : Int) = n at *
  go_enter Try.func40, Try.ntmps40
  go_wp2_with fail
  refine (G.out _).mono ?_; rintro e w' ⟨rfl, rfl⟩
  go_wp2
  go_ret
  exact ⟨rfl, rfl⟩
theorem inumberAt0 (k : Nat) (hk : k ≤ 1000) (w : World) : Calls Try.prog 34 #[.int .i64 (k : Int), .int .i64 0] w fun e w' => e = .returned (.int .i64 (14 + 12 * (k : Int))) ∧ w = w' := by
  have := inumberAt_any k 0 (by omega) (by omega) w
  rw [show ((14 + 12 * k + 4 * 0 : Nat) : Int) = 14 + 12 * (k : Int) by omega] at this; exact this
theorem inumberAt1 (k : Nat) (hk : k ≤ 1000) (w : World) : Calls Try.prog 34 #[.int .i64 (k : Int), .int .i64 1] w fun e w' => e = .returned (.int .i64 (18 + 12 * (k : Int))) ∧ w = w' := by
  have := inumberAt_any k 1 (by omega) (by omega) w
  rw [show ((14 + 12 * k + 4 * 1 : Nat) : Int) = 18 + 12 * (k : Int) by omega] at this; exact this
theorem inumberAt2 (k : Nat) (hk : k ≤ 1000) (w : World) : Calls Try.prog 34 #[.int .i64 (k : Int), .int .i64 2] w fun e w' => e = .returned (.int .i64 (22 + 12 * (k : Int))) ∧ w = w' := by
  have := inumberAt_any k 2 (by omega) (by omega) w
  rw [show ((14 + 12 * k + 4 * 2 : Nat) : Int) = 22 + 12 * (k : Int) by omega] at this; exact this
theorem row_same' {B n : Nat} {v : Value} {e : TypeId} {z : Nat} {xs : List Value} {w w' : World} (h : w.ownsRow B e z v n xs) (he : ∀ j, B ≤ j → w'.heap[j]? = w.heap[j]?) : w'.ownsRow B e z v n xs :=
  ⟨h.1, h.2.imp id fun ⟨g, cap, cur, a, b, c, r⟩ => ⟨g, cap, cur, a, b, (he g b).trans c, r⟩⟩
theorem results_one_cell {fn : Func} {p : Tmp} {ty : TypeId} (h : fn.results = #[.cell p ty]) (tmps : Array Value) (P : Program) (w : World) :
    (results fn tmps).run P w = ((asAddr (tmps.getD p undef)).run P w).andThen fun a w1 => (loadVar ty a).run P w1 := by
  simp only [results, h]
  simp [Sem.run_bind, Result.andThen]
theorem app3_run {T e ty : TypeId} (ht : Try.prog.underlying T = some (.slice e)) (hinf : (Try.prog.info? e).map (fun i => (i.zero, i.size, i.bytes)) = some (some (.agg #[.int .i64 0, .int .i64 0, .int .i64 0]), 3, 24))
    (base : Nat) (v : Value) (L : List Ent) (y : Ent) (W : World) (hown : W.ownsRow base e 3 v L.length (cellsE L)) (hlen : L.length ≤ 4000) (hbase : base ≤ W.heap.size) :
    ∃ v' w', (Builtin.append_ #[T, T] ty #[v, .slice (some ⟨W.heap.size, 0, none⟩) 1 1]).run Try.prog (W.alloc (.cells (entC y) e)) = .ok v' w' ∧ w'.ownsRow base e 3 v' (L ++ [y]).length (cellsE (L ++ [y])) ∧ (W.alloc (.cells (entC y) e)).grownBy w' v.ownBlock := by
  obtain ⟨i0, hi, hz0, hz1, hz2⟩ := info_parts hinf
  obtain ⟨v', w', hr, k1, k2, _⟩ := run_append_own (P := Try.prog) (W.alloc (.cells (entC y) e)) base T ty e i0 _ 3 24 ht hi hz0 hz1 hz2 rfl (by decide) v L.length (cellsE L) (hown.alloc _) ⟨W.heap.size, 0, none⟩ 1 1 [.int .i64 y.log, .int .i64 y.phys, .int .i64 y.len] rfl (three_new W y e) (fun u hu => by simp at hu; rcases hu with rfl | rfl | rfl <;> rfl) (by unfold maxLen; omega) (by omega) (by rw [size_alloc]; omega)
  refine ⟨v', w', hr, ?_, k2⟩
  rw [List.length_append, List.length_singleton, cellsE_append]
  exact k1
abbrev noC : Array Value := inoC noI (.slice none 0 0)
theorem ino_info : (Try.prog.info? 24).map (·.size) = some 6 := by kernel_rfl
theorem wpList_store_ino {ops : Array Oper} {rest : List Oper} {o : Oper} {a : Act} {w : World} {Q : Exit → Act → World → Prop} (hgd : o.guard = none) (x y : Operand) (ho : o.op = .store 24 x y)
    {g n c : Nat} {ad : Option Addr} {i : Ino} (hx : a.eval x = .pointer (some ⟨g, 0, none⟩)) (hy : a.eval y = inoV i (.slice ad n c)) (old : Array Value) (hold : old.size = 6) (hg : Blk g old 24 w)
    (h : ∀ w2, InoAt g i (.slice ad n c) w2 → Below g w w2 → w2.heap.size = w.heap.size → (∀ k, k ≠ g → w2.heap[k]? = w.heap[k]?) → wpList Try.prog ops Q rest (a.put o.dst undef) w2) : wpList Try.prog ops Q (o :: rest) a w :=
  wpList_store_row hgd _ x y ho g (inoC i (.slice ad n c)) hx hy _ _ hg ino_info hold (by simp [Value.oneCell'])
    (h _ (setRow_heap w g _ _ _ _ hg) ⟨rfl, rfl, rfl, by simp, fun k hk => setRow_other w g k _ (by omega)⟩ (by simp) (fun k hk => setRow_other w g k _ hk))
set_option maxRecDepth 100000 in
set_option maxHeartbeats 8000000 in
theorem iread_any (s : ByteArray) (hs : s.size ≤ maxLen) (w : World) :
    Calls Try.prog 26 #[.string s] w fun e w' => ∃ v, e = .returned (inoV (readP s) v) ∧ EntsAt w.heap.size v (readP s).root w' ∧ Below w.heap.size w w' := by
  have mixed : Try.prog.follows .mixedOrders = true := by kernel_rfl
  have GN := Lib.hid fun a z w => inumber_any s hs a z w
  have A0 := Lib.hid inumberAt0
  have A1 := Lib.hid inumberAt1
  have A2 := Lib.hid inumberAt2
  have hcn : numP s 13 1 = ((intV s 13 1 : Nat) : Int) := rfl
  have hcb := intV_byte s 13
  obtain ⟨n, hn⟩ : ∃ n, n = intV s 13 1 := ⟨_, rfl⟩
  have hrd : readP s = readG (numP s) n := by rw [hn]; rfl
  rw [← hn] at hcn hcb
  rw [hrd]
  unfold readG
  dsimp only
  have HSUC := Lib.hid fun k => entsG_succ (numP s) k
  have HLEN := Lib.hid fun k => entsG_length (numP s) k
  have HENT : Hid (∀ k : Nat, entG (numP s) k = ⟨numP s (14 + 12 * (k : Int)) 4, numP s (18 + 12 * (k : Int)) 4, numP s (22 + 12 * (k : Int)) 4⟩) := Lib.hid fun k => rfl
  generalize numP s = N at *
  generalize entG N = EG at *
  generalize entsG N = ES at *
  clear hrd hn
  generalize hk0 : N 0 1 = kd at *
  generalize hk1 : N 1 1 = p1 at *
  generalize hk2 : N 2 2 = lk at *
  generalize hk4 : N 4 8 = sz at *
  generalize hk12 : N 12 1 = dp at *
  obtain ⟨w0, hw0⟩ : ∃ w0, (w.alloc (.cells #[.int .i64 0, .bool false, .int .i64 0, .int .i64 0, .int .i64 0, .slice none 0 0] 24)) = w0 := ⟨_, rfl⟩
  go_enter Try.func26, Try.ntmps26
  go_wp2_with fail
  refine (GN.out _ _ _).mono ?_; rintro e w1 ⟨rfl, rfl⟩
  try rw [hk0]
  go_wp2_with fail
  refine (GN.out _ _ _).mono ?_; rintro e w1 ⟨rfl, rfl⟩
  try rw [hk1]
  go_wp2_with fail
  refine (GN.out _ _ _).mono ?_; rintro e w1 ⟨rfl, rfl⟩
  try rw [hk2]
  go_wp2_with fail
  refine (GN.out _ _ _).mono ?_; rintro e w1 ⟨rfl, rfl⟩
  try rw [hk4]
  go_wp2_with fail
  refine (GN.out _ _ _).mono ?_; rintro e w1 ⟨rfl, rfl⟩
  try rw [hk12]
  go_wp2_with fail
  refine (GN.out _ _ _).mono ?_; rintro e w1 ⟨rfl, rfl⟩
  rw [hcn]
  obtain ⟨w2, hw2⟩ : ∃ w2, w0.alloc (.cells #[.int .i64 kd, .bool (p1 == 1), .int .i64 lk, .int .i64 sz, .int .i64 dp, .slice none 0 0] 24) = w2 := ⟨_, rfl⟩
  have hz0 : w0.heap.size = w.heap.size + 1 := by rw [← hw0, size_alloc]
  have hz2 : w2.heap.size = w.heap.size + 2 := by rw [← hw2, size_alloc, hz0]
  have hZ2 : Blk w.heap.size noC 24 w2 := by rw [← hw2]; exact (by rw [← hw0]; exact Blk.new _ _ w : Blk w.heap.size noC 24 w0).kept1 (balloc1 _ _)
  have hX2 : Blk (w.heap.size + 1) #[.int .i64 kd, .bool (p1 == 1), .int .i64 lk, .int .i64 sz, .int .i64 dp, .slice none 0 0] 24 w2 := by
    rw [← hw2, ← hz0]; exact Blk.new _ _ w0
  have hB2 : Below w.heap.size w w2 := by rw [← hw2, ← hw0]; exact balloc (balloc1 w _) _
  have HZ0 := Lib.hid hz0
  have HW2 := Lib.hid hw2
  generalize hpn : (p1 == 1) = pn at *
  have HPN := Lib.hid hpn
  clear hpn
  clear hk0 hk1 hk2 hk4 hk12 hw0 hz0 hw2 hcn
  have HES0 : Hid (ES 0 = []) := Lib.hid (List.eq_nil_of_length_eq_zero (HLEN.out 0))
  go_wp2
  rw [HZ0.out] at *
  go_loopw [19] (fun q wr => ∃ (k : Nat) (vr : Value), q = .int .i64 k ∧ k ≤ n ∧ Blk w.heap.size noC 24 wr ∧ Blk (w.heap.size + 1) #[.int .i64 kd, .bool pn, .int .i64 lk, .int .i64 sz, .int .i64 dp, vr] 24 wr ∧ EntsAt (w.heap.size + 2) vr (ES k) wr ∧ Below w.heap.size w wr) (fun q _ => n - (intOf q).toNat)
  case atStart =>
    try rw [HW2.out]
    exact ⟨0, _, rfl, Nat.zero_le _, hZ2, hX2, (by rw [HES0.out]; exact World.ownsRow_nil _ _ _ _), hB2⟩
  case round =>
    clear hZ2 hX2 hB2
    obtain ⟨k, vr, rfl, hk, hZ, hX, hR, hb⟩ := hrel
    by_cases hlt : k < n
    · have hlk := HLEN.out k
      obtain ⟨ad, cap, hvr, p1', p2, -⟩ := shape_of hR
      rw [hlk] at hvr p1'
      subst hvr
      have p2 : cap ≤ 9223372036854775807 := p2
      obtain ⟨x0, x1, x2, x3, x4, x5⟩ : wr.cell? ⟨w.heap.size + 1, 0, none⟩ = some (.int .i64 kd) ∧ wr.cell? ⟨w.heap.size + 1, 1, none⟩ = some (.bool pn) ∧ wr.cell? ⟨w.heap.size + 1, 2, none⟩ = some (.int .i64 lk) ∧ wr.cell? ⟨w.heap.size + 1, 3, none⟩ = some (.int .i64 sz) ∧ wr.cell? ⟨w.heap.size + 1, 4, none⟩ = some (.int .i64 dp) ∧ wr.cell? ⟨w.heap.size + 1, 5, none⟩ = some (.slice ad k cap) := ⟨hX.cell 0, hX.cell 1, hX.cell 2, hX.cell 3, hX.cell 4, hX.cell 5⟩
      obtain ⟨y, hy⟩ : ∃ y : Ent, y = ⟨N (14 + 12 * (k : Int)) 4, N (18 + 12 * (k : Int)) 4, N (22 + 12 * (k : Int)) 4⟩ := ⟨_, rfl⟩
      have hyE : EG k = y := by rw [HENT.out, hy]
      have hz := hb.size
      have hRL : wr.drew.ownsRow (w.heap.size + 2) 26 3 (.slice ad k cap) (ES k).length (cellsE (ES k)) := hR
      have hsz2 : w.heap.size + 2 ≤ wr.drew.heap.size := by have := hX.lt; show _ ≤ wr.heap.size; omega
      obtain ⟨v', w', hrun, hown', hg'⟩ := app3_run (T := 22) (ty := 22) Try.underlying22 entry_info (w.heap.size + 2) (.slice ad k cap) (ES k) y wr.drew hRL (by omega) hsz2
      rw [← hyE, ← HSUC.out k] at hown'
      obtain ⟨ad2, cap2, hv2, -⟩ := shape_of hown'
      rw [HLEN.out] at hv2
      subst hv2
      have hRd : (wr.drew.alloc (.cells (entC y) 26)).ownsRow (w.heap.size + 2) 26 3 (.slice ad k cap) (ES k).length (cellsE (ES k)) := hRL.alloc _
      have hbg := below_of_row hRd hg' (by rw [size_alloc]; omega)
      have hX' : Blk (w.heap.size + 1) #[.int .i64 kd, .bool pn, .int .i64 lk, .int .i64 sz, .int .i64 dp, .slice ad k cap] 24 w' := by
        have h1 : Blk (w.heap.size + 1) #[.int .i64 kd, .bool pn, .int .i64 lk, .int .i64 sz, .int .i64 dp, .slice ad k cap] 24 (wr.drew.alloc (.cells (entC y) 26)) := Blk.kept1 (w := wr.drew) hX (balloc1 _ _)
        exact (hbg.block _ (by omega)).trans h1
      have hZ' : Blk w.heap.size noC 24 w' := by
        have h1 : Blk w.heap.size noC 24 (wr.drew.alloc (.cells (entC y) 26)) := Blk.kept1 (w := wr.drew) hZ (balloc1 _ _)
        exact (hbg.block _ (by omega)).trans h1
      have hb' : Below w.heap.size w w' := (balloc (w := w) (a := wr.drew) hb.drew _).trans (hbg.mono (by omega))
      have y5 := hX'.cell 5
      have fz := fun j => hX'.frozen j
      have z5 : (wr.alloc (.cells (entC y) 26)).cell? ⟨w.heap.size + 1, 5, none⟩ = some (.slice ad k cap) := (hX.kept1 (balloc1 wr (.cells (entC y) 26))).cell 5
      have HF : Hid (Blk w.heap.size noC 24 (w'.setCell ⟨w.heap.size + 1, 5, none⟩ (.slice ad2 (k + 1) cap2)) ∧ Blk (w.heap.size + 1) #[.int .i64 kd, .bool pn, .int .i64 lk, .int .i64 sz, .int .i64 dp, .slice ad2 (k + 1) cap2] 24 (w'.setCell ⟨w.heap.size + 1, 5, none⟩ (.slice ad2 (k + 1) cap2)) ∧
          EntsAt (w.heap.size + 2) (.slice ad2 (k + 1) cap2) (ES (k + 1)) (w'.setCell ⟨w.heap.size + 1, 5, none⟩ (.slice ad2 (k + 1) cap2)) ∧ Below w.heap.size w (w'.setCell ⟨w.heap.size + 1, 5, none⟩ (.slice ad2 (k + 1) cap2))) :=
        Lib.hid ⟨hZ'.other (by show w.heap.size + 1 ≠ w.heap.size; omega) _, (by have := hX'.set 5 (.slice ad2 (k + 1) cap2); simpa using this), ownsRow_setCell_below hown' (a := ⟨w.heap.size + 1, 5, none⟩) (by show w.heap.size + 1 < w.heap.size + 2; omega) _, hb'.setCell (by show w.heap.size ≤ w.heap.size + 1; omega) _⟩
      subst hy
      clear hR hX hZ hb hlk hyE hz hRL hsz2 hown' hg' hRd hbg hX' hZ' hb'
      go_upto_region 5 with fail
      refine wp_region_held_drew (S := fun _ => True) mixed trivial (fun hHeld => ?_)
      clear hHeld
      refine wpAnyH_take (i := 0) (oi := _) (v := ?v90) rfl (by kernel_rfl) (by kernel_rfl) (by kernel_rfl) (fun _ _ _ h => h) (Or.inl ⟨by kernel_rfl, ?hy90⟩) trivial ?rest90
      case hy90 => (intro w9 hSw; clear hSw; go_simp; try with_reducible rfl)
      try simp only [Act.put, List.setIfInBounds_toArray, List.set_cons_zero, List.set_cons_succ]
      refine wpAnyH_take (i := 2) (oi := _) (v := ?v92) rfl (by kernel_rfl) (by kernel_rfl) (by kernel_rfl) (fun _ _ _ h => h) (Or.inl ⟨by kernel_rfl, ?hy92⟩) trivial ?rest92
      case hy92 => (intro w9 hSw; clear hSw; go_simp; try with_reducible rfl)
      try simp only [Act.put, List.setIfInBounds_toArray, List.set_cons_zero, List.set_cons_succ]
      refine wpAnyH_take (i := 3) (oi := _) (v := ?v93) rfl (by kernel_rfl) (by kernel_rfl) (by kernel_rfl) (fun _ _ _ h => h) (Or.inl ⟨by kernel_rfl, ?hy93⟩) trivial ?rest93
      case hy93 => (intro w9 hSw; clear hSw; go_simp; try with_reducible rfl)
      try simp only [Act.put, List.setIfInBounds_toArray, List.set_cons_zero, List.set_cons_succ]
      refine wpAnyH_take (i := 6) (oi := _) (v := ?v96) rfl (by kernel_rfl) (by kernel_rfl) (by kernel_rfl) (fun _ _ _ h => h) (Or.inl ⟨by kernel_rfl, ?hy96⟩) trivial ?rest96
      case hy96 => (intro w9 hSw; clear hSw; go_simp; try with_reducible rfl)
      try simp only [Act.put, List.setIfInBounds_toArray, List.set_cons_zero, List.set_cons_succ]
      refine wpAnyH_take (i := 7) (oi := _) (v := ?v97) rfl (by kernel_rfl) (by kernel_rfl) (by kernel_rfl) (fun _ _ _ h => h) (Or.inl ⟨by kernel_rfl, ?hy97⟩) trivial ?rest97
      case hy97 => (intro w9 hSw; clear hSw; go_simp; try with_reducible rfl)
      try simp only [Act.put, List.setIfInBounds_toArray, List.set_cons_zero, List.set_cons_succ]
      refine wpAnyH_take (i := 10) (oi := _) (v := ?v910) rfl (by kernel_rfl) (by kernel_rfl) (by kernel_rfl) (fun _ _ _ h => h) (Or.inl ⟨by kernel_rfl, ?hy910⟩) trivial ?rest910
      case hy910 => (intro w9 hSw; clear hSw; go_simp; try with_reducible rfl)
      try simp only [Act.put, List.setIfInBounds_toArray, List.set_cons_zero, List.set_cons_succ]
      refine wpAnyH_take (i := 11) (oi := _) (v := ?v911) rfl (by kernel_rfl) (by kernel_rfl) (by kernel_rfl) (fun _ _ _ h => h) (Or.inl ⟨by kernel_rfl, ?hy911⟩) trivial ?rest911
      case hy911 => (intro w9 hSw; clear hSw; go_simp; try with_reducible rfl)
      try simp only [Act.put, List.setIfInBounds_toArray, List.set_cons_zero, List.set_cons_succ]
      refine wpAnyH_ready (rs := [1, 4]) (by kernel_rfl) (by simp) ?_
      refine AllReadyH.cons (o := _) rfl (fun K hK => ?_) ?_
      · go_simp
        refine hK.out _ _ trivial (fun hHeld => ?_)
        clear hK K hHeld
        try simp only [Act.put, List.setIfInBounds_toArray, List.set_cons_zero, List.set_cons_succ]
        refine wpAnyH_ready (rs := [4]) (by kernel_rfl) (by simp) ?_
        refine AllReadyH.cons (o := _) rfl (fun K hK => ?_) ?_
        · go_simp
          refine (A0.out k (by omega) _).mono ?_; rintro e wz ⟨rfl, rfl⟩
          dsimp only
          refine hK.out _ _ trivial (fun hHeld => ?_)
          clear hK K hHeld
          try simp only [Act.put, List.setIfInBounds_toArray, List.set_cons_zero, List.set_cons_succ]
          refine wpAnyH_ready (rs := [5]) (by kernel_rfl) (by simp) ?_
          refine AllReadyH.cons (o := _) rfl (fun K hK => ?_) ?_
          · go_simp
            refine (GN.out _ _ _).mono ?_; rintro e wz ⟨rfl, rfl⟩
            dsimp only
            refine hK.out _ _ trivial (fun hHeld => ?_)
            clear hK K hHeld
            try simp only [Act.put, List.setIfInBounds_toArray, List.set_cons_zero, List.set_cons_succ]
            refine wpAnyH_ready (rs := [8]) (by kernel_rfl) (by simp) ?_
            refine AllReadyH.cons (o := _) rfl (fun K hK => ?_) ?_
            · go_simp
              refine (A1.out k (by omega) _).mono ?_; rintro e wz ⟨rfl, rfl⟩
              dsimp only
              refine hK.out _ _ trivial (fun hHeld => ?_)
              clear hK K hHeld
              try simp only [Act.put, List.setIfInBounds_toArray, List.set_cons_zero, List.set_cons_succ]
              refine wpAnyH_ready (rs := [9]) (by kernel_rfl) (by simp) ?_
              refine AllReadyH.cons (o := _) rfl (fun K hK => ?_) ?_
              · go_simp
                refine (GN.out _ _ _).mono ?_; rintro e wz ⟨rfl, rfl⟩
                dsimp only
                refine hK.out _ _ trivial (fun hHeld => ?_)
                clear hK K hHeld
                try simp only [Act.put, List.setIfInBounds_toArray, List.set_cons_zero, List.set_cons_succ]
                refine wpAnyH_ready (rs := [12]) (by kernel_rfl) (by simp) ?_
                refine AllReadyH.cons (o := _) rfl (fun K hK => ?_) ?_
                · go_simp
                  refine (A2.out k (by omega) _).mono ?_; rintro e wz ⟨rfl, rfl⟩
                  dsimp only
                  refine hK.out _ _ trivial (fun hHeld => ?_)
                  clear hK K hHeld
                  try simp only [Act.put, List.setIfInBounds_toArray, List.set_cons_zero, List.set_cons_succ]
                  refine wpAnyH_ready (rs := [13]) (by kernel_rfl) (by simp) ?_
                  refine AllReadyH.cons (o := _) rfl (fun K hK => ?_) ?_
                  · go_simp
                    refine (GN.out _ _ _).mono ?_; rintro e wz ⟨rfl, rfl⟩
                    dsimp only
                    refine hK.out _ _ trivial (fun hHeld => ?_)
                    clear hK K hHeld
                    try simp only [Act.put, List.setIfInBounds_toArray, List.set_cons_zero, List.set_cons_succ]
                    refine wpAnyH_ready (rs := [14]) (by kernel_rfl) (by simp) ?_
                    refine AllReadyH.cons (o := _) rfl (fun K hK => ?_) ?_
                    · go_simp
                      refine hK.out _ _ trivial (fun hHeld => ?_)
                      clear hK K hHeld
                      try simp only [Act.put, List.setIfInBounds_toArray, List.set_cons_zero, List.set_cons_succ]
                      refine wpAnyH_ready (rs := [15]) (by kernel_rfl) (by simp) ?_
                      refine AllReadyH.cons (o := _) rfl (fun K hK => ?_) ?_
                      · go_simp
                        refine hK.out _ _ trivial (fun hHeld => ?_)
                        clear hK K hHeld
                        try simp only [Act.put, List.setIfInBounds_toArray, List.set_cons_zero, List.set_cons_succ]
                        refine wpAnyH_ready (rs := [16]) (by kernel_rfl) (by simp) ?_
                        refine AllReadyH.cons (o := _) rfl (fun K hK => ?_) ?_
                        · refine step_append rfl _ _ _ rfl rfl rfl hrun ?_
                          refine hK.out _ _ trivial (fun hHeld => ?_)
                          clear hK K hHeld
                          try simp only [Act.put, List.setIfInBounds_toArray, List.set_cons_zero, List.set_cons_succ]
                          refine wpAnyH_ready (rs := [17]) (by kernel_rfl) (by simp) ?_
                          refine AllReadyH.cons (o := _) rfl (fun K hK => ?_) ?_
                          · go_simp
                            refine hK.out _ _ trivial (fun hHeld => ?_)
                            clear hK K hHeld
                            try simp only [Act.put, List.setIfInBounds_toArray, List.set_cons_zero, List.set_cons_succ]
                            refine wpAnyH_ready (rs := [18]) (by kernel_rfl) (by simp) ?_
                            refine AllReadyH.cons (o := _) rfl (fun K hK => ?_) ?_
                            · go_simp
                              refine hK.out _ _ trivial (fun hHeld => ?_)
                              clear hK K hHeld
                              try simp only [Act.put, List.setIfInBounds_toArray, List.set_cons_zero, List.set_cons_succ]
                              refine ⟨by kernel_rfl, ?_⟩
                              go_wp2
                              exact ⟨⟨k + 1, _, by go_num, by omega, HF.out.1, HF.out.2.1, HF.out.2.2.1, HF.out.2.2.2⟩, by simp [intOf]; omega⟩
                            exact AllReadyH.nil
                          exact AllReadyH.nil
                        exact AllReadyH.nil
                      exact AllReadyH.nil
                    exact AllReadyH.nil
                  exact AllReadyH.nil
                exact AllReadyH.nil
              exact AllReadyH.nil
            exact AllReadyH.nil
          exact AllReadyH.nil
        exact AllReadyH.nil
      refine AllReadyH.cons (o := _) rfl (fun K hK => ?_) ?_
      · go_simp
        refine (A0.out k (by omega) _).mono ?_; rintro e wz ⟨rfl, rfl⟩
        dsimp only
        refine hK.out _ _ trivial (fun hHeld => ?_)
        clear hK K hHeld
        try simp only [Act.put, List.setIfInBounds_toArray, List.set_cons_zero, List.set_cons_succ]
        refine wpAnyH_ready (rs := [1, 5]) (by kernel_rfl) (by simp) ?_
        refine AllReadyH.cons (o := _) rfl (fun K hK => ?_) ?_
        · go_simp
          refine hK.out _ _ trivial (fun hHeld => ?_)
          clear hK K hHeld
          try simp only [Act.put, List.setIfInBounds_toArray, List.set_cons_zero, List.set_cons_succ]
          refine wpAnyH_ready (rs := [5]) (by kernel_rfl) (by simp) ?_
          refine AllReadyH.cons (o := _) rfl (fun K hK => ?_) ?_
          · go_simp
            refine (GN.out _ _ _).mono ?_; rintro e wz ⟨rfl, rfl⟩
            dsimp only
            refine hK.out _ _ trivial (fun hHeld => ?_)
            clear hK K hHeld
            try simp only [Act.put, List.setIfInBounds_toArray, List.set_cons_zero, List.set_cons_succ]
            refine wpAnyH_ready (rs := [8]) (by kernel_rfl) (by simp) ?_
            refine AllReadyH.cons (o := _) rfl (fun K hK => ?_) ?_
            · go_simp
              refine (A1.out k (by omega) _).mono ?_; rintro e wz ⟨rfl, rfl⟩
              dsimp only
              refine hK.out _ _ trivial (fun hHeld => ?_)
              clear hK K hHeld
              try simp only [Act.put, List.setIfInBounds_toArray, List.set_cons_zero, List.set_cons_succ]
              refine wpAnyH_ready (rs := [9]) (by kernel_rfl) (by simp) ?_
              refine AllReadyH.cons (o := _) rfl (fun K hK => ?_) ?_
              · go_simp
                refine (GN.out _ _ _).mono ?_; rintro e wz ⟨rfl, rfl⟩
                dsimp only
                refine hK.out _ _ trivial (fun hHeld => ?_)
                clear hK K hHeld
                try simp only [Act.put, List.setIfInBounds_toArray, List.set_cons_zero, List.set_cons_succ]
                refine wpAnyH_ready (rs := [12]) (by kernel_rfl) (by simp) ?_
                refine AllReadyH.cons (o := _) rfl (fun K hK => ?_) ?_
                · go_simp
                  refine (A2.out k (by omega) _).mono ?_; rintro e wz ⟨rfl, rfl⟩
                  dsimp only
                  refine hK.out _ _ trivial (fun hHeld => ?_)
                  clear hK K hHeld
                  try simp only [Act.put, List.setIfInBounds_toArray, List.set_cons_zero, List.set_cons_succ]
                  refine wpAnyH_ready (rs := [13]) (by kernel_rfl) (by simp) ?_
                  refine AllReadyH.cons (o := _) rfl (fun K hK => ?_) ?_
                  · go_simp
                    refine (GN.out _ _ _).mono ?_; rintro e wz ⟨rfl, rfl⟩
                    dsimp only
                    refine hK.out _ _ trivial (fun hHeld => ?_)
                    clear hK K hHeld
                    try simp only [Act.put, List.setIfInBounds_toArray, List.set_cons_zero, List.set_cons_succ]
                    refine wpAnyH_ready (rs := [14]) (by kernel_rfl) (by simp) ?_
                    refine AllReadyH.cons (o := _) rfl (fun K hK => ?_) ?_
                    · go_simp
                      refine hK.out _ _ trivial (fun hHeld => ?_)
                      clear hK K hHeld
                      try simp only [Act.put, List.setIfInBounds_toArray, List.set_cons_zero, List.set_cons_succ]
                      refine wpAnyH_ready (rs := [15]) (by kernel_rfl) (by simp) ?_
                      refine AllReadyH.cons (o := _) rfl (fun K hK => ?_) ?_
                      · go_simp
                        refine hK.out _ _ trivial (fun hHeld => ?_)
                        clear hK K hHeld
                        try simp only [Act.put, List.setIfInBounds_toArray, List.set_cons_zero, List.set_cons_succ]
                        refine wpAnyH_ready (rs := [16]) (by kernel_rfl) (by simp) ?_
                        refine AllReadyH.cons (o := _) rfl (fun K hK => ?_) ?_
                        · refine step_append rfl _ _ _ rfl rfl rfl hrun ?_
                          refine hK.out _ _ trivial (fun hHeld => ?_)
                          clear hK K hHeld
                          try simp only [Act.put, List.setIfInBounds_toArray, List.set_cons_zero, List.set_cons_succ]
                          refine wpAnyH_ready (rs := [17]) (by kernel_rfl) (by simp) ?_
                          refine AllReadyH.cons (o := _) rfl (fun K hK => ?_) ?_
                          · go_simp
                            refine hK.out _ _ trivial (fun hHeld => ?_)
                            clear hK K hHeld
                            try simp only [Act.put, List.setIfInBounds_toArray, List.set_cons_zero, List.set_cons_succ]
                            refine wpAnyH_ready (rs := [18]) (by kernel_rfl) (by simp) ?_
                            refine AllReadyH.cons (o := _) rfl (fun K hK => ?_) ?_
                            · go_simp
                              refine hK.out _ _ trivial (fun hHeld => ?_)
                              clear hK K hHeld
                              try simp only [Act.put, List.setIfInBounds_toArray, List.set_cons_zero, List.set_cons_succ]
                              refine ⟨by kernel_rfl, ?_⟩
                              go_wp2
                              exact ⟨⟨k + 1, _, by go_num, by omega, HF.out.1, HF.out.2.1, HF.out.2.2.1, HF.out.2.2.2⟩, by simp [intOf]; omega⟩
                            exact AllReadyH.nil
                          exact AllReadyH.nil
                        exact AllReadyH.nil
                      exact AllReadyH.nil
                    exact AllReadyH.nil
                  exact AllReadyH.nil
                exact AllReadyH.nil
              exact AllReadyH.nil
            exact AllReadyH.nil
          exact AllReadyH.nil
        refine AllReadyH.cons (o := _) rfl (fun K hK => ?_) ?_
        · go_simp
          refine (GN.out _ _ _).mono ?_; rintro e wz ⟨rfl, rfl⟩
          dsimp only
          refine hK.out _ _ trivial (fun hHeld => ?_)
          clear hK K hHeld
          try simp only [Act.put, List.setIfInBounds_toArray, List.set_cons_zero, List.set_cons_succ]
          refine wpAnyH_ready (rs := [1, 8]) (by kernel_rfl) (by simp) ?_
          refine AllReadyH.cons (o := _) rfl (fun K hK => ?_) ?_
          · go_simp
            refine hK.out _ _ trivial (fun hHeld => ?_)
            clear hK K hHeld
            try simp only [Act.put, List.setIfInBounds_toArray, List.set_cons_zero, List.set_cons_succ]
            refine wpAnyH_ready (rs := [8]) (by kernel_rfl) (by simp) ?_
            refine AllReadyH.cons (o := _) rfl (fun K hK => ?_) ?_
            · go_simp
              refine (A1.out k (by omega) _).mono ?_; rintro e wz ⟨rfl, rfl⟩
              dsimp only
              refine hK.out _ _ trivial (fun hHeld => ?_)
              clear hK K hHeld
              try simp only [Act.put, List.setIfInBounds_toArray, List.set_cons_zero, List.set_cons_succ]
              refine wpAnyH_ready (rs := [9]) (by kernel_rfl) (by simp) ?_
              refine AllReadyH.cons (o := _) rfl (fun K hK => ?_) ?_
              · go_simp
                refine (GN.out _ _ _).mono ?_; rintro e wz ⟨rfl, rfl⟩
                dsimp only
                refine hK.out _ _ trivial (fun hHeld => ?_)
                clear hK K hHeld
                try simp only [Act.put, List.setIfInBounds_toArray, List.set_cons_zero, List.set_cons_succ]
                refine wpAnyH_ready (rs := [12]) (by kernel_rfl) (by simp) ?_
                refine AllReadyH.cons (o := _) rfl (fun K hK => ?_) ?_
                · go_simp
                  refine (A2.out k (by omega) _).mono ?_; rintro e wz ⟨rfl, rfl⟩
                  dsimp only
                  refine hK.out _ _ trivial (fun hHeld => ?_)
                  clear hK K hHeld
                  try simp only [Act.put, List.setIfInBounds_toArray, List.set_cons_zero, List.set_cons_succ]
                  refine wpAnyH_ready (rs := [13]) (by kernel_rfl) (by simp) ?_
                  refine AllReadyH.cons (o := _) rfl (fun K hK => ?_) ?_
                  · go_simp
                    refine (GN.out _ _ _).mono ?_; rintro e wz ⟨rfl, rfl⟩
                    dsimp only
                    refine hK.out _ _ trivial (fun hHeld => ?_)
                    clear hK K hHeld
                    try simp only [Act.put, List.setIfInBounds_toArray, List.set_cons_zero, List.set_cons_succ]
                    refine wpAnyH_ready (rs := [14]) (by kernel_rfl) (by simp) ?_
                    refine AllReadyH.cons (o := _) rfl (fun K hK => ?_) ?_
                    · go_simp
                      refine hK.out _ _ trivial (fun hHeld => ?_)
                      clear hK K hHeld
                      try simp only [Act.put, List.setIfInBounds_toArray, List.set_cons_zero, List.set_cons_succ]
                      refine wpAnyH_ready (rs := [15]) (by kernel_rfl) (by simp) ?_
                      refine AllReadyH.cons (o := _) rfl (fun K hK => ?_) ?_
                      · go_simp
                        refine hK.out _ _ trivial (fun hHeld => ?_)
                        clear hK K hHeld
                        try simp only [Act.put, List.setIfInBounds_toArray, List.set_cons_zero, List.set_cons_succ]
                        refine wpAnyH_ready (rs := [16]) (by kernel_rfl) (by simp) ?_
                        refine AllReadyH.cons (o := _) rfl (fun K hK => ?_) ?_
                        · refine step_append rfl _ _ _ rfl rfl rfl hrun ?_
                          refine hK.out _ _ trivial (fun hHeld => ?_)
                          clear hK K hHeld
                          try simp only [Act.put, List.setIfInBounds_toArray, List.set_cons_zero, List.set_cons_succ]
                          refine wpAnyH_ready (rs := [17]) (by kernel_rfl) (by simp) ?_
                          refine AllReadyH.cons (o := _) rfl (fun K hK => ?_) ?_
                          · go_simp
                            refine hK.out _ _ trivial (fun hHeld => ?_)
                            clear hK K hHeld
                            try simp only [Act.put, List.setIfInBounds_toArray, List.set_cons_zero, List.set_cons_succ]
                            refine wpAnyH_ready (rs := [18]) (by kernel_rfl) (by simp) ?_
                            refine AllReadyH.cons (o := _) rfl (fun K hK => ?_) ?_
                            · go_simp
                              refine hK.out _ _ trivial (fun hHeld => ?_)
                              clear hK K hHeld
                              try simp only [Act.put, List.setIfInBounds_toArray, List.set_cons_zero, List.set_cons_succ]
                              refine ⟨by kernel_rfl, ?_⟩
                              go_wp2
                              exact ⟨⟨k + 1, _, by go_num, by omega, HF.out.1, HF.out.2.1, HF.out.2.2.1, HF.out.2.2.2⟩, by simp [intOf]; omega⟩
                            exact AllReadyH.nil
                          exact AllReadyH.nil
                        exact AllReadyH.nil
                      exact AllReadyH.nil
                    exact AllReadyH.nil
                  exact AllReadyH.nil
                exact AllReadyH.nil
              exact AllReadyH.nil
            exact AllReadyH.nil
          refine AllReadyH.cons (o := _) rfl (fun K hK => ?_) ?_
          · go_simp
            refine (A1.out k (by omega) _).mono ?_; rintro e wz ⟨rfl, rfl⟩
            dsimp only
            refine hK.out _ _ trivial (fun hHeld => ?_)
            clear hK K hHeld
            try simp only [Act.put, List.setIfInBounds_toArray, List.set_cons_zero, List.set_cons_succ]
            refine wpAnyH_ready (rs := [1, 9]) (by kernel_rfl) (by simp) ?_
            refine AllReadyH.cons (o := _) rfl (fun K hK => ?_) ?_
            · go_simp
              refine hK.out _ _ trivial (fun hHeld => ?_)
              clear hK K hHeld
              try simp only [Act.put, List.setIfInBounds_toArray, List.set_cons_zero, List.set_cons_succ]
              refine wpAnyH_ready (rs := [9]) (by kernel_rfl) (by simp) ?_
              refine AllReadyH.cons (o := _) rfl (fun K hK => ?_) ?_
              · go_simp
                refine (GN.out _ _ _).mono ?_; rintro e wz ⟨rfl, rfl⟩
                dsimp only
                refine hK.out _ _ trivial (fun hHeld => ?_)
                clear hK K hHeld
                try simp only [Act.put, List.setIfInBounds_toArray, List.set_cons_zero, List.set_cons_succ]
                refine wpAnyH_ready (rs := [12]) (by kernel_rfl) (by simp) ?_
                refine AllReadyH.cons (o := _) rfl (fun K hK => ?_) ?_
                · go_simp
                  refine (A2.out k (by omega) _).mono ?_; rintro e wz ⟨rfl, rfl⟩
                  dsimp only
                  refine hK.out _ _ trivial (fun hHeld => ?_)
                  clear hK K hHeld
                  try simp only [Act.put, List.setIfInBounds_toArray, List.set_cons_zero, List.set_cons_succ]
                  refine wpAnyH_ready (rs := [13]) (by kernel_rfl) (by simp) ?_
                  refine AllReadyH.cons (o := _) rfl (fun K hK => ?_) ?_
                  · go_simp
                    refine (GN.out _ _ _).mono ?_; rintro e wz ⟨rfl, rfl⟩
                    dsimp only
                    refine hK.out _ _ trivial (fun hHeld => ?_)
                    clear hK K hHeld
                    try simp only [Act.put, List.setIfInBounds_toArray, List.set_cons_zero, List.set_cons_succ]
                    refine wpAnyH_ready (rs := [14]) (by kernel_rfl) (by simp) ?_
                    refine AllReadyH.cons (o := _) rfl (fun K hK => ?_) ?_
                    · go_simp
                      refine hK.out _ _ trivial (fun hHeld => ?_)
                      clear hK K hHeld
                      try simp only [Act.put, List.setIfInBounds_toArray, List.set_cons_zero, List.set_cons_succ]
                      refine wpAnyH_ready (rs := [15]) (by kernel_rfl) (by simp) ?_
                      refine AllReadyH.cons (o := _) rfl (fun K hK => ?_) ?_
                      · go_simp
                        refine hK.out _ _ trivial (fun hHeld => ?_)
                        clear hK K hHeld
                        try simp only [Act.put, List.setIfInBounds_toArray, List.set_cons_zero, List.set_cons_succ]
                        refine wpAnyH_ready (rs := [16]) (by kernel_rfl) (by simp) ?_
                        refine AllReadyH.cons (o := _) rfl (fun K hK => ?_) ?_
                        · refine step_append rfl _ _ _ rfl rfl rfl hrun ?_
                          refine hK.out _ _ trivial (fun hHeld => ?_)
                          clear hK K hHeld
                          try simp only [Act.put, List.setIfInBounds_toArray, List.set_cons_zero, List.set_cons_succ]
                          refine wpAnyH_ready (rs := [17]) (by kernel_rfl) (by simp) ?_
                          refine AllReadyH.cons (o := _) rfl (fun K hK => ?_) ?_
                          · go_simp
                            refine hK.out _ _ trivial (fun hHeld => ?_)
                            clear hK K hHeld
                            try simp only [Act.put, List.setIfInBounds_toArray, List.set_cons_zero, List.set_cons_succ]
                            refine wpAnyH_ready (rs := [18]) (by kernel_rfl) (by simp) ?_
                            refine AllReadyH.cons (o := _) rfl (fun K hK => ?_) ?_
                            · go_simp
                              refine hK.out _ _ trivial (fun hHeld => ?_)
                              clear hK K hHeld
                              try simp only [Act.put, List.setIfInBounds_toArray, List.set_cons_zero, List.set_cons_succ]
                              refine ⟨by kernel_rfl, ?_⟩
                              go_wp2
                              exact ⟨⟨k + 1, _, by go_num, by omega, HF.out.1, HF.out.2.1, HF.out.2.2.1, HF.out.2.2.2⟩, by simp [intOf]; omega⟩
                            exact AllReadyH.nil
                          exact AllReadyH.nil
                        exact AllReadyH.nil
                      exact AllReadyH.nil
                    exact AllReadyH.nil
                  exact AllReadyH.nil
                exact AllReadyH.nil
              exact AllReadyH.nil
            refine AllReadyH.cons (o := _) rfl (fun K hK => ?_) ?_
            · go_simp
              refine (GN.out _ _ _).mono ?_; rintro e wz ⟨rfl, rfl⟩
              dsimp only
              refine hK.out _ _ trivial (fun hHeld => ?_)
              clear hK K hHeld
              try simp only [Act.put, List.setIfInBounds_toArray, List.set_cons_zero, List.set_cons_succ]
              refine wpAnyH_ready (rs := [1, 12]) (by kernel_rfl) (by simp) ?_
              refine AllReadyH.cons (o := _) rfl (fun K hK => ?_) ?_
              · go_simp
                refine hK.out _ _ trivial (fun hHeld => ?_)
                clear hK K hHeld
                try simp only [Act.put, List.setIfInBounds_toArray, List.set_cons_zero, List.set_cons_succ]
                refine wpAnyH_ready (rs := [12]) (by kernel_rfl) (by simp) ?_
                refine AllReadyH.cons (o := _) rfl (fun K hK => ?_) ?_
                · go_simp
                  refine (A2.out k (by omega) _).mono ?_; rintro e wz ⟨rfl, rfl⟩
                  dsimp only
                  refine hK.out _ _ trivial (fun hHeld => ?_)
                  clear hK K hHeld
                  try simp only [Act.put, List.setIfInBounds_toArray, List.set_cons_zero, List.set_cons_succ]
                  refine wpAnyH_ready (rs := [13]) (by kernel_rfl) (by simp) ?_
                  refine AllReadyH.cons (o := _) rfl (fun K hK => ?_) ?_
                  · go_simp
                    refine (GN.out _ _ _).mono ?_; rintro e wz ⟨rfl, rfl⟩
                    dsimp only
                    refine hK.out _ _ trivial (fun hHeld => ?_)
                    clear hK K hHeld
                    try simp only [Act.put, List.setIfInBounds_toArray, List.set_cons_zero, List.set_cons_succ]
                    refine wpAnyH_ready (rs := [14]) (by kernel_rfl) (by simp) ?_
                    refine AllReadyH.cons (o := _) rfl (fun K hK => ?_) ?_
                    · go_simp
                      refine hK.out _ _ trivial (fun hHeld => ?_)
                      clear hK K hHeld
                      try simp only [Act.put, List.setIfInBounds_toArray, List.set_cons_zero, List.set_cons_succ]
                      refine wpAnyH_ready (rs := [15]) (by kernel_rfl) (by simp) ?_
                      refine AllReadyH.cons (o := _) rfl (fun K hK => ?_) ?_
                      · go_simp
                        refine hK.out _ _ trivial (fun hHeld => ?_)
                        clear hK K hHeld
                        try simp only [Act.put, List.setIfInBounds_toArray, List.set_cons_zero, List.set_cons_succ]
                        refine wpAnyH_ready (rs := [16]) (by kernel_rfl) (by simp) ?_
                        refine AllReadyH.cons (o := _) rfl (fun K hK => ?_) ?_
                        · refine step_append rfl _ _ _ rfl rfl rfl hrun ?_
                          refine hK.out _ _ trivial (fun hHeld => ?_)
                          clear hK K hHeld
                          try simp only [Act.put, List.setIfInBounds_toArray, List.set_cons_zero, List.set_cons_succ]
                          refine wpAnyH_ready (rs := [17]) (by kernel_rfl) (by simp) ?_
                          refine AllReadyH.cons (o := _) rfl (fun K hK => ?_) ?_
                          · go_simp
                            refine hK.out _ _ trivial (fun hHeld => ?_)
                            clear hK K hHeld
                            try simp only [Act.put, List.setIfInBounds_toArray, List.set_cons_zero, List.set_cons_succ]
                            refine wpAnyH_ready (rs := [18]) (by kernel_rfl) (by simp) ?_
                            refine AllReadyH.cons (o := _) rfl (fun K hK => ?_) ?_
                            · go_simp
                              refine hK.out _ _ trivial (fun hHeld => ?_)
                              clear hK K hHeld
                              try simp only [Act.put, List.setIfInBounds_toArray, List.set_cons_zero, List.set_cons_succ]
                              refine ⟨by kernel_rfl, ?_⟩
                              go_wp2
                              exact ⟨⟨k + 1, _, by go_num, by omega, HF.out.1, HF.out.2.1, HF.out.2.2.1, HF.out.2.2.2⟩, by simp [intOf]; omega⟩
                            exact AllReadyH.nil
                          exact AllReadyH.nil
                        exact AllReadyH.nil
                      exact AllReadyH.nil
                    exact AllReadyH.nil
                  exact AllReadyH.nil
                exact AllReadyH.nil
              refine AllReadyH.cons (o := _) rfl (fun K hK => ?_) ?_
              · go_simp
                refine (A2.out k (by omega) _).mono ?_; rintro e wz ⟨rfl, rfl⟩
                dsimp only
                refine hK.out _ _ trivial (fun hHeld => ?_)
                clear hK K hHeld
                try simp only [Act.put, List.setIfInBounds_toArray, List.set_cons_zero, List.set_cons_succ]
                refine wpAnyH_ready (rs := [1, 13]) (by kernel_rfl) (by simp) ?_
                refine AllReadyH.cons (o := _) rfl (fun K hK => ?_) ?_
                · go_simp
                  refine hK.out _ _ trivial (fun hHeld => ?_)
                  clear hK K hHeld
                  try simp only [Act.put, List.setIfInBounds_toArray, List.set_cons_zero, List.set_cons_succ]
                  refine wpAnyH_ready (rs := [13]) (by kernel_rfl) (by simp) ?_
                  refine AllReadyH.cons (o := _) rfl (fun K hK => ?_) ?_
                  · go_simp
                    refine (GN.out _ _ _).mono ?_; rintro e wz ⟨rfl, rfl⟩
                    dsimp only
                    refine hK.out _ _ trivial (fun hHeld => ?_)
                    clear hK K hHeld
                    try simp only [Act.put, List.setIfInBounds_toArray, List.set_cons_zero, List.set_cons_succ]
                    refine wpAnyH_ready (rs := [14]) (by kernel_rfl) (by simp) ?_
                    refine AllReadyH.cons (o := _) rfl (fun K hK => ?_) ?_
                    · go_simp
                      refine hK.out _ _ trivial (fun hHeld => ?_)
                      clear hK K hHeld
                      try simp only [Act.put, List.setIfInBounds_toArray, List.set_cons_zero, List.set_cons_succ]
                      refine wpAnyH_ready (rs := [15]) (by kernel_rfl) (by simp) ?_
                      refine AllReadyH.cons (o := _) rfl (fun K hK => ?_) ?_
                      · go_simp
                        refine hK.out _ _ trivial (fun hHeld => ?_)
                        clear hK K hHeld
                        try simp only [Act.put, List.setIfInBounds_toArray, List.set_cons_zero, List.set_cons_succ]
                        refine wpAnyH_ready (rs := [16]) (by kernel_rfl) (by simp) ?_
                        refine AllReadyH.cons (o := _) rfl (fun K hK => ?_) ?_
                        · refine step_append rfl _ _ _ rfl rfl rfl hrun ?_
                          refine hK.out _ _ trivial (fun hHeld => ?_)
                          clear hK K hHeld
                          try simp only [Act.put, List.setIfInBounds_toArray, List.set_cons_zero, List.set_cons_succ]
                          refine wpAnyH_ready (rs := [17]) (by kernel_rfl) (by simp) ?_
                          refine AllReadyH.cons (o := _) rfl (fun K hK => ?_) ?_
                          · go_simp
                            refine hK.out _ _ trivial (fun hHeld => ?_)
                            clear hK K hHeld
                            try simp only [Act.put, List.setIfInBounds_toArray, List.set_cons_zero, List.set_cons_succ]
                            refine wpAnyH_ready (rs := [18]) (by kernel_rfl) (by simp) ?_
                            refine AllReadyH.cons (o := _) rfl (fun K hK => ?_) ?_
                            · go_simp
                              refine hK.out _ _ trivial (fun hHeld => ?_)
                              clear hK K hHeld
                              try simp only [Act.put, List.setIfInBounds_toArray, List.set_cons_zero, List.set_cons_succ]
                              refine ⟨by kernel_rfl, ?_⟩
                              go_wp2
                              exact ⟨⟨k + 1, _, by go_num, by omega, HF.out.1, HF.out.2.1, HF.out.2.2.1, HF.out.2.2.2⟩, by simp [intOf]; omega⟩
                            exact AllReadyH.nil
                          exact AllReadyH.nil
                        exact AllReadyH.nil
                      exact AllReadyH.nil
                    exact AllReadyH.nil
                  exact AllReadyH.nil
                refine AllReadyH.cons (o := _) rfl (fun K hK => ?_) ?_
                · go_simp
                  refine (GN.out _ _ _).mono ?_; rintro e wz ⟨rfl, rfl⟩
                  dsimp only
                  refine hK.out _ _ trivial (fun hHeld => ?_)
                  clear hK K hHeld
                  try simp only [Act.put, List.setIfInBounds_toArray, List.set_cons_zero, List.set_cons_succ]
                  refine wpAnyH_ready (rs := [1, 14]) (by kernel_rfl) (by simp) ?_
                  refine AllReadyH.cons (o := _) rfl (fun K hK => ?_) ?_
                  · go_simp
                    refine hK.out _ _ trivial (fun hHeld => ?_)
                    clear hK K hHeld
                    try simp only [Act.put, List.setIfInBounds_toArray, List.set_cons_zero, List.set_cons_succ]
                    refine wpAnyH_ready (rs := [14]) (by kernel_rfl) (by simp) ?_
                    refine AllReadyH.cons (o := _) rfl (fun K hK => ?_) ?_
                    · go_simp
                      refine hK.out _ _ trivial (fun hHeld => ?_)
                      clear hK K hHeld
                      try simp only [Act.put, List.setIfInBounds_toArray, List.set_cons_zero, List.set_cons_succ]
                      refine wpAnyH_ready (rs := [15]) (by kernel_rfl) (by simp) ?_
                      refine AllReadyH.cons (o := _) rfl (fun K hK => ?_) ?_
                      · go_simp
                        refine hK.out _ _ trivial (fun hHeld => ?_)
                        clear hK K hHeld
                        try simp only [Act.put, List.setIfInBounds_toArray, List.set_cons_zero, List.set_cons_succ]
                        refine wpAnyH_ready (rs := [16]) (by kernel_rfl) (by simp) ?_
                        refine AllReadyH.cons (o := _) rfl (fun K hK => ?_) ?_
                        · refine step_append rfl _ _ _ rfl rfl rfl hrun ?_
                          refine hK.out _ _ trivial (fun hHeld => ?_)
                          clear hK K hHeld
                          try simp only [Act.put, List.setIfInBounds_toArray, List.set_cons_zero, List.set_cons_succ]
                          refine wpAnyH_ready (rs := [17]) (by kernel_rfl) (by simp) ?_
                          refine AllReadyH.cons (o := _) rfl (fun K hK => ?_) ?_
                          · go_simp
                            refine hK.out _ _ trivial (fun hHeld => ?_)
                            clear hK K hHeld
                            try simp only [Act.put, List.setIfInBounds_toArray, List.set_cons_zero, List.set_cons_succ]
                            refine wpAnyH_ready (rs := [18]) (by kernel_rfl) (by simp) ?_
                            refine AllReadyH.cons (o := _) rfl (fun K hK => ?_) ?_
                            · go_simp
                              refine hK.out _ _ trivial (fun hHeld => ?_)
                              clear hK K hHeld
                              try simp only [Act.put, List.setIfInBounds_toArray, List.set_cons_zero, List.set_cons_succ]
                              refine ⟨by kernel_rfl, ?_⟩
                              go_wp2
                              exact ⟨⟨k + 1, _, by go_num, by omega, HF.out.1, HF.out.2.1, HF.out.2.2.1, HF.out.2.2.2⟩, by simp [intOf]; omega⟩
                            exact AllReadyH.nil
                          exact AllReadyH.nil
                        exact AllReadyH.nil
                      exact AllReadyH.nil
                    exact AllReadyH.nil
                  refine AllReadyH.cons (o := _) rfl (fun K hK => ?_) ?_
                  · go_simp
                    refine hK.out _ _ trivial (fun hHeld => ?_)
                    clear hK K hHeld
                    try simp only [Act.put, List.setIfInBounds_toArray, List.set_cons_zero, List.set_cons_succ]
                    refine wpAnyH_ready (rs := [1, 15]) (by kernel_rfl) (by simp) ?_
                    refine AllReadyH.cons (o := _) rfl (fun K hK => ?_) ?_
                    · go_simp
                      refine hK.out _ _ trivial (fun hHeld => ?_)
                      clear hK K hHeld
                      try simp only [Act.put, List.setIfInBounds_toArray, List.set_cons_zero, List.set_cons_succ]
                      refine wpAnyH_ready (rs := [15]) (by kernel_rfl) (by simp) ?_
                      refine AllReadyH.cons (o := _) rfl (fun K hK => ?_) ?_
                      · go_simp
                        refine hK.out _ _ trivial (fun hHeld => ?_)
                        clear hK K hHeld
                        try simp only [Act.put, List.setIfInBounds_toArray, List.set_cons_zero, List.set_cons_succ]
                        refine wpAnyH_ready (rs := [16]) (by kernel_rfl) (by simp) ?_
                        refine AllReadyH.cons (o := _) rfl (fun K hK => ?_) ?_
                        · refine step_append rfl _ _ _ rfl rfl rfl hrun ?_
                          refine hK.out _ _ trivial (fun hHeld => ?_)
                          clear hK K hHeld
                          try simp only [Act.put, List.setIfInBounds_toArray, List.set_cons_zero, List.set_cons_succ]
                          refine wpAnyH_ready (rs := [17]) (by kernel_rfl) (by simp) ?_
                          refine AllReadyH.cons (o := _) rfl (fun K hK => ?_) ?_
                          · go_simp
                            refine hK.out _ _ trivial (fun hHeld => ?_)
                            clear hK K hHeld
                            try simp only [Act.put, List.setIfInBounds_toArray, List.set_cons_zero, List.set_cons_succ]
                            refine wpAnyH_ready (rs := [18]) (by kernel_rfl) (by simp) ?_
                            refine AllReadyH.cons (o := _) rfl (fun K hK => ?_) ?_
                            · go_simp
                              refine hK.out _ _ trivial (fun hHeld => ?_)
                              clear hK K hHeld
                              try simp only [Act.put, List.setIfInBounds_toArray, List.set_cons_zero, List.set_cons_succ]
                              refine ⟨by kernel_rfl, ?_⟩
                              go_wp2
                              exact ⟨⟨k + 1, _, by go_num, by omega, HF.out.1, HF.out.2.1, HF.out.2.2.1, HF.out.2.2.2⟩, by simp [intOf]; omega⟩
                            exact AllReadyH.nil
                          exact AllReadyH.nil
                        exact AllReadyH.nil
                      exact AllReadyH.nil
                    refine AllReadyH.cons (o := _) rfl (fun K hK => ?_) ?_
                    · go_simp
                      refine hK.out _ _ trivial (fun hHeld => ?_)
                      clear hK K hHeld
                      try simp only [Act.put, List.setIfInBounds_toArray, List.set_cons_zero, List.set_cons_succ]
                      refine wpAnyH_ready (rs := [1]) (by kernel_rfl) (by simp) ?_
                      refine AllReadyH.cons (o := _) rfl (fun K hK => ?_) ?_
                      · go_simp
                        refine hK.out _ _ trivial (fun hHeld => ?_)
                        clear hK K hHeld
                        try simp only [Act.put, List.setIfInBounds_toArray, List.set_cons_zero, List.set_cons_succ]
                        refine wpAnyH_ready (rs := [16]) (by kernel_rfl) (by simp) ?_
                        refine AllReadyH.cons (o := _) rfl (fun K hK => ?_) ?_
                        · refine step_append rfl _ _ _ rfl rfl rfl hrun ?_
                          refine hK.out _ _ trivial (fun hHeld => ?_)
                          clear hK K hHeld
                          try simp only [Act.put, List.setIfInBounds_toArray, List.set_cons_zero, List.set_cons_succ]
                          refine wpAnyH_ready (rs := [17]) (by kernel_rfl) (by simp) ?_
                          refine AllReadyH.cons (o := _) rfl (fun K hK => ?_) ?_
                          · go_simp
                            refine hK.out _ _ trivial (fun hHeld => ?_)
                            clear hK K hHeld
                            try simp only [Act.put, List.setIfInBounds_toArray, List.set_cons_zero, List.set_cons_succ]
                            refine wpAnyH_ready (rs := [18]) (by kernel_rfl) (by simp) ?_
                            refine AllReadyH.cons (o := _) rfl (fun K hK => ?_) ?_
                            · go_simp
                              refine hK.out _ _ trivial (fun hHeld => ?_)
                              clear hK K hHeld
                              try simp only [Act.put, List.setIfInBounds_toArray, List.set_cons_zero, List.set_cons_succ]
                              refine ⟨by kernel_rfl, ?_⟩
                              go_wp2
                              exact ⟨⟨k + 1, _, by go_num, by omega, HF.out.1, HF.out.2.1, HF.out.2.2.1, HF.out.2.2.2⟩, by simp [intOf]; omega⟩
                            exact AllReadyH.nil
                          exact AllReadyH.nil
                        exact AllReadyH.nil
                      exact AllReadyH.nil
                    exact AllReadyH.nil
                  exact AllReadyH.nil
                exact AllReadyH.nil
              exact AllReadyH.nil
            exact AllReadyH.nil
          exact AllReadyH.nil
        exact AllReadyH.nil
      exact AllReadyH.nil
    · obtain rfl : k = n := by omega
      have hX5 := hX
      obtain ⟨ad, cap, rfl, -⟩ := shape_of hR
      obtain ⟨x0, x1, x2, x3, x4, x5⟩ : wr.cell? ⟨w.heap.size + 1, 0, none⟩ = some (.int .i64 kd) ∧ wr.cell? ⟨w.heap.size + 1, 1, none⟩ = some (.bool pn) ∧ wr.cell? ⟨w.heap.size + 1, 2, none⟩ = some (.int .i64 lk) ∧ wr.cell? ⟨w.heap.size + 1, 3, none⟩ = some (.int .i64 sz) ∧ wr.cell? ⟨w.heap.size + 1, 4, none⟩ = some (.int .i64 dp) ∧ wr.cell? ⟨w.heap.size + 1, 5, none⟩ = some (.slice ad (ES k).length cap) := ⟨hX.cell 0, hX.cell 1, hX.cell 2, hX.cell 3, hX.cell 4, hX.cell 5⟩
      have HZ := Lib.hid hZ
      have HB := Lib.hid hb
      have HR := Lib.hid hR
      clear hX hX5 hZ hb hR
      go_wp2_with (refine wpList_store_ino (i := ⟨kd, pn, lk, sz, dp, ES k⟩) rfl _ _ rfl rfl rfl _ rfl HZ.out ?_)
      intro w5 h5 hl5 hs5 he5
      obtain ⟨y0, y1, y2, y3, y4, y5⟩ := InoAt.cells h5
      have hbe : Below w.heap.size w w5 := HB.out.trans hl5
      have hRe : EntsAt w.heap.size (.slice ad (ES k).length cap) (ES k) w5 := row_down (show w.heap.size ≤ w.heap.size + 2 by omega) (row_same' HR.out fun j hj => he5 j (by omega))
      clear hl5 hs5 he5 h5
      dsimp only at *
      go_wp2
      refine bodyPost_ret (v := inoV ⟨kd, pn, lk, sz, dp, ES k⟩ (.slice ad (ES k).length cap)) ?_ rfl ⟨_, by rw [HPN.out], hRe, hbe⟩
      rw [results_one_cell rfl]
      go_simp
end Go.Proofs.Ytfepjjjoikcljaa
