import Derived.Test.YtknefoemgifbfaaGreatPd52
import Derived.Test.YtknefoemgifbfaaGreatPd51
import Derived.Test.YtknefoemgifbfaaGreatPd25
import Derived.Test.YtknefoemgifbfaaGreatPd31
set_option linter.unusedVariables false
set_option linter.unusedSimpArgs false
set_option linter.constructorNameAsVariable false
namespace Go.Proofs.YtknefoemgifbfaaGreat
open Go.RowKit
structure KeepE (B : Nat) (w w' : World) : Prop where
  os : w'.os = w.os
  tape : w'.tape = w.tape
  output : w'.output = w.output
  size : w.heap.size ≤ w'.heap.size
  block : ∀ k, k < w.heap.size → (k < B ∨ TyAt k 31 w) → w'.heap[k]? = w.heap[k]?
theorem KeepE.refl (B : Nat) (w : World) : KeepE B w w := ⟨rfl, rfl, rfl, Nat.le_refl _, fun _ _ _ => rfl⟩
theorem KeepE.of_below {B : Nat} {w w' : World} (h : Below w.heap.size w w') : KeepE B w w' := ⟨h.os, h.tape, h.output, h.size, fun k hk _ => h.block k hk⟩
theorem KeepE.below {B : Nat} {w w' : World} (h : KeepE B w w') (hB : B ≤ w.heap.size) : Below B w w' := ⟨h.os, h.tape, h.output, h.size, fun k hk => h.block k (by omega) (.inl hk)⟩
theorem KeepE.trans {B : Nat} {a b c : World} (h : KeepE B a b) (k : KeepE B b c) : KeepE B a c := by
  refine ⟨k.os.trans h.os, k.tape.trans h.tape, k.output.trans h.output, Nat.le_trans h.size k.size, fun i hi hp => ?_⟩
  have e1 := h.block i hi hp
  have e2 := k.block i (Nat.lt_of_lt_of_le hi h.size) (hp.imp id fun t => t.eq_block e1)
  exact e2.trans e1
theorem KeepE.grown {B z n : Nat} {e : TypeId} {v : Value} {xs : List Value} {w w' : World} (h : w.ownsRow B e z v n xs) (he : 31 ≠ e) (g : w.grownBy w' v.ownBlock) : KeepE B w w' :=
  ⟨g.os, g.tape, g.output, g.size, fun k hk hp => g.block k hk fun q => by
    rcases hp with hp | hp
    · have := (own_ty h q.symm).2.2; omega
    · exact he (ty_one hp (own_ty h q.symm).1)⟩
theorem KeepE.set {B R : Nat} {cs : Array Value} {T : TypeId} {w : World} (h : Blk R cs T w) (hT : 31 ≠ T) (hB : B ≤ R) (j : Nat) (u : Value) : KeepE B w (w.setCell ⟨R, j, none⟩ u) :=
  ⟨rfl, rfl, rfl, by simp [World.setCell], fun k hk hp => Below.heap_setCell w ⟨R, j, none⟩ u k fun e => by
    have e : k = R := e
    rw [e] at hp
    rcases hp with hp | hp
    · omega
    · exact hT (ty_one hp ⟨_, _, h⟩)⟩
def EntsK (B : Nat) (v : Value) (x : List Ent) (w : World) : Prop := ∀ w', KeepE B w w' → EntsIn v x w'
theorem EntsK.now {B : Nat} {v : Value} {x : List Ent} {w : World} (h : EntsK B v x w) : EntsIn v x w := h w (KeepE.refl _ _)
theorem EntsK.kept {B : Nat} {v : Value} {x : List Ent} {w w' : World} (h : EntsK B v x w) (g : KeepE B w w') : EntsK B v x w' := fun a ha => h a (g.trans ha)
theorem EntsK.old {B : Nat} {v : Value} {x : List Ent} {w0 w : World} (h : EntsIn v x w0) (hB : w0.heap.size ≤ B) (hb : Below w0.heap.size w0 w) (hw : B ≤ w.heap.size) : EntsK B v x w := fun a ha => h.kept (hb.trans ((ha.below hw).mono hB))
theorem EntsK.own {B C : Nat} {v : Value} {x : List Ent} {w : World} (h : EntsAt C v x w) : EntsK B v x w := fun a ha =>
  entsAt_in (B := C) (own_eq h fun g hg => ha.block g (own_ty h hg).2.1 (.inr (own_ty h hg).1))
theorem entsK_cells {B : Nat} {v : Value} {l : List Ent} {w : World} (h : EntsK B v l w) : ∃ ad cap, v = .slice ad l.length cap ∧ l.length ≤ cap ∧ cap ≤ 9223372036854775807 ∧
    (0 < l.length → ∃ g o, ad = some ⟨g, o, none⟩ ∧ ∀ w', KeepE B w w' → ∀ k, k < l.length → w'.cell? ⟨g, o + k * 3, none⟩ = some (.int .i64 (eat l k).log) ∧ w'.cell? ⟨g, o + k * 3 + 1, none⟩ = some (.int .i64 (eat l k).phys) ∧ w'.cell? ⟨g, o + k * 3 + 2, none⟩ = some (.int .i64 (eat l k).len)) := by
  obtain ⟨ad, cap, rfl, c1, c2, c3, -⟩ := entsIn_cells h.now
  refine ⟨ad, cap, rfl, c1, c2, fun hp => ?_⟩
  obtain ⟨g, o, rfl, -, -⟩ := c3 hp
  refine ⟨g, o, rfl, fun w' hk k hlt => ?_⟩
  obtain ⟨ad2, cap2, e, -, -, d3, -⟩ := entsIn_cells (h w' hk)
  injection e with e1 e2 e3
  subst e1
  obtain ⟨g2, o2, e4, -, d4⟩ := d3 hp
  injection e4 with e4
  injection e4 with e5 e6
  subst e5 e6
  exact d4 w' (Below.refl _ _) k hlt
structure WkAt (cb B R g : Nat) (bad : Int) (vn vr : Value) (nodes : List Int) (row : List Ent) (w : World) : Prop where
  blk : Blk R #[.slice (some ⟨g, 0, none⟩) 4096 cb, .int .i64 bad, vn, vr] 111 w
  big : B ≤ R
  n : IntsFk B vn nodes w
  r : ExtsAt B vr row w
theorem WkAt.kept1 {cb B R g : Nat} {bad : Int} {vn vr : Value} {nodes : List Int} {row : List Ent} {w w' : World} (h : WkAt cb B R g bad vn vr nodes row w) (b : Below w.heap.size w w') : WkAt cb B R g bad vn vr nodes row w' := ⟨h.blk.kept1 b, h.big, row_kept h.n b, row_kept h.r b⟩
theorem row_setR {B z n R j : Nat} {e T : TypeId} {v u : Value} {xs : List Value} {cs : Array Value} {w : World} (h : w.ownsRow B e z v n xs) (hb : Blk R cs T w) (hne : T ≠ e) : (w.setCell ⟨R, j, none⟩ u).ownsRow B e z v n xs :=
  own_eq h fun g hg => Below.heap_setCell w ⟨R, j, none⟩ u g fun q => by
    have q : g = R := q
    subst q
    exact hne (ty_one ⟨_, _, hb⟩ (own_ty h hg).1)
theorem app3L_run {T e ty : TypeId} (ht : Tryz.prog.underlying T = some (.slice e)) (hinf : (Tryz.prog.info? e).map (fun i => (i.zero, i.size, i.bytes)) = some (some (.agg #[.int .i64 0, .int .i64 0, .int .i64 0]), 3, 24))
    (base : Nat) (v : Value) (L : List Ent) (y : Ent) (W : World) (hown : W.ownsRow base e 3 v L.length (cellsE L)) (hlen : L.length ≤ 100000) (hbase : base ≤ W.heap.size) :
    ∃ v' w', (Builtin.append_ #[T, T] ty #[v, .slice (some ⟨W.heap.size, 0, none⟩) 1 1]).run Tryz.prog (W.alloc (.cells (entC y) e)) = .ok v' w' ∧ w'.ownsRow base e 3 v' (L ++ [y]).length (cellsE (L ++ [y])) ∧ (W.alloc (.cells (entC y) e)).grownBy w' v.ownBlock := by
  obtain ⟨i0, hi, hz0, hz1, hz2⟩ := info_parts hinf
  obtain ⟨v', w', hr, k1, k2, _⟩ := run_append_own (P := Tryz.prog) (W.alloc (.cells (entC y) e)) base T ty e i0 _ 3 24 ht hi hz0 hz1 hz2 rfl (by decide) v L.length (cellsE L) (hown.alloc _) ⟨W.heap.size, 0, none⟩ 1 1 [.int .i64 y.log, .int .i64 y.phys, .int .i64 y.len] rfl (three_new W y e) (fun u hu => by simp at hu; rcases hu with rfl | rfl | rfl <;> rfl) (by unfold maxLen; omega) (by omega) (by rw [size_alloc]; omega)
  refine ⟨v', w', hr, ?_, k2⟩
  rw [List.length_append, List.length_singleton, cellsE_append]
  exact k1
theorem int1_run {ty : TypeId} (base : Nat) (v : Value) (L : List Int) (b : Int) (W : World) (hown : IntsFk base v L W) (hlen : L.length ≤ 100000) (hbase : base ≤ W.heap.size) :
    ∃ v' w', (Builtin.append_ #[43, 43] ty #[v, .slice (some ⟨W.heap.size, 0, none⟩) 1 1]).run Tryz.prog (W.alloc (.cells #[.int .i64 b] 3)) = .ok v' w' ∧ IntsFk base v' (L ++ [b]) w' ∧ (W.alloc (.cells #[.int .i64 b] 3)).grownBy w' v.ownBlock := by
  obtain ⟨i0, hi, hz0, hz1, hz2⟩ := info_parts fk_info_int
  obtain ⟨v', w', hr, k1, k2, _⟩ := run_append_own (P := Tryz.prog) (W.alloc (.cells #[.int .i64 b] 3)) base 43 ty 3 i0 _ 1 8 Tryz.underlying43 hi hz0 hz1 hz2 rfl (by decide) v L.length _ (hown.alloc _) ⟨W.heap.size, 0, none⟩ 1 1 [.int .i64 b] rfl (fknew_int W b) (fun u hu => by simp at hu; subst hu; rfl) (by unfold maxLen; omega) (by omega) (by rw [size_alloc]; omega)
  exact ⟨v', w', hr, fkints_snoc rfl k1, k2⟩
theorem add_facts {cb B R g : Nat} {bad : Int} {vn vr : Value} {nodes : List Int} {row : List Ent} {w : World} (hBw : B ≤ w.heap.size) (h : WkAt cb B R g bad vn vr nodes row w) (x : Ent) (hl : row.length ≤ 100000) :
    ∃ v' w2, (Builtin.append_ #[42, 42] 42 #[vr, .slice (some ⟨w.drew.heap.size, 0, none⟩) 1 1]).run Tryz.prog (w.drew.alloc (.cells (entC x) 53)) = .ok v' w2 ∧
      KeepE B w w.drew ∧ KeepE B w (w.drew.alloc (.cells (entC x) 53)) ∧ KeepE B w w2 ∧ KeepE B w (w2.setCell ⟨R, 3, none⟩ v') ∧
      w.drew.cell? ⟨R, 3, none⟩ = some vr ∧ (w.drew.alloc (.cells (entC x) 53)).cell? ⟨R, 3, none⟩ = some vr ∧ w2.cell? ⟨R, 3, none⟩ = some vr ∧ w2.frozen? ⟨R, 3, none⟩ = false ∧
      WkAt cb B R g bad vn v' nodes (row ++ [x]) (w2.setCell ⟨R, 3, none⟩ v') := by
  have bd : Below w.heap.size w w.drew := (Below.refl _ w).drew
  have b1 : Below w.drew.heap.size w.drew (w.drew.alloc (.cells (entC x) 53)) := balloc1 _ _
  have hd := h.kept1 bd
  have ha := hd.kept1 b1
  obtain ⟨v', w2, hr, k1, k2⟩ := app3L_run (ty := 42) Tryz.underlying42 ext_info B vr row x w.drew hd.r hl hBw
  have K1 : KeepE B w (w.drew.alloc (.cells (entC x) 53)) := KeepE.of_below (bnext bd b1)
  have K2 := K1.trans (KeepE.grown ha.r (by decide) k2)
  have B2 := blk_grown ha.blk k2 (ty_ne ha.r ⟨_, _, ha.blk⟩ (by decide))
  have N2 := row_grown ha.n k2 (rows_ne ha.n ha.r (by decide))
  have K3 := K2.trans (KeepE.set B2 (by decide) h.big 3 v')
  refine ⟨v', w2, hr, KeepE.of_below bd, K1, K2, K3, hd.blk.cell 3, ha.blk.cell 3, B2.cell 3, B2.frozen 3, ?_, h.big, row_setR N2 B2 (by decide), row_setR k1 B2 (by decide)⟩
  exact B2.set 3 v'
theorem node_facts {cb B R g : Nat} {bad : Int} {vn vr : Value} {nodes : List Int} {row : List Ent} {w : World} (hBw : B ≤ w.heap.size) (h : WkAt cb B R g bad vn vr nodes row w) (b : Int) (hl : nodes.length ≤ 100000) :
    ∃ v' w2, (Builtin.append_ #[43, 43] 43 #[vn, .slice (some ⟨w.drew.heap.size, 0, none⟩) 1 1]).run Tryz.prog (w.drew.alloc (.cells #[.int .i64 b] 3)) = .ok v' w2 ∧
      KeepE B w w.drew ∧ KeepE B w (w.drew.alloc (.cells #[.int .i64 b] 3)) ∧ KeepE B w w2 ∧ KeepE B w (w2.setCell ⟨R, 2, none⟩ v') ∧
      w.drew.cell? ⟨R, 2, none⟩ = some vn ∧ (w.drew.alloc (.cells #[.int .i64 b] 3)).cell? ⟨R, 2, none⟩ = some vn ∧ w2.cell? ⟨R, 2, none⟩ = some vn ∧ w2.frozen? ⟨R, 2, none⟩ = false ∧
      WkAt cb B R g bad v' vr (nodes ++ [b]) row (w2.setCell ⟨R, 2, none⟩ v') := by
  have bd : Below w.heap.size w w.drew := (Below.refl _ w).drew
  have b1 : Below w.drew.heap.size w.drew (w.drew.alloc (.cells #[.int .i64 b] 3)) := balloc1 _ _
  have hd := h.kept1 bd
  have ha := hd.kept1 b1
  obtain ⟨v', w2, hr, k1, k2⟩ := int1_run (ty := 43) B vn nodes b w.drew hd.n hl hBw
  have K1 : KeepE B w (w.drew.alloc (.cells #[.int .i64 b] 3)) := KeepE.of_below (bnext bd b1)
  have K2 := K1.trans (KeepE.grown ha.n (by decide) k2)
  have B2 := blk_grown ha.blk k2 (ty_ne ha.n ⟨_, _, ha.blk⟩ (by decide))
  have R2 := row_grown ha.r k2 (rows_ne ha.r ha.n (by decide))
  have K3 := K2.trans (KeepE.set B2 (by decide) h.big 2 v')
  refine ⟨v', w2, hr, KeepE.of_below bd, K1, K2, K3, hd.blk.cell 2, ha.blk.cell 2, B2.cell 2, B2.frozen 2, ?_, h.big, row_setR k1 B2 (by decide), row_setR R2 B2 (by decide)⟩
  exact B2.set 2 v'
end Go.Proofs.YtknefoemgifbfaaGreat
namespace Go.Proofs.YtknefoemgifbfaaGreat
open Go.RowKit
set_option maxRecDepth 100000 in
set_option maxHeartbeats 8000000 in
theorem rfadd_any {cb B R g : Nat} {bad : Int} {vn vr : Value} {nodes : List Int} {row : List Ent} {w : World} (hBw : B ≤ w.heap.size) (hwk : WkAt cb B R g bad vn vr nodes row w) (l : List Ent) (hlen : row.length + l.length ≤ 100000) (lv : Value) (hl : EntsK B lv l w) :
    Calls Tryz.prog 51 #[.pointer (some ⟨R, 0, none⟩), lv] w fun e w' => e = .returned (.tuple #[]) ∧ (∃ vr', WkAt cb B R g bad vn vr' nodes (row ++ l) w') ∧ KeepE B w w' := by
  have mixed : Tryz.prog.follows .mixedOrders = true := by kernel_rfl
  obtain ⟨ad, cap, rfl, c1, c2, c3⟩ := entsK_cells hl
  have H3 := Lib.hid c3
  have HWK0 := Lib.hid hwk
  have HTT : Hid (∀ k, k < l.length → row ++ l.take (k + 1) = row ++ l.take k ++ [eat l k]) := Lib.hid fun k hk => by rw [List.take_succ_eq_append_getElem hk, ← eat_eq hk, List.append_assoc]
  have HTE : Hid (row ++ l.take l.length = row ++ l) := Lib.hid (by rw [List.take_length])
  have HTZ : Hid (WkAt cb B R g bad vn vr nodes (row ++ l.take 0) w) := Lib.hid (by rw [List.take_zero, List.append_nil]; exact hwk)
  have HTL : Hid (∀ k, k ≤ l.length → (row ++ l.take k).length ≤ 100000) := Lib.hid fun k hk => by rw [List.length_append, List.length_take]; omega
  clear c3 hl hwk
  go_enter Tryz.func51, Tryz.ntmps51
  go_wp2
  go_loopw [4] (fun p wr => ∃ (k : Nat) (v : Value), p = .int .i64 k ∧ k ≤ l.length ∧ Hid (WkAt cb B R g bad vn v nodes (row ++ l.take k) wr) ∧ Hid (KeepE B w wr)) (fun p _ => l.length - (intOf p).toNat)
  case atStart => exact ⟨0, _, rfl, Nat.zero_le _, HTZ, Lib.hid (KeepE.refl _ _)⟩
  case round =>
    obtain ⟨k, v, rfl, hk, HWK, HKE⟩ := hrel
    by_cases hlt : k < l.length
    · obtain ⟨gl, o, rfl, hc⟩ := H3.out (by omega)
      have hcc := fun (w' : World) (h : KeepE B wr w') => hc w' (HKE.out.trans h) k hlt
      have HT := Lib.hid (HTT.out k hlt)
      clear hc
      have hql := HTL.out k hk
      generalize eat l k = yk at *
      generalize row ++ l.take k = Q0 at *
      obtain ⟨ea, ep, ez⟩ := yk
      dsimp only at hcc
      obtain ⟨v', w2, hrun, K0, K1, K2, K3, r0, r1, r2, f2, wk3⟩ := add_facts (Nat.le_trans hBw HKE.out.size) HWK.out ⟨ea, ep, ez⟩ hql
      dsimp only [entC] at hrun K1 r1
      generalize Q0 ++ [(⟨ea, ep, ez⟩ : Ent)] = Q1 at *
      obtain ⟨an, cn, rfl, -⟩ := shape_of wk3.r
      have HRUN := Lib.hid hrun
      have HS0 := Lib.hid (hcc _ K0)
      have HS1 := Lib.hid (hcc _ K1)
      have HS2 := Lib.hid (hcc _ K2)
      have HS3 := Lib.hid (hcc _ K3)
      have RD0 := Lib.hid r0
      have RD1 := Lib.hid r1
      have RD2 := Lib.hid r2
      have FR2 := Lib.hid f2
      have HKN := Lib.hid (HKE.out.trans K3)
      have HWN := Lib.hid wk3
      obtain ⟨ao, co, rfl, -⟩ := shape_of HWK.out.r
      clear hcc K0 K1 K2 K3 r0 r1 r2 f2 wk3 hrun HTT HTL HTZ H3 HWK0 HWK HKE
      have HWK := HWN
      have HKE := HKN
      clear HWN HKN
      go_upto_region 3 with fail
      refine wp_region_held_drew (S := fun w9 => w9.cell? ⟨gl, o + k * 3, none⟩ = some (.int .i64 ea) ∧ w9.cell? ⟨gl, o + k * 3 + 1, none⟩ = some (.int .i64 ep) ∧ w9.cell? ⟨gl, o + k * 3 + 2, none⟩ = some (.int .i64 ez)) mixed HS0.out (fun hHeld => ?_)
      generalize wr.drew = wd at *
      refine wpAnyH_take (i := 0) (oi := _) (v := ?vwa1) rfl (by kernel_rfl) (by kernel_rfl) (by kernel_rfl) (fun _ _ _ h => h) (Or.inl ⟨by kernel_rfl, ?hywa1⟩) hHeld ?restwa1
      case hywa1 => (intro w9 hSw; clear hSw; go_simp; try with_reducible rfl)
      try simp only [Act.put, za, zb, zc, zd, ze, zf]
      refine wpAnyH_take (i := 1) (oi := _) (v := ?vwa2) rfl (by kernel_rfl) (by kernel_rfl) (by kernel_rfl) (fun _ _ _ h => h) (Or.inl ⟨by kernel_rfl, ?hywa2⟩) hHeld ?restwa2
      case hywa2 => (intro w9 hSw; clear hSw; go_simp; try with_reducible rfl)
      try simp only [Act.put, za, zb, zc, zd, ze, zf]
      refine wpAnyH_take (i := 2) (oi := _) (v := ?vwa3) rfl (by kernel_rfl) (by kernel_rfl) (by kernel_rfl) (fun _ _ _ h => h) (Or.inl ⟨by kernel_rfl, ?hywa3⟩) hHeld ?restwa3
      case hywa3 => (intro w9 hSw; clear hSw; go_simp; try with_reducible rfl)
      try simp only [Act.put, za, zb, zc, zd, ze, zf]
      refine wpAnyH_take (i := 3) (oi := _) (v := ?vwa4) rfl (by kernel_rfl) (by kernel_rfl) (by kernel_rfl) (fun _ _ _ h => h) (Or.inl ⟨by kernel_rfl, ?hywa4⟩) hHeld ?restwa4
      case hywa4 => (intro w9 hSw; clear hSw; go_simp; try with_reducible rfl)
      try simp only [Act.put, za, zb, zc, zd, ze, zf]
      refine wpAnyH_take (i := 5) (oi := _) (v := ?vwa5) rfl (by kernel_rfl) (by kernel_rfl) (by kernel_rfl) (fun _ _ _ h => h) (Or.inl ⟨by kernel_rfl, ?hywa5⟩) hHeld ?restwa5
      case hywa5 => (intro w9 hSw; clear hSw; go_simp; try with_reducible rfl)
      try simp only [Act.put, za, zb, zc, zd, ze, zf]
      refine wpAnyH_take (i := 6) (oi := _) (v := ?vwa6) rfl (by kernel_rfl) (by kernel_rfl) (by kernel_rfl) (fun _ _ _ h => h) (Or.inl ⟨by kernel_rfl, ?hywa6⟩) hHeld ?restwa6
      case hywa6 => (intro w9 hSw; clear hSw; go_simp; try with_reducible rfl)
      try simp only [Act.put, za, zb, zc, zd, ze, zf]
      refine wpAnyH_take (i := 7) (oi := _) (v := ?vwa7) rfl (by kernel_rfl) (by kernel_rfl) (by kernel_rfl) (fun _ _ _ h => h) (Or.inl ⟨by kernel_rfl, ?hywa7⟩) hHeld ?restwa7
      case hywa7 => (intro w9 hSw; clear hSw; go_simp; try with_reducible rfl)
      try simp only [Act.put, za, zb, zc, zd, ze, zf]
      refine wpAnyH_take (i := 8) (oi := _) (v := ?vwa8) rfl (by kernel_rfl) (by kernel_rfl) (by kernel_rfl) (fun _ _ _ h => h) (Or.inl ⟨by kernel_rfl, ?hywa8⟩) hHeld ?restwa8
      case hywa8 => (intro w9 hSw; clear hSw; go_simp; try with_reducible rfl)
      try simp only [Act.put, za, zb, zc, zd, ze, zf]
      refine wpAnyH_take (i := 9) (oi := _) (v := ?vwa9) rfl (by kernel_rfl) (by kernel_rfl) (by kernel_rfl) (fun _ _ _ h => h) (Or.inl ⟨by kernel_rfl, ?hywa9⟩) hHeld ?restwa9
      case hywa9 => (intro w9 hSw; obtain ⟨e1, e2, e3⟩ := hSw; go_simp; try with_reducible rfl)
      try simp only [Act.put, za, zb, zc, zd, ze, zf]
      refine wpAnyH_take (i := 10) (oi := _) (v := ?vwa10) rfl (by kernel_rfl) (by kernel_rfl) (by kernel_rfl) (fun _ _ _ h => h) (Or.inl ⟨by kernel_rfl, ?hywa10⟩) hHeld ?restwa10
      case hywa10 => (intro w9 hSw; clear hSw; go_simp; try with_reducible rfl)
      try simp only [Act.put, za, zb, zc, zd, ze, zf]
      refine wpAnyH_take (i := 11) (oi := _) (v := ?vwa11) rfl (by kernel_rfl) (by kernel_rfl) (by kernel_rfl) (fun _ _ _ h => h) (Or.inl ⟨by kernel_rfl, ?hywa11⟩) hHeld ?restwa11
      case hywa11 => (intro w9 hSw; clear hSw; go_simp; try with_reducible rfl)
      try simp only [Act.put, za, zb, zc, zd, ze, zf]
      refine wpAnyH_take (i := 12) (oi := _) (v := ?vwa12) rfl (by kernel_rfl) (by kernel_rfl) (by kernel_rfl) (fun _ _ _ h => h) (Or.inl ⟨by kernel_rfl, ?hywa12⟩) hHeld ?restwa12
      case hywa12 => (intro w9 hSw; clear hSw; go_simp; try with_reducible rfl)
      try simp only [Act.put, za, zb, zc, zd, ze, zf]
      refine wpAnyH_take (i := 13) (oi := _) (v := ?vwa13) rfl (by kernel_rfl) (by kernel_rfl) (by kernel_rfl) (fun _ _ _ h => h) (Or.inl ⟨by kernel_rfl, ?hywa13⟩) hHeld ?restwa13
      case hywa13 => (intro w9 hSw; clear hSw; go_simp; try with_reducible rfl)
      try simp only [Act.put, za, zb, zc, zd, ze, zf]
      refine wpAnyH_take (i := 14) (oi := _) (v := ?vwa14) rfl (by kernel_rfl) (by kernel_rfl) (by kernel_rfl) (fun _ _ _ h => h) (Or.inl ⟨by kernel_rfl, ?hywa14⟩) hHeld ?restwa14
      case hywa14 => (intro w9 hSw; obtain ⟨e1, e2, e3⟩ := hSw; go_simp; try with_reducible rfl)
      try simp only [Act.put, za, zb, zc, zd, ze, zf]
      refine wpAnyH_take (i := 15) (oi := _) (v := ?vwa15) rfl (by kernel_rfl) (by kernel_rfl) (by kernel_rfl) (fun _ _ _ h => h) (Or.inl ⟨by kernel_rfl, ?hywa15⟩) hHeld ?restwa15
      case hywa15 => (intro w9 hSw; clear hSw; go_simp; try with_reducible rfl)
      try simp only [Act.put, za, zb, zc, zd, ze, zf]
      refine wpAnyH_take (i := 16) (oi := _) (v := ?vwa16) rfl (by kernel_rfl) (by kernel_rfl) (by kernel_rfl) (fun _ _ _ h => h) (Or.inl ⟨by kernel_rfl, ?hywa16⟩) hHeld ?restwa16
      case hywa16 => (intro w9 hSw; clear hSw; go_simp; try with_reducible rfl)
      try simp only [Act.put, za, zb, zc, zd, ze, zf]
      refine wpAnyH_take (i := 17) (oi := _) (v := ?vwa17) rfl (by kernel_rfl) (by kernel_rfl) (by kernel_rfl) (fun _ _ _ h => h) (Or.inl ⟨by kernel_rfl, ?hywa17⟩) hHeld ?restwa17
      case hywa17 => (intro w9 hSw; clear hSw; go_simp; try with_reducible rfl)
      try simp only [Act.put, za, zb, zc, zd, ze, zf]
      refine wpAnyH_take (i := 18) (oi := _) (v := ?vwa18) rfl (by kernel_rfl) (by kernel_rfl) (by kernel_rfl) (fun _ _ _ h => h) (Or.inl ⟨by kernel_rfl, ?hywa18⟩) hHeld ?restwa18
      case hywa18 => (intro w9 hSw; clear hSw; go_simp; try with_reducible rfl)
      try simp only [Act.put, za, zb, zc, zd, ze, zf]
      refine wpAnyH_take (i := 19) (oi := _) (v := ?vwa19) rfl (by kernel_rfl) (by kernel_rfl) (by kernel_rfl) (fun _ _ _ h => h) (Or.inl ⟨by kernel_rfl, ?hywa19⟩) hHeld ?restwa19
      case hywa19 => (intro w9 hSw; obtain ⟨e1, e2, e3⟩ := hSw; go_simp; try with_reducible rfl)
      try simp only [Act.put, za, zb, zc, zd, ze, zf]
      refine wpAnyH_take (i := 20) (oi := _) (v := ?vwa20) rfl (by kernel_rfl) (by kernel_rfl) (by kernel_rfl) (fun _ _ _ h => h) (Or.inl ⟨by kernel_rfl, ?hywa20⟩) hHeld ?restwa20
      case hywa20 => (intro w9 hSw; clear hSw; go_simp; try with_reducible rfl)
      try simp only [Act.put, za, zb, zc, zd, ze, zf]
      refine wpAnyH_ready (rs := [4, 21]) (by kernel_rfl) (by simp) ?_
      refine AllReadyH.cons (o := _) rfl (fun K hK => ?_) ?_
      · have cr := RD0.out
        go_simp
        clear cr
        refine hK.out _ _ (HS0.out) (fun hHeld3 => ?_)
        clear hK K hHeld
        have hHeld := hHeld3
        clear hHeld3
        try simp only [Act.put, za, zb, zc, zd, ze, zf]
        refine wpAnyH_ready (rs := [21]) (by kernel_rfl) (by simp) ?_
        refine AllReadyH.cons (o := _) rfl (fun K hK => ?_) ?_
        · go_simp
          refine hK.out _ _ (HS1.out) (fun hHeld3 => ?_)
          clear hK K hHeld
          have hHeld := hHeld3
          clear hHeld3
          try simp only [Act.put, za, zb, zc, zd, ze, zf]
          refine wpAnyH_ready (rs := [22]) (by kernel_rfl) (by simp) ?_
          refine AllReadyH.cons (o := _) rfl (fun K hK => ?_) ?_
          · refine step_append rfl _ _ _ rfl rfl rfl HRUN.out ?_
            try go_simp
            refine hK.out _ _ (HS2.out) (fun hHeld3 => ?_)
            clear hK K hHeld
            have hHeld := hHeld3
            clear hHeld3
            try simp only [Act.put, za, zb, zc, zd, ze, zf]
            refine wpAnyH_take (i := 23) (oi := _) (v := ?vwa24) rfl (by kernel_rfl) (by kernel_rfl) (by kernel_rfl) (fun _ _ _ h => h) (Or.inl ⟨by kernel_rfl, ?hywa24⟩) hHeld ?restwa24
            case hywa24 => (intro w9 hSw; clear hSw; go_simp; try with_reducible rfl)
            try simp only [Act.put, za, zb, zc, zd, ze, zf]
            refine wpAnyH_take (i := 24) (oi := _) (v := ?vwa25) rfl (by kernel_rfl) (by kernel_rfl) (by kernel_rfl) (fun _ _ _ h => h) (Or.inl ⟨by kernel_rfl, ?hywa25⟩) hHeld ?restwa25
            case hywa25 => (intro w9 hSw; clear hSw; go_simp; try with_reducible rfl)
            try simp only [Act.put, za, zb, zc, zd, ze, zf]
            refine wpAnyH_ready (rs := [25]) (by kernel_rfl) (by simp) ?_
            refine AllReadyH.cons (o := _) rfl (fun K hK => ?_) ?_
            · have cr := RD2.out
              have fr := FR2.out
              go_simp
              clear cr fr
              refine hK.out _ _ (HS3.out) (fun hHeld3 => ?_)
              clear hK K hHeld
              have hHeld := hHeld3
              clear hHeld3
              try simp only [Act.put, za, zb, zc, zd, ze, zf]
              refine ⟨by kernel_rfl, ?_⟩
              clear hHeld
              clear HS0 HS1 HS2 HS3 RD0 RD1 RD2 FR2 HRUN
              go_wp2
              exact ⟨⟨k + 1, _, by go_num, by omega, Lib.hid (by rw [HT.out]; exact HWK.out), HKE⟩, by simp [intOf]; omega⟩
            exact AllReadyH.nil
          exact AllReadyH.nil
        exact AllReadyH.nil
      refine AllReadyH.cons (o := _) rfl (fun K hK => ?_) ?_
      · go_simp
        refine hK.out _ _ (HS1.out) (fun hHeld3 => ?_)
        clear hK K hHeld
        have hHeld := hHeld3
        clear hHeld3
        try simp only [Act.put, za, zb, zc, zd, ze, zf]
        refine wpAnyH_ready (rs := [4]) (by kernel_rfl) (by simp) ?_
        refine AllReadyH.cons (o := _) rfl (fun K hK => ?_) ?_
        · have cr := RD1.out
          go_simp
          clear cr
          refine hK.out _ _ (HS1.out) (fun hHeld3 => ?_)
          clear hK K hHeld
          have hHeld := hHeld3
          clear hHeld3
          try simp only [Act.put, za, zb, zc, zd, ze, zf]
          refine wpAnyH_ready (rs := [22]) (by kernel_rfl) (by simp) ?_
          refine AllReadyH.cons (o := _) rfl (fun K hK => ?_) ?_
          · refine step_append rfl _ _ _ rfl rfl rfl HRUN.out ?_
            try go_simp
            refine hK.out _ _ (HS2.out) (fun hHeld3 => ?_)
            clear hK K hHeld
            have hHeld := hHeld3
            clear hHeld3
            try simp only [Act.put, za, zb, zc, zd, ze, zf]
            refine wpAnyH_take (i := 23) (oi := _) (v := ?vwa30) rfl (by kernel_rfl) (by kernel_rfl) (by kernel_rfl) (fun _ _ _ h => h) (Or.inl ⟨by kernel_rfl, ?hywa30⟩) hHeld ?restwa30
            case hywa30 => (intro w9 hSw; clear hSw; go_simp; try with_reducible rfl)
            try simp only [Act.put, za, zb, zc, zd, ze, zf]
            refine wpAnyH_take (i := 24) (oi := _) (v := ?vwa31) rfl (by kernel_rfl) (by kernel_rfl) (by kernel_rfl) (fun _ _ _ h => h) (Or.inl ⟨by kernel_rfl, ?hywa31⟩) hHeld ?restwa31
            case hywa31 => (intro w9 hSw; clear hSw; go_simp; try with_reducible rfl)
            try simp only [Act.put, za, zb, zc, zd, ze, zf]
            refine wpAnyH_ready (rs := [25]) (by kernel_rfl) (by simp) ?_
            refine AllReadyH.cons (o := _) rfl (fun K hK => ?_) ?_
            · have cr := RD2.out
              have fr := FR2.out
              go_simp
              clear cr fr
              refine hK.out _ _ (HS3.out) (fun hHeld3 => ?_)
              clear hK K hHeld
              have hHeld := hHeld3
              clear hHeld3
              try simp only [Act.put, za, zb, zc, zd, ze, zf]
              refine ⟨by kernel_rfl, ?_⟩
              clear hHeld
              clear HS0 HS1 HS2 HS3 RD0 RD1 RD2 FR2 HRUN
              go_wp2
              exact ⟨⟨k + 1, _, by go_num, by omega, Lib.hid (by rw [HT.out]; exact HWK.out), HKE⟩, by simp [intOf]; omega⟩
            exact AllReadyH.nil
          exact AllReadyH.nil
        exact AllReadyH.nil
      exact AllReadyH.nil
    · obtain rfl : k = l.length := by omega
      rw [HTE.out] at HWK
      clear HTT HTL HTZ H3 HWK0
      go_wp2
      go_end0
      exact ⟨rfl, ⟨_, HWK.out⟩, HKE.out⟩
end Go.Proofs.YtknefoemgifbfaaGreat
