import Derived.Test.YtknefoemgifbfaaGreatPd50
import Derived.Test.YtknefoemgifbfaaGreatPd01
import Derived.Test.YtknefoemgifbfaaGreatPd24
set_option linter.unusedVariables false
set_option linter.unusedSimpArgs false
set_option linter.constructorNameAsVariable false
namespace Go.Proofs.YtknefoemgifbfaaGreat
open Go.RowKit
abbrev RpR : Type := Except Int (Shp × Shp)
def dpR : RpR → Int | .ok x => ((x.2.length - 1 : Nat) : Int) | .error _ => 0
def rtR : RpR → List Ent | .ok x => rootA x.2 | .error _ => []
def chR : RpR → List Ch | .ok x => chgA (blocksA x.1) (blocksA x.2) | .error _ => []
def frR : RpR → List Int | .ok x => freeA (blocksA x.1) (blocksA x.2) | .error _ => []
def ecR : RpR → Int | .ok _ => 0 | .error c => c
def lenR (a : RpR) : Prop := (rtR a).length ≤ 1000000 ∧ (chR a).length ≤ 1000000 ∧ (frR a).length ≤ 1000000
theorem Freshes.all {σ : Type} {nx : Nx σ} {fv : Value} {go : σ → Prop} {I : σ → World → Prop} {C B : Nat} (h : Freshes nx fv go I C B) (w0 : World) (hB : B ≤ w0.heap.size) :
 Freshes nx fv go (fun s W => I s W ∧ ∀ k, B ≤ k → k < w0.heap.size → W.heap[k]? = w0.heap[k]?) C w0.heap.size := by
 refine ⟨h.val, fun T hT s v w hgo hB2 hI hv => ?_, fun s W W' hB2 hI hb => ⟨h.keep s W W' (by omega) hI.1 (hb.mono hB), fun k h1 h2 => (hb.block k h2).trans (hI.2 k h1 h2)⟩, h.next⟩;refine (h.ask T hT s v w hgo (by omega) hI.1 (row_down hB hv)).mono ?_;rintro e w' ⟨rfl, k1, k2, k3⟩;exact ⟨rfl, ⟨k1, fun k j1 j2 => (k3 k j1 (by omega)).trans (hI.2 k j1 j2)⟩, k2, fun k j1 j2 => k3 k (by omega) j2⟩
def greatB (d : List Ch) (r : List Ent) : Bool := decide (300 < d.length) || decide (100 < r.length) || d.any fun c => decide (1000 < c.2.size)
open Go.RowKit
theorem row_of_own {B z n : Nat} {e : TypeId} {v : Value} {xs : List Value} {w : World} (h : w.ownsRow B e z v n xs) : RowIn z v n xs w := by
 obtain ⟨ad, cap, rfl, h1, h2, h3⟩ := shape_of h;rcases h.2 with ⟨e1, e2⟩ | ⟨g, cap', cur, e1, hb, hg, hr⟩
 ·cases e1
  have : xs = [] := List.eq_nil_of_length_eq_zero (by have := h.1; rw [this, e2, Nat.zero_mul]);subst this;exact RowIn.nil z w
 ·cases e1
  refine ⟨h.1, some ⟨g, 0, none⟩, cap, rfl, h1, h2, fun hp => ⟨g, 0, rfl, lt_of_block hg, fun k u hk => ?_⟩, fun e => by cases e⟩;have hl := (List.getElem?_eq_some_iff.1 hk).1;rw [Nat.zero_add, h.cellAt k (by have := h.1; omega)]; exact hk
open Go.RowKit
structure KeepE (B : Nat) (w w' : World) : Prop where
 os : w'.os = w.os
 tape : w'.tape = w.tape
 output : w'.output = w.output
 size : w.heap.size ≤ w'.heap.size
 block : ∀ k, k < w.heap.size → (k < B ∨ TyAt k 31 w) → w'.heap[k]? = w.heap[k]?
theorem KeepE.refl (B : Nat) (w : World) : KeepE B w w := ⟨rfl, rfl, rfl, Nat.le_refl _, fun _ _ _ => rfl⟩
theorem KeepE.of_below {B : Nat} {w w' : World} (h : Below w.heap.size w w') : KeepE B w w' := ⟨h.os, h.tape, h.output, h.size, fun k hk _ => h.block k hk⟩
theorem KeepE.below {B : Nat} {w w' : World} (h : KeepE B w w') (hB : B ≤ w.heap.size) : Below B w w' := ⟨h.os, h.tape, h.output, h.size, fun k hk => h.block k (by omega) (.inl hk)⟩
theorem KeepE.trans {B : Nat} {a b c : World} (h : KeepE B a b) (k : KeepE B b c) : KeepE B a c := by
 refine ⟨k.os.trans h.os, k.tape.trans h.tape, k.output.trans h.output, Nat.le_trans h.size k.size, fun i hi hp => ?_⟩;have e1 := h.block i hi hp;have e2 := k.block i (Nat.lt_of_lt_of_le hi h.size) (hp.imp id fun t => t.eq_block e1);exact e2.trans e1
theorem KeepE.grown {B z n : Nat} {e : TypeId} {v : Value} {xs : List Value} {w w' : World} (h : w.ownsRow B e z v n xs) (he : 31 ≠ e) (g : w.grownBy w' v.ownBlock) : KeepE B w w' :=
 ⟨g.os, g.tape, g.output, g.size, fun k hk hp => g.block k hk fun q => by
  rcases hp with hp | hp
  ·have := (own_ty h q.symm).2.2; omega
  ·exact he (ty_one hp (own_ty h q.symm).1)⟩
theorem KeepE.set {B R : Nat} {cs : Array Value} {T : TypeId} {w : World} (h : Blk R cs T w) (hT : 31 ≠ T) (hB : B ≤ R) (j : Nat) (u : Value) : KeepE B w (w.setCell ⟨R, j, none⟩ u) :=
 ⟨rfl, rfl, rfl, by simp [World.setCell], fun k hk hp => Below.heap_setCell w ⟨R, j, none⟩ u k fun e => by
  have e : k = R := e;rw [e] at hp;rcases hp with hp | hp
  ·omega
  ·exact hT (ty_one hp ⟨_, _, h⟩)⟩
def EntsK (B : Nat) (v : Value) (x : List Ent) (w : World) : Prop := ∀ w', KeepE B w w' → EntsIn v x w'
theorem EntsK.now {B : Nat} {v : Value} {x : List Ent} {w : World} (h : EntsK B v x w) : EntsIn v x w := h w (KeepE.refl _ _)
theorem EntsK.kept {B : Nat} {v : Value} {x : List Ent} {w w' : World} (h : EntsK B v x w) (g : KeepE B w w') : EntsK B v x w' := fun a ha => h a (g.trans ha)
theorem EntsK.old {B : Nat} {v : Value} {x : List Ent} {w0 w : World} (h : EntsIn v x w0) (hB : w0.heap.size ≤ B) (hb : Below w0.heap.size w0 w) (hw : B ≤ w.heap.size) : EntsK B v x w := fun a ha => h.kept (hb.trans ((ha.below hw).mono hB))
theorem EntsK.own {B C : Nat} {v : Value} {x : List Ent} {w : World} (h : EntsAt C v x w) : EntsK B v x w := fun a ha =>
 entsAt_in (B := C) (own_eq h fun g hg => ha.block g (own_ty h hg).2.1 (.inr (own_ty h hg).1))
structure WkAt (cb B R g : Nat) (bad : Int) (vn vr : Value) (nodes : List Int) (row : List Ent) (w : World) : Prop where
 blk : Blk R #[.slice (some ⟨g, 0, none⟩) 4096 cb, .int .i64 bad, vn, vr] 111 w
 big : B ≤ R
 n : IntsFk B vn nodes w
 r : ExtsAt B vr row w
theorem WkAt.kept1 {cb B R g : Nat} {bad : Int} {vn vr : Value} {nodes : List Int} {row : List Ent} {w w' : World} (h : WkAt cb B R g bad vn vr nodes row w) (b : Below w.heap.size w w') : WkAt cb B R g bad vn vr nodes row w' := ⟨h.blk.kept1 b, h.big, row_kept h.n b, row_kept h.r b⟩
open Go.RowKit
end Go.Proofs.YtknefoemgifbfaaGreat
