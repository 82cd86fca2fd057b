import Derived.Test.YtknefoemgifbfaaGreatPd55
import Derived.Test.YtknefoemgifbfaaGreatPd01
import Derived.Test.YtknefoemgifbfaaGreatPd50
import Derived.Lib.SmallJoins
/-
  Proved: glissadelaw15.ForksWalk answers true for every tree and every disk, and its input reads behind the call as it did. No condition.
-/
namespace Go.Proofs.YtknefoemgifbfaaGreat.forksWalk
open Go.ChangeShapes Go.WideShapes Go.ChangeAt Go.RowKit Go.Joins
open Go.ChangeMaps (open_string shut_string)
set_option maxRecDepth 100000 in
theorem lifted (os : Os) (started : os.Started) (H : Type) (enc : TypeId × Value → H) :
    ReturnsInHanded {} Tryz.checked os 4 .any (Rows.forksWalkSpec.pre6 enc Tryz.prog Tryz.f4 Rows.forksWalkRow.domain false) (Rows.forksWalkSpec.post enc Tryz.prog Tryz.f4 false true false false) := by
  refine returnsInHanded_of_change (C := Tryz.checked) seat_own started (by kernel_rfl) Tryz.func4
    (ChangeSpec.witness6 (enc := enc) (C := Tryz.checked) false ⟨#[], #[.agg #[.int .i64 0, .slice none 0 0], .agg #[.slice none 0 0, .int .i64 0]], []⟩ 8 (by kernel_rfl) (by kernel_rfl) (by kernel_rfl) (by kernel_rfl)) ?_
  intro W base args ds gs before hval0 hW _ _
  have hval : ∀ (j : Nat) t v, Tryz.f4.params[j]? = some t → args[j]? = some v → Value.okWide Tryz.prog W .any base t v := hval0
  have hW' := hW
  obtain ⟨p, q, hA0, hV, rfl, _, _⟩ := hW
  have hA : DataW.TrodAll enc Tryz.prog W 0 (fun _ => true) true Tryz.f4.params.toList args.toList ds p := hA0
  rw [Tryz.params4] at hA hval
  obtain ⟨v0, v1, d0, d1, p0, p1, rfl, rfl, rfl, h0, h1⟩ := trodAll_two hA
  obtain ⟨rfl, rfl⟩ := trodVars_none hV
  obtain ⟨dp, r, vt, rfl, bdp, fr, rr⟩ := open_tree (hval 0 35 v0 rfl rfl) h0
  obtain ⟨D, b, vd, rfl, bb, fD, rD⟩ := open_disk (hval 1 38 v1 rfl rfl) h1
  refine (fwalk_walk dp bdp r fr vt D fD b vd W rr rD).mono fun e W' ⟨he, bel⟩ => ?_
  subst he
  exact ⟨_, rfl, law_closes seat_laid rfl (by kernel_rfl) rfl Tryz.underlying4 hW' ⟨rfl, rfl, rfl⟩ bel⟩
theorem proved : Rows.ForksWalkSaid :=
  OpenClaim.holds_of_wide 4 Tryz.f4 rfl rfl rfl rfl rfl rfl rfl ⟨rfl, rfl, rfl, rfl, rfl⟩ rfl rfl rfl rfl rfl (by kernel_rfl) Tryz.func4 (by kernel_rfl)
    (of_decide_eq_true (by kernel_rfl)) (by unfold Func.isWrapper; first | (rw [if_pos (by decide +kernel)]; kernel_rfl) | (rw [if_neg (by decide +kernel)]; exact ⟨rfl, rfl⟩))
    (fun os started H enc _ => lifted os started H enc)
end Go.Proofs.YtknefoemgifbfaaGreat.forksWalk
