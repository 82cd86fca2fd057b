/- A region that draws its order, whose operations only read, and whose callees leave what was there: one walk, over the worlds behind. -/
import Derived.Test.YtpgpglnbpahcjaaGMath
import Derived.Deep.Quiet
import Derived.Deep.QuietTactic
import Derived.BigQuiet
namespace Go.Proofs.Ytpgpglnbpahcjaa
set_option linter.unusedVariables false
open Go.RowKit

/-- a world in which all that w has is as it was -/
structure BelowP (w : World) where
  to : World
  h : Below w.heap.size w to
instance (w : World) : Inhabited (BelowP w) := ⟨⟨w, Below.refl _ _⟩⟩
theorem wp_region_quiet_below {P : Program} {id : Nat} {Q : Exit → Act → World → Prop} {a : Act} {w : World} {l : List Oper} (hm : P.follows .mixedOrders = true) (hB : Region.lexB .any l.toArray = true)
    (h : wpQuiet P l.toArray (fun w' => ∃ p : BelowP w, w' = p.to) (fun a' => ∀ w', (∃ p : BelowP w, w' = p.to) → Q .normal a' w') l a) : (Code.region id l.toArray true).wp P Q a w :=
  wp_region_quiet (C := fun w' => ∃ p : BelowP w, w' = p.to) hm hB ⟨⟨w.drew, (Below.refl _ _).drew⟩, rfl⟩ (by simpa using h)
theorem calls_below {P : Program} {f : FuncId} {args : Array Value} {w : World} {p : BelowP w} {v : Value}
    (h : Calls P f args p.to fun e w' => e = .returned v ∧ Below p.to.heap.size p.to w') : Calls P f args p.to fun e w'' => e = .returned v ∧ ∃ p : BelowP w, w'' = p.to :=
  h.mono fun _ w'' ⟨he, hb⟩ => ⟨he, ⟨w'', p.h.trans (hb.mono p.h.size)⟩, rfl⟩
theorem GeoAt.all {g : Nat} {b l i la ma ml ta tl da : Int} {w : World} (h : GeoAt g b l i la ma ml ta tl da w) :
    (∀ p : BelowP w, p.to.cell? ⟨g, 0, none⟩ = some (.int .i64 b)) ∧ (∀ p : BelowP w, p.to.cell? ⟨g, 1, none⟩ = some (.int .i64 l)) ∧ (∀ p : BelowP w, p.to.cell? ⟨g, 2, none⟩ = some (.int .i64 i)) ∧ (∀ p : BelowP w, p.to.cell? ⟨g, 3, none⟩ = some (.int .i64 la)) ∧
    (∀ p : BelowP w, p.to.cell? ⟨g, 4, none⟩ = some (.int .i64 ma)) ∧ (∀ p : BelowP w, p.to.cell? ⟨g, 5, none⟩ = some (.int .i64 ml)) ∧ (∀ p : BelowP w, p.to.cell? ⟨g, 6, none⟩ = some (.int .i64 ta)) ∧ (∀ p : BelowP w, p.to.cell? ⟨g, 7, none⟩ = some (.int .i64 tl)) ∧ (∀ p : BelowP w, p.to.cell? ⟨g, 8, none⟩ = some (.int .i64 da)) := by
  have k := fun p : BelowP w => (h.kept1 p.h).cells
  exact ⟨fun p => (k p).1, fun p => (k p).2.1, fun p => (k p).2.2.1, fun p => (k p).2.2.2.1, fun p => (k p).2.2.2.2.1, fun p => (k p).2.2.2.2.2.1, fun p => (k p).2.2.2.2.2.2.1, fun p => (k p).2.2.2.2.2.2.2.1, fun p => (k p).2.2.2.2.2.2.2.2⟩
end Go.Proofs.Ytpgpglnbpahcjaa
