/-
  No cell of these rows narrows 'for every input' (looked for: loops, veiled, ifaces, maps, wideKeys, modest, calm, conditions, laid).
  DERIVED. THE GIVEN ROWS OF THIS SEAT. 5 by the template 'for every input the law returns true; each argument reads behind the call as it read before'; 0 by the template 'total and deterministic' (their statements: YtpgpglnbpahcjaaTotals.lean).
  GIVEN WITH THE SEED: the statements are not yours to turn. If you find one false, say at which input.
  Laid BY PROGRAM, IN A SANDBOX (cutbox-rows.mjs): the forced cells as the released guide's own fill.sh prints them over the translation 8289b5216e499ada… (all of the seat's roots in one cut). By AI agents, Wed Nov 11 2026. No macro, syntax, notation, axiom, sorry.
-/
import Derived.Test.YtpgpglnbpahcjaaChecked
import GoSem.Claim
import GoSem.ClaimJoined
import GoSem.ClaimMapViews
import Derived.JoinedTies
import Derived.KernelRfl
namespace Go.Proofs.Ytpgpglnbpahcjaa
/- THE CELL 'sum', in the pinned program and in every row, IS THE sha256 OF THE DUMP (.gsa) THAT YtpgpglnbpahcjaaProg.lean LOADS. Nothing in Lean hashes anything: it is a label: what it is worth is what the hold of that sum in a sandbox is worth. -/
noncomputable def Try.pinned : Pinned := { name := "ytpgpglnbpahcjaa", sum := "8289b5216e499adaf879577ed89a48b0a542521086c8629dd77bde90195b4980", checked := Try.checked }
namespace Rows
def none {H : Type} : Left H := { results := [], args := [] }

/-- 'glissadelaw05.GeometryOf': WHATEVER THE INPUT: true; the input reads as it did. -/
def geometryOfSpec : ChangeSpec := { name := "geometryOf", fn := fun _ => fun
  | [d1, d2, d3] => { results := [.lit (.bool true)], args := [d1, d2, d3] }
  | _ => none }
def geometryOfRow : OpenClaim := { program := "ytpgpglnbpahcjaa", sum := "8289b5216e499adaf879577ed89a48b0a542521086c8629dd77bde90195b4980", func := "glissade/glissadelaw05.GeometryOf", spec := "geometryOf", apart := false }
def GeometryOfSaid : Prop := geometryOfRow.holds Try.pinned (OpenSpec.ofChange geometryOfSpec)

/-- ITS FALSE NEIGHBOUR: 'it returns false'. Refute it at one input. -/
def geometryOfWrong : ChangeSpec := { name := "geometryOf", fn := fun _ => fun
  | [d1, d2, d3] => { results := [.lit (.bool false)], args := [d1, d2, d3] }
  | _ => none }
def GeometryOfWrongFalsely : Prop := geometryOfRow.holds Try.pinned (OpenSpec.ofChange geometryOfWrong)

/-- 'glissadelaw05.GeometryAsks': WHATEVER THE INPUT: true; the input reads as it did. -/
def geometryAsksSpec : ChangeSpec := { name := "geometryAsks", fn := fun _ => fun
  | [d1, d2, d3] => { results := [.lit (.bool true)], args := [d1, d2, d3] }
  | _ => none }
def geometryAsksRow : OpenClaim := { program := "ytpgpglnbpahcjaa", sum := "8289b5216e499adaf879577ed89a48b0a542521086c8629dd77bde90195b4980", func := "glissade/glissadelaw05.GeometryAsks", spec := "geometryAsks", apart := false }
def GeometryAsksSaid : Prop := geometryAsksRow.holds Try.pinned (OpenSpec.ofChange geometryAsksSpec)

/-- ITS FALSE NEIGHBOUR: 'it returns false'. Refute it at one input. -/
def geometryAsksWrong : ChangeSpec := { name := "geometryAsks", fn := fun _ => fun
  | [d1, d2, d3] => { results := [.lit (.bool false)], args := [d1, d2, d3] }
  | _ => none }
def GeometryAsksWrongFalsely : Prop := geometryAsksRow.holds Try.pinned (OpenSpec.ofChange geometryAsksWrong)

/-- 'glissadelaw05.GeometryParts': WHATEVER THE INPUT: true; the input reads as it did. -/
def geometryPartsSpec : ChangeSpec := { name := "geometryParts", fn := fun _ => fun
  | [d1, d2, d3] => { results := [.lit (.bool true)], args := [d1, d2, d3] }
  | _ => none }
def geometryPartsRow : OpenClaim := { program := "ytpgpglnbpahcjaa", sum := "8289b5216e499adaf879577ed89a48b0a542521086c8629dd77bde90195b4980", func := "glissade/glissadelaw05.GeometryParts", spec := "geometryParts", apart := false }
def GeometryPartsSaid : Prop := geometryPartsRow.holds Try.pinned (OpenSpec.ofChange geometryPartsSpec)

/-- ITS FALSE NEIGHBOUR: 'it returns false'. Refute it at one input. -/
def geometryPartsWrong : ChangeSpec := { name := "geometryParts", fn := fun _ => fun
  | [d1, d2, d3] => { results := [.lit (.bool false)], args := [d1, d2, d3] }
  | _ => none }
def GeometryPartsWrongFalsely : Prop := geometryPartsRow.holds Try.pinned (OpenSpec.ofChange geometryPartsWrong)

/-- 'glissadelaw05.GeometryInodes': WHATEVER THE INPUT: true; the input reads as it did. -/
def geometryInodesSpec : ChangeSpec := { name := "geometryInodes", fn := fun _ => fun
  | [d1, d2] => { results := [.lit (.bool true)], args := [d1, d2] }
  | _ => none }
def geometryInodesRow : OpenClaim := { program := "ytpgpglnbpahcjaa", sum := "8289b5216e499adaf879577ed89a48b0a542521086c8629dd77bde90195b4980", func := "glissade/glissadelaw05.GeometryInodes", spec := "geometryInodes", apart := false }
def GeometryInodesSaid : Prop := geometryInodesRow.holds Try.pinned (OpenSpec.ofChange geometryInodesSpec)

/-- ITS FALSE NEIGHBOUR: 'it returns false'. Refute it at one input. -/
def geometryInodesWrong : ChangeSpec := { name := "geometryInodes", fn := fun _ => fun
  | [d1, d2] => { results := [.lit (.bool false)], args := [d1, d2] }
  | _ => none }
def GeometryInodesWrongFalsely : Prop := geometryInodesRow.holds Try.pinned (OpenSpec.ofChange geometryInodesWrong)

/-- 'glissadelaw05.GeometryOdd': WHATEVER THE INPUT: true; the input reads as it did. -/
def geometryOddSpec : ChangeSpec := { name := "geometryOdd", fn := fun _ => fun
  | [d1, d2, d3] => { results := [.lit (.bool true)], args := [d1, d2, d3] }
  | _ => none }
def geometryOddRow : OpenClaim := { program := "ytpgpglnbpahcjaa", sum := "8289b5216e499adaf879577ed89a48b0a542521086c8629dd77bde90195b4980", func := "glissade/glissadelaw05.GeometryOdd", spec := "geometryOdd", apart := false }
def GeometryOddSaid : Prop := geometryOddRow.holds Try.pinned (OpenSpec.ofChange geometryOddSpec)

/-- ITS FALSE NEIGHBOUR: 'it returns false'. Refute it at one input. -/
def geometryOddWrong : ChangeSpec := { name := "geometryOdd", fn := fun _ => fun
  | [d1, d2, d3] => { results := [.lit (.bool false)], args := [d1, d2, d3] }
  | _ => none }
def GeometryOddWrongFalsely : Prop := geometryOddRow.holds Try.pinned (OpenSpec.ofChange geometryOddWrong)

/- THE SECOND FORM. 'bulk': how many values and letters a reading holds, each counted each time it is reached (what is shared counts as often as it is met; a slice's spare places count too). A statement '..UptoSaid' is the law's where the arguments, and the package variables that the reading takes, are together of bulk at most 1048576: NARROWER than '..Said'. Prove '..Said' where nothing that the law and all that it calls make is longer than what came in: it says more and counts as full. Else prove '..UptoSaid'. A law counts once. -/
mutual
def uptoBulk {H : Type} : DataW H → Nat
  | .lit (.string bytes) => bytes.length + 1
  | .lit _ => 1
  | .nil => 1
  | .ptr d => uptoBulk d + 1
  | .slice elems spare => uptoBulkAll elems + uptoBulkAll spare + 1
  | .agg parts => uptoBulkAll parts + 1
  | .iface _ d => uptoBulk d + 1
  | .map entries => uptoBulkEntries entries + 1
  | .held _ => 1
def uptoBulkAll {H : Type} : List (DataW H) → Nat
  | [] => 0
  | d :: r => uptoBulk d + uptoBulkAll r
def uptoBulkEntries {H : Type} : List (Lit × DataW H) → Nat
  | [] => 0
  | x :: r => uptoBulkEntry x + uptoBulkEntries r
def uptoBulkEntry {H : Type} : Lit × DataW H → Nat
  | (.string bytes, d) => bytes.length + uptoBulk d + 1
  | (_, d) => uptoBulk d + 1
 end
def uptoSmall : (H : Type) → List (DataW H) → Bool := fun _ ds => decide (uptoBulkAll ds ≤ 1048576)
def OpenSpec.upto (s : _root_.Go.ChangeSpec) : _root_.Go.OpenSpec := { _root_.Go.OpenSpec.ofChange s with cond := some uptoSmall }

/-- 'glissadelaw05.GeometryOf', WHERE WHAT IT READS IS OF BULK AT MOST 1048576: true; the input reads as it did. -/
def geometryOfUptoRow : OpenClaim := { program := "ytpgpglnbpahcjaa", sum := "8289b5216e499adaf879577ed89a48b0a542521086c8629dd77bde90195b4980", func := "glissade/glissadelaw05.GeometryOf", spec := "geometryOf", apart := false, narrowed := true }
def GeometryOfUptoSaid : Prop := geometryOfUptoRow.holds Try.pinned (OpenSpec.upto geometryOfSpec)

/-- 'glissadelaw05.GeometryAsks', WHERE WHAT IT READS IS OF BULK AT MOST 1048576: true; the input reads as it did. -/
def geometryAsksUptoRow : OpenClaim := { program := "ytpgpglnbpahcjaa", sum := "8289b5216e499adaf879577ed89a48b0a542521086c8629dd77bde90195b4980", func := "glissade/glissadelaw05.GeometryAsks", spec := "geometryAsks", apart := false, narrowed := true }
def GeometryAsksUptoSaid : Prop := geometryAsksUptoRow.holds Try.pinned (OpenSpec.upto geometryAsksSpec)

/-- 'glissadelaw05.GeometryParts', WHERE WHAT IT READS IS OF BULK AT MOST 1048576: true; the input reads as it did. -/
def geometryPartsUptoRow : OpenClaim := { program := "ytpgpglnbpahcjaa", sum := "8289b5216e499adaf879577ed89a48b0a542521086c8629dd77bde90195b4980", func := "glissade/glissadelaw05.GeometryParts", spec := "geometryParts", apart := false, narrowed := true }
def GeometryPartsUptoSaid : Prop := geometryPartsUptoRow.holds Try.pinned (OpenSpec.upto geometryPartsSpec)

/-- 'glissadelaw05.GeometryInodes', WHERE WHAT IT READS IS OF BULK AT MOST 1048576: true; the input reads as it did. -/
def geometryInodesUptoRow : OpenClaim := { program := "ytpgpglnbpahcjaa", sum := "8289b5216e499adaf879577ed89a48b0a542521086c8629dd77bde90195b4980", func := "glissade/glissadelaw05.GeometryInodes", spec := "geometryInodes", apart := false, narrowed := true }
def GeometryInodesUptoSaid : Prop := geometryInodesUptoRow.holds Try.pinned (OpenSpec.upto geometryInodesSpec)

/-- 'glissadelaw05.GeometryOdd', WHERE WHAT IT READS IS OF BULK AT MOST 1048576: true; the input reads as it did. -/
def geometryOddUptoRow : OpenClaim := { program := "ytpgpglnbpahcjaa", sum := "8289b5216e499adaf879577ed89a48b0a542521086c8629dd77bde90195b4980", func := "glissade/glissadelaw05.GeometryOdd", spec := "geometryOdd", apart := false, narrowed := true }
def GeometryOddUptoSaid : Prop := geometryOddUptoRow.holds Try.pinned (OpenSpec.upto geometryOddSpec)

end Rows
end Go.Proofs.Ytpgpglnbpahcjaa
