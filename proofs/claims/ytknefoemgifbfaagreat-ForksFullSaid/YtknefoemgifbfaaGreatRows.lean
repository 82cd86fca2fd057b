/-
  No cell of these rows narrows 'for every input' (looked for: loops, veiled, ifaces, maps, wideKeys, modest, calm, conditions, laid).
  DERIVED. THE GIVEN ROWS OF THIS SEAT. 6 by the template 'for every input the law returns true; each argument reads behind the call as it read before'; 0 by the template 'total and deterministic' (their statements: YtknefoemgifbfaaGreatTotals.lean).
  GIVEN WITH THE SEED: the statements are not yours to turn. If you find one false, say at which input.
  Laid BY PROGRAM, IN A SANDBOX (cutbox-rows.mjs): the forced cells as the released guide's own fill.sh prints them over the translation c0330b3699981726… (all of the seat's roots in one cut). By AI agents, Wed Nov 11 2026. No macro, syntax, notation, axiom, sorry.
-/
import Derived.Test.YtknefoemgifbfaaGreatChecked
import GoSem.Claim
import GoSem.ClaimJoined
import GoSem.ClaimMapViews
import Derived.JoinedTies
import Derived.KernelRfl
namespace Go.Proofs.YtknefoemgifbfaaGreat
/- THE CELL 'sum', in the pinned program and in every row, IS THE sha256 OF THE DUMP (.gsa) THAT YtknefoemgifbfaaGreatProg.lean LOADS. Nothing in Lean hashes anything: it is a label: what it is worth is what the hold of that sum in a sandbox is worth. -/
noncomputable def Tryz.pinned : Pinned := { name := "ytknefoemgifbfaagreat", sum := "c0330b369998172648c3fb054ade68d1ac45897f6fa70534411885024b8c9744", checked := Tryz.checked }
namespace Rows
def none {H : Type} : Left H := { results := [], args := [] }

/-- 'glissadelaw15.ForksNodes': WHATEVER THE INPUT: true; the input reads as it did. -/
def forksNodesSpec : ChangeSpec := { name := "forksNodes", fn := fun _ => fun
  | [d1, d2, d3] => { results := [.lit (.bool true)], args := [d1, d2, d3] }
  | _ => none }
def forksNodesRow : OpenClaim := { program := "ytknefoemgifbfaagreat", sum := "c0330b369998172648c3fb054ade68d1ac45897f6fa70534411885024b8c9744", func := "glissade/glissadelaw15.ForksNodes", spec := "forksNodes", inPlace := ["slices.overlaps[glissade/api.Ext]"], unfollowed := true, recurses := true, apart := false }
def ForksNodesSaid : Prop := forksNodesRow.holds Tryz.pinned (OpenSpec.ofChange forksNodesSpec)

/-- ITS FALSE NEIGHBOUR: 'it returns false'. Refute it at one input. -/
def forksNodesWrong : ChangeSpec := { name := "forksNodes", fn := fun _ => fun
  | [d1, d2, d3] => { results := [.lit (.bool false)], args := [d1, d2, d3] }
  | _ => none }
def ForksNodesWrongFalsely : Prop := forksNodesRow.holds Tryz.pinned (OpenSpec.ofChange forksNodesWrong)

/-- 'glissadelaw15.ForksWalk': WHATEVER THE INPUT: true; the input reads as it did. -/
def forksWalkSpec : ChangeSpec := { name := "forksWalk", fn := fun _ => fun
  | [d1, d2] => { results := [.lit (.bool true)], args := [d1, d2] }
  | _ => none }
def forksWalkRow : OpenClaim := { program := "ytknefoemgifbfaagreat", sum := "c0330b369998172648c3fb054ade68d1ac45897f6fa70534411885024b8c9744", func := "glissade/glissadelaw15.ForksWalk", spec := "forksWalk", inPlace := ["slices.overlaps[glissade/api.Ext]"], unfollowed := true, recurses := true, apart := false }
def ForksWalkSaid : Prop := forksWalkRow.holds Tryz.pinned (OpenSpec.ofChange forksWalkSpec)

/-- ITS FALSE NEIGHBOUR: 'it returns false'. Refute it at one input. -/
def forksWalkWrong : ChangeSpec := { name := "forksWalk", fn := fun _ => fun
  | [d1, d2] => { results := [.lit (.bool false)], args := [d1, d2] }
  | _ => none }
def ForksWalkWrongFalsely : Prop := forksWalkRow.holds Tryz.pinned (OpenSpec.ofChange forksWalkWrong)

/-- 'glissadelaw15.ForksMoves': WHATEVER THE INPUT: true; the input reads as it did. -/
def forksMovesSpec : ChangeSpec := { name := "forksMoves", fn := fun _ => fun
  | [d1, d2, d3] => { results := [.lit (.bool true)], args := [d1, d2, d3] }
  | _ => none }
def forksMovesRow : OpenClaim := { program := "ytknefoemgifbfaagreat", sum := "c0330b369998172648c3fb054ade68d1ac45897f6fa70534411885024b8c9744", func := "glissade/glissadelaw15.ForksMoves", spec := "forksMoves", inPlace := ["slices.overlaps[glissade/api.Ext]"], unfollowed := true, recurses := true, apart := false }
def ForksMovesSaid : Prop := forksMovesRow.holds Tryz.pinned (OpenSpec.ofChange forksMovesSpec)

/-- ITS FALSE NEIGHBOUR: 'it returns false'. Refute it at one input. -/
def forksMovesWrong : ChangeSpec := { name := "forksMoves", fn := fun _ => fun
  | [d1, d2, d3] => { results := [.lit (.bool false)], args := [d1, d2, d3] }
  | _ => none }
def ForksMovesWrongFalsely : Prop := forksMovesRow.holds Tryz.pinned (OpenSpec.ofChange forksMovesWrong)

/-- 'glissadelaw15.ForksSame': WHATEVER THE INPUT: true; the input reads as it did. -/
def forksSameSpec : ChangeSpec := { name := "forksSame", fn := fun _ => fun
  | [d1, d2, d3] => { results := [.lit (.bool true)], args := [d1, d2, d3] }
  | _ => none }
def forksSameRow : OpenClaim := { program := "ytknefoemgifbfaagreat", sum := "c0330b369998172648c3fb054ade68d1ac45897f6fa70534411885024b8c9744", func := "glissade/glissadelaw15.ForksSame", spec := "forksSame", inPlace := ["slices.overlaps[glissade/api.Ext]"], unfollowed := true, recurses := true, apart := false }
def ForksSameSaid : Prop := forksSameRow.holds Tryz.pinned (OpenSpec.ofChange forksSameSpec)

/-- ITS FALSE NEIGHBOUR: 'it returns false'. Refute it at one input. -/
def forksSameWrong : ChangeSpec := { name := "forksSame", fn := fun _ => fun
  | [d1, d2, d3] => { results := [.lit (.bool false)], args := [d1, d2, d3] }
  | _ => none }
def ForksSameWrongFalsely : Prop := forksSameRow.holds Tryz.pinned (OpenSpec.ofChange forksSameWrong)

/-- 'glissadelaw15.ForksGrow': WHATEVER THE INPUT: true; the input reads as it did. -/
def forksGrowSpec : ChangeSpec := { name := "forksGrow", fn := fun _ => fun
  | [d] => { results := [.lit (.bool true)], args := [d] }
  | _ => none }
def forksGrowRow : OpenClaim := { program := "ytknefoemgifbfaagreat", sum := "c0330b369998172648c3fb054ade68d1ac45897f6fa70534411885024b8c9744", func := "glissade/glissadelaw15.ForksGrow", spec := "forksGrow", inPlace := ["slices.overlaps[glissade/api.Ext]"], unfollowed := true, recurses := true, apart := false }
def ForksGrowSaid : Prop := forksGrowRow.holds Tryz.pinned (OpenSpec.ofChange forksGrowSpec)

/-- ITS FALSE NEIGHBOUR: 'it returns false'. Refute it at one input. -/
def forksGrowWrong : ChangeSpec := { name := "forksGrow", fn := fun _ => fun
  | [d] => { results := [.lit (.bool false)], args := [d] }
  | _ => none }
def ForksGrowWrongFalsely : Prop := forksGrowRow.holds Tryz.pinned (OpenSpec.ofChange forksGrowWrong)

/-- 'glissadelaw15.ForksFull': WHATEVER THE INPUT: true; the input reads as it did. -/
def forksFullSpec : ChangeSpec := { name := "forksFull", fn := fun _ => fun
  | [d1, d2] => { results := [.lit (.bool true)], args := [d1, d2] }
  | _ => none }
def forksFullRow : OpenClaim := { program := "ytknefoemgifbfaagreat", sum := "c0330b369998172648c3fb054ade68d1ac45897f6fa70534411885024b8c9744", func := "glissade/glissadelaw15.ForksFull", spec := "forksFull", inPlace := ["slices.overlaps[glissade/api.Ext]"], unfollowed := true, recurses := true, apart := false }
def ForksFullSaid : Prop := forksFullRow.holds Tryz.pinned (OpenSpec.ofChange forksFullSpec)

/-- ITS FALSE NEIGHBOUR: 'it returns false'. Refute it at one input. -/
def forksFullWrong : ChangeSpec := { name := "forksFull", fn := fun _ => fun
  | [d1, d2] => { results := [.lit (.bool false)], args := [d1, d2] }
  | _ => none }
def ForksFullWrongFalsely : Prop := forksFullRow.holds Tryz.pinned (OpenSpec.ofChange forksFullWrong)

/- THE SECOND FORM. 'bulk': how many values and letters a reading holds, each counted each time it is reached (what is shared counts as often as it is met; a slice's spare places count too). A statement '..UptoSaid' is the law's where the arguments, and the package variables that the reading takes, are together of bulk at most 1048576: NARROWER than '..Said'. Prove '..Said' where nothing that the law and all that it calls make is longer than what came in: it says more and counts as full. Else prove '..UptoSaid'. A law counts once. -/
mutual
def uptoBulk {H : Type} : DataW H → Nat
  | .lit (.string bytes) => bytes.length + 1
  | .lit _ => 1
  | .nil => 1
  | .ptr d => uptoBulk d + 1
  | .slice elems spare => uptoBulkAll elems + uptoBulkAll spare + 1
  | .agg parts => uptoBulkAll parts + 1
  | .iface _ d => uptoBulk d + 1
  | .map entries => uptoBulkEntries entries + 1
  | .held _ => 1
def uptoBulkAll {H : Type} : List (DataW H) → Nat
  | [] => 0
  | d :: r => uptoBulk d + uptoBulkAll r
def uptoBulkEntries {H : Type} : List (Lit × DataW H) → Nat
  | [] => 0
  | x :: r => uptoBulkEntry x + uptoBulkEntries r
def uptoBulkEntry {H : Type} : Lit × DataW H → Nat
  | (.string bytes, d) => bytes.length + uptoBulk d + 1
  | (_, d) => uptoBulk d + 1
 end
def uptoSmall : (H : Type) → List (DataW H) → Bool := fun _ ds => decide (uptoBulkAll ds ≤ 1048576)
def OpenSpec.upto (s : _root_.Go.ChangeSpec) : _root_.Go.OpenSpec := { _root_.Go.OpenSpec.ofChange s with cond := some uptoSmall }

/-- 'glissadelaw15.ForksNodes', WHERE WHAT IT READS IS OF BULK AT MOST 1048576: true; the input reads as it did. -/
def forksNodesUptoRow : OpenClaim := { program := "ytknefoemgifbfaagreat", sum := "c0330b369998172648c3fb054ade68d1ac45897f6fa70534411885024b8c9744", func := "glissade/glissadelaw15.ForksNodes", spec := "forksNodes", inPlace := ["slices.overlaps[glissade/api.Ext]"], unfollowed := true, recurses := true, apart := false, narrowed := true }
def ForksNodesUptoSaid : Prop := forksNodesUptoRow.holds Tryz.pinned (OpenSpec.upto forksNodesSpec)

/-- 'glissadelaw15.ForksWalk', WHERE WHAT IT READS IS OF BULK AT MOST 1048576: true; the input reads as it did. -/
def forksWalkUptoRow : OpenClaim := { program := "ytknefoemgifbfaagreat", sum := "c0330b369998172648c3fb054ade68d1ac45897f6fa70534411885024b8c9744", func := "glissade/glissadelaw15.ForksWalk", spec := "forksWalk", inPlace := ["slices.overlaps[glissade/api.Ext]"], unfollowed := true, recurses := true, apart := false, narrowed := true }
def ForksWalkUptoSaid : Prop := forksWalkUptoRow.holds Tryz.pinned (OpenSpec.upto forksWalkSpec)

/-- 'glissadelaw15.ForksMoves', WHERE WHAT IT READS IS OF BULK AT MOST 1048576: true; the input reads as it did. -/
def forksMovesUptoRow : OpenClaim := { program := "ytknefoemgifbfaagreat", sum := "c0330b369998172648c3fb054ade68d1ac45897f6fa70534411885024b8c9744", func := "glissade/glissadelaw15.ForksMoves", spec := "forksMoves", inPlace := ["slices.overlaps[glissade/api.Ext]"], unfollowed := true, recurses := true, apart := false, narrowed := true }
def ForksMovesUptoSaid : Prop := forksMovesUptoRow.holds Tryz.pinned (OpenSpec.upto forksMovesSpec)

/-- 'glissadelaw15.ForksSame', WHERE WHAT IT READS IS OF BULK AT MOST 1048576: true; the input reads as it did. -/
def forksSameUptoRow : OpenClaim := { program := "ytknefoemgifbfaagreat", sum := "c0330b369998172648c3fb054ade68d1ac45897f6fa70534411885024b8c9744", func := "glissade/glissadelaw15.ForksSame", spec := "forksSame", inPlace := ["slices.overlaps[glissade/api.Ext]"], unfollowed := true, recurses := true, apart := false, narrowed := true }
def ForksSameUptoSaid : Prop := forksSameUptoRow.holds Tryz.pinned (OpenSpec.upto forksSameSpec)

/-- 'glissadelaw15.ForksGrow', WHERE WHAT IT READS IS OF BULK AT MOST 1048576: true; the input reads as it did. -/
def forksGrowUptoRow : OpenClaim := { program := "ytknefoemgifbfaagreat", sum := "c0330b369998172648c3fb054ade68d1ac45897f6fa70534411885024b8c9744", func := "glissade/glissadelaw15.ForksGrow", spec := "forksGrow", inPlace := ["slices.overlaps[glissade/api.Ext]"], unfollowed := true, recurses := true, apart := false, narrowed := true }
def ForksGrowUptoSaid : Prop := forksGrowUptoRow.holds Tryz.pinned (OpenSpec.upto forksGrowSpec)

/-- 'glissadelaw15.ForksFull', WHERE WHAT IT READS IS OF BULK AT MOST 1048576: true; the input reads as it did. -/
def forksFullUptoRow : OpenClaim := { program := "ytknefoemgifbfaagreat", sum := "c0330b369998172648c3fb054ade68d1ac45897f6fa70534411885024b8c9744", func := "glissade/glissadelaw15.ForksFull", spec := "forksFull", inPlace := ["slices.overlaps[glissade/api.Ext]"], unfollowed := true, recurses := true, apart := false, narrowed := true }
def ForksFullUptoSaid : Prop := forksFullUptoRow.holds Tryz.pinned (OpenSpec.upto forksFullSpec)

end Rows
end Go.Proofs.YtknefoemgifbfaaGreat
