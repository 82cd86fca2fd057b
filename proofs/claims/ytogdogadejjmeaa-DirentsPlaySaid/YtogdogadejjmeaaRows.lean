/-
  No cell of these rows narrows 'for every input' (looked for: loops, veiled, ifaces, maps, wideKeys, modest, calm, conditions, laid).
  DERIVED. THE GIVEN ROWS OF THIS SEAT. 6 by the template 'for every input the law returns true; each argument reads behind the call as it read before'; 0 by the template 'total and deterministic' (their statements: YtogdogadejjmeaaTotals.lean).
  GIVEN WITH THE SEED: the statements are not yours to turn. If you find one false, say at which input.
  Laid BY PROGRAM, IN A SANDBOX (cutbox-rows.mjs): the forced cells as the released guide's own fill.sh prints them over the translation 17addf9d1ca61e78… (all of the seat's roots in one cut). By AI agents, Wed Nov 11 2026. No macro, syntax, notation, axiom, sorry.
-/
import Derived.Test.YtogdogadejjmeaaChecked
import GoSem.Claim
import GoSem.ClaimJoined
import GoSem.ClaimMapViews
import Derived.JoinedTies
import Derived.KernelRfl
namespace Go.Proofs.Ytogdogadejjmeaa
/- THE CELL 'sum', in the pinned program and in every row, IS THE sha256 OF THE DUMP (.gsa) THAT YtogdogadejjmeaaProg.lean LOADS. Nothing in Lean hashes anything: it is a label: what it is worth is what the hold of that sum in a sandbox is worth. -/
noncomputable def Try.pinned : Pinned := { name := "ytogdogadejjmeaa", sum := "17addf9d1ca61e782ff7e2be53166c41d0454bce3783d065801b1a5626807a21", checked := Try.checked }
namespace Rows
def none {H : Type} : Left H := { results := [], args := [] }

/-- 'glissadelaw12.DirentsPack': WHATEVER THE INPUT: true; the input reads as it did. -/
def direntsPackSpec : ChangeSpec := { name := "direntsPack", fn := fun _ => fun
  | [d] => { results := [.lit (.bool true)], args := [d] }
  | _ => none }
def direntsPackRow : OpenClaim := { program := "ytogdogadejjmeaa", sum := "17addf9d1ca61e782ff7e2be53166c41d0454bce3783d065801b1a5626807a21", func := "glissade/glissadelaw12.DirentsPack", spec := "direntsPack", inPlace := ["internal/bytealg.IndexByteString", "internal/bytealg.IndexString", "internal/abi.NoEscape", "internal/bytealg.MakeNoZero"], unfollowed := true, recurses := true, named := ["internal/bytealg.MaxLen"], apart := false }
def DirentsPackSaid : Prop := direntsPackRow.holds Try.pinned (OpenSpec.ofChange direntsPackSpec)

/-- ITS FALSE NEIGHBOUR: 'it returns false'. Refute it at one input. -/
def direntsPackWrong : ChangeSpec := { name := "direntsPack", fn := fun _ => fun
  | [d] => { results := [.lit (.bool false)], args := [d] }
  | _ => none }
def DirentsPackWrongFalsely : Prop := direntsPackRow.holds Try.pinned (OpenSpec.ofChange direntsPackWrong)

/-- 'glissadelaw12.DirentsParse': WHATEVER THE INPUT: true; the input reads as it did. -/
def direntsParseSpec : ChangeSpec := { name := "direntsParse", fn := fun _ => fun
  | [d1, d2] => { results := [.lit (.bool true)], args := [d1, d2] }
  | _ => none }
def direntsParseRow : OpenClaim := { program := "ytogdogadejjmeaa", sum := "17addf9d1ca61e782ff7e2be53166c41d0454bce3783d065801b1a5626807a21", func := "glissade/glissadelaw12.DirentsParse", spec := "direntsParse", inPlace := ["internal/bytealg.IndexByteString", "internal/bytealg.IndexString", "internal/abi.NoEscape", "internal/bytealg.MakeNoZero"], unfollowed := true, recurses := true, named := ["internal/bytealg.MaxLen"], apart := false }
def DirentsParseSaid : Prop := direntsParseRow.holds Try.pinned (OpenSpec.ofChange direntsParseSpec)

/-- ITS FALSE NEIGHBOUR: 'it returns false'. Refute it at one input. -/
def direntsParseWrong : ChangeSpec := { name := "direntsParse", fn := fun _ => fun
  | [d1, d2] => { results := [.lit (.bool false)], args := [d1, d2] }
  | _ => none }
def DirentsParseWrongFalsely : Prop := direntsParseRow.holds Try.pinned (OpenSpec.ofChange direntsParseWrong)

/-- 'glissadelaw12.DirentsChange': WHATEVER THE INPUT: true; the input reads as it did. -/
def direntsChangeSpec : ChangeSpec := { name := "direntsChange", fn := fun _ => fun
  | [d1, d2, d3] => { results := [.lit (.bool true)], args := [d1, d2, d3] }
  | _ => none }
def direntsChangeRow : OpenClaim := { program := "ytogdogadejjmeaa", sum := "17addf9d1ca61e782ff7e2be53166c41d0454bce3783d065801b1a5626807a21", func := "glissade/glissadelaw12.DirentsChange", spec := "direntsChange", inPlace := ["internal/bytealg.IndexByteString", "internal/bytealg.IndexString", "internal/abi.NoEscape", "internal/bytealg.MakeNoZero"], unfollowed := true, recurses := true, named := ["internal/bytealg.MaxLen"], apart := false }
def DirentsChangeSaid : Prop := direntsChangeRow.holds Try.pinned (OpenSpec.ofChange direntsChangeSpec)

/-- ITS FALSE NEIGHBOUR: 'it returns false'. Refute it at one input. -/
def direntsChangeWrong : ChangeSpec := { name := "direntsChange", fn := fun _ => fun
  | [d1, d2, d3] => { results := [.lit (.bool false)], args := [d1, d2, d3] }
  | _ => none }
def DirentsChangeWrongFalsely : Prop := direntsChangeRow.holds Try.pinned (OpenSpec.ofChange direntsChangeWrong)

/-- 'glissadelaw12.DirentsBack': WHATEVER THE INPUT: true; the input reads as it did. -/
def direntsBackSpec : ChangeSpec := { name := "direntsBack", fn := fun _ => fun
  | [d1, d2] => { results := [.lit (.bool true)], args := [d1, d2] }
  | _ => none }
def direntsBackRow : OpenClaim := { program := "ytogdogadejjmeaa", sum := "17addf9d1ca61e782ff7e2be53166c41d0454bce3783d065801b1a5626807a21", func := "glissade/glissadelaw12.DirentsBack", spec := "direntsBack", inPlace := ["internal/bytealg.IndexByteString", "internal/bytealg.IndexString", "internal/abi.NoEscape", "internal/bytealg.MakeNoZero"], unfollowed := true, recurses := true, named := ["internal/bytealg.MaxLen"], apart := false }
def DirentsBackSaid : Prop := direntsBackRow.holds Try.pinned (OpenSpec.ofChange direntsBackSpec)

/-- ITS FALSE NEIGHBOUR: 'it returns false'. Refute it at one input. -/
def direntsBackWrong : ChangeSpec := { name := "direntsBack", fn := fun _ => fun
  | [d1, d2] => { results := [.lit (.bool false)], args := [d1, d2] }
  | _ => none }
def DirentsBackWrongFalsely : Prop := direntsBackRow.holds Try.pinned (OpenSpec.ofChange direntsBackWrong)

/-- 'glissadelaw12.DirentsPlay': WHATEVER THE INPUT: true; the input reads as it did. -/
def direntsPlaySpec : ChangeSpec := { name := "direntsPlay", fn := fun _ => fun
  | [d] => { results := [.lit (.bool true)], args := [d] }
  | _ => none }
def direntsPlayRow : OpenClaim := { program := "ytogdogadejjmeaa", sum := "17addf9d1ca61e782ff7e2be53166c41d0454bce3783d065801b1a5626807a21", func := "glissade/glissadelaw12.DirentsPlay", spec := "direntsPlay", inPlace := ["internal/bytealg.IndexByteString", "internal/bytealg.IndexString", "internal/abi.NoEscape", "internal/bytealg.MakeNoZero"], unfollowed := true, recurses := true, named := ["internal/bytealg.MaxLen"], apart := false }
def DirentsPlaySaid : Prop := direntsPlayRow.holds Try.pinned (OpenSpec.ofChange direntsPlaySpec)

/-- ITS FALSE NEIGHBOUR: 'it returns false'. Refute it at one input. -/
def direntsPlayWrong : ChangeSpec := { name := "direntsPlay", fn := fun _ => fun
  | [d] => { results := [.lit (.bool false)], args := [d] }
  | _ => none }
def DirentsPlayWrongFalsely : Prop := direntsPlayRow.holds Try.pinned (OpenSpec.ofChange direntsPlayWrong)

/-- 'glissadelaw12.DirentsUndo': WHATEVER THE INPUT: true; the input reads as it did. -/
def direntsUndoSpec : ChangeSpec := { name := "direntsUndo", fn := fun _ => fun
  | [d1, d2] => { results := [.lit (.bool true)], args := [d1, d2] }
  | _ => none }
def direntsUndoRow : OpenClaim := { program := "ytogdogadejjmeaa", sum := "17addf9d1ca61e782ff7e2be53166c41d0454bce3783d065801b1a5626807a21", func := "glissade/glissadelaw12.DirentsUndo", spec := "direntsUndo", inPlace := ["internal/bytealg.IndexByteString", "internal/bytealg.IndexString", "internal/abi.NoEscape", "internal/bytealg.MakeNoZero"], unfollowed := true, recurses := true, named := ["internal/bytealg.MaxLen"], apart := false }
def DirentsUndoSaid : Prop := direntsUndoRow.holds Try.pinned (OpenSpec.ofChange direntsUndoSpec)

/-- ITS FALSE NEIGHBOUR: 'it returns false'. Refute it at one input. -/
def direntsUndoWrong : ChangeSpec := { name := "direntsUndo", fn := fun _ => fun
  | [d1, d2] => { results := [.lit (.bool false)], args := [d1, d2] }
  | _ => none }
def DirentsUndoWrongFalsely : Prop := direntsUndoRow.holds Try.pinned (OpenSpec.ofChange direntsUndoWrong)

/- THE SECOND FORM. 'bulk': how many values and letters a reading holds, each counted each time it is reached (what is shared counts as often as it is met; a slice's spare places count too). A statement '..UptoSaid' is the law's where the arguments, and the package variables that the reading takes, are together of bulk at most 1048576: NARROWER than '..Said'. Prove '..Said' where nothing that the law and all that it calls make is longer than what came in: it says more and counts as full. Else prove '..UptoSaid'. A law counts once. -/
mutual
def uptoBulk {H : Type} : DataW H → Nat
  | .lit (.string bytes) => bytes.length + 1
  | .lit _ => 1
  | .nil => 1
  | .ptr d => uptoBulk d + 1
  | .slice elems spare => uptoBulkAll elems + uptoBulkAll spare + 1
  | .agg parts => uptoBulkAll parts + 1
  | .iface _ d => uptoBulk d + 1
  | .map entries => uptoBulkEntries entries + 1
  | .held _ => 1
def uptoBulkAll {H : Type} : List (DataW H) → Nat
  | [] => 0
  | d :: r => uptoBulk d + uptoBulkAll r
def uptoBulkEntries {H : Type} : List (Lit × DataW H) → Nat
  | [] => 0
  | x :: r => uptoBulkEntry x + uptoBulkEntries r
def uptoBulkEntry {H : Type} : Lit × DataW H → Nat
  | (.string bytes, d) => bytes.length + uptoBulk d + 1
  | (_, d) => uptoBulk d + 1
 end
def uptoSmall : (H : Type) → List (DataW H) → Bool := fun _ ds => decide (uptoBulkAll ds ≤ 1048576)
def OpenSpec.upto (s : _root_.Go.ChangeSpec) : _root_.Go.OpenSpec := { _root_.Go.OpenSpec.ofChange s with cond := some uptoSmall }

/-- 'glissadelaw12.DirentsPack', WHERE WHAT IT READS IS OF BULK AT MOST 1048576: true; the input reads as it did. -/
def direntsPackUptoRow : OpenClaim := { program := "ytogdogadejjmeaa", sum := "17addf9d1ca61e782ff7e2be53166c41d0454bce3783d065801b1a5626807a21", func := "glissade/glissadelaw12.DirentsPack", spec := "direntsPack", inPlace := ["internal/bytealg.IndexByteString", "internal/bytealg.IndexString", "internal/abi.NoEscape", "internal/bytealg.MakeNoZero"], unfollowed := true, recurses := true, named := ["internal/bytealg.MaxLen"], apart := false, narrowed := true }
def DirentsPackUptoSaid : Prop := direntsPackUptoRow.holds Try.pinned (OpenSpec.upto direntsPackSpec)

/-- 'glissadelaw12.DirentsParse', WHERE WHAT IT READS IS OF BULK AT MOST 1048576: true; the input reads as it did. -/
def direntsParseUptoRow : OpenClaim := { program := "ytogdogadejjmeaa", sum := "17addf9d1ca61e782ff7e2be53166c41d0454bce3783d065801b1a5626807a21", func := "glissade/glissadelaw12.DirentsParse", spec := "direntsParse", inPlace := ["internal/bytealg.IndexByteString", "internal/bytealg.IndexString", "internal/abi.NoEscape", "internal/bytealg.MakeNoZero"], unfollowed := true, recurses := true, named := ["internal/bytealg.MaxLen"], apart := false, narrowed := true }
def DirentsParseUptoSaid : Prop := direntsParseUptoRow.holds Try.pinned (OpenSpec.upto direntsParseSpec)

/-- 'glissadelaw12.DirentsChange', WHERE WHAT IT READS IS OF BULK AT MOST 1048576: true; the input reads as it did. -/
def direntsChangeUptoRow : OpenClaim := { program := "ytogdogadejjmeaa", sum := "17addf9d1ca61e782ff7e2be53166c41d0454bce3783d065801b1a5626807a21", func := "glissade/glissadelaw12.DirentsChange", spec := "direntsChange", inPlace := ["internal/bytealg.IndexByteString", "internal/bytealg.IndexString", "internal/abi.NoEscape", "internal/bytealg.MakeNoZero"], unfollowed := true, recurses := true, named := ["internal/bytealg.MaxLen"], apart := false, narrowed := true }
def DirentsChangeUptoSaid : Prop := direntsChangeUptoRow.holds Try.pinned (OpenSpec.upto direntsChangeSpec)

/-- 'glissadelaw12.DirentsBack', WHERE WHAT IT READS IS OF BULK AT MOST 1048576: true; the input reads as it did. -/
def direntsBackUptoRow : OpenClaim := { program := "ytogdogadejjmeaa", sum := "17addf9d1ca61e782ff7e2be53166c41d0454bce3783d065801b1a5626807a21", func := "glissade/glissadelaw12.DirentsBack", spec := "direntsBack", inPlace := ["internal/bytealg.IndexByteString", "internal/bytealg.IndexString", "internal/abi.NoEscape", "internal/bytealg.MakeNoZero"], unfollowed := true, recurses := true, named := ["internal/bytealg.MaxLen"], apart := false, narrowed := true }
def DirentsBackUptoSaid : Prop := direntsBackUptoRow.holds Try.pinned (OpenSpec.upto direntsBackSpec)

/-- 'glissadelaw12.DirentsPlay', WHERE WHAT IT READS IS OF BULK AT MOST 1048576: true; the input reads as it did. -/
def direntsPlayUptoRow : OpenClaim := { program := "ytogdogadejjmeaa", sum := "17addf9d1ca61e782ff7e2be53166c41d0454bce3783d065801b1a5626807a21", func := "glissade/glissadelaw12.DirentsPlay", spec := "direntsPlay", inPlace := ["internal/bytealg.IndexByteString", "internal/bytealg.IndexString", "internal/abi.NoEscape", "internal/bytealg.MakeNoZero"], unfollowed := true, recurses := true, named := ["internal/bytealg.MaxLen"], apart := false, narrowed := true }
def DirentsPlayUptoSaid : Prop := direntsPlayUptoRow.holds Try.pinned (OpenSpec.upto direntsPlaySpec)

/-- 'glissadelaw12.DirentsUndo', WHERE WHAT IT READS IS OF BULK AT MOST 1048576: true; the input reads as it did. -/
def direntsUndoUptoRow : OpenClaim := { program := "ytogdogadejjmeaa", sum := "17addf9d1ca61e782ff7e2be53166c41d0454bce3783d065801b1a5626807a21", func := "glissade/glissadelaw12.DirentsUndo", spec := "direntsUndo", inPlace := ["internal/bytealg.IndexByteString", "internal/bytealg.IndexString", "internal/abi.NoEscape", "internal/bytealg.MakeNoZero"], unfollowed := true, recurses := true, named := ["internal/bytealg.MaxLen"], apart := false, narrowed := true }
def DirentsUndoUptoSaid : Prop := direntsUndoUptoRow.holds Try.pinned (OpenSpec.upto direntsUndoSpec)

end Rows
end Go.Proofs.Ytogdogadejjmeaa
