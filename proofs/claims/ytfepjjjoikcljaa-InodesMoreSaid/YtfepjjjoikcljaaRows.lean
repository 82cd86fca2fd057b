/-
  No cell of these rows narrows 'for every input' (looked for: loops, veiled, ifaces, maps, wideKeys, modest, calm, conditions, laid).
  DERIVED. THE GIVEN ROWS OF THIS SEAT. 6 by the template 'for every input the law returns true; each argument reads behind the call as it read before'; 0 by the template 'total and deterministic' (their statements: YtfepjjjoikcljaaTotals.lean).
  GIVEN WITH THE SEED: the statements are not yours to turn. If you find one false, say at which input.
  Laid BY PROGRAM, IN A SANDBOX (cutbox-rows.mjs): the forced cells as the released guide's own fill.sh prints them over the translation 4674477aeea9af94… (all of the seat's roots in one cut). By AI agents, Wed Nov 11 2026. No macro, syntax, notation, axiom, sorry.
-/
import Derived.Test.YtfepjjjoikcljaaChecked
import GoSem.Claim
import GoSem.ClaimJoined
import GoSem.ClaimMapViews
import Derived.JoinedTies
import Derived.KernelRfl
namespace Go.Proofs.Ytfepjjjoikcljaa
/- THE CELL 'sum', in the pinned program and in every row, IS THE sha256 OF THE DUMP (.gsa) THAT YtfepjjjoikcljaaProg.lean LOADS. Nothing in Lean hashes anything: it is a label: what it is worth is what the hold of that sum in a sandbox is worth. -/
noncomputable def Try.pinned : Pinned := { name := "ytfepjjjoikcljaa", sum := "4674477aeea9af947f4f0b7c10d9742704c55bfea329935d183faff0951394aa", checked := Try.checked }
namespace Rows
def none {H : Type} : Left H := { results := [], args := [] }

/-- 'glissadelaw11.InodesEncode': WHATEVER THE INPUT: true; the input reads as it did. -/
def inodesEncodeSpec : ChangeSpec := { name := "inodesEncode", fn := fun _ => fun
  | [d] => { results := [.lit (.bool true)], args := [d] }
  | _ => none }
def inodesEncodeRow : OpenClaim := { program := "ytfepjjjoikcljaa", sum := "4674477aeea9af947f4f0b7c10d9742704c55bfea329935d183faff0951394aa", func := "glissade/glissadelaw11.InodesEncode", spec := "inodesEncode", inPlace := ["internal/abi.NoEscape", "internal/bytealg.MakeNoZero"], apart := false }
def InodesEncodeSaid : Prop := inodesEncodeRow.holds Try.pinned (OpenSpec.ofChange inodesEncodeSpec)

/-- ITS FALSE NEIGHBOUR: 'it returns false'. Refute it at one input. -/
def inodesEncodeWrong : ChangeSpec := { name := "inodesEncode", fn := fun _ => fun
  | [d] => { results := [.lit (.bool false)], args := [d] }
  | _ => none }
def InodesEncodeWrongFalsely : Prop := inodesEncodeRow.holds Try.pinned (OpenSpec.ofChange inodesEncodeWrong)

/-- 'glissadelaw11.InodesDecode': WHATEVER THE INPUT: true; the input reads as it did. -/
def inodesDecodeSpec : ChangeSpec := { name := "inodesDecode", fn := fun _ => fun
  | [d] => { results := [.lit (.bool true)], args := [d] }
  | _ => none }
def inodesDecodeRow : OpenClaim := { program := "ytfepjjjoikcljaa", sum := "4674477aeea9af947f4f0b7c10d9742704c55bfea329935d183faff0951394aa", func := "glissade/glissadelaw11.InodesDecode", spec := "inodesDecode", inPlace := ["internal/abi.NoEscape", "internal/bytealg.MakeNoZero"], apart := false }
def InodesDecodeSaid : Prop := inodesDecodeRow.holds Try.pinned (OpenSpec.ofChange inodesDecodeSpec)

/-- ITS FALSE NEIGHBOUR: 'it returns false'. Refute it at one input. -/
def inodesDecodeWrong : ChangeSpec := { name := "inodesDecode", fn := fun _ => fun
  | [d] => { results := [.lit (.bool false)], args := [d] }
  | _ => none }
def InodesDecodeWrongFalsely : Prop := inodesDecodeRow.holds Try.pinned (OpenSpec.ofChange inodesDecodeWrong)

/-- 'glissadelaw11.InodesBack': WHATEVER THE INPUT: true; the input reads as it did. -/
def inodesBackSpec : ChangeSpec := { name := "inodesBack", fn := fun _ => fun
  | [d1, d2] => { results := [.lit (.bool true)], args := [d1, d2] }
  | _ => none }
def inodesBackRow : OpenClaim := { program := "ytfepjjjoikcljaa", sum := "4674477aeea9af947f4f0b7c10d9742704c55bfea329935d183faff0951394aa", func := "glissade/glissadelaw11.InodesBack", spec := "inodesBack", inPlace := ["internal/abi.NoEscape", "internal/bytealg.MakeNoZero"], apart := false }
def InodesBackSaid : Prop := inodesBackRow.holds Try.pinned (OpenSpec.ofChange inodesBackSpec)

/-- ITS FALSE NEIGHBOUR: 'it returns false'. Refute it at one input. -/
def inodesBackWrong : ChangeSpec := { name := "inodesBack", fn := fun _ => fun
  | [d1, d2] => { results := [.lit (.bool false)], args := [d1, d2] }
  | _ => none }
def InodesBackWrongFalsely : Prop := inodesBackRow.holds Try.pinned (OpenSpec.ofChange inodesBackWrong)

/-- 'glissadelaw11.InodesLess': WHATEVER THE INPUT: true; the input reads as it did. -/
def inodesLessSpec : ChangeSpec := { name := "inodesLess", fn := fun _ => fun
  | [d1, d2, d3] => { results := [.lit (.bool true)], args := [d1, d2, d3] }
  | _ => none }
def inodesLessRow : OpenClaim := { program := "ytfepjjjoikcljaa", sum := "4674477aeea9af947f4f0b7c10d9742704c55bfea329935d183faff0951394aa", func := "glissade/glissadelaw11.InodesLess", spec := "inodesLess", inPlace := ["internal/abi.NoEscape", "internal/bytealg.MakeNoZero"], apart := false }
def InodesLessSaid : Prop := inodesLessRow.holds Try.pinned (OpenSpec.ofChange inodesLessSpec)

/-- ITS FALSE NEIGHBOUR: 'it returns false'. Refute it at one input. -/
def inodesLessWrong : ChangeSpec := { name := "inodesLess", fn := fun _ => fun
  | [d1, d2, d3] => { results := [.lit (.bool false)], args := [d1, d2, d3] }
  | _ => none }
def InodesLessWrongFalsely : Prop := inodesLessRow.holds Try.pinned (OpenSpec.ofChange inodesLessWrong)

/-- 'glissadelaw11.InodesMore': WHATEVER THE INPUT: true; the input reads as it did. -/
def inodesMoreSpec : ChangeSpec := { name := "inodesMore", fn := fun _ => fun
  | [d1, d2] => { results := [.lit (.bool true)], args := [d1, d2] }
  | _ => none }
def inodesMoreRow : OpenClaim := { program := "ytfepjjjoikcljaa", sum := "4674477aeea9af947f4f0b7c10d9742704c55bfea329935d183faff0951394aa", func := "glissade/glissadelaw11.InodesMore", spec := "inodesMore", inPlace := ["internal/abi.NoEscape", "internal/bytealg.MakeNoZero"], apart := false }
def InodesMoreSaid : Prop := inodesMoreRow.holds Try.pinned (OpenSpec.ofChange inodesMoreSpec)

/-- ITS FALSE NEIGHBOUR: 'it returns false'. Refute it at one input. -/
def inodesMoreWrong : ChangeSpec := { name := "inodesMore", fn := fun _ => fun
  | [d1, d2] => { results := [.lit (.bool false)], args := [d1, d2] }
  | _ => none }
def InodesMoreWrongFalsely : Prop := inodesMoreRow.holds Try.pinned (OpenSpec.ofChange inodesMoreWrong)

/-- 'glissadelaw11.InodesFree': WHATEVER THE INPUT: true; the input reads as it did. -/
def inodesFreeSpec : ChangeSpec := { name := "inodesFree", fn := fun _ => fun
  | [d] => { results := [.lit (.bool true)], args := [d] }
  | _ => none }
def inodesFreeRow : OpenClaim := { program := "ytfepjjjoikcljaa", sum := "4674477aeea9af947f4f0b7c10d9742704c55bfea329935d183faff0951394aa", func := "glissade/glissadelaw11.InodesFree", spec := "inodesFree", inPlace := ["internal/abi.NoEscape", "internal/bytealg.MakeNoZero"], apart := false }
def InodesFreeSaid : Prop := inodesFreeRow.holds Try.pinned (OpenSpec.ofChange inodesFreeSpec)

/-- ITS FALSE NEIGHBOUR: 'it returns false'. Refute it at one input. -/
def inodesFreeWrong : ChangeSpec := { name := "inodesFree", fn := fun _ => fun
  | [d] => { results := [.lit (.bool false)], args := [d] }
  | _ => none }
def InodesFreeWrongFalsely : Prop := inodesFreeRow.holds Try.pinned (OpenSpec.ofChange inodesFreeWrong)

/- THE SECOND FORM. 'bulk': how many values and letters a reading holds, each counted each time it is reached (what is shared counts as often as it is met; a slice's spare places count too). A statement '..UptoSaid' is the law's where the arguments, and the package variables that the reading takes, are together of bulk at most 1048576: NARROWER than '..Said'. Prove '..Said' where nothing that the law and all that it calls make is longer than what came in: it says more and counts as full. Else prove '..UptoSaid'. A law counts once. -/
mutual
def uptoBulk {H : Type} : DataW H → Nat
  | .lit (.string bytes) => bytes.length + 1
  | .lit _ => 1
  | .nil => 1
  | .ptr d => uptoBulk d + 1
  | .slice elems spare => uptoBulkAll elems + uptoBulkAll spare + 1
  | .agg parts => uptoBulkAll parts + 1
  | .iface _ d => uptoBulk d + 1
  | .map entries => uptoBulkEntries entries + 1
  | .held _ => 1
def uptoBulkAll {H : Type} : List (DataW H) → Nat
  | [] => 0
  | d :: r => uptoBulk d + uptoBulkAll r
def uptoBulkEntries {H : Type} : List (Lit × DataW H) → Nat
  | [] => 0
  | x :: r => uptoBulkEntry x + uptoBulkEntries r
def uptoBulkEntry {H : Type} : Lit × DataW H → Nat
  | (.string bytes, d) => bytes.length + uptoBulk d + 1
  | (_, d) => uptoBulk d + 1
 end
def uptoSmall : (H : Type) → List (DataW H) → Bool := fun _ ds => decide (uptoBulkAll ds ≤ 1048576)
def OpenSpec.upto (s : _root_.Go.ChangeSpec) : _root_.Go.OpenSpec := { _root_.Go.OpenSpec.ofChange s with cond := some uptoSmall }

/-- 'glissadelaw11.InodesEncode', WHERE WHAT IT READS IS OF BULK AT MOST 1048576: true; the input reads as it did. -/
def inodesEncodeUptoRow : OpenClaim := { program := "ytfepjjjoikcljaa", sum := "4674477aeea9af947f4f0b7c10d9742704c55bfea329935d183faff0951394aa", func := "glissade/glissadelaw11.InodesEncode", spec := "inodesEncode", inPlace := ["internal/abi.NoEscape", "internal/bytealg.MakeNoZero"], apart := false, narrowed := true }
def InodesEncodeUptoSaid : Prop := inodesEncodeUptoRow.holds Try.pinned (OpenSpec.upto inodesEncodeSpec)

/-- 'glissadelaw11.InodesDecode', WHERE WHAT IT READS IS OF BULK AT MOST 1048576: true; the input reads as it did. -/
def inodesDecodeUptoRow : OpenClaim := { program := "ytfepjjjoikcljaa", sum := "4674477aeea9af947f4f0b7c10d9742704c55bfea329935d183faff0951394aa", func := "glissade/glissadelaw11.InodesDecode", spec := "inodesDecode", inPlace := ["internal/abi.NoEscape", "internal/bytealg.MakeNoZero"], apart := false, narrowed := true }
def InodesDecodeUptoSaid : Prop := inodesDecodeUptoRow.holds Try.pinned (OpenSpec.upto inodesDecodeSpec)

/-- 'glissadelaw11.InodesBack', WHERE WHAT IT READS IS OF BULK AT MOST 1048576: true; the input reads as it did. -/
def inodesBackUptoRow : OpenClaim := { program := "ytfepjjjoikcljaa", sum := "4674477aeea9af947f4f0b7c10d9742704c55bfea329935d183faff0951394aa", func := "glissade/glissadelaw11.InodesBack", spec := "inodesBack", inPlace := ["internal/abi.NoEscape", "internal/bytealg.MakeNoZero"], apart := false, narrowed := true }
def InodesBackUptoSaid : Prop := inodesBackUptoRow.holds Try.pinned (OpenSpec.upto inodesBackSpec)

/-- 'glissadelaw11.InodesLess', WHERE WHAT IT READS IS OF BULK AT MOST 1048576: true; the input reads as it did. -/
def inodesLessUptoRow : OpenClaim := { program := "ytfepjjjoikcljaa", sum := "4674477aeea9af947f4f0b7c10d9742704c55bfea329935d183faff0951394aa", func := "glissade/glissadelaw11.InodesLess", spec := "inodesLess", inPlace := ["internal/abi.NoEscape", "internal/bytealg.MakeNoZero"], apart := false, narrowed := true }
def InodesLessUptoSaid : Prop := inodesLessUptoRow.holds Try.pinned (OpenSpec.upto inodesLessSpec)

/-- 'glissadelaw11.InodesMore', WHERE WHAT IT READS IS OF BULK AT MOST 1048576: true; the input reads as it did. -/
def inodesMoreUptoRow : OpenClaim := { program := "ytfepjjjoikcljaa", sum := "4674477aeea9af947f4f0b7c10d9742704c55bfea329935d183faff0951394aa", func := "glissade/glissadelaw11.InodesMore", spec := "inodesMore", inPlace := ["internal/abi.NoEscape", "internal/bytealg.MakeNoZero"], apart := false, narrowed := true }
def InodesMoreUptoSaid : Prop := inodesMoreUptoRow.holds Try.pinned (OpenSpec.upto inodesMoreSpec)

/-- 'glissadelaw11.InodesFree', WHERE WHAT IT READS IS OF BULK AT MOST 1048576: true; the input reads as it did. -/
def inodesFreeUptoRow : OpenClaim := { program := "ytfepjjjoikcljaa", sum := "4674477aeea9af947f4f0b7c10d9742704c55bfea329935d183faff0951394aa", func := "glissade/glissadelaw11.InodesFree", spec := "inodesFree", inPlace := ["internal/abi.NoEscape", "internal/bytealg.MakeNoZero"], apart := false, narrowed := true }
def InodesFreeUptoSaid : Prop := inodesFreeUptoRow.holds Try.pinned (OpenSpec.upto inodesFreeSpec)

end Rows
end Go.Proofs.Ytfepjjjoikcljaa
