/-
  No cell of these rows narrows 'for every input' (looked for: loops, veiled, ifaces, maps, wideKeys, modest, calm, conditions, laid).
  DERIVED. THE GIVEN ROWS OF THIS SEAT. 7 by the template 'for every input the law returns true; each argument reads behind the call as it read before'; 0 by the template 'total and deterministic' (their statements: YtonfloehobcfbaaTotals.lean).
  GIVEN WITH THE SEED: the statements are not yours to turn. If you find one false, say at which input.
  Laid BY PROGRAM, IN A SANDBOX (cutbox-rows.mjs): the forced cells as the released guide's own fill.sh prints them over the translation 7ae197ae9f3bf04e… (all of the seat's roots in one cut). By AI agents, Wed Nov 11 2026. No macro, syntax, notation, axiom, sorry.
-/
import Derived.Test.YtonfloehobcfbaaChecked
import GoSem.Claim
import GoSem.ClaimJoined
import GoSem.ClaimMapViews
import Derived.JoinedTies
import Derived.KernelRfl
namespace Go.Proofs.Ytonfloehobcfbaa
/- THE CELL 'sum', in the pinned program and in every row, IS THE sha256 OF THE DUMP (.gsa) THAT YtonfloehobcfbaaProg.lean LOADS. Nothing in Lean hashes anything: it is a label: what it is worth is what the hold of that sum in a sandbox is worth. -/
noncomputable def Try.pinned : Pinned := { name := "ytonfloehobcfbaa", sum := "7ae197ae9f3bf04e91ddabb4a6a7f58f815ce1a20f8a1f8869b32cfaac906080", checked := Try.checked }
namespace Rows
def none {H : Type} : Left H := { results := [], args := [] }

/-- 'glissadelaw10.SupersEncode': WHATEVER THE INPUT: true; the input reads as it did. -/
def supersEncodeSpec : ChangeSpec := { name := "supersEncode", fn := fun _ => fun
  | [d] => { results := [.lit (.bool true)], args := [d] }
  | _ => none }
def supersEncodeRow : OpenClaim := { program := "ytonfloehobcfbaa", sum := "7ae197ae9f3bf04e91ddabb4a6a7f58f815ce1a20f8a1f8869b32cfaac906080", func := "glissade/glissadelaw10.SupersEncode", spec := "supersEncode", inPlace := ["internal/abi.NoEscape", "internal/bytealg.MakeNoZero"], apart := false }
def SupersEncodeSaid : Prop := supersEncodeRow.holds Try.pinned (OpenSpec.ofChange supersEncodeSpec)

/-- ITS FALSE NEIGHBOUR: 'it returns false'. Refute it at one input. -/
def supersEncodeWrong : ChangeSpec := { name := "supersEncode", fn := fun _ => fun
  | [d] => { results := [.lit (.bool false)], args := [d] }
  | _ => none }
def SupersEncodeWrongFalsely : Prop := supersEncodeRow.holds Try.pinned (OpenSpec.ofChange supersEncodeWrong)

/-- 'glissadelaw10.SupersDecode': WHATEVER THE INPUT: true; the input reads as it did. -/
def supersDecodeSpec : ChangeSpec := { name := "supersDecode", fn := fun _ => fun
  | [d] => { results := [.lit (.bool true)], args := [d] }
  | _ => none }
def supersDecodeRow : OpenClaim := { program := "ytonfloehobcfbaa", sum := "7ae197ae9f3bf04e91ddabb4a6a7f58f815ce1a20f8a1f8869b32cfaac906080", func := "glissade/glissadelaw10.SupersDecode", spec := "supersDecode", inPlace := ["internal/abi.NoEscape", "internal/bytealg.MakeNoZero"], apart := false }
def SupersDecodeSaid : Prop := supersDecodeRow.holds Try.pinned (OpenSpec.ofChange supersDecodeSpec)

/-- ITS FALSE NEIGHBOUR: 'it returns false'. Refute it at one input. -/
def supersDecodeWrong : ChangeSpec := { name := "supersDecode", fn := fun _ => fun
  | [d] => { results := [.lit (.bool false)], args := [d] }
  | _ => none }
def SupersDecodeWrongFalsely : Prop := supersDecodeRow.holds Try.pinned (OpenSpec.ofChange supersDecodeWrong)

/-- 'glissadelaw10.SupersBack': WHATEVER THE INPUT: true; the input reads as it did. -/
def supersBackSpec : ChangeSpec := { name := "supersBack", fn := fun _ => fun
  | [d1, d2] => { results := [.lit (.bool true)], args := [d1, d2] }
  | _ => none }
def supersBackRow : OpenClaim := { program := "ytonfloehobcfbaa", sum := "7ae197ae9f3bf04e91ddabb4a6a7f58f815ce1a20f8a1f8869b32cfaac906080", func := "glissade/glissadelaw10.SupersBack", spec := "supersBack", inPlace := ["internal/abi.NoEscape", "internal/bytealg.MakeNoZero"], apart := false }
def SupersBackSaid : Prop := supersBackRow.holds Try.pinned (OpenSpec.ofChange supersBackSpec)

/-- ITS FALSE NEIGHBOUR: 'it returns false'. Refute it at one input. -/
def supersBackWrong : ChangeSpec := { name := "supersBack", fn := fun _ => fun
  | [d1, d2] => { results := [.lit (.bool false)], args := [d1, d2] }
  | _ => none }
def SupersBackWrongFalsely : Prop := supersBackRow.holds Try.pinned (OpenSpec.ofChange supersBackWrong)

/-- 'glissadelaw10.SupersFields': WHATEVER THE INPUT: true; the input reads as it did. -/
def supersFieldsSpec : ChangeSpec := { name := "supersFields", fn := fun _ => fun
  | [d1, d2] => { results := [.lit (.bool true)], args := [d1, d2] }
  | _ => none }
def supersFieldsRow : OpenClaim := { program := "ytonfloehobcfbaa", sum := "7ae197ae9f3bf04e91ddabb4a6a7f58f815ce1a20f8a1f8869b32cfaac906080", func := "glissade/glissadelaw10.SupersFields", spec := "supersFields", inPlace := ["internal/abi.NoEscape", "internal/bytealg.MakeNoZero"], apart := false }
def SupersFieldsSaid : Prop := supersFieldsRow.holds Try.pinned (OpenSpec.ofChange supersFieldsSpec)

/-- ITS FALSE NEIGHBOUR: 'it returns false'. Refute it at one input. -/
def supersFieldsWrong : ChangeSpec := { name := "supersFields", fn := fun _ => fun
  | [d1, d2] => { results := [.lit (.bool false)], args := [d1, d2] }
  | _ => none }
def SupersFieldsWrongFalsely : Prop := supersFieldsRow.holds Try.pinned (OpenSpec.ofChange supersFieldsWrong)

/-- 'glissadelaw10.SupersMay': WHATEVER THE INPUT: true; the input reads as it did. -/
def supersMaySpec : ChangeSpec := { name := "supersMay", fn := fun _ => fun
  | [d1, d2] => { results := [.lit (.bool true)], args := [d1, d2] }
  | _ => none }
def supersMayRow : OpenClaim := { program := "ytonfloehobcfbaa", sum := "7ae197ae9f3bf04e91ddabb4a6a7f58f815ce1a20f8a1f8869b32cfaac906080", func := "glissade/glissadelaw10.SupersMay", spec := "supersMay", inPlace := ["internal/abi.NoEscape", "internal/bytealg.MakeNoZero"], apart := false }
def SupersMaySaid : Prop := supersMayRow.holds Try.pinned (OpenSpec.ofChange supersMaySpec)

/-- ITS FALSE NEIGHBOUR: 'it returns false'. Refute it at one input. -/
def supersMayWrong : ChangeSpec := { name := "supersMay", fn := fun _ => fun
  | [d1, d2] => { results := [.lit (.bool false)], args := [d1, d2] }
  | _ => none }
def SupersMayWrongFalsely : Prop := supersMayRow.holds Try.pinned (OpenSpec.ofChange supersMayWrong)

/-- 'glissadelaw10.SupersSlide': WHATEVER THE INPUT: true; the input reads as it did. -/
def supersSlideSpec : ChangeSpec := { name := "supersSlide", fn := fun _ => fun
  | [d1, d2] => { results := [.lit (.bool true)], args := [d1, d2] }
  | _ => none }
def supersSlideRow : OpenClaim := { program := "ytonfloehobcfbaa", sum := "7ae197ae9f3bf04e91ddabb4a6a7f58f815ce1a20f8a1f8869b32cfaac906080", func := "glissade/glissadelaw10.SupersSlide", spec := "supersSlide", inPlace := ["internal/abi.NoEscape", "internal/bytealg.MakeNoZero"], apart := false }
def SupersSlideSaid : Prop := supersSlideRow.holds Try.pinned (OpenSpec.ofChange supersSlideSpec)

/-- ITS FALSE NEIGHBOUR: 'it returns false'. Refute it at one input. -/
def supersSlideWrong : ChangeSpec := { name := "supersSlide", fn := fun _ => fun
  | [d1, d2] => { results := [.lit (.bool false)], args := [d1, d2] }
  | _ => none }
def SupersSlideWrongFalsely : Prop := supersSlideRow.holds Try.pinned (OpenSpec.ofChange supersSlideWrong)

/-- 'glissadelaw10.SupersSpoilt': WHATEVER THE INPUT: true; the input reads as it did. -/
def supersSpoiltSpec : ChangeSpec := { name := "supersSpoilt", fn := fun _ => fun
  | [d1, d2, d3] => { results := [.lit (.bool true)], args := [d1, d2, d3] }
  | _ => none }
def supersSpoiltRow : OpenClaim := { program := "ytonfloehobcfbaa", sum := "7ae197ae9f3bf04e91ddabb4a6a7f58f815ce1a20f8a1f8869b32cfaac906080", func := "glissade/glissadelaw10.SupersSpoilt", spec := "supersSpoilt", inPlace := ["internal/abi.NoEscape", "internal/bytealg.MakeNoZero"], apart := false }
def SupersSpoiltSaid : Prop := supersSpoiltRow.holds Try.pinned (OpenSpec.ofChange supersSpoiltSpec)

/-- ITS FALSE NEIGHBOUR: 'it returns false'. Refute it at one input. -/
def supersSpoiltWrong : ChangeSpec := { name := "supersSpoilt", fn := fun _ => fun
  | [d1, d2, d3] => { results := [.lit (.bool false)], args := [d1, d2, d3] }
  | _ => none }
def SupersSpoiltWrongFalsely : Prop := supersSpoiltRow.holds Try.pinned (OpenSpec.ofChange supersSpoiltWrong)

/- THE SECOND FORM. 'bulk': how many values and letters a reading holds, each counted each time it is reached (what is shared counts as often as it is met; a slice's spare places count too). A statement '..UptoSaid' is the law's where the arguments, and the package variables that the reading takes, are together of bulk at most 1048576: NARROWER than '..Said'. Prove '..Said' where nothing that the law and all that it calls make is longer than what came in: it says more and counts as full. Else prove '..UptoSaid'. A law counts once. -/
mutual
def uptoBulk {H : Type} : DataW H → Nat
  | .lit (.string bytes) => bytes.length + 1
  | .lit _ => 1
  | .nil => 1
  | .ptr d => uptoBulk d + 1
  | .slice elems spare => uptoBulkAll elems + uptoBulkAll spare + 1
  | .agg parts => uptoBulkAll parts + 1
  | .iface _ d => uptoBulk d + 1
  | .map entries => uptoBulkEntries entries + 1
  | .held _ => 1
def uptoBulkAll {H : Type} : List (DataW H) → Nat
  | [] => 0
  | d :: r => uptoBulk d + uptoBulkAll r
def uptoBulkEntries {H : Type} : List (Lit × DataW H) → Nat
  | [] => 0
  | x :: r => uptoBulkEntry x + uptoBulkEntries r
def uptoBulkEntry {H : Type} : Lit × DataW H → Nat
  | (.string bytes, d) => bytes.length + uptoBulk d + 1
  | (_, d) => uptoBulk d + 1
 end
def uptoSmall : (H : Type) → List (DataW H) → Bool := fun _ ds => decide (uptoBulkAll ds ≤ 1048576)
def OpenSpec.upto (s : _root_.Go.ChangeSpec) : _root_.Go.OpenSpec := { _root_.Go.OpenSpec.ofChange s with cond := some uptoSmall }

/-- 'glissadelaw10.SupersEncode', WHERE WHAT IT READS IS OF BULK AT MOST 1048576: true; the input reads as it did. -/
def supersEncodeUptoRow : OpenClaim := { program := "ytonfloehobcfbaa", sum := "7ae197ae9f3bf04e91ddabb4a6a7f58f815ce1a20f8a1f8869b32cfaac906080", func := "glissade/glissadelaw10.SupersEncode", spec := "supersEncode", inPlace := ["internal/abi.NoEscape", "internal/bytealg.MakeNoZero"], apart := false, narrowed := true }
def SupersEncodeUptoSaid : Prop := supersEncodeUptoRow.holds Try.pinned (OpenSpec.upto supersEncodeSpec)

/-- 'glissadelaw10.SupersDecode', WHERE WHAT IT READS IS OF BULK AT MOST 1048576: true; the input reads as it did. -/
def supersDecodeUptoRow : OpenClaim := { program := "ytonfloehobcfbaa", sum := "7ae197ae9f3bf04e91ddabb4a6a7f58f815ce1a20f8a1f8869b32cfaac906080", func := "glissade/glissadelaw10.SupersDecode", spec := "supersDecode", inPlace := ["internal/abi.NoEscape", "internal/bytealg.MakeNoZero"], apart := false, narrowed := true }
def SupersDecodeUptoSaid : Prop := supersDecodeUptoRow.holds Try.pinned (OpenSpec.upto supersDecodeSpec)

/-- 'glissadelaw10.SupersBack', WHERE WHAT IT READS IS OF BULK AT MOST 1048576: true; the input reads as it did. -/
def supersBackUptoRow : OpenClaim := { program := "ytonfloehobcfbaa", sum := "7ae197ae9f3bf04e91ddabb4a6a7f58f815ce1a20f8a1f8869b32cfaac906080", func := "glissade/glissadelaw10.SupersBack", spec := "supersBack", inPlace := ["internal/abi.NoEscape", "internal/bytealg.MakeNoZero"], apart := false, narrowed := true }
def SupersBackUptoSaid : Prop := supersBackUptoRow.holds Try.pinned (OpenSpec.upto supersBackSpec)

/-- 'glissadelaw10.SupersFields', WHERE WHAT IT READS IS OF BULK AT MOST 1048576: true; the input reads as it did. -/
def supersFieldsUptoRow : OpenClaim := { program := "ytonfloehobcfbaa", sum := "7ae197ae9f3bf04e91ddabb4a6a7f58f815ce1a20f8a1f8869b32cfaac906080", func := "glissade/glissadelaw10.SupersFields", spec := "supersFields", inPlace := ["internal/abi.NoEscape", "internal/bytealg.MakeNoZero"], apart := false, narrowed := true }
def SupersFieldsUptoSaid : Prop := supersFieldsUptoRow.holds Try.pinned (OpenSpec.upto supersFieldsSpec)

/-- 'glissadelaw10.SupersMay', WHERE WHAT IT READS IS OF BULK AT MOST 1048576: true; the input reads as it did. -/
def supersMayUptoRow : OpenClaim := { program := "ytonfloehobcfbaa", sum := "7ae197ae9f3bf04e91ddabb4a6a7f58f815ce1a20f8a1f8869b32cfaac906080", func := "glissade/glissadelaw10.SupersMay", spec := "supersMay", inPlace := ["internal/abi.NoEscape", "internal/bytealg.MakeNoZero"], apart := false, narrowed := true }
def SupersMayUptoSaid : Prop := supersMayUptoRow.holds Try.pinned (OpenSpec.upto supersMaySpec)

/-- 'glissadelaw10.SupersSlide', WHERE WHAT IT READS IS OF BULK AT MOST 1048576: true; the input reads as it did. -/
def supersSlideUptoRow : OpenClaim := { program := "ytonfloehobcfbaa", sum := "7ae197ae9f3bf04e91ddabb4a6a7f58f815ce1a20f8a1f8869b32cfaac906080", func := "glissade/glissadelaw10.SupersSlide", spec := "supersSlide", inPlace := ["internal/abi.NoEscape", "internal/bytealg.MakeNoZero"], apart := false, narrowed := true }
def SupersSlideUptoSaid : Prop := supersSlideUptoRow.holds Try.pinned (OpenSpec.upto supersSlideSpec)

/-- 'glissadelaw10.SupersSpoilt', WHERE WHAT IT READS IS OF BULK AT MOST 1048576: true; the input reads as it did. -/
def supersSpoiltUptoRow : OpenClaim := { program := "ytonfloehobcfbaa", sum := "7ae197ae9f3bf04e91ddabb4a6a7f58f815ce1a20f8a1f8869b32cfaac906080", func := "glissade/glissadelaw10.SupersSpoilt", spec := "supersSpoilt", inPlace := ["internal/abi.NoEscape", "internal/bytealg.MakeNoZero"], apart := false, narrowed := true }
def SupersSpoiltUptoSaid : Prop := supersSpoiltUptoRow.holds Try.pinned (OpenSpec.upto supersSpoiltSpec)

end Rows
end Go.Proofs.Ytonfloehobcfbaa
