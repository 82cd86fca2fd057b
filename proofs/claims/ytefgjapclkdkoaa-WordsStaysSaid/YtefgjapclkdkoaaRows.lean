/-
  No cell of these rows narrows 'for every input' (looked for: loops, veiled, ifaces, maps, wideKeys, modest, calm, conditions, laid).
  DERIVED. THE GIVEN ROWS OF THIS SEAT. 7 by the template 'for every input the law returns true; each argument reads behind the call as it read before'; 0 by the template 'total and deterministic' (their statements: YtefgjapclkdkoaaTotals.lean).
  GIVEN WITH THE SEED: the statements are not yours to turn. If you find one false, say at which input.
  Laid BY PROGRAM, IN A SANDBOX (cutbox-rows.mjs): the forced cells as the released guide's own fill.sh prints them over the translation 693591ccbc4784ef… (all of the seat's roots in one cut). By AI agents, Wed Nov 11 2026. No macro, syntax, notation, axiom, sorry.
-/
import Derived.Test.YtefgjapclkdkoaaChecked
import GoSem.Claim
import GoSem.ClaimJoined
import GoSem.ClaimMapViews
import Derived.JoinedTies
import Derived.KernelRfl
namespace Go.Proofs.Ytefgjapclkdkoaa
/- THE CELL 'sum', in the pinned program and in every row, IS THE sha256 OF THE DUMP (.gsa) THAT YtefgjapclkdkoaaProg.lean LOADS. Nothing in Lean hashes anything: it is a label: what it is worth is what the hold of that sum in a sandbox is worth. -/
noncomputable def Try.pinned : Pinned := { name := "ytefgjapclkdkoaa", sum := "693591ccbc4784ef20cfc6e76b438d6f68ec9654ec8dfbdc4ad795cc33a25ed9", checked := Try.checked }
namespace Rows
def none {H : Type} : Left H := { results := [], args := [] }

/-- 'glissadelaw01.WordsGets': WHATEVER THE INPUT: true; the input reads as it did. -/
def wordsGetsSpec : ChangeSpec := { name := "wordsGets", fn := fun _ => fun
  | [d1, d2] => { results := [.lit (.bool true)], args := [d1, d2] }
  | _ => none }
def wordsGetsRow : OpenClaim := { program := "ytefgjapclkdkoaa", sum := "693591ccbc4784ef20cfc6e76b438d6f68ec9654ec8dfbdc4ad795cc33a25ed9", func := "glissade/glissadelaw01.WordsGets", spec := "wordsGets", apart := false }
def WordsGetsSaid : Prop := wordsGetsRow.holds Try.pinned (OpenSpec.ofChange wordsGetsSpec)

/-- ITS FALSE NEIGHBOUR: 'it returns false'. Refute it at one input. -/
def wordsGetsWrong : ChangeSpec := { name := "wordsGets", fn := fun _ => fun
  | [d1, d2] => { results := [.lit (.bool false)], args := [d1, d2] }
  | _ => none }
def WordsGetsWrongFalsely : Prop := wordsGetsRow.holds Try.pinned (OpenSpec.ofChange wordsGetsWrong)

/-- 'glissadelaw01.WordsPuts': WHATEVER THE INPUT: true; the input reads as it did. -/
def wordsPutsSpec : ChangeSpec := { name := "wordsPuts", fn := fun _ => fun
  | [d1, d2, d3] => { results := [.lit (.bool true)], args := [d1, d2, d3] }
  | _ => none }
def wordsPutsRow : OpenClaim := { program := "ytefgjapclkdkoaa", sum := "693591ccbc4784ef20cfc6e76b438d6f68ec9654ec8dfbdc4ad795cc33a25ed9", func := "glissade/glissadelaw01.WordsPuts", spec := "wordsPuts", apart := false }
def WordsPutsSaid : Prop := wordsPutsRow.holds Try.pinned (OpenSpec.ofChange wordsPutsSpec)

/-- ITS FALSE NEIGHBOUR: 'it returns false'. Refute it at one input. -/
def wordsPutsWrong : ChangeSpec := { name := "wordsPuts", fn := fun _ => fun
  | [d1, d2, d3] => { results := [.lit (.bool false)], args := [d1, d2, d3] }
  | _ => none }
def WordsPutsWrongFalsely : Prop := wordsPutsRow.holds Try.pinned (OpenSpec.ofChange wordsPutsWrong)

/-- 'glissadelaw01.WordsInts': WHATEVER THE INPUT: true; the input reads as it did. -/
def wordsIntsSpec : ChangeSpec := { name := "wordsInts", fn := fun _ => fun
  | [d1, d2, d3] => { results := [.lit (.bool true)], args := [d1, d2, d3] }
  | _ => none }
def wordsIntsRow : OpenClaim := { program := "ytefgjapclkdkoaa", sum := "693591ccbc4784ef20cfc6e76b438d6f68ec9654ec8dfbdc4ad795cc33a25ed9", func := "glissade/glissadelaw01.WordsInts", spec := "wordsInts", apart := false }
def WordsIntsSaid : Prop := wordsIntsRow.holds Try.pinned (OpenSpec.ofChange wordsIntsSpec)

/-- ITS FALSE NEIGHBOUR: 'it returns false'. Refute it at one input. -/
def wordsIntsWrong : ChangeSpec := { name := "wordsInts", fn := fun _ => fun
  | [d1, d2, d3] => { results := [.lit (.bool false)], args := [d1, d2, d3] }
  | _ => none }
def WordsIntsWrongFalsely : Prop := wordsIntsRow.holds Try.pinned (OpenSpec.ofChange wordsIntsWrong)

/-- 'glissadelaw01.WordsBack': WHATEVER THE INPUT: true; the input reads as it did. -/
def wordsBackSpec : ChangeSpec := { name := "wordsBack", fn := fun _ => fun
  | [d1, d2, d3] => { results := [.lit (.bool true)], args := [d1, d2, d3] }
  | _ => none }
def wordsBackRow : OpenClaim := { program := "ytefgjapclkdkoaa", sum := "693591ccbc4784ef20cfc6e76b438d6f68ec9654ec8dfbdc4ad795cc33a25ed9", func := "glissade/glissadelaw01.WordsBack", spec := "wordsBack", apart := false }
def WordsBackSaid : Prop := wordsBackRow.holds Try.pinned (OpenSpec.ofChange wordsBackSpec)

/-- ITS FALSE NEIGHBOUR: 'it returns false'. Refute it at one input. -/
def wordsBackWrong : ChangeSpec := { name := "wordsBack", fn := fun _ => fun
  | [d1, d2, d3] => { results := [.lit (.bool false)], args := [d1, d2, d3] }
  | _ => none }
def WordsBackWrongFalsely : Prop := wordsBackRow.holds Try.pinned (OpenSpec.ofChange wordsBackWrong)

/-- 'glissadelaw01.WordsHalves': WHATEVER THE INPUT: true; the input reads as it did. -/
def wordsHalvesSpec : ChangeSpec := { name := "wordsHalves", fn := fun _ => fun
  | [d1, d2, d3] => { results := [.lit (.bool true)], args := [d1, d2, d3] }
  | _ => none }
def wordsHalvesRow : OpenClaim := { program := "ytefgjapclkdkoaa", sum := "693591ccbc4784ef20cfc6e76b438d6f68ec9654ec8dfbdc4ad795cc33a25ed9", func := "glissade/glissadelaw01.WordsHalves", spec := "wordsHalves", apart := false }
def WordsHalvesSaid : Prop := wordsHalvesRow.holds Try.pinned (OpenSpec.ofChange wordsHalvesSpec)

/-- ITS FALSE NEIGHBOUR: 'it returns false'. Refute it at one input. -/
def wordsHalvesWrong : ChangeSpec := { name := "wordsHalves", fn := fun _ => fun
  | [d1, d2, d3] => { results := [.lit (.bool false)], args := [d1, d2, d3] }
  | _ => none }
def WordsHalvesWrongFalsely : Prop := wordsHalvesRow.holds Try.pinned (OpenSpec.ofChange wordsHalvesWrong)

/-- 'glissadelaw01.WordsStays': WHATEVER THE INPUT: true; the input reads as it did. -/
def wordsStaysSpec : ChangeSpec := { name := "wordsStays", fn := fun _ => fun
  | [d1, d2] => { results := [.lit (.bool true)], args := [d1, d2] }
  | _ => none }
def wordsStaysRow : OpenClaim := { program := "ytefgjapclkdkoaa", sum := "693591ccbc4784ef20cfc6e76b438d6f68ec9654ec8dfbdc4ad795cc33a25ed9", func := "glissade/glissadelaw01.WordsStays", spec := "wordsStays", apart := false }
def WordsStaysSaid : Prop := wordsStaysRow.holds Try.pinned (OpenSpec.ofChange wordsStaysSpec)

/-- ITS FALSE NEIGHBOUR: 'it returns false'. Refute it at one input. -/
def wordsStaysWrong : ChangeSpec := { name := "wordsStays", fn := fun _ => fun
  | [d1, d2] => { results := [.lit (.bool false)], args := [d1, d2] }
  | _ => none }
def WordsStaysWrongFalsely : Prop := wordsStaysRow.holds Try.pinned (OpenSpec.ofChange wordsStaysWrong)

/-- 'glissadelaw01.WordsApart': WHATEVER THE INPUT: true; the input reads as it did. -/
def wordsApartSpec : ChangeSpec := { name := "wordsApart", fn := fun _ => fun
  | [d1, d2, d3] => { results := [.lit (.bool true)], args := [d1, d2, d3] }
  | _ => none }
def wordsApartRow : OpenClaim := { program := "ytefgjapclkdkoaa", sum := "693591ccbc4784ef20cfc6e76b438d6f68ec9654ec8dfbdc4ad795cc33a25ed9", func := "glissade/glissadelaw01.WordsApart", spec := "wordsApart", apart := false }
def WordsApartSaid : Prop := wordsApartRow.holds Try.pinned (OpenSpec.ofChange wordsApartSpec)

/-- ITS FALSE NEIGHBOUR: 'it returns false'. Refute it at one input. -/
def wordsApartWrong : ChangeSpec := { name := "wordsApart", fn := fun _ => fun
  | [d1, d2, d3] => { results := [.lit (.bool false)], args := [d1, d2, d3] }
  | _ => none }
def WordsApartWrongFalsely : Prop := wordsApartRow.holds Try.pinned (OpenSpec.ofChange wordsApartWrong)

/- THE SECOND FORM. 'bulk': how many values and letters a reading holds, each counted each time it is reached (what is shared counts as often as it is met; a slice's spare places count too). A statement '..UptoSaid' is the law's where the arguments, and the package variables that the reading takes, are together of bulk at most 1048576: NARROWER than '..Said'. Prove '..Said' where nothing that the law and all that it calls make is longer than what came in: it says more and counts as full. Else prove '..UptoSaid'. A law counts once. -/
mutual
def uptoBulk {H : Type} : DataW H → Nat
  | .lit (.string bytes) => bytes.length + 1
  | .lit _ => 1
  | .nil => 1
  | .ptr d => uptoBulk d + 1
  | .slice elems spare => uptoBulkAll elems + uptoBulkAll spare + 1
  | .agg parts => uptoBulkAll parts + 1
  | .iface _ d => uptoBulk d + 1
  | .map entries => uptoBulkEntries entries + 1
  | .held _ => 1
def uptoBulkAll {H : Type} : List (DataW H) → Nat
  | [] => 0
  | d :: r => uptoBulk d + uptoBulkAll r
def uptoBulkEntries {H : Type} : List (Lit × DataW H) → Nat
  | [] => 0
  | x :: r => uptoBulkEntry x + uptoBulkEntries r
def uptoBulkEntry {H : Type} : Lit × DataW H → Nat
  | (.string bytes, d) => bytes.length + uptoBulk d + 1
  | (_, d) => uptoBulk d + 1
 end
def uptoSmall : (H : Type) → List (DataW H) → Bool := fun _ ds => decide (uptoBulkAll ds ≤ 1048576)
def OpenSpec.upto (s : _root_.Go.ChangeSpec) : _root_.Go.OpenSpec := { _root_.Go.OpenSpec.ofChange s with cond := some uptoSmall }

/-- 'glissadelaw01.WordsGets', WHERE WHAT IT READS IS OF BULK AT MOST 1048576: true; the input reads as it did. -/
def wordsGetsUptoRow : OpenClaim := { program := "ytefgjapclkdkoaa", sum := "693591ccbc4784ef20cfc6e76b438d6f68ec9654ec8dfbdc4ad795cc33a25ed9", func := "glissade/glissadelaw01.WordsGets", spec := "wordsGets", apart := false, narrowed := true }
def WordsGetsUptoSaid : Prop := wordsGetsUptoRow.holds Try.pinned (OpenSpec.upto wordsGetsSpec)

/-- 'glissadelaw01.WordsPuts', WHERE WHAT IT READS IS OF BULK AT MOST 1048576: true; the input reads as it did. -/
def wordsPutsUptoRow : OpenClaim := { program := "ytefgjapclkdkoaa", sum := "693591ccbc4784ef20cfc6e76b438d6f68ec9654ec8dfbdc4ad795cc33a25ed9", func := "glissade/glissadelaw01.WordsPuts", spec := "wordsPuts", apart := false, narrowed := true }
def WordsPutsUptoSaid : Prop := wordsPutsUptoRow.holds Try.pinned (OpenSpec.upto wordsPutsSpec)

/-- 'glissadelaw01.WordsInts', WHERE WHAT IT READS IS OF BULK AT MOST 1048576: true; the input reads as it did. -/
def wordsIntsUptoRow : OpenClaim := { program := "ytefgjapclkdkoaa", sum := "693591ccbc4784ef20cfc6e76b438d6f68ec9654ec8dfbdc4ad795cc33a25ed9", func := "glissade/glissadelaw01.WordsInts", spec := "wordsInts", apart := false, narrowed := true }
def WordsIntsUptoSaid : Prop := wordsIntsUptoRow.holds Try.pinned (OpenSpec.upto wordsIntsSpec)

/-- 'glissadelaw01.WordsBack', WHERE WHAT IT READS IS OF BULK AT MOST 1048576: true; the input reads as it did. -/
def wordsBackUptoRow : OpenClaim := { program := "ytefgjapclkdkoaa", sum := "693591ccbc4784ef20cfc6e76b438d6f68ec9654ec8dfbdc4ad795cc33a25ed9", func := "glissade/glissadelaw01.WordsBack", spec := "wordsBack", apart := false, narrowed := true }
def WordsBackUptoSaid : Prop := wordsBackUptoRow.holds Try.pinned (OpenSpec.upto wordsBackSpec)

/-- 'glissadelaw01.WordsHalves', WHERE WHAT IT READS IS OF BULK AT MOST 1048576: true; the input reads as it did. -/
def wordsHalvesUptoRow : OpenClaim := { program := "ytefgjapclkdkoaa", sum := "693591ccbc4784ef20cfc6e76b438d6f68ec9654ec8dfbdc4ad795cc33a25ed9", func := "glissade/glissadelaw01.WordsHalves", spec := "wordsHalves", apart := false, narrowed := true }
def WordsHalvesUptoSaid : Prop := wordsHalvesUptoRow.holds Try.pinned (OpenSpec.upto wordsHalvesSpec)

/-- 'glissadelaw01.WordsStays', WHERE WHAT IT READS IS OF BULK AT MOST 1048576: true; the input reads as it did. -/
def wordsStaysUptoRow : OpenClaim := { program := "ytefgjapclkdkoaa", sum := "693591ccbc4784ef20cfc6e76b438d6f68ec9654ec8dfbdc4ad795cc33a25ed9", func := "glissade/glissadelaw01.WordsStays", spec := "wordsStays", apart := false, narrowed := true }
def WordsStaysUptoSaid : Prop := wordsStaysUptoRow.holds Try.pinned (OpenSpec.upto wordsStaysSpec)

/-- 'glissadelaw01.WordsApart', WHERE WHAT IT READS IS OF BULK AT MOST 1048576: true; the input reads as it did. -/
def wordsApartUptoRow : OpenClaim := { program := "ytefgjapclkdkoaa", sum := "693591ccbc4784ef20cfc6e76b438d6f68ec9654ec8dfbdc4ad795cc33a25ed9", func := "glissade/glissadelaw01.WordsApart", spec := "wordsApart", apart := false, narrowed := true }
def WordsApartUptoSaid : Prop := wordsApartUptoRow.holds Try.pinned (OpenSpec.upto wordsApartSpec)

end Rows
end Go.Proofs.Ytefgjapclkdkoaa
