/-
  No cell of these rows narrows 'for every input' (looked for: loops, veiled, ifaces, maps, wideKeys, modest, calm, conditions, laid).
  DERIVED. THE GIVEN ROWS OF THIS SEAT. 8 by the template 'for every input the law returns true; each argument reads behind the call as it read before'; 0 by the template 'total and deterministic' (their statements: YtgcbfiecgiijkaaTotals.lean).
  GIVEN WITH THE SEED: the statements are not yours to turn. If you find one false, say at which input.
  Laid BY PROGRAM, IN A SANDBOX (cutbox-rows.mjs): the forced cells as the released guide's own fill.sh prints them over the translation fe198e4361629bbc… (all of the seat's roots in one cut). By AI agents, Wed Nov 11 2026. No macro, syntax, notation, axiom, sorry.
-/
import Derived.Test.YtgcbfiecgiijkaaChecked
import GoSem.Claim
import GoSem.ClaimJoined
import GoSem.ClaimMapViews
import Derived.JoinedTies
import Derived.KernelRfl
namespace Go.Proofs.Ytgcbfiecgiijkaa
/- THE CELL 'sum', in the pinned program and in every row, IS THE sha256 OF THE DUMP (.gsa) THAT YtgcbfiecgiijkaaProg.lean LOADS. Nothing in Lean hashes anything: it is a label: what it is worth is what the hold of that sum in a sandbox is worth. -/
noncomputable def Try.pinned : Pinned := { name := "ytgcbfiecgiijkaa", sum := "fe198e4361629bbce1156b6341ad53c54b54b8f046e9c8fc1437d7d32e8f5607", checked := Try.checked }
namespace Rows
def none {H : Type} : Left H := { results := [], args := [] }

/-- 'glissadelaw14.ExtsAsks': WHATEVER THE INPUT: true; the input reads as it did. -/
def extsAsksSpec : ChangeSpec := { name := "extsAsks", fn := fun _ => fun
  | [d1, d2] => { results := [.lit (.bool true)], args := [d1, d2] }
  | _ => none }
def extsAsksRow : OpenClaim := { program := "ytgcbfiecgiijkaa", sum := "fe198e4361629bbce1156b6341ad53c54b54b8f046e9c8fc1437d7d32e8f5607", func := "glissade/glissadelaw14.ExtsAsks", spec := "extsAsks", unfollowed := true, recurses := true, apart := false }
def ExtsAsksSaid : Prop := extsAsksRow.holds Try.pinned (OpenSpec.ofChange extsAsksSpec)

/-- ITS FALSE NEIGHBOUR: 'it returns false'. Refute it at one input. -/
def extsAsksWrong : ChangeSpec := { name := "extsAsks", fn := fun _ => fun
  | [d1, d2] => { results := [.lit (.bool false)], args := [d1, d2] }
  | _ => none }
def ExtsAsksWrongFalsely : Prop := extsAsksRow.holds Try.pinned (OpenSpec.ofChange extsAsksWrong)

/-- 'glissadelaw14.ExtsPuts': WHATEVER THE INPUT: true; the input reads as it did. -/
def extsPutsSpec : ChangeSpec := { name := "extsPuts", fn := fun _ => fun
  | [d1, d2] => { results := [.lit (.bool true)], args := [d1, d2] }
  | _ => none }
def extsPutsRow : OpenClaim := { program := "ytgcbfiecgiijkaa", sum := "fe198e4361629bbce1156b6341ad53c54b54b8f046e9c8fc1437d7d32e8f5607", func := "glissade/glissadelaw14.ExtsPuts", spec := "extsPuts", unfollowed := true, recurses := true, apart := false }
def ExtsPutsSaid : Prop := extsPutsRow.holds Try.pinned (OpenSpec.ofChange extsPutsSpec)

/-- ITS FALSE NEIGHBOUR: 'it returns false'. Refute it at one input. -/
def extsPutsWrong : ChangeSpec := { name := "extsPuts", fn := fun _ => fun
  | [d1, d2] => { results := [.lit (.bool false)], args := [d1, d2] }
  | _ => none }
def ExtsPutsWrongFalsely : Prop := extsPutsRow.holds Try.pinned (OpenSpec.ofChange extsPutsWrong)

/-- 'glissadelaw14.ExtsPunches': WHATEVER THE INPUT: true; the input reads as it did. -/
def extsPunchesSpec : ChangeSpec := { name := "extsPunches", fn := fun _ => fun
  | [d1, d2, d3] => { results := [.lit (.bool true)], args := [d1, d2, d3] }
  | _ => none }
def extsPunchesRow : OpenClaim := { program := "ytgcbfiecgiijkaa", sum := "fe198e4361629bbce1156b6341ad53c54b54b8f046e9c8fc1437d7d32e8f5607", func := "glissade/glissadelaw14.ExtsPunches", spec := "extsPunches", unfollowed := true, recurses := true, apart := false }
def ExtsPunchesSaid : Prop := extsPunchesRow.holds Try.pinned (OpenSpec.ofChange extsPunchesSpec)

/-- ITS FALSE NEIGHBOUR: 'it returns false'. Refute it at one input. -/
def extsPunchesWrong : ChangeSpec := { name := "extsPunches", fn := fun _ => fun
  | [d1, d2, d3] => { results := [.lit (.bool false)], args := [d1, d2, d3] }
  | _ => none }
def ExtsPunchesWrongFalsely : Prop := extsPunchesRow.holds Try.pinned (OpenSpec.ofChange extsPunchesWrong)

/-- 'glissadelaw14.ExtsCuts': WHATEVER THE INPUT: true; the input reads as it did. -/
def extsCutsSpec : ChangeSpec := { name := "extsCuts", fn := fun _ => fun
  | [d1, d2] => { results := [.lit (.bool true)], args := [d1, d2] }
  | _ => none }
def extsCutsRow : OpenClaim := { program := "ytgcbfiecgiijkaa", sum := "fe198e4361629bbce1156b6341ad53c54b54b8f046e9c8fc1437d7d32e8f5607", func := "glissade/glissadelaw14.ExtsCuts", spec := "extsCuts", unfollowed := true, recurses := true, apart := false }
def ExtsCutsSaid : Prop := extsCutsRow.holds Try.pinned (OpenSpec.ofChange extsCutsSpec)

/-- ITS FALSE NEIGHBOUR: 'it returns false'. Refute it at one input. -/
def extsCutsWrong : ChangeSpec := { name := "extsCuts", fn := fun _ => fun
  | [d1, d2] => { results := [.lit (.bool false)], args := [d1, d2] }
  | _ => none }
def ExtsCutsWrongFalsely : Prop := extsCutsRow.holds Try.pinned (OpenSpec.ofChange extsCutsWrong)

/-- 'glissadelaw14.ExtsPlaces': WHATEVER THE INPUT: true; the input reads as it did. -/
def extsPlacesSpec : ChangeSpec := { name := "extsPlaces", fn := fun _ => fun
  | [d1, d2, d3] => { results := [.lit (.bool true)], args := [d1, d2, d3] }
  | _ => none }
def extsPlacesRow : OpenClaim := { program := "ytgcbfiecgiijkaa", sum := "fe198e4361629bbce1156b6341ad53c54b54b8f046e9c8fc1437d7d32e8f5607", func := "glissade/glissadelaw14.ExtsPlaces", spec := "extsPlaces", unfollowed := true, recurses := true, apart := false }
def ExtsPlacesSaid : Prop := extsPlacesRow.holds Try.pinned (OpenSpec.ofChange extsPlacesSpec)

/-- ITS FALSE NEIGHBOUR: 'it returns false'. Refute it at one input. -/
def extsPlacesWrong : ChangeSpec := { name := "extsPlaces", fn := fun _ => fun
  | [d1, d2, d3] => { results := [.lit (.bool false)], args := [d1, d2, d3] }
  | _ => none }
def ExtsPlacesWrongFalsely : Prop := extsPlacesRow.holds Try.pinned (OpenSpec.ofChange extsPlacesWrong)

/-- 'glissadelaw14.ExtsGone': WHATEVER THE INPUT: true; the input reads as it did. -/
def extsGoneSpec : ChangeSpec := { name := "extsGone", fn := fun _ => fun
  | [d1, d2, d3] => { results := [.lit (.bool true)], args := [d1, d2, d3] }
  | _ => none }
def extsGoneRow : OpenClaim := { program := "ytgcbfiecgiijkaa", sum := "fe198e4361629bbce1156b6341ad53c54b54b8f046e9c8fc1437d7d32e8f5607", func := "glissade/glissadelaw14.ExtsGone", spec := "extsGone", unfollowed := true, recurses := true, apart := false }
def ExtsGoneSaid : Prop := extsGoneRow.holds Try.pinned (OpenSpec.ofChange extsGoneSpec)

/-- ITS FALSE NEIGHBOUR: 'it returns false'. Refute it at one input. -/
def extsGoneWrong : ChangeSpec := { name := "extsGone", fn := fun _ => fun
  | [d1, d2, d3] => { results := [.lit (.bool false)], args := [d1, d2, d3] }
  | _ => none }
def ExtsGoneWrongFalsely : Prop := extsGoneRow.holds Try.pinned (OpenSpec.ofChange extsGoneWrong)

/-- 'glissadelaw14.ExtsPieces': WHATEVER THE INPUT: true; the input reads as it did. -/
def extsPiecesSpec : ChangeSpec := { name := "extsPieces", fn := fun _ => fun
  | [d1, d2, d3] => { results := [.lit (.bool true)], args := [d1, d2, d3] }
  | _ => none }
def extsPiecesRow : OpenClaim := { program := "ytgcbfiecgiijkaa", sum := "fe198e4361629bbce1156b6341ad53c54b54b8f046e9c8fc1437d7d32e8f5607", func := "glissade/glissadelaw14.ExtsPieces", spec := "extsPieces", unfollowed := true, recurses := true, apart := false }
def ExtsPiecesSaid : Prop := extsPiecesRow.holds Try.pinned (OpenSpec.ofChange extsPiecesSpec)

/-- ITS FALSE NEIGHBOUR: 'it returns false'. Refute it at one input. -/
def extsPiecesWrong : ChangeSpec := { name := "extsPieces", fn := fun _ => fun
  | [d1, d2, d3] => { results := [.lit (.bool false)], args := [d1, d2, d3] }
  | _ => none }
def ExtsPiecesWrongFalsely : Prop := extsPiecesRow.holds Try.pinned (OpenSpec.ofChange extsPiecesWrong)

/-- 'glissadelaw14.ExtsBack': WHATEVER THE INPUT: true; the input reads as it did. -/
def extsBackSpec : ChangeSpec := { name := "extsBack", fn := fun _ => fun
  | [d1, d2] => { results := [.lit (.bool true)], args := [d1, d2] }
  | _ => none }
def extsBackRow : OpenClaim := { program := "ytgcbfiecgiijkaa", sum := "fe198e4361629bbce1156b6341ad53c54b54b8f046e9c8fc1437d7d32e8f5607", func := "glissade/glissadelaw14.ExtsBack", spec := "extsBack", unfollowed := true, recurses := true, apart := false }
def ExtsBackSaid : Prop := extsBackRow.holds Try.pinned (OpenSpec.ofChange extsBackSpec)

/-- ITS FALSE NEIGHBOUR: 'it returns false'. Refute it at one input. -/
def extsBackWrong : ChangeSpec := { name := "extsBack", fn := fun _ => fun
  | [d1, d2] => { results := [.lit (.bool false)], args := [d1, d2] }
  | _ => none }
def ExtsBackWrongFalsely : Prop := extsBackRow.holds Try.pinned (OpenSpec.ofChange extsBackWrong)

/- THE SECOND FORM. 'bulk': how many values and letters a reading holds, each counted each time it is reached (what is shared counts as often as it is met; a slice's spare places count too). A statement '..UptoSaid' is the law's where the arguments, and the package variables that the reading takes, are together of bulk at most 1048576: NARROWER than '..Said'. Prove '..Said' where nothing that the law and all that it calls make is longer than what came in: it says more and counts as full. Else prove '..UptoSaid'. A law counts once. -/
mutual
def uptoBulk {H : Type} : DataW H → Nat
  | .lit (.string bytes) => bytes.length + 1
  | .lit _ => 1
  | .nil => 1
  | .ptr d => uptoBulk d + 1
  | .slice elems spare => uptoBulkAll elems + uptoBulkAll spare + 1
  | .agg parts => uptoBulkAll parts + 1
  | .iface _ d => uptoBulk d + 1
  | .map entries => uptoBulkEntries entries + 1
  | .held _ => 1
def uptoBulkAll {H : Type} : List (DataW H) → Nat
  | [] => 0
  | d :: r => uptoBulk d + uptoBulkAll r
def uptoBulkEntries {H : Type} : List (Lit × DataW H) → Nat
  | [] => 0
  | x :: r => uptoBulkEntry x + uptoBulkEntries r
def uptoBulkEntry {H : Type} : Lit × DataW H → Nat
  | (.string bytes, d) => bytes.length + uptoBulk d + 1
  | (_, d) => uptoBulk d + 1
 end
def uptoSmall : (H : Type) → List (DataW H) → Bool := fun _ ds => decide (uptoBulkAll ds ≤ 1048576)
def OpenSpec.upto (s : _root_.Go.ChangeSpec) : _root_.Go.OpenSpec := { _root_.Go.OpenSpec.ofChange s with cond := some uptoSmall }

/-- 'glissadelaw14.ExtsAsks', WHERE WHAT IT READS IS OF BULK AT MOST 1048576: true; the input reads as it did. -/
def extsAsksUptoRow : OpenClaim := { program := "ytgcbfiecgiijkaa", sum := "fe198e4361629bbce1156b6341ad53c54b54b8f046e9c8fc1437d7d32e8f5607", func := "glissade/glissadelaw14.ExtsAsks", spec := "extsAsks", unfollowed := true, recurses := true, apart := false, narrowed := true }
def ExtsAsksUptoSaid : Prop := extsAsksUptoRow.holds Try.pinned (OpenSpec.upto extsAsksSpec)

/-- 'glissadelaw14.ExtsPuts', WHERE WHAT IT READS IS OF BULK AT MOST 1048576: true; the input reads as it did. -/
def extsPutsUptoRow : OpenClaim := { program := "ytgcbfiecgiijkaa", sum := "fe198e4361629bbce1156b6341ad53c54b54b8f046e9c8fc1437d7d32e8f5607", func := "glissade/glissadelaw14.ExtsPuts", spec := "extsPuts", unfollowed := true, recurses := true, apart := false, narrowed := true }
def ExtsPutsUptoSaid : Prop := extsPutsUptoRow.holds Try.pinned (OpenSpec.upto extsPutsSpec)

/-- 'glissadelaw14.ExtsPunches', WHERE WHAT IT READS IS OF BULK AT MOST 1048576: true; the input reads as it did. -/
def extsPunchesUptoRow : OpenClaim := { program := "ytgcbfiecgiijkaa", sum := "fe198e4361629bbce1156b6341ad53c54b54b8f046e9c8fc1437d7d32e8f5607", func := "glissade/glissadelaw14.ExtsPunches", spec := "extsPunches", unfollowed := true, recurses := true, apart := false, narrowed := true }
def ExtsPunchesUptoSaid : Prop := extsPunchesUptoRow.holds Try.pinned (OpenSpec.upto extsPunchesSpec)

/-- 'glissadelaw14.ExtsCuts', WHERE WHAT IT READS IS OF BULK AT MOST 1048576: true; the input reads as it did. -/
def extsCutsUptoRow : OpenClaim := { program := "ytgcbfiecgiijkaa", sum := "fe198e4361629bbce1156b6341ad53c54b54b8f046e9c8fc1437d7d32e8f5607", func := "glissade/glissadelaw14.ExtsCuts", spec := "extsCuts", unfollowed := true, recurses := true, apart := false, narrowed := true }
def ExtsCutsUptoSaid : Prop := extsCutsUptoRow.holds Try.pinned (OpenSpec.upto extsCutsSpec)

/-- 'glissadelaw14.ExtsPlaces', WHERE WHAT IT READS IS OF BULK AT MOST 1048576: true; the input reads as it did. -/
def extsPlacesUptoRow : OpenClaim := { program := "ytgcbfiecgiijkaa", sum := "fe198e4361629bbce1156b6341ad53c54b54b8f046e9c8fc1437d7d32e8f5607", func := "glissade/glissadelaw14.ExtsPlaces", spec := "extsPlaces", unfollowed := true, recurses := true, apart := false, narrowed := true }
def ExtsPlacesUptoSaid : Prop := extsPlacesUptoRow.holds Try.pinned (OpenSpec.upto extsPlacesSpec)

/-- 'glissadelaw14.ExtsGone', WHERE WHAT IT READS IS OF BULK AT MOST 1048576: true; the input reads as it did. -/
def extsGoneUptoRow : OpenClaim := { program := "ytgcbfiecgiijkaa", sum := "fe198e4361629bbce1156b6341ad53c54b54b8f046e9c8fc1437d7d32e8f5607", func := "glissade/glissadelaw14.ExtsGone", spec := "extsGone", unfollowed := true, recurses := true, apart := false, narrowed := true }
def ExtsGoneUptoSaid : Prop := extsGoneUptoRow.holds Try.pinned (OpenSpec.upto extsGoneSpec)

/-- 'glissadelaw14.ExtsPieces', WHERE WHAT IT READS IS OF BULK AT MOST 1048576: true; the input reads as it did. -/
def extsPiecesUptoRow : OpenClaim := { program := "ytgcbfiecgiijkaa", sum := "fe198e4361629bbce1156b6341ad53c54b54b8f046e9c8fc1437d7d32e8f5607", func := "glissade/glissadelaw14.ExtsPieces", spec := "extsPieces", unfollowed := true, recurses := true, apart := false, narrowed := true }
def ExtsPiecesUptoSaid : Prop := extsPiecesUptoRow.holds Try.pinned (OpenSpec.upto extsPiecesSpec)

/-- 'glissadelaw14.ExtsBack', WHERE WHAT IT READS IS OF BULK AT MOST 1048576: true; the input reads as it did. -/
def extsBackUptoRow : OpenClaim := { program := "ytgcbfiecgiijkaa", sum := "fe198e4361629bbce1156b6341ad53c54b54b8f046e9c8fc1437d7d32e8f5607", func := "glissade/glissadelaw14.ExtsBack", spec := "extsBack", unfollowed := true, recurses := true, apart := false, narrowed := true }
def ExtsBackUptoSaid : Prop := extsBackUptoRow.holds Try.pinned (OpenSpec.upto extsBackSpec)

end Rows
end Go.Proofs.Ytgcbfiecgiijkaa
