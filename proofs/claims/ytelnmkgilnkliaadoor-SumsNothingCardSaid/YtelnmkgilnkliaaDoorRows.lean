/-
  NARROWER THAN 'FOR EVERY INPUT', by the rows' own cells (each row's printed sentence says how): SumsOf: laid · SumsJoins: laid · SumsCut: laid · SumsThree: laid · SumsXor: laid · SumsBurst: laid · SumsNothing: laid.
  DERIVED. THE GIVEN ROWS OF THIS SEAT. 7 by the template 'for every input the law returns true; each argument reads behind the call as it read before'; 0 by the template 'total and deterministic' (their statements: YtelnmkgilnkliaaDoorTotals.lean).
  GIVEN WITH THE SEED: the statements are not yours to turn. If you find one false, say at which input.
  Laid BY PROGRAM, IN A SANDBOX (cutbox-rows.mjs): the forced cells as the released guide's own fill.sh prints them over the translation c05f0f38271893a8… (all of the seat's roots in one cut). By AI agents, Wed Nov 11 2026. No macro, syntax, notation, axiom, sorry.
-/
import Derived.Test.YtelnmkgilnkliaaDoorChecked
import GoSem.Claim
import GoSem.ClaimJoined
import GoSem.ClaimMapViews
import Derived.JoinedTies
import Derived.KernelRfl
namespace Go.Proofs.YtelnmkgilnkliaaDoor
/- THE CELL 'sum', in the pinned program and in every row, IS THE sha256 OF THE DUMP (.gsa) THAT YtelnmkgilnkliaaDoorProg.lean LOADS. Nothing in Lean hashes anything: it is a label: what it is worth is what the hold of that sum in a sandbox is worth. -/
noncomputable def Tryd.pinned : Pinned := { name := "ytelnmkgilnkliaadoor", sum := "c05f0f38271893a81247c45587a32513aa84fe78c40c8f91579a960a70ebbaa5", checked := Tryd.checked }
namespace Rows
def none {H : Type} : Left H := { results := [], args := [] }

/- WHAT THE LISTED PACKAGE-LEVEL VARIABLES READ AS WHEN THE CALL BEGINS. Each datum BY PROGRAM (the guide's laid-datum.mjs) off the statement by which the dump's own 'gosem.cut.vars' lays the variable. In a bare row this is a premise. The card (YtelnmkgilnkliaaDoorCards.lean) ties it to the program's text. -/
def laid_glissade_sums_halves {H : Type} : DataW H := .agg [.lit (.int .u32 0), .lit (.int .u32 498536548), .lit (.int .u32 997073096), .lit (.int .u32 651767980), .lit (.int .u32 1994146192), .lit (.int .u32 1802195444), .lit (.int .u32 1303535960), .lit (.int .u32 1342533948), .lit (.int .u32 3988292384), .lit (.int .u32 4027552580), .lit (.int .u32 3604390888), .lit (.int .u32 3412177804), .lit (.int .u32 2607071920), .lit (.int .u32 2262029012), .lit (.int .u32 2685067896), .lit (.int .u32 3183342108)]

/-- 'glissadelaw02.SumsOf': WHATEVER THE INPUT: true; the input reads as it did. -/
def sumsOfSpec : ChangeSpec := { name := "sumsOf", fn := fun _ => fun
  | [d1, d2] => { results := [.lit (.bool true)], args := [d1, d2] }
  | _ => none }
def sumsOfRow : OpenClaim := { program := "ytelnmkgilnkliaadoor", sum := "c05f0f38271893a81247c45587a32513aa84fe78c40c8f91579a960a70ebbaa5", func := "glissade/glissadelaw02.SumsOf", spec := "sumsOf", named := ["glissade/sums.halves"], apart := false, laid := [("glissade/sums.halves", laid_glissade_sums_halves)] }
def SumsOfSaid : Prop := sumsOfRow.holds Tryd.pinned (OpenSpec.ofChange sumsOfSpec)

/-- ITS FALSE NEIGHBOUR: 'it returns false'. Refute it at one input. -/
def sumsOfWrong : ChangeSpec := { name := "sumsOf", fn := fun _ => fun
  | [d1, d2] => { results := [.lit (.bool false)], args := [d1, d2] }
  | _ => none }
def SumsOfWrongFalsely : Prop := sumsOfRow.holds Tryd.pinned (OpenSpec.ofChange sumsOfWrong)

/-- 'glissadelaw02.SumsJoins': WHATEVER THE INPUT: true; the input reads as it did. -/
def sumsJoinsSpec : ChangeSpec := { name := "sumsJoins", fn := fun _ => fun
  | [d1, d2, d3] => { results := [.lit (.bool true)], args := [d1, d2, d3] }
  | _ => none }
def sumsJoinsRow : OpenClaim := { program := "ytelnmkgilnkliaadoor", sum := "c05f0f38271893a81247c45587a32513aa84fe78c40c8f91579a960a70ebbaa5", func := "glissade/glissadelaw02.SumsJoins", spec := "sumsJoins", named := ["glissade/sums.halves"], apart := false, laid := [("glissade/sums.halves", laid_glissade_sums_halves)] }
def SumsJoinsSaid : Prop := sumsJoinsRow.holds Tryd.pinned (OpenSpec.ofChange sumsJoinsSpec)

/-- ITS FALSE NEIGHBOUR: 'it returns false'. Refute it at one input. -/
def sumsJoinsWrong : ChangeSpec := { name := "sumsJoins", fn := fun _ => fun
  | [d1, d2, d3] => { results := [.lit (.bool false)], args := [d1, d2, d3] }
  | _ => none }
def SumsJoinsWrongFalsely : Prop := sumsJoinsRow.holds Tryd.pinned (OpenSpec.ofChange sumsJoinsWrong)

/-- 'glissadelaw02.SumsCut': WHATEVER THE INPUT: true; the input reads as it did. -/
def sumsCutSpec : ChangeSpec := { name := "sumsCut", fn := fun _ => fun
  | [d1, d2] => { results := [.lit (.bool true)], args := [d1, d2] }
  | _ => none }
def sumsCutRow : OpenClaim := { program := "ytelnmkgilnkliaadoor", sum := "c05f0f38271893a81247c45587a32513aa84fe78c40c8f91579a960a70ebbaa5", func := "glissade/glissadelaw02.SumsCut", spec := "sumsCut", named := ["glissade/sums.halves"], apart := false, laid := [("glissade/sums.halves", laid_glissade_sums_halves)] }
def SumsCutSaid : Prop := sumsCutRow.holds Tryd.pinned (OpenSpec.ofChange sumsCutSpec)

/-- ITS FALSE NEIGHBOUR: 'it returns false'. Refute it at one input. -/
def sumsCutWrong : ChangeSpec := { name := "sumsCut", fn := fun _ => fun
  | [d1, d2] => { results := [.lit (.bool false)], args := [d1, d2] }
  | _ => none }
def SumsCutWrongFalsely : Prop := sumsCutRow.holds Tryd.pinned (OpenSpec.ofChange sumsCutWrong)

/-- 'glissadelaw02.SumsThree': WHATEVER THE INPUT: true; the input reads as it did. -/
def sumsThreeSpec : ChangeSpec := { name := "sumsThree", fn := fun _ => fun
  | [d1, d2, d3] => { results := [.lit (.bool true)], args := [d1, d2, d3] }
  | _ => none }
def sumsThreeRow : OpenClaim := { program := "ytelnmkgilnkliaadoor", sum := "c05f0f38271893a81247c45587a32513aa84fe78c40c8f91579a960a70ebbaa5", func := "glissade/glissadelaw02.SumsThree", spec := "sumsThree", named := ["glissade/sums.halves"], apart := false, laid := [("glissade/sums.halves", laid_glissade_sums_halves)] }
def SumsThreeSaid : Prop := sumsThreeRow.holds Tryd.pinned (OpenSpec.ofChange sumsThreeSpec)

/-- ITS FALSE NEIGHBOUR: 'it returns false'. Refute it at one input. -/
def sumsThreeWrong : ChangeSpec := { name := "sumsThree", fn := fun _ => fun
  | [d1, d2, d3] => { results := [.lit (.bool false)], args := [d1, d2, d3] }
  | _ => none }
def SumsThreeWrongFalsely : Prop := sumsThreeRow.holds Tryd.pinned (OpenSpec.ofChange sumsThreeWrong)

/-- 'glissadelaw02.SumsXor': WHATEVER THE INPUT: true; the input reads as it did. -/
def sumsXorSpec : ChangeSpec := { name := "sumsXor", fn := fun _ => fun
  | [d] => { results := [.lit (.bool true)], args := [d] }
  | _ => none }
def sumsXorRow : OpenClaim := { program := "ytelnmkgilnkliaadoor", sum := "c05f0f38271893a81247c45587a32513aa84fe78c40c8f91579a960a70ebbaa5", func := "glissade/glissadelaw02.SumsXor", spec := "sumsXor", named := ["glissade/sums.halves"], apart := false, laid := [("glissade/sums.halves", laid_glissade_sums_halves)] }
def SumsXorSaid : Prop := sumsXorRow.holds Tryd.pinned (OpenSpec.ofChange sumsXorSpec)

/-- ITS FALSE NEIGHBOUR: 'it returns false'. Refute it at one input. -/
def sumsXorWrong : ChangeSpec := { name := "sumsXor", fn := fun _ => fun
  | [d] => { results := [.lit (.bool false)], args := [d] }
  | _ => none }
def SumsXorWrongFalsely : Prop := sumsXorRow.holds Tryd.pinned (OpenSpec.ofChange sumsXorWrong)

/-- 'glissadelaw02.SumsBurst': WHATEVER THE INPUT: true; the input reads as it did. -/
def sumsBurstSpec : ChangeSpec := { name := "sumsBurst", fn := fun _ => fun
  | [d1, d2, d3] => { results := [.lit (.bool true)], args := [d1, d2, d3] }
  | _ => none }
def sumsBurstRow : OpenClaim := { program := "ytelnmkgilnkliaadoor", sum := "c05f0f38271893a81247c45587a32513aa84fe78c40c8f91579a960a70ebbaa5", func := "glissade/glissadelaw02.SumsBurst", spec := "sumsBurst", named := ["glissade/sums.halves"], apart := false, laid := [("glissade/sums.halves", laid_glissade_sums_halves)] }
def SumsBurstSaid : Prop := sumsBurstRow.holds Tryd.pinned (OpenSpec.ofChange sumsBurstSpec)

/-- ITS FALSE NEIGHBOUR: 'it returns false'. Refute it at one input. -/
def sumsBurstWrong : ChangeSpec := { name := "sumsBurst", fn := fun _ => fun
  | [d1, d2, d3] => { results := [.lit (.bool false)], args := [d1, d2, d3] }
  | _ => none }
def SumsBurstWrongFalsely : Prop := sumsBurstRow.holds Tryd.pinned (OpenSpec.ofChange sumsBurstWrong)

/-- 'glissadelaw02.SumsNothing': WHATEVER THE INPUT: true; the input reads as it did. -/
def sumsNothingSpec : ChangeSpec := { name := "sumsNothing", fn := fun _ => fun
  | [d1, d2, d3] => { results := [.lit (.bool true)], args := [d1, d2, d3] }
  | _ => none }
def sumsNothingRow : OpenClaim := { program := "ytelnmkgilnkliaadoor", sum := "c05f0f38271893a81247c45587a32513aa84fe78c40c8f91579a960a70ebbaa5", func := "glissade/glissadelaw02.SumsNothing", spec := "sumsNothing", named := ["glissade/sums.halves"], apart := false, laid := [("glissade/sums.halves", laid_glissade_sums_halves)] }
def SumsNothingSaid : Prop := sumsNothingRow.holds Tryd.pinned (OpenSpec.ofChange sumsNothingSpec)

/-- ITS FALSE NEIGHBOUR: 'it returns false'. Refute it at one input. -/
def sumsNothingWrong : ChangeSpec := { name := "sumsNothing", fn := fun _ => fun
  | [d1, d2, d3] => { results := [.lit (.bool false)], args := [d1, d2, d3] }
  | _ => none }
def SumsNothingWrongFalsely : Prop := sumsNothingRow.holds Tryd.pinned (OpenSpec.ofChange sumsNothingWrong)

/- THE SECOND FORM. 'bulk': how many values and letters a reading holds, each counted each time it is reached (what is shared counts as often as it is met; a slice's spare places count too). A statement '..UptoSaid' is the law's where the arguments, and the package variables that the reading takes, are together of bulk at most 1048576: NARROWER than '..Said'. Prove '..Said' where nothing that the law and all that it calls make is longer than what came in: it says more and counts as full. Else prove '..UptoSaid'. A law counts once. -/
mutual
def uptoBulk {H : Type} : DataW H → Nat
  | .lit (.string bytes) => bytes.length + 1
  | .lit _ => 1
  | .nil => 1
  | .ptr d => uptoBulk d + 1
  | .slice elems spare => uptoBulkAll elems + uptoBulkAll spare + 1
  | .agg parts => uptoBulkAll parts + 1
  | .iface _ d => uptoBulk d + 1
  | .map entries => uptoBulkEntries entries + 1
  | .held _ => 1
def uptoBulkAll {H : Type} : List (DataW H) → Nat
  | [] => 0
  | d :: r => uptoBulk d + uptoBulkAll r
def uptoBulkEntries {H : Type} : List (Lit × DataW H) → Nat
  | [] => 0
  | x :: r => uptoBulkEntry x + uptoBulkEntries r
def uptoBulkEntry {H : Type} : Lit × DataW H → Nat
  | (.string bytes, d) => bytes.length + uptoBulk d + 1
  | (_, d) => uptoBulk d + 1
 end
def uptoSmall : (H : Type) → List (DataW H) → Bool := fun _ ds => decide (uptoBulkAll ds ≤ 1048576)
def OpenSpec.upto (s : _root_.Go.ChangeSpec) : _root_.Go.OpenSpec := { _root_.Go.OpenSpec.ofChange s with cond := some uptoSmall }

/-- 'glissadelaw02.SumsOf', WHERE WHAT IT READS IS OF BULK AT MOST 1048576: true; the input reads as it did. -/
def sumsOfUptoRow : OpenClaim := { program := "ytelnmkgilnkliaadoor", sum := "c05f0f38271893a81247c45587a32513aa84fe78c40c8f91579a960a70ebbaa5", func := "glissade/glissadelaw02.SumsOf", spec := "sumsOf", named := ["glissade/sums.halves"], apart := false, laid := [("glissade/sums.halves", laid_glissade_sums_halves)], narrowed := true }
def SumsOfUptoSaid : Prop := sumsOfUptoRow.holds Tryd.pinned (OpenSpec.upto sumsOfSpec)

/-- 'glissadelaw02.SumsJoins', WHERE WHAT IT READS IS OF BULK AT MOST 1048576: true; the input reads as it did. -/
def sumsJoinsUptoRow : OpenClaim := { program := "ytelnmkgilnkliaadoor", sum := "c05f0f38271893a81247c45587a32513aa84fe78c40c8f91579a960a70ebbaa5", func := "glissade/glissadelaw02.SumsJoins", spec := "sumsJoins", named := ["glissade/sums.halves"], apart := false, laid := [("glissade/sums.halves", laid_glissade_sums_halves)], narrowed := true }
def SumsJoinsUptoSaid : Prop := sumsJoinsUptoRow.holds Tryd.pinned (OpenSpec.upto sumsJoinsSpec)

/-- 'glissadelaw02.SumsCut', WHERE WHAT IT READS IS OF BULK AT MOST 1048576: true; the input reads as it did. -/
def sumsCutUptoRow : OpenClaim := { program := "ytelnmkgilnkliaadoor", sum := "c05f0f38271893a81247c45587a32513aa84fe78c40c8f91579a960a70ebbaa5", func := "glissade/glissadelaw02.SumsCut", spec := "sumsCut", named := ["glissade/sums.halves"], apart := false, laid := [("glissade/sums.halves", laid_glissade_sums_halves)], narrowed := true }
def SumsCutUptoSaid : Prop := sumsCutUptoRow.holds Tryd.pinned (OpenSpec.upto sumsCutSpec)

/-- 'glissadelaw02.SumsThree', WHERE WHAT IT READS IS OF BULK AT MOST 1048576: true; the input reads as it did. -/
def sumsThreeUptoRow : OpenClaim := { program := "ytelnmkgilnkliaadoor", sum := "c05f0f38271893a81247c45587a32513aa84fe78c40c8f91579a960a70ebbaa5", func := "glissade/glissadelaw02.SumsThree", spec := "sumsThree", named := ["glissade/sums.halves"], apart := false, laid := [("glissade/sums.halves", laid_glissade_sums_halves)], narrowed := true }
def SumsThreeUptoSaid : Prop := sumsThreeUptoRow.holds Tryd.pinned (OpenSpec.upto sumsThreeSpec)

/-- 'glissadelaw02.SumsXor', WHERE WHAT IT READS IS OF BULK AT MOST 1048576: true; the input reads as it did. -/
def sumsXorUptoRow : OpenClaim := { program := "ytelnmkgilnkliaadoor", sum := "c05f0f38271893a81247c45587a32513aa84fe78c40c8f91579a960a70ebbaa5", func := "glissade/glissadelaw02.SumsXor", spec := "sumsXor", named := ["glissade/sums.halves"], apart := false, laid := [("glissade/sums.halves", laid_glissade_sums_halves)], narrowed := true }
def SumsXorUptoSaid : Prop := sumsXorUptoRow.holds Tryd.pinned (OpenSpec.upto sumsXorSpec)

/-- 'glissadelaw02.SumsBurst', WHERE WHAT IT READS IS OF BULK AT MOST 1048576: true; the input reads as it did. -/
def sumsBurstUptoRow : OpenClaim := { program := "ytelnmkgilnkliaadoor", sum := "c05f0f38271893a81247c45587a32513aa84fe78c40c8f91579a960a70ebbaa5", func := "glissade/glissadelaw02.SumsBurst", spec := "sumsBurst", named := ["glissade/sums.halves"], apart := false, laid := [("glissade/sums.halves", laid_glissade_sums_halves)], narrowed := true }
def SumsBurstUptoSaid : Prop := sumsBurstUptoRow.holds Tryd.pinned (OpenSpec.upto sumsBurstSpec)

/-- 'glissadelaw02.SumsNothing', WHERE WHAT IT READS IS OF BULK AT MOST 1048576: true; the input reads as it did. -/
def sumsNothingUptoRow : OpenClaim := { program := "ytelnmkgilnkliaadoor", sum := "c05f0f38271893a81247c45587a32513aa84fe78c40c8f91579a960a70ebbaa5", func := "glissade/glissadelaw02.SumsNothing", spec := "sumsNothing", named := ["glissade/sums.halves"], apart := false, laid := [("glissade/sums.halves", laid_glissade_sums_halves)], narrowed := true }
def SumsNothingUptoSaid : Prop := sumsNothingUptoRow.holds Tryd.pinned (OpenSpec.upto sumsNothingSpec)

end Rows
end Go.Proofs.YtelnmkgilnkliaaDoor
