/-
  NARROWER THAN 'FOR EVERY INPUT', by the rows' own cells (each row's printed sentence says how): JournalPower: laid · JournalTries: laid · JournalTwice: laid · JournalRound: laid.
  DERIVED. THE GIVEN ROWS OF THIS SEAT. 4 by the template 'for every input the law returns true; each argument reads behind the call as it read before'; 0 by the template 'total and deterministic' (their statements: YtanghmogeiiooaaGreatDoorTotals.lean).
  GIVEN WITH THE SEED: the statements are not yours to turn. If you find one false, say at which input.
  Laid BY PROGRAM, IN A SANDBOX (cutbox-rows.mjs): the forced cells as the released guide's own fill.sh prints them over the translation 58d8fdc7a740c6f1… (all of the seat's roots in one cut). By AI agents, Wed Nov 11 2026. No macro, syntax, notation, axiom, sorry.
-/
import Derived.Test.YtanghmogeiiooaaGreatDoorChecked
import GoSem.Claim
import GoSem.ClaimJoined
import GoSem.ClaimMapViews
import Derived.JoinedTies
import Derived.KernelRfl
namespace Go.Proofs.YtanghmogeiiooaaGreatDoor
/- THE CELL 'sum', in the pinned program and in every row, IS THE sha256 OF THE DUMP (.gsa) THAT YtanghmogeiiooaaGreatDoorProg.lean LOADS. Nothing in Lean hashes anything: it is a label: what it is worth is what the hold of that sum in a sandbox is worth. -/
noncomputable def Tryz.pinned : Pinned := { name := "ytanghmogeiiooaagreatdoor", sum := "58d8fdc7a740c6f19ddb430244eafa22802fc5675cc8dd6b49812ebcb74f20a0", checked := Tryz.checked }
namespace Rows
def none {H : Type} : Left H := { results := [], args := [] }

/- WHAT THE LISTED PACKAGE-LEVEL VARIABLES READ AS WHEN THE CALL BEGINS. Each datum BY PROGRAM (the guide's laid-datum.mjs) off the statement by which the dump's own 'gosem.cut.vars' lays the variable. In a bare row this is a premise. The card (YtanghmogeiiooaaGreatDoorCards.lean) ties it to the program's text. -/
def laid_glissade_sums_halves {H : Type} : DataW H := .agg [.lit (.int .u32 0), .lit (.int .u32 498536548), .lit (.int .u32 997073096), .lit (.int .u32 651767980), .lit (.int .u32 1994146192), .lit (.int .u32 1802195444), .lit (.int .u32 1303535960), .lit (.int .u32 1342533948), .lit (.int .u32 3988292384), .lit (.int .u32 4027552580), .lit (.int .u32 3604390888), .lit (.int .u32 3412177804), .lit (.int .u32 2607071920), .lit (.int .u32 2262029012), .lit (.int .u32 2685067896), .lit (.int .u32 3183342108)]

/-- 'glissadelaw09.JournalPower': WHATEVER THE INPUT: true; the input reads as it did. -/
def journalPowerSpec : ChangeSpec := { name := "journalPower", fn := fun _ => fun
  | [d1, d2, d3] => { results := [.lit (.bool true)], args := [d1, d2, d3] }
  | _ => none }
def journalPowerRow : OpenClaim := { program := "ytanghmogeiiooaagreatdoor", sum := "58d8fdc7a740c6f19ddb430244eafa22802fc5675cc8dd6b49812ebcb74f20a0", func := "glissade/glissadelaw09.JournalPower", spec := "journalPower", inPlace := ["internal/abi.NoEscape", "internal/bytealg.MakeNoZero"], unfollowed := true, recurses := true, named := ["glissade/sums.halves"], apart := false, laid := [("glissade/sums.halves", laid_glissade_sums_halves)] }
def JournalPowerSaid : Prop := journalPowerRow.holds Tryz.pinned (OpenSpec.ofChange journalPowerSpec)

/-- ITS FALSE NEIGHBOUR: 'it returns false'. Refute it at one input. -/
def journalPowerWrong : ChangeSpec := { name := "journalPower", fn := fun _ => fun
  | [d1, d2, d3] => { results := [.lit (.bool false)], args := [d1, d2, d3] }
  | _ => none }
def JournalPowerWrongFalsely : Prop := journalPowerRow.holds Tryz.pinned (OpenSpec.ofChange journalPowerWrong)

/-- 'glissadelaw09.JournalTries': WHATEVER THE INPUT: true; the input reads as it did. -/
def journalTriesSpec : ChangeSpec := { name := "journalTries", fn := fun _ => fun
  | [d1, d2, d3] => { results := [.lit (.bool true)], args := [d1, d2, d3] }
  | _ => none }
def journalTriesRow : OpenClaim := { program := "ytanghmogeiiooaagreatdoor", sum := "58d8fdc7a740c6f19ddb430244eafa22802fc5675cc8dd6b49812ebcb74f20a0", func := "glissade/glissadelaw09.JournalTries", spec := "journalTries", inPlace := ["internal/abi.NoEscape", "internal/bytealg.MakeNoZero"], unfollowed := true, recurses := true, named := ["glissade/sums.halves"], apart := false, laid := [("glissade/sums.halves", laid_glissade_sums_halves)] }
def JournalTriesSaid : Prop := journalTriesRow.holds Tryz.pinned (OpenSpec.ofChange journalTriesSpec)

/-- ITS FALSE NEIGHBOUR: 'it returns false'. Refute it at one input. -/
def journalTriesWrong : ChangeSpec := { name := "journalTries", fn := fun _ => fun
  | [d1, d2, d3] => { results := [.lit (.bool false)], args := [d1, d2, d3] }
  | _ => none }
def JournalTriesWrongFalsely : Prop := journalTriesRow.holds Tryz.pinned (OpenSpec.ofChange journalTriesWrong)

/-- 'glissadelaw09.JournalTwice': WHATEVER THE INPUT: true; the input reads as it did. -/
def journalTwiceSpec : ChangeSpec := { name := "journalTwice", fn := fun _ => fun
  | [d1, d2, d3] => { results := [.lit (.bool true)], args := [d1, d2, d3] }
  | _ => none }
def journalTwiceRow : OpenClaim := { program := "ytanghmogeiiooaagreatdoor", sum := "58d8fdc7a740c6f19ddb430244eafa22802fc5675cc8dd6b49812ebcb74f20a0", func := "glissade/glissadelaw09.JournalTwice", spec := "journalTwice", inPlace := ["internal/abi.NoEscape", "internal/bytealg.MakeNoZero"], unfollowed := true, recurses := true, named := ["glissade/sums.halves"], apart := false, laid := [("glissade/sums.halves", laid_glissade_sums_halves)] }
def JournalTwiceSaid : Prop := journalTwiceRow.holds Tryz.pinned (OpenSpec.ofChange journalTwiceSpec)

/-- ITS FALSE NEIGHBOUR: 'it returns false'. Refute it at one input. -/
def journalTwiceWrong : ChangeSpec := { name := "journalTwice", fn := fun _ => fun
  | [d1, d2, d3] => { results := [.lit (.bool false)], args := [d1, d2, d3] }
  | _ => none }
def JournalTwiceWrongFalsely : Prop := journalTwiceRow.holds Tryz.pinned (OpenSpec.ofChange journalTwiceWrong)

/-- 'glissadelaw09.JournalRound': WHATEVER THE INPUT: true; the input reads as it did. -/
def journalRoundSpec : ChangeSpec := { name := "journalRound", fn := fun _ => fun
  | [d1, d2] => { results := [.lit (.bool true)], args := [d1, d2] }
  | _ => none }
def journalRoundRow : OpenClaim := { program := "ytanghmogeiiooaagreatdoor", sum := "58d8fdc7a740c6f19ddb430244eafa22802fc5675cc8dd6b49812ebcb74f20a0", func := "glissade/glissadelaw09.JournalRound", spec := "journalRound", inPlace := ["internal/abi.NoEscape", "internal/bytealg.MakeNoZero"], unfollowed := true, recurses := true, named := ["glissade/sums.halves"], apart := false, laid := [("glissade/sums.halves", laid_glissade_sums_halves)] }
def JournalRoundSaid : Prop := journalRoundRow.holds Tryz.pinned (OpenSpec.ofChange journalRoundSpec)

/-- ITS FALSE NEIGHBOUR: 'it returns false'. Refute it at one input. -/
def journalRoundWrong : ChangeSpec := { name := "journalRound", fn := fun _ => fun
  | [d1, d2] => { results := [.lit (.bool false)], args := [d1, d2] }
  | _ => none }
def JournalRoundWrongFalsely : Prop := journalRoundRow.holds Tryz.pinned (OpenSpec.ofChange journalRoundWrong)

/- THE SECOND FORM. 'bulk': how many values and letters a reading holds, each counted each time it is reached (what is shared counts as often as it is met; a slice's spare places count too). A statement '..UptoSaid' is the law's where the arguments, and the package variables that the reading takes, are together of bulk at most 1048576: NARROWER than '..Said'. Prove '..Said' where nothing that the law and all that it calls make is longer than what came in: it says more and counts as full. Else prove '..UptoSaid'. A law counts once. -/
mutual
def uptoBulk {H : Type} : DataW H → Nat
  | .lit (.string bytes) => bytes.length + 1
  | .lit _ => 1
  | .nil => 1
  | .ptr d => uptoBulk d + 1
  | .slice elems spare => uptoBulkAll elems + uptoBulkAll spare + 1
  | .agg parts => uptoBulkAll parts + 1
  | .iface _ d => uptoBulk d + 1
  | .map entries => uptoBulkEntries entries + 1
  | .held _ => 1
def uptoBulkAll {H : Type} : List (DataW H) → Nat
  | [] => 0
  | d :: r => uptoBulk d + uptoBulkAll r
def uptoBulkEntries {H : Type} : List (Lit × DataW H) → Nat
  | [] => 0
  | x :: r => uptoBulkEntry x + uptoBulkEntries r
def uptoBulkEntry {H : Type} : Lit × DataW H → Nat
  | (.string bytes, d) => bytes.length + uptoBulk d + 1
  | (_, d) => uptoBulk d + 1
 end
def uptoSmall : (H : Type) → List (DataW H) → Bool := fun _ ds => decide (uptoBulkAll ds ≤ 1048576)
def OpenSpec.upto (s : _root_.Go.ChangeSpec) : _root_.Go.OpenSpec := { _root_.Go.OpenSpec.ofChange s with cond := some uptoSmall }

/-- 'glissadelaw09.JournalPower', WHERE WHAT IT READS IS OF BULK AT MOST 1048576: true; the input reads as it did. -/
def journalPowerUptoRow : OpenClaim := { program := "ytanghmogeiiooaagreatdoor", sum := "58d8fdc7a740c6f19ddb430244eafa22802fc5675cc8dd6b49812ebcb74f20a0", func := "glissade/glissadelaw09.JournalPower", spec := "journalPower", inPlace := ["internal/abi.NoEscape", "internal/bytealg.MakeNoZero"], unfollowed := true, recurses := true, named := ["glissade/sums.halves"], apart := false, laid := [("glissade/sums.halves", laid_glissade_sums_halves)], narrowed := true }
def JournalPowerUptoSaid : Prop := journalPowerUptoRow.holds Tryz.pinned (OpenSpec.upto journalPowerSpec)

/-- 'glissadelaw09.JournalTries', WHERE WHAT IT READS IS OF BULK AT MOST 1048576: true; the input reads as it did. -/
def journalTriesUptoRow : OpenClaim := { program := "ytanghmogeiiooaagreatdoor", sum := "58d8fdc7a740c6f19ddb430244eafa22802fc5675cc8dd6b49812ebcb74f20a0", func := "glissade/glissadelaw09.JournalTries", spec := "journalTries", inPlace := ["internal/abi.NoEscape", "internal/bytealg.MakeNoZero"], unfollowed := true, recurses := true, named := ["glissade/sums.halves"], apart := false, laid := [("glissade/sums.halves", laid_glissade_sums_halves)], narrowed := true }
def JournalTriesUptoSaid : Prop := journalTriesUptoRow.holds Tryz.pinned (OpenSpec.upto journalTriesSpec)

/-- 'glissadelaw09.JournalTwice', WHERE WHAT IT READS IS OF BULK AT MOST 1048576: true; the input reads as it did. -/
def journalTwiceUptoRow : OpenClaim := { program := "ytanghmogeiiooaagreatdoor", sum := "58d8fdc7a740c6f19ddb430244eafa22802fc5675cc8dd6b49812ebcb74f20a0", func := "glissade/glissadelaw09.JournalTwice", spec := "journalTwice", inPlace := ["internal/abi.NoEscape", "internal/bytealg.MakeNoZero"], unfollowed := true, recurses := true, named := ["glissade/sums.halves"], apart := false, laid := [("glissade/sums.halves", laid_glissade_sums_halves)], narrowed := true }
def JournalTwiceUptoSaid : Prop := journalTwiceUptoRow.holds Tryz.pinned (OpenSpec.upto journalTwiceSpec)

/-- 'glissadelaw09.JournalRound', WHERE WHAT IT READS IS OF BULK AT MOST 1048576: true; the input reads as it did. -/
def journalRoundUptoRow : OpenClaim := { program := "ytanghmogeiiooaagreatdoor", sum := "58d8fdc7a740c6f19ddb430244eafa22802fc5675cc8dd6b49812ebcb74f20a0", func := "glissade/glissadelaw09.JournalRound", spec := "journalRound", inPlace := ["internal/abi.NoEscape", "internal/bytealg.MakeNoZero"], unfollowed := true, recurses := true, named := ["glissade/sums.halves"], apart := false, laid := [("glissade/sums.halves", laid_glissade_sums_halves)], narrowed := true }
def JournalRoundUptoSaid : Prop := journalRoundUptoRow.holds Tryz.pinned (OpenSpec.upto journalRoundSpec)

end Rows
end Go.Proofs.YtanghmogeiiooaaGreatDoor
