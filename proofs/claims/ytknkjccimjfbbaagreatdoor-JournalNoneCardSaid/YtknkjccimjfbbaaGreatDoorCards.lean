/-
  DERIVED. GIVEN WITH THE SEED: THE CARDS: each row of YtknkjccimjfbbaaGreatDoorRows.lean that lists a variable, with what it lists TIED to the program's text (the seventh form; the later family's looks); each row that meets fmt, with fmt's text TOLD by the authors' own Lean function (tested against real Go, not proved from fmt's source: count such statements apart). THE CARD IS WHAT COUNTS. Prove the row's statement (the work); the ties are given (YtknkjccimjfbbaaGreatDoorTie.lean); close each card by the builder's one call (the guide's Derived/Test/ToyasCard.lean, 'card_holds'). Laid BY PROGRAM, IN A SANDBOX (cutbox-door.mjs). By AI agents, Wed Nov 11 2026. No macro, syntax, notation, axiom, sorry.
-/
import Derived.Test.YtknkjccimjfbbaaGreatDoorRows
import GoSem.ClaimSeven
namespace Go.Proofs.YtknkjccimjfbbaaGreatDoor
namespace Rows

/-- THE TIED CARD OF 'glissadelaw09.JournalSizes'. -/
def journalSizesCard : Claim7 := { stood := { row := journalSizesRow, standIns := [], harness := (true, "732e37b82869e200c61f1a39ae8f94e046ea985b1ade7e4f834acd2e0bbaf2fa"), looks := false }, kinds := [], alts := [], laidByText := true, laidKinds := [.data], laidTests := true, laidLooks := .later }
def JournalSizesCardSaid : Prop := Claim7.holds Tryz.pinned (.plain (OpenSpec.ofChange journalSizesSpec)) journalSizesCard

/-- THE TIED CARD OF 'glissadelaw09.JournalNone'. -/
def journalNoneCard : Claim7 := { stood := { row := journalNoneRow, standIns := [], harness := (true, "732e37b82869e200c61f1a39ae8f94e046ea985b1ade7e4f834acd2e0bbaf2fa"), looks := false }, kinds := [], alts := [], laidByText := true, laidKinds := [.data], laidTests := true, laidLooks := .later }
def JournalNoneCardSaid : Prop := Claim7.holds Tryz.pinned (.plain (OpenSpec.ofChange journalNoneSpec)) journalNoneCard

/-- THE SECOND FORM's CARD OF 'glissadelaw09.JournalSizes'. -/
def journalSizesUptoCard : Claim7 := { stood := { row := journalSizesUptoRow, standIns := [], harness := (true, "732e37b82869e200c61f1a39ae8f94e046ea985b1ade7e4f834acd2e0bbaf2fa"), looks := false }, kinds := [], alts := [], laidByText := true, laidKinds := [.data], laidTests := true, laidLooks := .later }
def JournalSizesUptoCardSaid : Prop := Claim7.holds Tryz.pinned (.plain (OpenSpec.upto journalSizesSpec)) journalSizesUptoCard

/-- THE SECOND FORM's CARD OF 'glissadelaw09.JournalNone'. -/
def journalNoneUptoCard : Claim7 := { stood := { row := journalNoneUptoRow, standIns := [], harness := (true, "732e37b82869e200c61f1a39ae8f94e046ea985b1ade7e4f834acd2e0bbaf2fa"), looks := false }, kinds := [], alts := [], laidByText := true, laidKinds := [.data], laidTests := true, laidLooks := .later }
def JournalNoneUptoCardSaid : Prop := Claim7.holds Tryz.pinned (.plain (OpenSpec.upto journalNoneSpec)) journalNoneUptoCard
end Rows
end Go.Proofs.YtknkjccimjfbbaaGreatDoor
