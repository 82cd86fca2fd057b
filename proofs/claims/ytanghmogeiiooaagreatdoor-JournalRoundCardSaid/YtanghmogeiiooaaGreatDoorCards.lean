/-
  DERIVED. GIVEN WITH THE SEED: THE CARDS: each row of YtanghmogeiiooaaGreatDoorRows.lean that lists a variable, with what it lists TIED to the program's text (the seventh form; the later family's looks); each row that meets fmt, with fmt's text TOLD by the authors' own Lean function (tested against real Go, not proved from fmt's source: count such statements apart). THE CARD IS WHAT COUNTS. Prove the row's statement (the work); the ties are given (YtanghmogeiiooaaGreatDoorTie.lean); close each card by the builder's one call (the guide's Derived/Test/ToyasCard.lean, 'card_holds'). Laid BY PROGRAM, IN A SANDBOX (cutbox-door.mjs). By AI agents, Wed Nov 11 2026. No macro, syntax, notation, axiom, sorry.
-/
import Derived.Test.YtanghmogeiiooaaGreatDoorRows
import GoSem.ClaimSeven
namespace Go.Proofs.YtanghmogeiiooaaGreatDoor
namespace Rows

/-- THE TIED CARD OF 'glissadelaw09.JournalPower'. -/
def journalPowerCard : Claim7 := { stood := { row := journalPowerRow, standIns := [], harness := (true, "0f977eda2ec8c23f52ed6dc6bb9970da13cdb27fd3213cb1852dca33cf662e48"), looks := false }, kinds := [], alts := [], laidByText := true, laidKinds := [.data], laidTests := true, laidLooks := .later }
def JournalPowerCardSaid : Prop := Claim7.holds Tryz.pinned (.plain (OpenSpec.ofChange journalPowerSpec)) journalPowerCard

/-- THE TIED CARD OF 'glissadelaw09.JournalTries'. -/
def journalTriesCard : Claim7 := { stood := { row := journalTriesRow, standIns := [], harness := (true, "0f977eda2ec8c23f52ed6dc6bb9970da13cdb27fd3213cb1852dca33cf662e48"), looks := false }, kinds := [], alts := [], laidByText := true, laidKinds := [.data], laidTests := true, laidLooks := .later }
def JournalTriesCardSaid : Prop := Claim7.holds Tryz.pinned (.plain (OpenSpec.ofChange journalTriesSpec)) journalTriesCard

/-- THE TIED CARD OF 'glissadelaw09.JournalTwice'. -/
def journalTwiceCard : Claim7 := { stood := { row := journalTwiceRow, standIns := [], harness := (true, "0f977eda2ec8c23f52ed6dc6bb9970da13cdb27fd3213cb1852dca33cf662e48"), looks := false }, kinds := [], alts := [], laidByText := true, laidKinds := [.data], laidTests := true, laidLooks := .later }
def JournalTwiceCardSaid : Prop := Claim7.holds Tryz.pinned (.plain (OpenSpec.ofChange journalTwiceSpec)) journalTwiceCard

/-- THE TIED CARD OF 'glissadelaw09.JournalRound'. -/
def journalRoundCard : Claim7 := { stood := { row := journalRoundRow, standIns := [], harness := (true, "0f977eda2ec8c23f52ed6dc6bb9970da13cdb27fd3213cb1852dca33cf662e48"), looks := false }, kinds := [], alts := [], laidByText := true, laidKinds := [.data], laidTests := true, laidLooks := .later }
def JournalRoundCardSaid : Prop := Claim7.holds Tryz.pinned (.plain (OpenSpec.ofChange journalRoundSpec)) journalRoundCard

/-- THE SECOND FORM's CARD OF 'glissadelaw09.JournalPower'. -/
def journalPowerUptoCard : Claim7 := { stood := { row := journalPowerUptoRow, standIns := [], harness := (true, "0f977eda2ec8c23f52ed6dc6bb9970da13cdb27fd3213cb1852dca33cf662e48"), looks := false }, kinds := [], alts := [], laidByText := true, laidKinds := [.data], laidTests := true, laidLooks := .later }
def JournalPowerUptoCardSaid : Prop := Claim7.holds Tryz.pinned (.plain (OpenSpec.upto journalPowerSpec)) journalPowerUptoCard

/-- THE SECOND FORM's CARD OF 'glissadelaw09.JournalTries'. -/
def journalTriesUptoCard : Claim7 := { stood := { row := journalTriesUptoRow, standIns := [], harness := (true, "0f977eda2ec8c23f52ed6dc6bb9970da13cdb27fd3213cb1852dca33cf662e48"), looks := false }, kinds := [], alts := [], laidByText := true, laidKinds := [.data], laidTests := true, laidLooks := .later }
def JournalTriesUptoCardSaid : Prop := Claim7.holds Tryz.pinned (.plain (OpenSpec.upto journalTriesSpec)) journalTriesUptoCard

/-- THE SECOND FORM's CARD OF 'glissadelaw09.JournalTwice'. -/
def journalTwiceUptoCard : Claim7 := { stood := { row := journalTwiceUptoRow, standIns := [], harness := (true, "0f977eda2ec8c23f52ed6dc6bb9970da13cdb27fd3213cb1852dca33cf662e48"), looks := false }, kinds := [], alts := [], laidByText := true, laidKinds := [.data], laidTests := true, laidLooks := .later }
def JournalTwiceUptoCardSaid : Prop := Claim7.holds Tryz.pinned (.plain (OpenSpec.upto journalTwiceSpec)) journalTwiceUptoCard

/-- THE SECOND FORM's CARD OF 'glissadelaw09.JournalRound'. -/
def journalRoundUptoCard : Claim7 := { stood := { row := journalRoundUptoRow, standIns := [], harness := (true, "0f977eda2ec8c23f52ed6dc6bb9970da13cdb27fd3213cb1852dca33cf662e48"), looks := false }, kinds := [], alts := [], laidByText := true, laidKinds := [.data], laidTests := true, laidLooks := .later }
def JournalRoundUptoCardSaid : Prop := Claim7.holds Tryz.pinned (.plain (OpenSpec.upto journalRoundSpec)) journalRoundUptoCard
end Rows
end Go.Proofs.YtanghmogeiiooaaGreatDoor
