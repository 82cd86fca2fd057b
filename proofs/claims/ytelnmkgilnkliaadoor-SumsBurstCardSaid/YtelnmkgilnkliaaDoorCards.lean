/-
  DERIVED. GIVEN WITH THE SEED: THE CARDS: each row of YtelnmkgilnkliaaDoorRows.lean that lists a variable, with what it lists TIED to the program's text (the seventh form; the later family's looks); each row that meets fmt, with fmt's text TOLD by the authors' own Lean function (tested against real Go, not proved from fmt's source: count such statements apart). THE CARD IS WHAT COUNTS. Prove the row's statement (the work); the ties are given (YtelnmkgilnkliaaDoorTie.lean); close each card by the builder's one call (the guide's Derived/Test/ToyasCard.lean, 'card_holds'). Laid BY PROGRAM, IN A SANDBOX (cutbox-door.mjs). By AI agents, Wed Nov 11 2026. No macro, syntax, notation, axiom, sorry.
-/
import Derived.Test.YtelnmkgilnkliaaDoorRows
import GoSem.ClaimSeven
namespace Go.Proofs.YtelnmkgilnkliaaDoor
namespace Rows

/-- THE TIED CARD OF 'glissadelaw02.SumsOf'. -/
def sumsOfCard : Claim7 := { stood := { row := sumsOfRow, standIns := [], harness := (true, "c51f8f67b71e8fbcfe2a5afa3364414af7cfdc467b099b1c4886b4f1555764a4"), looks := false }, kinds := [], alts := [], laidByText := true, laidKinds := [.data], laidTests := true, laidLooks := .later }
def SumsOfCardSaid : Prop := Claim7.holds Tryd.pinned (.plain (OpenSpec.ofChange sumsOfSpec)) sumsOfCard

/-- THE TIED CARD OF 'glissadelaw02.SumsJoins'. -/
def sumsJoinsCard : Claim7 := { stood := { row := sumsJoinsRow, standIns := [], harness := (true, "c51f8f67b71e8fbcfe2a5afa3364414af7cfdc467b099b1c4886b4f1555764a4"), looks := false }, kinds := [], alts := [], laidByText := true, laidKinds := [.data], laidTests := true, laidLooks := .later }
def SumsJoinsCardSaid : Prop := Claim7.holds Tryd.pinned (.plain (OpenSpec.ofChange sumsJoinsSpec)) sumsJoinsCard

/-- THE TIED CARD OF 'glissadelaw02.SumsCut'. -/
def sumsCutCard : Claim7 := { stood := { row := sumsCutRow, standIns := [], harness := (true, "c51f8f67b71e8fbcfe2a5afa3364414af7cfdc467b099b1c4886b4f1555764a4"), looks := false }, kinds := [], alts := [], laidByText := true, laidKinds := [.data], laidTests := true, laidLooks := .later }
def SumsCutCardSaid : Prop := Claim7.holds Tryd.pinned (.plain (OpenSpec.ofChange sumsCutSpec)) sumsCutCard

/-- THE TIED CARD OF 'glissadelaw02.SumsThree'. -/
def sumsThreeCard : Claim7 := { stood := { row := sumsThreeRow, standIns := [], harness := (true, "c51f8f67b71e8fbcfe2a5afa3364414af7cfdc467b099b1c4886b4f1555764a4"), looks := false }, kinds := [], alts := [], laidByText := true, laidKinds := [.data], laidTests := true, laidLooks := .later }
def SumsThreeCardSaid : Prop := Claim7.holds Tryd.pinned (.plain (OpenSpec.ofChange sumsThreeSpec)) sumsThreeCard

/-- THE TIED CARD OF 'glissadelaw02.SumsXor'. -/
def sumsXorCard : Claim7 := { stood := { row := sumsXorRow, standIns := [], harness := (true, "c51f8f67b71e8fbcfe2a5afa3364414af7cfdc467b099b1c4886b4f1555764a4"), looks := false }, kinds := [], alts := [], laidByText := true, laidKinds := [.data], laidTests := true, laidLooks := .later }
def SumsXorCardSaid : Prop := Claim7.holds Tryd.pinned (.plain (OpenSpec.ofChange sumsXorSpec)) sumsXorCard

/-- THE TIED CARD OF 'glissadelaw02.SumsBurst'. -/
def sumsBurstCard : Claim7 := { stood := { row := sumsBurstRow, standIns := [], harness := (true, "c51f8f67b71e8fbcfe2a5afa3364414af7cfdc467b099b1c4886b4f1555764a4"), looks := false }, kinds := [], alts := [], laidByText := true, laidKinds := [.data], laidTests := true, laidLooks := .later }
def SumsBurstCardSaid : Prop := Claim7.holds Tryd.pinned (.plain (OpenSpec.ofChange sumsBurstSpec)) sumsBurstCard

/-- THE TIED CARD OF 'glissadelaw02.SumsNothing'. -/
def sumsNothingCard : Claim7 := { stood := { row := sumsNothingRow, standIns := [], harness := (true, "c51f8f67b71e8fbcfe2a5afa3364414af7cfdc467b099b1c4886b4f1555764a4"), looks := false }, kinds := [], alts := [], laidByText := true, laidKinds := [.data], laidTests := true, laidLooks := .later }
def SumsNothingCardSaid : Prop := Claim7.holds Tryd.pinned (.plain (OpenSpec.ofChange sumsNothingSpec)) sumsNothingCard

/-- THE SECOND FORM's CARD OF 'glissadelaw02.SumsOf'. -/
def sumsOfUptoCard : Claim7 := { stood := { row := sumsOfUptoRow, standIns := [], harness := (true, "c51f8f67b71e8fbcfe2a5afa3364414af7cfdc467b099b1c4886b4f1555764a4"), looks := false }, kinds := [], alts := [], laidByText := true, laidKinds := [.data], laidTests := true, laidLooks := .later }
def SumsOfUptoCardSaid : Prop := Claim7.holds Tryd.pinned (.plain (OpenSpec.upto sumsOfSpec)) sumsOfUptoCard

/-- THE SECOND FORM's CARD OF 'glissadelaw02.SumsJoins'. -/
def sumsJoinsUptoCard : Claim7 := { stood := { row := sumsJoinsUptoRow, standIns := [], harness := (true, "c51f8f67b71e8fbcfe2a5afa3364414af7cfdc467b099b1c4886b4f1555764a4"), looks := false }, kinds := [], alts := [], laidByText := true, laidKinds := [.data], laidTests := true, laidLooks := .later }
def SumsJoinsUptoCardSaid : Prop := Claim7.holds Tryd.pinned (.plain (OpenSpec.upto sumsJoinsSpec)) sumsJoinsUptoCard

/-- THE SECOND FORM's CARD OF 'glissadelaw02.SumsCut'. -/
def sumsCutUptoCard : Claim7 := { stood := { row := sumsCutUptoRow, standIns := [], harness := (true, "c51f8f67b71e8fbcfe2a5afa3364414af7cfdc467b099b1c4886b4f1555764a4"), looks := false }, kinds := [], alts := [], laidByText := true, laidKinds := [.data], laidTests := true, laidLooks := .later }
def SumsCutUptoCardSaid : Prop := Claim7.holds Tryd.pinned (.plain (OpenSpec.upto sumsCutSpec)) sumsCutUptoCard

/-- THE SECOND FORM's CARD OF 'glissadelaw02.SumsThree'. -/
def sumsThreeUptoCard : Claim7 := { stood := { row := sumsThreeUptoRow, standIns := [], harness := (true, "c51f8f67b71e8fbcfe2a5afa3364414af7cfdc467b099b1c4886b4f1555764a4"), looks := false }, kinds := [], alts := [], laidByText := true, laidKinds := [.data], laidTests := true, laidLooks := .later }
def SumsThreeUptoCardSaid : Prop := Claim7.holds Tryd.pinned (.plain (OpenSpec.upto sumsThreeSpec)) sumsThreeUptoCard

/-- THE SECOND FORM's CARD OF 'glissadelaw02.SumsXor'. -/
def sumsXorUptoCard : Claim7 := { stood := { row := sumsXorUptoRow, standIns := [], harness := (true, "c51f8f67b71e8fbcfe2a5afa3364414af7cfdc467b099b1c4886b4f1555764a4"), looks := false }, kinds := [], alts := [], laidByText := true, laidKinds := [.data], laidTests := true, laidLooks := .later }
def SumsXorUptoCardSaid : Prop := Claim7.holds Tryd.pinned (.plain (OpenSpec.upto sumsXorSpec)) sumsXorUptoCard

/-- THE SECOND FORM's CARD OF 'glissadelaw02.SumsBurst'. -/
def sumsBurstUptoCard : Claim7 := { stood := { row := sumsBurstUptoRow, standIns := [], harness := (true, "c51f8f67b71e8fbcfe2a5afa3364414af7cfdc467b099b1c4886b4f1555764a4"), looks := false }, kinds := [], alts := [], laidByText := true, laidKinds := [.data], laidTests := true, laidLooks := .later }
def SumsBurstUptoCardSaid : Prop := Claim7.holds Tryd.pinned (.plain (OpenSpec.upto sumsBurstSpec)) sumsBurstUptoCard

/-- THE SECOND FORM's CARD OF 'glissadelaw02.SumsNothing'. -/
def sumsNothingUptoCard : Claim7 := { stood := { row := sumsNothingUptoRow, standIns := [], harness := (true, "c51f8f67b71e8fbcfe2a5afa3364414af7cfdc467b099b1c4886b4f1555764a4"), looks := false }, kinds := [], alts := [], laidByText := true, laidKinds := [.data], laidTests := true, laidLooks := .later }
def SumsNothingUptoCardSaid : Prop := Claim7.holds Tryd.pinned (.plain (OpenSpec.upto sumsNothingSpec)) sumsNothingUptoCard
end Rows
end Go.Proofs.YtelnmkgilnkliaaDoor
