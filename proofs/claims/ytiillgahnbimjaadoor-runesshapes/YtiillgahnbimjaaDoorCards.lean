/-
  DERIVED. GIVEN WITH THE SEED: THE CARDS: each row of YtiillgahnbimjaaDoorRows.lean that lists a variable, with what it lists TIED to the program's text (the seventh form; the later family's looks); each row that meets fmt, with fmt's text TOLD by the authors' own Lean function (tested against real Go, not proved from fmt's source: count such statements apart). THE CARD IS WHAT COUNTS. Prove the row's statement (the work); the ties are given (YtiillgahnbimjaaDoorTie.lean); close each card by the builder's one call (the guide's Derived/Test/ToyasCard.lean, 'card_holds'). Laid BY PROGRAM, IN A SANDBOX (cutbox-door.mjs). By AI agents, Wed Nov 11 2026. No macro, syntax, notation, axiom, sorry.
-/
import Derived.Test.YtiillgahnbimjaaDoorRows
import GoSem.ClaimSeven
namespace Go.Proofs.YtiillgahnbimjaaDoor
namespace Rows

/-- THE TIED CARD OF 'harrowlaw03.RunesTexts'. -/
def runesTextsCard : Claim7 := { stood := { row := runesTextsRow, standIns := [], harness := (true, "70d7ab39d6deddf5263583e009ac3ce4b5cc6170211ab4eb7d0cab5092fca9d5"), looks := false }, kinds := [], alts := [], laidByText := true, laidKinds := [.data], laidTests := true, laidLooks := .later }
def RunesTextsCardSaid : Prop := Claim7.holds Tryd.pinned (.plain (OpenSpec.ofChange runesTextsSpec)) runesTextsCard

/-- THE TIED CARD OF 'harrowlaw03.RunesLists'. -/
def runesListsCard : Claim7 := { stood := { row := runesListsRow, standIns := [], harness := (true, "70d7ab39d6deddf5263583e009ac3ce4b5cc6170211ab4eb7d0cab5092fca9d5"), looks := false }, kinds := [], alts := [], laidByText := true, laidKinds := [.data], laidTests := true, laidLooks := .later }
def RunesListsCardSaid : Prop := Claim7.holds Tryd.pinned (.plain (OpenSpec.ofChange runesListsSpec)) runesListsCard

/-- THE TIED CARD OF 'harrowlaw03.RunesShapes'. -/
def runesShapesCard : Claim7 := { stood := { row := runesShapesRow, standIns := [], harness := (true, "70d7ab39d6deddf5263583e009ac3ce4b5cc6170211ab4eb7d0cab5092fca9d5"), looks := false }, kinds := [], alts := [], laidByText := true, laidKinds := [.data], laidTests := true, laidLooks := .later }
def RunesShapesCardSaid : Prop := Claim7.holds Tryd.pinned (.plain (OpenSpec.ofChange runesShapesSpec)) runesShapesCard

/-- THE TIED CARD OF 'harrowlaw03.RunesBack'. -/
def runesBackCard : Claim7 := { stood := { row := runesBackRow, standIns := [], harness := (true, "70d7ab39d6deddf5263583e009ac3ce4b5cc6170211ab4eb7d0cab5092fca9d5"), looks := false }, kinds := [], alts := [], laidByText := true, laidKinds := [.data], laidTests := true, laidLooks := .later }
def RunesBackCardSaid : Prop := Claim7.holds Tryd.pinned (.plain (OpenSpec.ofChange runesBackSpec)) runesBackCard

/-- THE TIED CARD OF 'harrowlaw03.RunesCleans'. -/
def runesCleansCard : Claim7 := { stood := { row := runesCleansRow, standIns := [], harness := (true, "70d7ab39d6deddf5263583e009ac3ce4b5cc6170211ab4eb7d0cab5092fca9d5"), looks := false }, kinds := [], alts := [], laidByText := true, laidKinds := [.data], laidTests := true, laidLooks := .later }
def RunesCleansCardSaid : Prop := Claim7.holds Tryd.pinned (.plain (OpenSpec.ofChange runesCleansSpec)) runesCleansCard

/-- THE SECOND FORM's CARD OF 'harrowlaw03.RunesTexts'. -/
def runesTextsUptoCard : Claim7 := { stood := { row := runesTextsUptoRow, standIns := [], harness := (true, "70d7ab39d6deddf5263583e009ac3ce4b5cc6170211ab4eb7d0cab5092fca9d5"), looks := false }, kinds := [], alts := [], laidByText := true, laidKinds := [.data], laidTests := true, laidLooks := .later }
def RunesTextsUptoCardSaid : Prop := Claim7.holds Tryd.pinned (.plain (OpenSpec.upto runesTextsSpec)) runesTextsUptoCard

/-- THE SECOND FORM's CARD OF 'harrowlaw03.RunesLists'. -/
def runesListsUptoCard : Claim7 := { stood := { row := runesListsUptoRow, standIns := [], harness := (true, "70d7ab39d6deddf5263583e009ac3ce4b5cc6170211ab4eb7d0cab5092fca9d5"), looks := false }, kinds := [], alts := [], laidByText := true, laidKinds := [.data], laidTests := true, laidLooks := .later }
def RunesListsUptoCardSaid : Prop := Claim7.holds Tryd.pinned (.plain (OpenSpec.upto runesListsSpec)) runesListsUptoCard

/-- THE SECOND FORM's CARD OF 'harrowlaw03.RunesShapes'. -/
def runesShapesUptoCard : Claim7 := { stood := { row := runesShapesUptoRow, standIns := [], harness := (true, "70d7ab39d6deddf5263583e009ac3ce4b5cc6170211ab4eb7d0cab5092fca9d5"), looks := false }, kinds := [], alts := [], laidByText := true, laidKinds := [.data], laidTests := true, laidLooks := .later }
def RunesShapesUptoCardSaid : Prop := Claim7.holds Tryd.pinned (.plain (OpenSpec.upto runesShapesSpec)) runesShapesUptoCard

/-- THE SECOND FORM's CARD OF 'harrowlaw03.RunesBack'. -/
def runesBackUptoCard : Claim7 := { stood := { row := runesBackUptoRow, standIns := [], harness := (true, "70d7ab39d6deddf5263583e009ac3ce4b5cc6170211ab4eb7d0cab5092fca9d5"), looks := false }, kinds := [], alts := [], laidByText := true, laidKinds := [.data], laidTests := true, laidLooks := .later }
def RunesBackUptoCardSaid : Prop := Claim7.holds Tryd.pinned (.plain (OpenSpec.upto runesBackSpec)) runesBackUptoCard

/-- THE SECOND FORM's CARD OF 'harrowlaw03.RunesCleans'. -/
def runesCleansUptoCard : Claim7 := { stood := { row := runesCleansUptoRow, standIns := [], harness := (true, "70d7ab39d6deddf5263583e009ac3ce4b5cc6170211ab4eb7d0cab5092fca9d5"), looks := false }, kinds := [], alts := [], laidByText := true, laidKinds := [.data], laidTests := true, laidLooks := .later }
def RunesCleansUptoCardSaid : Prop := Claim7.holds Tryd.pinned (.plain (OpenSpec.upto runesCleansSpec)) runesCleansUptoCard
end Rows
end Go.Proofs.YtiillgahnbimjaaDoor
