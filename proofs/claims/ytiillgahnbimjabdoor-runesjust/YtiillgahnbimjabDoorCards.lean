/-
  DERIVED. GIVEN WITH THE SEED: THE CARDS: each row of YtiillgahnbimjabDoorRows.lean that lists a variable, with what it lists TIED to the program's text (the seventh form; the later family's looks); each row that meets fmt, with fmt's text TOLD by the authors' own Lean function (tested against real Go, not proved from fmt's source: count such statements apart). THE CARD IS WHAT COUNTS. Prove the row's statement (the work); the ties are given (YtiillgahnbimjabDoorTie.lean); close each card by the builder's one call (the guide's Derived/Test/ToyasCard.lean, 'card_holds'). Laid BY PROGRAM, IN A SANDBOX (cutbox-door.mjs). By AI agents, Wed Nov 11 2026. No macro, syntax, notation, axiom, sorry.
-/
import Derived.Test.YtiillgahnbimjabDoorRows
import GoSem.ClaimSeven
namespace Go.Proofs.YtiillgahnbimjabDoor
namespace Rows

/-- THE TIED CARD OF 'harrowlaw03.RunesJust'. -/
def runesJustCard : Claim7 := { stood := { row := runesJustRow, standIns := [], harness := (true, "de2405f029be3faa6e7180834a74813ae7a3c0a23fda2d77b09394a4e79c605e"), looks := false }, kinds := [], alts := [], laidByText := true, laidKinds := [.data], laidTests := true, laidLooks := .later }
def RunesJustCardSaid : Prop := Claim7.holds Tryd.pinned (.plain (OpenSpec.ofChange runesJustSpec)) runesJustCard

/-- THE SECOND FORM's CARD OF 'harrowlaw03.RunesJust'. -/
def runesJustUptoCard : Claim7 := { stood := { row := runesJustUptoRow, standIns := [], harness := (true, "de2405f029be3faa6e7180834a74813ae7a3c0a23fda2d77b09394a4e79c605e"), looks := false }, kinds := [], alts := [], laidByText := true, laidKinds := [.data], laidTests := true, laidLooks := .later }
def RunesJustUptoCardSaid : Prop := Claim7.holds Tryd.pinned (.plain (OpenSpec.upto runesJustSpec)) runesJustUptoCard
end Rows
end Go.Proofs.YtiillgahnbimjabDoor
