/-
  DERIVED. GIVEN WITH THE SEED: THE CARDS: each row of YtkihfkcmcdiajabGreatDoorRows.lean that lists a variable, with what it lists TIED to the program's text (the seventh form; the later family's looks); each row that meets fmt, with fmt's text TOLD by the authors' own Lean function (tested against real Go, not proved from fmt's source: count such statements apart). THE CARD IS WHAT COUNTS. Prove the row's statement (the work); the ties are given (YtkihfkcmcdiajabGreatDoorTie.lean); close each card by the builder's one call (the guide's Derived/Test/ToyasCard.lean, 'card_holds'). Laid BY PROGRAM, IN A SANDBOX (cutbox-door.mjs). By AI agents, Wed Nov 11 2026. No macro, syntax, notation, axiom, sorry.
-/
import Derived.Test.YtkihfkcmcdiajabGreatDoorRows
import GoSem.ClaimSeven
namespace Go.Proofs.YtkihfkcmcdiajabGreatDoor
namespace Rows

/-- THE TIED CARD OF 'harrowlaw06.NotationOwn'. -/
def notationOwnCard : Claim7 := { stood := { row := notationOwnRow, standIns := [], harness := (true, "b5085ceeeb69bd13753e260ef24ebdd36ccc919d4eb750ab9fbf937c589539d3"), looks := true }, kinds := [], alts := [], laidByText := true, laidKinds := [.data, .data], laidTests := true, laidLooks := .later }
def NotationOwnCardSaid : Prop := Claim7.holds Tryz.pinned (.plain (OpenSpec.ofChange notationOwnSpec)) notationOwnCard

/-- THE SECOND FORM's CARD OF 'harrowlaw06.NotationOwn'. -/
def notationOwnUptoCard : Claim7 := { stood := { row := notationOwnUptoRow, standIns := [], harness := (true, "b5085ceeeb69bd13753e260ef24ebdd36ccc919d4eb750ab9fbf937c589539d3"), looks := true }, kinds := [], alts := [], laidByText := true, laidKinds := [.data, .data], laidTests := true, laidLooks := .later }
def NotationOwnUptoCardSaid : Prop := Claim7.holds Tryz.pinned (.plain (OpenSpec.upto notationOwnSpec)) notationOwnUptoCard
end Rows
end Go.Proofs.YtkihfkcmcdiajabGreatDoor
