/-
  DERIVED. GIVEN WITH THE SEED: THE CARDS: each row of YtkihfkcmcdiajaaGreatDoorRows.lean that lists a variable, with what it lists TIED to the program's text (the seventh form; the later family's looks); each row that meets fmt, with fmt's text TOLD by the authors' own Lean function (tested against real Go, not proved from fmt's source: count such statements apart). THE CARD IS WHAT COUNTS. Prove the row's statement (the work); the ties are given (YtkihfkcmcdiajaaGreatDoorTie.lean); close each card by the builder's one call (the guide's Derived/Test/ToyasCard.lean, 'card_holds'). Laid BY PROGRAM, IN A SANDBOX (cutbox-door.mjs). By AI agents, Wed Nov 11 2026. No macro, syntax, notation, axiom, sorry.
-/
import Derived.Test.YtkihfkcmcdiajaaGreatDoorRows
import GoSem.ClaimSeven
namespace Go.Proofs.YtkihfkcmcdiajaaGreatDoor
namespace Rows

/-- THE TIED CARD OF 'harrowlaw06.NotationReads'. -/
def notationReadsCard : Claim7 := { stood := { row := notationReadsRow, standIns := [], harness := (true, "6af8f931416be87852e92a3241d4168444901b0a57bfabcb2e9b08ec2eb4ad61"), looks := true }, kinds := [], alts := [], laidByText := true, laidKinds := [.data, .data], laidTests := true, laidLooks := .later }
def NotationReadsCardSaid : Prop := Claim7.holds Tryz.pinned (.plain (OpenSpec.ofChange notationReadsSpec)) notationReadsCard

/-- THE TIED CARD OF 'harrowlaw06.NotationAlone'. -/
def notationAloneCard : Claim7 := { stood := { row := notationAloneRow, standIns := [], harness := (true, "6af8f931416be87852e92a3241d4168444901b0a57bfabcb2e9b08ec2eb4ad61"), looks := true }, kinds := [], alts := [], laidByText := true, laidKinds := [.data, .data], laidTests := true, laidLooks := .later }
def NotationAloneCardSaid : Prop := Claim7.holds Tryz.pinned (.plain (OpenSpec.ofChange notationAloneSpec)) notationAloneCard

/-- THE TIED CARD OF 'harrowlaw06.NotationRight'. -/
def notationRightCard : Claim7 := { stood := { row := notationRightRow, standIns := [], harness := (true, "6af8f931416be87852e92a3241d4168444901b0a57bfabcb2e9b08ec2eb4ad61"), looks := true }, kinds := [], alts := [], laidByText := true, laidKinds := [.data, .data], laidTests := true, laidLooks := .later }
def NotationRightCardSaid : Prop := Claim7.holds Tryz.pinned (.plain (OpenSpec.ofChange notationRightSpec)) notationRightCard

/-- THE TIED CARD OF 'harrowlaw06.NotationRound'. -/
def notationRoundCard : Claim7 := { stood := { row := notationRoundRow, standIns := [], harness := (true, "6af8f931416be87852e92a3241d4168444901b0a57bfabcb2e9b08ec2eb4ad61"), looks := true }, kinds := [], alts := [], laidByText := true, laidKinds := [.data, .data], laidTests := true, laidLooks := .later }
def NotationRoundCardSaid : Prop := Claim7.holds Tryz.pinned (.plain (OpenSpec.ofChange notationRoundSpec)) notationRoundCard

/-- THE TIED CARD OF 'harrowlaw06.NotationBlanks'. -/
def notationBlanksCard : Claim7 := { stood := { row := notationBlanksRow, standIns := [], harness := (true, "6af8f931416be87852e92a3241d4168444901b0a57bfabcb2e9b08ec2eb4ad61"), looks := true }, kinds := [], alts := [], laidByText := true, laidKinds := [.data, .data], laidTests := true, laidLooks := .later }
def NotationBlanksCardSaid : Prop := Claim7.holds Tryz.pinned (.plain (OpenSpec.ofChange notationBlanksSpec)) notationBlanksCard

/-- THE TIED CARD OF 'harrowlaw06.NotationRows'. -/
def notationRowsCard : Claim7 := { stood := { row := notationRowsRow, standIns := [], harness := (true, "6af8f931416be87852e92a3241d4168444901b0a57bfabcb2e9b08ec2eb4ad61"), looks := true }, kinds := [], alts := [], laidByText := true, laidKinds := [.data, .data], laidTests := true, laidLooks := .later }
def NotationRowsCardSaid : Prop := Claim7.holds Tryz.pinned (.plain (OpenSpec.ofChange notationRowsSpec)) notationRowsCard

/-- THE SECOND FORM's CARD OF 'harrowlaw06.NotationReads'. -/
def notationReadsUptoCard : Claim7 := { stood := { row := notationReadsUptoRow, standIns := [], harness := (true, "6af8f931416be87852e92a3241d4168444901b0a57bfabcb2e9b08ec2eb4ad61"), looks := true }, kinds := [], alts := [], laidByText := true, laidKinds := [.data, .data], laidTests := true, laidLooks := .later }
def NotationReadsUptoCardSaid : Prop := Claim7.holds Tryz.pinned (.plain (OpenSpec.upto notationReadsSpec)) notationReadsUptoCard

/-- THE SECOND FORM's CARD OF 'harrowlaw06.NotationAlone'. -/
def notationAloneUptoCard : Claim7 := { stood := { row := notationAloneUptoRow, standIns := [], harness := (true, "6af8f931416be87852e92a3241d4168444901b0a57bfabcb2e9b08ec2eb4ad61"), looks := true }, kinds := [], alts := [], laidByText := true, laidKinds := [.data, .data], laidTests := true, laidLooks := .later }
def NotationAloneUptoCardSaid : Prop := Claim7.holds Tryz.pinned (.plain (OpenSpec.upto notationAloneSpec)) notationAloneUptoCard

/-- THE SECOND FORM's CARD OF 'harrowlaw06.NotationRight'. -/
def notationRightUptoCard : Claim7 := { stood := { row := notationRightUptoRow, standIns := [], harness := (true, "6af8f931416be87852e92a3241d4168444901b0a57bfabcb2e9b08ec2eb4ad61"), looks := true }, kinds := [], alts := [], laidByText := true, laidKinds := [.data, .data], laidTests := true, laidLooks := .later }
def NotationRightUptoCardSaid : Prop := Claim7.holds Tryz.pinned (.plain (OpenSpec.upto notationRightSpec)) notationRightUptoCard

/-- THE SECOND FORM's CARD OF 'harrowlaw06.NotationRound'. -/
def notationRoundUptoCard : Claim7 := { stood := { row := notationRoundUptoRow, standIns := [], harness := (true, "6af8f931416be87852e92a3241d4168444901b0a57bfabcb2e9b08ec2eb4ad61"), looks := true }, kinds := [], alts := [], laidByText := true, laidKinds := [.data, .data], laidTests := true, laidLooks := .later }
def NotationRoundUptoCardSaid : Prop := Claim7.holds Tryz.pinned (.plain (OpenSpec.upto notationRoundSpec)) notationRoundUptoCard

/-- THE SECOND FORM's CARD OF 'harrowlaw06.NotationBlanks'. -/
def notationBlanksUptoCard : Claim7 := { stood := { row := notationBlanksUptoRow, standIns := [], harness := (true, "6af8f931416be87852e92a3241d4168444901b0a57bfabcb2e9b08ec2eb4ad61"), looks := true }, kinds := [], alts := [], laidByText := true, laidKinds := [.data, .data], laidTests := true, laidLooks := .later }
def NotationBlanksUptoCardSaid : Prop := Claim7.holds Tryz.pinned (.plain (OpenSpec.upto notationBlanksSpec)) notationBlanksUptoCard

/-- THE SECOND FORM's CARD OF 'harrowlaw06.NotationRows'. -/
def notationRowsUptoCard : Claim7 := { stood := { row := notationRowsUptoRow, standIns := [], harness := (true, "6af8f931416be87852e92a3241d4168444901b0a57bfabcb2e9b08ec2eb4ad61"), looks := true }, kinds := [], alts := [], laidByText := true, laidKinds := [.data, .data], laidTests := true, laidLooks := .later }
def NotationRowsUptoCardSaid : Prop := Claim7.holds Tryz.pinned (.plain (OpenSpec.upto notationRowsSpec)) notationRowsUptoCard
end Rows
end Go.Proofs.YtkihfkcmcdiajaaGreatDoor
