/-
  NARROWER THAN 'FOR EVERY INPUT', by the rows' own cells (each row's printed sentence says how): NotationOwn: laid.
  DERIVED. THE GIVEN ROWS OF THIS SEAT. 1 by the template 'for every input the law returns true; each argument reads behind the call as it read before'; 0 by the template 'total and deterministic' (their statements: YtkihfkcmcdiajabGreatDoorTotals.lean).
  GIVEN WITH THE SEED: the statements are not yours to turn. If you find one false, say at which input.
  Laid BY PROGRAM, IN A SANDBOX (cutbox-rows.mjs): the forced cells as the released guide's own fill.sh prints them over the translation d89fa0b179a1719b… (all of the seat's roots in one cut). By AI agents, Wed Nov 11 2026. No macro, syntax, notation, axiom, sorry.
-/
import Derived.Test.YtkihfkcmcdiajabGreatDoorChecked
import GoSem.Claim
import GoSem.ClaimJoined
import GoSem.ClaimMapViews
import Derived.JoinedTies
import Derived.KernelRfl
namespace Go.Proofs.YtkihfkcmcdiajabGreatDoor
/- THE CELL 'sum', in the pinned program and in every row, IS THE sha256 OF THE DUMP (.gsa) THAT YtkihfkcmcdiajabGreatDoorProg.lean LOADS. Nothing in Lean hashes anything: it is a label: what it is worth is what the hold of that sum in a sandbox is worth. -/
noncomputable def Tryz.pinned : Pinned := { name := "ytkihfkcmcdiajabgreatdoor", sum := "d89fa0b179a1719bc8cce4ae26bd2aa3e15c7a4e8c6dc3f77f63dca73104c58f", checked := Tryz.checked }
namespace Rows
def none {H : Type} : Left H := { results := [], args := [] }

/- WHAT THE LISTED PACKAGE-LEVEL VARIABLES READ AS WHEN THE CALL BEGINS. Each datum BY PROGRAM (the guide's laid-datum.mjs) off the statement by which the dump's own 'gosem.cut.vars' lays the variable. In a bare row this is a premise. The card (YtkihfkcmcdiajabGreatDoorCards.lean) ties it to the program's text. -/
def laid_harrow_runes_blocks {H : Type} : DataW H := .agg [.agg [.lit (.int .i32 0), .lit (.int .i32 127)], .agg [.lit (.int .i32 128), .lit (.int .i32 2047)], .agg [.lit (.int .i32 2048), .lit (.int .i32 55295)], .agg [.lit (.int .i32 57344), .lit (.int .i32 65535)], .agg [.lit (.int .i32 65536), .lit (.int .i32 1114111)]]
def laid_harrow_token_signs {H : Type} : DataW H := .agg [.agg [.lit (.int .i64 29), .lit (.string [37, 101])], .agg [.lit (.int .i64 30), .lit (.string [37, 102])], .agg [.lit (.int .i64 14), .lit (.string [94, 43])], .agg [.lit (.int .i64 15), .lit (.string [94, 45])], .agg [.lit (.int .i64 13), .lit (.string [94])], .agg [.lit (.int .i64 6), .lit (.string [60, 45])], .agg [.lit (.int .i64 27), .lit (.string [45, 62])], .agg [.lit (.int .i64 7), .lit (.string [47])], .agg [.lit (.int .i64 8), .lit (.string [38])], .agg [.lit (.int .i64 9), .lit (.string [33])], .agg [.lit (.int .i64 10), .lit (.string [63])], .agg [.lit (.int .i64 11), .lit (.string [42])], .agg [.lit (.int .i64 12), .lit (.string [43])], .agg [.lit (.int .i64 16), .lit (.string [40])], .agg [.lit (.int .i64 17), .lit (.string [41])], .agg [.lit (.int .i64 18), .lit (.string [46])], .agg [.lit (.int .i64 21), .lit (.string [123, 58])], .agg [.lit (.int .i64 22), .lit (.string [58, 125])], .agg [.lit (.int .i64 23), .lit (.string [123, 124])], .agg [.lit (.int .i64 24), .lit (.string [124, 125])], .agg [.lit (.int .i64 25), .lit (.string [123, 126])], .agg [.lit (.int .i64 26), .lit (.string [126, 125])], .agg [.lit (.int .i64 19), .lit (.string [123])], .agg [.lit (.int .i64 20), .lit (.string [125])]]

/-- 'harrowlaw06.NotationOwn': WHATEVER THE INPUT: true; the input reads as it did. -/
def notationOwnSpec : ChangeSpec := { name := "notationOwn", fn := fun _ => fun
  | [d] => { results := [.lit (.bool true)], args := [d] }
  | _ => none }
def notationOwnRow : OpenClaim := { program := "ytkihfkcmcdiajabgreatdoor", sum := "d89fa0b179a1719bc8cce4ae26bd2aa3e15c7a4e8c6dc3f77f63dca73104c58f", func := "harrow/harrowlaw06.NotationOwn", spec := "notationOwn", inPlace := ["internal/bytealg.IndexByteString"], unfollowed := true, recurses := true, named := ["harrow/token.signs", "harrow/runes.blocks"], apart := false, laid := [("harrow/runes.blocks", laid_harrow_runes_blocks), ("harrow/token.signs", laid_harrow_token_signs)] }
def NotationOwnSaid : Prop := notationOwnRow.holds Tryz.pinned (OpenSpec.ofChange notationOwnSpec)

/-- ITS FALSE NEIGHBOUR: 'it returns false'. Refute it at one input. -/
def notationOwnWrong : ChangeSpec := { name := "notationOwn", fn := fun _ => fun
  | [d] => { results := [.lit (.bool false)], args := [d] }
  | _ => none }
def NotationOwnWrongFalsely : Prop := notationOwnRow.holds Tryz.pinned (OpenSpec.ofChange notationOwnWrong)

/- THE SECOND FORM. 'bulk': how many values and letters a reading holds, each counted each time it is reached (what is shared counts as often as it is met; a slice's spare places count too). A statement '..UptoSaid' is the law's where the arguments, and the package variables that the reading takes, are together of bulk at most 1048576: NARROWER than '..Said'. Prove '..Said' where nothing that the law and all that it calls make is longer than what came in: it says more and counts as full. Else prove '..UptoSaid'. A law counts once. -/
mutual
def uptoBulk {H : Type} : DataW H → Nat
  | .lit (.string bytes) => bytes.length + 1
  | .lit _ => 1
  | .nil => 1
  | .ptr d => uptoBulk d + 1
  | .slice elems spare => uptoBulkAll elems + uptoBulkAll spare + 1
  | .agg parts => uptoBulkAll parts + 1
  | .iface _ d => uptoBulk d + 1
  | .map entries => uptoBulkEntries entries + 1
  | .held _ => 1
def uptoBulkAll {H : Type} : List (DataW H) → Nat
  | [] => 0
  | d :: r => uptoBulk d + uptoBulkAll r
def uptoBulkEntries {H : Type} : List (Lit × DataW H) → Nat
  | [] => 0
  | x :: r => uptoBulkEntry x + uptoBulkEntries r
def uptoBulkEntry {H : Type} : Lit × DataW H → Nat
  | (.string bytes, d) => bytes.length + uptoBulk d + 1
  | (_, d) => uptoBulk d + 1
 end
def uptoSmall : (H : Type) → List (DataW H) → Bool := fun _ ds => decide (uptoBulkAll ds ≤ 1048576)
def OpenSpec.upto (s : _root_.Go.ChangeSpec) : _root_.Go.OpenSpec := { _root_.Go.OpenSpec.ofChange s with cond := some uptoSmall }

/-- 'harrowlaw06.NotationOwn', WHERE WHAT IT READS IS OF BULK AT MOST 1048576: true; the input reads as it did. -/
def notationOwnUptoRow : OpenClaim := { program := "ytkihfkcmcdiajabgreatdoor", sum := "d89fa0b179a1719bc8cce4ae26bd2aa3e15c7a4e8c6dc3f77f63dca73104c58f", func := "harrow/harrowlaw06.NotationOwn", spec := "notationOwn", inPlace := ["internal/bytealg.IndexByteString"], unfollowed := true, recurses := true, named := ["harrow/token.signs", "harrow/runes.blocks"], apart := false, laid := [("harrow/runes.blocks", laid_harrow_runes_blocks), ("harrow/token.signs", laid_harrow_token_signs)], narrowed := true }
def NotationOwnUptoSaid : Prop := notationOwnUptoRow.holds Tryz.pinned (OpenSpec.upto notationOwnSpec)

end Rows
end Go.Proofs.YtkihfkcmcdiajabGreatDoor
