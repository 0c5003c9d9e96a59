/-
  NARROWER THAN 'FOR EVERY INPUT', by the rows' own cells (each row's printed sentence says how): TokenLexes: laid · TokenCovers: laid · TokenGaps: laid.
  DERIVED. THE GIVEN ROWS OF THIS SEAT. 3 by the template 'for every input the law returns true; each argument reads behind the call as it read before'; 0 by the template 'total and deterministic' (their statements: YthffklhojdldkaaDoorTotals.lean).
  GIVEN WITH THE SEED: the statements are not yours to turn. If you find one false, say at which input.
  Laid BY PROGRAM, IN A SANDBOX (cutbox-rows.mjs): the forced cells as the released guide's own fill.sh prints them over the translation 9bdc194946a98e55… (all of the seat's roots in one cut). By AI agents, Wed Nov 11 2026. No macro, syntax, notation, axiom, sorry.
-/
import Derived.Test.YthffklhojdldkaaDoorChecked
import GoSem.Claim
import GoSem.ClaimJoined
import GoSem.ClaimMapViews
import Derived.JoinedTies
import Derived.KernelRfl
namespace Go.Proofs.YthffklhojdldkaaDoor
/- THE CELL 'sum', in the pinned program and in every row, IS THE sha256 OF THE DUMP (.gsa) THAT YthffklhojdldkaaDoorProg.lean LOADS. Nothing in Lean hashes anything: it is a label: what it is worth is what the hold of that sum in a sandbox is worth. -/
noncomputable def Tryd.pinned : Pinned := { name := "ythffklhojdldkaadoor", sum := "9bdc194946a98e5538970f54e1ce2aa988dbae90ac974a85be4d63ffa6ca59a2", checked := Tryd.checked }
namespace Rows
def none {H : Type} : Left H := { results := [], args := [] }

/- WHAT THE LISTED PACKAGE-LEVEL VARIABLES READ AS WHEN THE CALL BEGINS. Each datum BY PROGRAM (the guide's laid-datum.mjs) off the statement by which the dump's own 'gosem.cut.vars' lays the variable. In a bare row this is a premise. The card (YthffklhojdldkaaDoorCards.lean) ties it to the program's text. -/
def laid_harrow_token_signs {H : Type} : DataW H := .agg [.agg [.lit (.int .i64 29), .lit (.string [37, 101])], .agg [.lit (.int .i64 30), .lit (.string [37, 102])], .agg [.lit (.int .i64 14), .lit (.string [94, 43])], .agg [.lit (.int .i64 15), .lit (.string [94, 45])], .agg [.lit (.int .i64 13), .lit (.string [94])], .agg [.lit (.int .i64 6), .lit (.string [60, 45])], .agg [.lit (.int .i64 27), .lit (.string [45, 62])], .agg [.lit (.int .i64 7), .lit (.string [47])], .agg [.lit (.int .i64 8), .lit (.string [38])], .agg [.lit (.int .i64 9), .lit (.string [33])], .agg [.lit (.int .i64 10), .lit (.string [63])], .agg [.lit (.int .i64 11), .lit (.string [42])], .agg [.lit (.int .i64 12), .lit (.string [43])], .agg [.lit (.int .i64 16), .lit (.string [40])], .agg [.lit (.int .i64 17), .lit (.string [41])], .agg [.lit (.int .i64 18), .lit (.string [46])], .agg [.lit (.int .i64 21), .lit (.string [123, 58])], .agg [.lit (.int .i64 22), .lit (.string [58, 125])], .agg [.lit (.int .i64 23), .lit (.string [123, 124])], .agg [.lit (.int .i64 24), .lit (.string [124, 125])], .agg [.lit (.int .i64 25), .lit (.string [123, 126])], .agg [.lit (.int .i64 26), .lit (.string [126, 125])], .agg [.lit (.int .i64 19), .lit (.string [123])], .agg [.lit (.int .i64 20), .lit (.string [125])]]

/-- 'harrowlaw05.TokenLexes': WHATEVER THE INPUT: true; the input reads as it did. -/
def tokenLexesSpec : ChangeSpec := { name := "tokenLexes", fn := fun _ => fun
  | [d] => { results := [.lit (.bool true)], args := [d] }
  | _ => none }
def tokenLexesRow : OpenClaim := { program := "ythffklhojdldkaadoor", sum := "9bdc194946a98e5538970f54e1ce2aa988dbae90ac974a85be4d63ffa6ca59a2", func := "harrow/harrowlaw05.TokenLexes", spec := "tokenLexes", inPlace := ["internal/bytealg.IndexByteString"], unfollowed := true, recurses := true, named := ["harrow/token.signs"], apart := false, laid := [("harrow/token.signs", laid_harrow_token_signs)] }
def TokenLexesSaid : Prop := tokenLexesRow.holds Tryd.pinned (OpenSpec.ofChange tokenLexesSpec)

/-- ITS FALSE NEIGHBOUR: 'it returns false'. Refute it at one input. -/
def tokenLexesWrong : ChangeSpec := { name := "tokenLexes", fn := fun _ => fun
  | [d] => { results := [.lit (.bool false)], args := [d] }
  | _ => none }
def TokenLexesWrongFalsely : Prop := tokenLexesRow.holds Tryd.pinned (OpenSpec.ofChange tokenLexesWrong)

/-- 'harrowlaw05.TokenCovers': WHATEVER THE INPUT: true; the input reads as it did. -/
def tokenCoversSpec : ChangeSpec := { name := "tokenCovers", fn := fun _ => fun
  | [d] => { results := [.lit (.bool true)], args := [d] }
  | _ => none }
def tokenCoversRow : OpenClaim := { program := "ythffklhojdldkaadoor", sum := "9bdc194946a98e5538970f54e1ce2aa988dbae90ac974a85be4d63ffa6ca59a2", func := "harrow/harrowlaw05.TokenCovers", spec := "tokenCovers", inPlace := ["internal/bytealg.IndexByteString"], unfollowed := true, recurses := true, named := ["harrow/token.signs"], apart := false, laid := [("harrow/token.signs", laid_harrow_token_signs)] }
def TokenCoversSaid : Prop := tokenCoversRow.holds Tryd.pinned (OpenSpec.ofChange tokenCoversSpec)

/-- ITS FALSE NEIGHBOUR: 'it returns false'. Refute it at one input. -/
def tokenCoversWrong : ChangeSpec := { name := "tokenCovers", fn := fun _ => fun
  | [d] => { results := [.lit (.bool false)], args := [d] }
  | _ => none }
def TokenCoversWrongFalsely : Prop := tokenCoversRow.holds Tryd.pinned (OpenSpec.ofChange tokenCoversWrong)

/-- 'harrowlaw05.TokenGaps': WHATEVER THE INPUT: true; the input reads as it did. -/
def tokenGapsSpec : ChangeSpec := { name := "tokenGaps", fn := fun _ => fun
  | [d1, d2] => { results := [.lit (.bool true)], args := [d1, d2] }
  | _ => none }
def tokenGapsRow : OpenClaim := { program := "ythffklhojdldkaadoor", sum := "9bdc194946a98e5538970f54e1ce2aa988dbae90ac974a85be4d63ffa6ca59a2", func := "harrow/harrowlaw05.TokenGaps", spec := "tokenGaps", inPlace := ["internal/bytealg.IndexByteString"], unfollowed := true, recurses := true, named := ["harrow/token.signs"], apart := false, laid := [("harrow/token.signs", laid_harrow_token_signs)] }
def TokenGapsSaid : Prop := tokenGapsRow.holds Tryd.pinned (OpenSpec.ofChange tokenGapsSpec)

/-- ITS FALSE NEIGHBOUR: 'it returns false'. Refute it at one input. -/
def tokenGapsWrong : ChangeSpec := { name := "tokenGaps", fn := fun _ => fun
  | [d1, d2] => { results := [.lit (.bool false)], args := [d1, d2] }
  | _ => none }
def TokenGapsWrongFalsely : Prop := tokenGapsRow.holds Tryd.pinned (OpenSpec.ofChange tokenGapsWrong)

/- THE SECOND FORM. 'bulk': how many values and letters a reading holds, each counted each time it is reached (what is shared counts as often as it is met; a slice's spare places count too). A statement '..UptoSaid' is the law's where the arguments, and the package variables that the reading takes, are together of bulk at most 1048576: NARROWER than '..Said'. Prove '..Said' where nothing that the law and all that it calls make is longer than what came in: it says more and counts as full. Else prove '..UptoSaid'. A law counts once. -/
mutual
def uptoBulk {H : Type} : DataW H → Nat
  | .lit (.string bytes) => bytes.length + 1
  | .lit _ => 1
  | .nil => 1
  | .ptr d => uptoBulk d + 1
  | .slice elems spare => uptoBulkAll elems + uptoBulkAll spare + 1
  | .agg parts => uptoBulkAll parts + 1
  | .iface _ d => uptoBulk d + 1
  | .map entries => uptoBulkEntries entries + 1
  | .held _ => 1
def uptoBulkAll {H : Type} : List (DataW H) → Nat
  | [] => 0
  | d :: r => uptoBulk d + uptoBulkAll r
def uptoBulkEntries {H : Type} : List (Lit × DataW H) → Nat
  | [] => 0
  | x :: r => uptoBulkEntry x + uptoBulkEntries r
def uptoBulkEntry {H : Type} : Lit × DataW H → Nat
  | (.string bytes, d) => bytes.length + uptoBulk d + 1
  | (_, d) => uptoBulk d + 1
 end
def uptoSmall : (H : Type) → List (DataW H) → Bool := fun _ ds => decide (uptoBulkAll ds ≤ 1048576)
def OpenSpec.upto (s : _root_.Go.ChangeSpec) : _root_.Go.OpenSpec := { _root_.Go.OpenSpec.ofChange s with cond := some uptoSmall }

/-- 'harrowlaw05.TokenLexes', WHERE WHAT IT READS IS OF BULK AT MOST 1048576: true; the input reads as it did. -/
def tokenLexesUptoRow : OpenClaim := { program := "ythffklhojdldkaadoor", sum := "9bdc194946a98e5538970f54e1ce2aa988dbae90ac974a85be4d63ffa6ca59a2", func := "harrow/harrowlaw05.TokenLexes", spec := "tokenLexes", inPlace := ["internal/bytealg.IndexByteString"], unfollowed := true, recurses := true, named := ["harrow/token.signs"], apart := false, laid := [("harrow/token.signs", laid_harrow_token_signs)], narrowed := true }
def TokenLexesUptoSaid : Prop := tokenLexesUptoRow.holds Tryd.pinned (OpenSpec.upto tokenLexesSpec)

/-- 'harrowlaw05.TokenCovers', WHERE WHAT IT READS IS OF BULK AT MOST 1048576: true; the input reads as it did. -/
def tokenCoversUptoRow : OpenClaim := { program := "ythffklhojdldkaadoor", sum := "9bdc194946a98e5538970f54e1ce2aa988dbae90ac974a85be4d63ffa6ca59a2", func := "harrow/harrowlaw05.TokenCovers", spec := "tokenCovers", inPlace := ["internal/bytealg.IndexByteString"], unfollowed := true, recurses := true, named := ["harrow/token.signs"], apart := false, laid := [("harrow/token.signs", laid_harrow_token_signs)], narrowed := true }
def TokenCoversUptoSaid : Prop := tokenCoversUptoRow.holds Tryd.pinned (OpenSpec.upto tokenCoversSpec)

/-- 'harrowlaw05.TokenGaps', WHERE WHAT IT READS IS OF BULK AT MOST 1048576: true; the input reads as it did. -/
def tokenGapsUptoRow : OpenClaim := { program := "ythffklhojdldkaadoor", sum := "9bdc194946a98e5538970f54e1ce2aa988dbae90ac974a85be4d63ffa6ca59a2", func := "harrow/harrowlaw05.TokenGaps", spec := "tokenGaps", inPlace := ["internal/bytealg.IndexByteString"], unfollowed := true, recurses := true, named := ["harrow/token.signs"], apart := false, laid := [("harrow/token.signs", laid_harrow_token_signs)], narrowed := true }
def TokenGapsUptoSaid : Prop := tokenGapsUptoRow.holds Tryd.pinned (OpenSpec.upto tokenGapsSpec)

end Rows
end Go.Proofs.YthffklhojdldkaaDoor
