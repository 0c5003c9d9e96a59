/-
  No cell of these rows narrows 'for every input' (looked for: loops, veiled, ifaces, maps, wideKeys, modest, calm, conditions, laid).
  DERIVED. THE GIVEN ROWS OF THIS SEAT. 4 by the template 'for every input the law returns true; each argument reads behind the call as it read before'; 0 by the template 'total and deterministic' (their statements: YtbipjdgholdhcaaGreatTotals.lean).
  GIVEN WITH THE SEED: the statements are not yours to turn. If you find one false, say at which input.
  Laid BY PROGRAM, IN A SANDBOX (cutbox-rows.mjs): the forced cells as the released guide's own fill.sh prints them over the translation 77a8225f71fdd6f3… (all of the seat's roots in one cut). By AI agents, Wed Nov 11 2026. No macro, syntax, notation, axiom, sorry.
-/
import Derived.Test.YtbipjdgholdhcaaGreatChecked
import GoSem.Claim
import GoSem.ClaimJoined
import GoSem.ClaimMapViews
import Derived.JoinedTies
import Derived.KernelRfl
namespace Go.Proofs.YtbipjdgholdhcaaGreat
/- THE CELL 'sum', in the pinned program and in every row, IS THE sha256 OF THE DUMP (.gsa) THAT YtbipjdgholdhcaaGreatProg.lean LOADS. Nothing in Lean hashes anything: it is a label: what it is worth is what the hold of that sum in a sandbox is worth. -/
noncomputable def Tryz.pinned : Pinned := { name := "ytbipjdgholdhcaagreat", sum := "77a8225f71fdd6f3dd54a4dcc8df2dae26423237d4d145d8ba60447e464df4d1", checked := Tryz.checked }
namespace Rows
def none {H : Type} : Left H := { results := [], args := [] }

/-- 'harrowlaw10.FordChecks': WHATEVER THE INPUT: true; the input reads as it did. -/
def fordChecksSpec : ChangeSpec := { name := "fordChecks", fn := fun _ => fun
  | [d] => { results := [.lit (.bool true)], args := [d] }
  | _ => none }
def fordChecksRow : OpenClaim := { program := "ytbipjdgholdhcaagreat", sum := "77a8225f71fdd6f3dd54a4dcc8df2dae26423237d4d145d8ba60447e464df4d1", func := "harrow/harrowlaw10.FordChecks", spec := "fordChecks", unfollowed := true, recurses := true, apart := false }
def FordChecksSaid : Prop := fordChecksRow.holds Tryz.pinned (OpenSpec.ofChange fordChecksSpec)

/-- ITS FALSE NEIGHBOUR: 'it returns false'. Refute it at one input. -/
def fordChecksWrong : ChangeSpec := { name := "fordChecks", fn := fun _ => fun
  | [d] => { results := [.lit (.bool false)], args := [d] }
  | _ => none }
def FordChecksWrongFalsely : Prop := fordChecksRow.holds Tryz.pinned (OpenSpec.ofChange fordChecksWrong)

/-- 'harrowlaw10.FordHeads': WHATEVER THE INPUT: true; the input reads as it did. -/
def fordHeadsSpec : ChangeSpec := { name := "fordHeads", fn := fun _ => fun
  | [d1, d2] => { results := [.lit (.bool true)], args := [d1, d2] }
  | _ => none }
def fordHeadsRow : OpenClaim := { program := "ytbipjdgholdhcaagreat", sum := "77a8225f71fdd6f3dd54a4dcc8df2dae26423237d4d145d8ba60447e464df4d1", func := "harrow/harrowlaw10.FordHeads", spec := "fordHeads", unfollowed := true, recurses := true, apart := false }
def FordHeadsSaid : Prop := fordHeadsRow.holds Tryz.pinned (OpenSpec.ofChange fordHeadsSpec)

/-- ITS FALSE NEIGHBOUR: 'it returns false'. Refute it at one input. -/
def fordHeadsWrong : ChangeSpec := { name := "fordHeads", fn := fun _ => fun
  | [d1, d2] => { results := [.lit (.bool false)], args := [d1, d2] }
  | _ => none }
def FordHeadsWrongFalsely : Prop := fordHeadsRow.holds Tryz.pinned (OpenSpec.ofChange fordHeadsWrong)

/-- 'harrowlaw10.FordOrders': WHATEVER THE INPUT: true; the input reads as it did. -/
def fordOrdersSpec : ChangeSpec := { name := "fordOrders", fn := fun _ => fun
  | [d] => { results := [.lit (.bool true)], args := [d] }
  | _ => none }
def fordOrdersRow : OpenClaim := { program := "ytbipjdgholdhcaagreat", sum := "77a8225f71fdd6f3dd54a4dcc8df2dae26423237d4d145d8ba60447e464df4d1", func := "harrow/harrowlaw10.FordOrders", spec := "fordOrders", unfollowed := true, recurses := true, apart := false }
def FordOrdersSaid : Prop := fordOrdersRow.holds Tryz.pinned (OpenSpec.ofChange fordOrdersSpec)

/-- ITS FALSE NEIGHBOUR: 'it returns false'. Refute it at one input. -/
def fordOrdersWrong : ChangeSpec := { name := "fordOrders", fn := fun _ => fun
  | [d] => { results := [.lit (.bool false)], args := [d] }
  | _ => none }
def FordOrdersWrongFalsely : Prop := fordOrdersRow.holds Tryz.pinned (OpenSpec.ofChange fordOrdersWrong)

/-- 'harrowlaw10.FordMore': WHATEVER THE INPUT: true; the input reads as it did. -/
def fordMoreSpec : ChangeSpec := { name := "fordMore", fn := fun _ => fun
  | [d1, d2] => { results := [.lit (.bool true)], args := [d1, d2] }
  | _ => none }
def fordMoreRow : OpenClaim := { program := "ytbipjdgholdhcaagreat", sum := "77a8225f71fdd6f3dd54a4dcc8df2dae26423237d4d145d8ba60447e464df4d1", func := "harrow/harrowlaw10.FordMore", spec := "fordMore", unfollowed := true, recurses := true, apart := false }
def FordMoreSaid : Prop := fordMoreRow.holds Tryz.pinned (OpenSpec.ofChange fordMoreSpec)

/-- ITS FALSE NEIGHBOUR: 'it returns false'. Refute it at one input. -/
def fordMoreWrong : ChangeSpec := { name := "fordMore", fn := fun _ => fun
  | [d1, d2] => { results := [.lit (.bool false)], args := [d1, d2] }
  | _ => none }
def FordMoreWrongFalsely : Prop := fordMoreRow.holds Tryz.pinned (OpenSpec.ofChange fordMoreWrong)

/- THE SECOND FORM. 'bulk': how many values and letters a reading holds, each counted each time it is reached (what is shared counts as often as it is met; a slice's spare places count too). A statement '..UptoSaid' is the law's where the arguments, and the package variables that the reading takes, are together of bulk at most 1048576: NARROWER than '..Said'. Prove '..Said' where nothing that the law and all that it calls make is longer than what came in: it says more and counts as full. Else prove '..UptoSaid'. A law counts once. -/
mutual
def uptoBulk {H : Type} : DataW H → Nat
  | .lit (.string bytes) => bytes.length + 1
  | .lit _ => 1
  | .nil => 1
  | .ptr d => uptoBulk d + 1
  | .slice elems spare => uptoBulkAll elems + uptoBulkAll spare + 1
  | .agg parts => uptoBulkAll parts + 1
  | .iface _ d => uptoBulk d + 1
  | .map entries => uptoBulkEntries entries + 1
  | .held _ => 1
def uptoBulkAll {H : Type} : List (DataW H) → Nat
  | [] => 0
  | d :: r => uptoBulk d + uptoBulkAll r
def uptoBulkEntries {H : Type} : List (Lit × DataW H) → Nat
  | [] => 0
  | x :: r => uptoBulkEntry x + uptoBulkEntries r
def uptoBulkEntry {H : Type} : Lit × DataW H → Nat
  | (.string bytes, d) => bytes.length + uptoBulk d + 1
  | (_, d) => uptoBulk d + 1
 end
def uptoSmall : (H : Type) → List (DataW H) → Bool := fun _ ds => decide (uptoBulkAll ds ≤ 1048576)
def OpenSpec.upto (s : _root_.Go.ChangeSpec) : _root_.Go.OpenSpec := { _root_.Go.OpenSpec.ofChange s with cond := some uptoSmall }

/-- 'harrowlaw10.FordChecks', WHERE WHAT IT READS IS OF BULK AT MOST 1048576: true; the input reads as it did. -/
def fordChecksUptoRow : OpenClaim := { program := "ytbipjdgholdhcaagreat", sum := "77a8225f71fdd6f3dd54a4dcc8df2dae26423237d4d145d8ba60447e464df4d1", func := "harrow/harrowlaw10.FordChecks", spec := "fordChecks", unfollowed := true, recurses := true, apart := false, narrowed := true }
def FordChecksUptoSaid : Prop := fordChecksUptoRow.holds Tryz.pinned (OpenSpec.upto fordChecksSpec)

/-- 'harrowlaw10.FordHeads', WHERE WHAT IT READS IS OF BULK AT MOST 1048576: true; the input reads as it did. -/
def fordHeadsUptoRow : OpenClaim := { program := "ytbipjdgholdhcaagreat", sum := "77a8225f71fdd6f3dd54a4dcc8df2dae26423237d4d145d8ba60447e464df4d1", func := "harrow/harrowlaw10.FordHeads", spec := "fordHeads", unfollowed := true, recurses := true, apart := false, narrowed := true }
def FordHeadsUptoSaid : Prop := fordHeadsUptoRow.holds Tryz.pinned (OpenSpec.upto fordHeadsSpec)

/-- 'harrowlaw10.FordOrders', WHERE WHAT IT READS IS OF BULK AT MOST 1048576: true; the input reads as it did. -/
def fordOrdersUptoRow : OpenClaim := { program := "ytbipjdgholdhcaagreat", sum := "77a8225f71fdd6f3dd54a4dcc8df2dae26423237d4d145d8ba60447e464df4d1", func := "harrow/harrowlaw10.FordOrders", spec := "fordOrders", unfollowed := true, recurses := true, apart := false, narrowed := true }
def FordOrdersUptoSaid : Prop := fordOrdersUptoRow.holds Tryz.pinned (OpenSpec.upto fordOrdersSpec)

/-- 'harrowlaw10.FordMore', WHERE WHAT IT READS IS OF BULK AT MOST 1048576: true; the input reads as it did. -/
def fordMoreUptoRow : OpenClaim := { program := "ytbipjdgholdhcaagreat", sum := "77a8225f71fdd6f3dd54a4dcc8df2dae26423237d4d145d8ba60447e464df4d1", func := "harrow/harrowlaw10.FordMore", spec := "fordMore", unfollowed := true, recurses := true, apart := false, narrowed := true }
def FordMoreUptoSaid : Prop := fordMoreUptoRow.holds Tryz.pinned (OpenSpec.upto fordMoreSpec)

end Rows
end Go.Proofs.YtbipjdgholdhcaaGreat
