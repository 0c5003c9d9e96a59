/-
  No cell of these rows narrows 'for every input' (looked for: loops, veiled, ifaces, maps, wideKeys, modest, calm, conditions, laid).
  DERIVED. THE GIVEN ROWS OF THIS SEAT. 6 by the template 'for every input the law returns true; each argument reads behind the call as it read before'; 0 by the template 'total and deterministic' (their statements: YtlcmlipldkpliaaTotals.lean).
  GIVEN WITH THE SEED: the statements are not yours to turn. If you find one false, say at which input.
  Laid BY PROGRAM, IN A SANDBOX (cutbox-rows.mjs): the forced cells as the released guide's own fill.sh prints them over the translation 4d7fbae9e593840f… (all of the seat's roots in one cut). By AI agents, Wed Nov 11 2026. No macro, syntax, notation, axiom, sorry.
-/
import Derived.Test.YtlcmlipldkpliaaChecked
import GoSem.Claim
import GoSem.ClaimJoined
import GoSem.ClaimMapViews
import Derived.JoinedTies
import Derived.KernelRfl
namespace Go.Proofs.Ytlcmlipldkpliaa
/- THE CELL 'sum', in the pinned program and in every row, IS THE sha256 OF THE DUMP (.gsa) THAT YtlcmlipldkpliaaProg.lean LOADS. Nothing in Lean hashes anything: it is a label: what it is worth is what the hold of that sum in a sandbox is worth. -/
noncomputable def Try.pinned : Pinned := { name := "ytlcmlipldkpliaa", sum := "4d7fbae9e593840fbe018e5e04aeff76e6be42ba77a120c38f18de711676429a", checked := Try.checked }
namespace Rows
def none {H : Type} : Left H := { results := [], args := [] }

/-- 'harrowlaw01.CharsetBits': WHATEVER THE INPUT: true; the input reads as it did. -/
def charsetBitsSpec : ChangeSpec := { name := "charsetBits", fn := fun _ => fun
  | [d1, d2, d3] => { results := [.lit (.bool true)], args := [d1, d2, d3] }
  | _ => none }
def charsetBitsRow : OpenClaim := { program := "ytlcmlipldkpliaa", sum := "4d7fbae9e593840fbe018e5e04aeff76e6be42ba77a120c38f18de711676429a", func := "harrow/harrowlaw01.CharsetBits", spec := "charsetBits", apart := false }
def CharsetBitsSaid : Prop := charsetBitsRow.holds Try.pinned (OpenSpec.ofChange charsetBitsSpec)

/-- ITS FALSE NEIGHBOUR: 'it returns false'. Refute it at one input. -/
def charsetBitsWrong : ChangeSpec := { name := "charsetBits", fn := fun _ => fun
  | [d1, d2, d3] => { results := [.lit (.bool false)], args := [d1, d2, d3] }
  | _ => none }
def CharsetBitsWrongFalsely : Prop := charsetBitsRow.holds Try.pinned (OpenSpec.ofChange charsetBitsWrong)

/-- 'harrowlaw01.CharsetRanges': WHATEVER THE INPUT: true; the input reads as it did. -/
def charsetRangesSpec : ChangeSpec := { name := "charsetRanges", fn := fun _ => fun
  | [d1, d2, d3] => { results := [.lit (.bool true)], args := [d1, d2, d3] }
  | _ => none }
def charsetRangesRow : OpenClaim := { program := "ytlcmlipldkpliaa", sum := "4d7fbae9e593840fbe018e5e04aeff76e6be42ba77a120c38f18de711676429a", func := "harrow/harrowlaw01.CharsetRanges", spec := "charsetRanges", recurses := true, apart := false }
def CharsetRangesSaid : Prop := charsetRangesRow.holds Try.pinned (OpenSpec.ofChange charsetRangesSpec)

/-- ITS FALSE NEIGHBOUR: 'it returns false'. Refute it at one input. -/
def charsetRangesWrong : ChangeSpec := { name := "charsetRanges", fn := fun _ => fun
  | [d1, d2, d3] => { results := [.lit (.bool false)], args := [d1, d2, d3] }
  | _ => none }
def CharsetRangesWrongFalsely : Prop := charsetRangesRow.holds Try.pinned (OpenSpec.ofChange charsetRangesWrong)

/-- 'harrowlaw01.CharsetCounts': WHATEVER THE INPUT: true; the input reads as it did. -/
def charsetCountsSpec : ChangeSpec := { name := "charsetCounts", fn := fun _ => fun
  | [d1, d2] => { results := [.lit (.bool true)], args := [d1, d2] }
  | _ => none }
def charsetCountsRow : OpenClaim := { program := "ytlcmlipldkpliaa", sum := "4d7fbae9e593840fbe018e5e04aeff76e6be42ba77a120c38f18de711676429a", func := "harrow/harrowlaw01.CharsetCounts", spec := "charsetCounts", unfollowed := true, recurses := true, apart := false }
def CharsetCountsSaid : Prop := charsetCountsRow.holds Try.pinned (OpenSpec.ofChange charsetCountsSpec)

/-- ITS FALSE NEIGHBOUR: 'it returns false'. Refute it at one input. -/
def charsetCountsWrong : ChangeSpec := { name := "charsetCounts", fn := fun _ => fun
  | [d1, d2] => { results := [.lit (.bool false)], args := [d1, d2] }
  | _ => none }
def CharsetCountsWrongFalsely : Prop := charsetCountsRow.holds Try.pinned (OpenSpec.ofChange charsetCountsWrong)

/-- 'harrowlaw01.CharsetLists': WHATEVER THE INPUT: true; the input reads as it did. -/
def charsetListsSpec : ChangeSpec := { name := "charsetLists", fn := fun _ => fun
  | [d1, d2] => { results := [.lit (.bool true)], args := [d1, d2] }
  | _ => none }
def charsetListsRow : OpenClaim := { program := "ytlcmlipldkpliaa", sum := "4d7fbae9e593840fbe018e5e04aeff76e6be42ba77a120c38f18de711676429a", func := "harrow/harrowlaw01.CharsetLists", spec := "charsetLists", unfollowed := true, recurses := true, apart := false }
def CharsetListsSaid : Prop := charsetListsRow.holds Try.pinned (OpenSpec.ofChange charsetListsSpec)

/-- ITS FALSE NEIGHBOUR: 'it returns false'. Refute it at one input. -/
def charsetListsWrong : ChangeSpec := { name := "charsetLists", fn := fun _ => fun
  | [d1, d2] => { results := [.lit (.bool false)], args := [d1, d2] }
  | _ => none }
def CharsetListsWrongFalsely : Prop := charsetListsRow.holds Try.pinned (OpenSpec.ofChange charsetListsWrong)

/-- 'harrowlaw01.CharsetSpans': WHATEVER THE INPUT: true; the input reads as it did. -/
def charsetSpansSpec : ChangeSpec := { name := "charsetSpans", fn := fun _ => fun
  | [d] => { results := [.lit (.bool true)], args := [d] }
  | _ => none }
def charsetSpansRow : OpenClaim := { program := "ytlcmlipldkpliaa", sum := "4d7fbae9e593840fbe018e5e04aeff76e6be42ba77a120c38f18de711676429a", func := "harrow/harrowlaw01.CharsetSpans", spec := "charsetSpans", inPlace := ["internal/bytealg.IndexByteString", "internal/abi.NoEscape"], unfollowed := true, recurses := true, apart := false }
def CharsetSpansSaid : Prop := charsetSpansRow.holds Try.pinned (OpenSpec.ofChange charsetSpansSpec)

/-- ITS FALSE NEIGHBOUR: 'it returns false'. Refute it at one input. -/
def charsetSpansWrong : ChangeSpec := { name := "charsetSpans", fn := fun _ => fun
  | [d] => { results := [.lit (.bool false)], args := [d] }
  | _ => none }
def CharsetSpansWrongFalsely : Prop := charsetSpansRow.holds Try.pinned (OpenSpec.ofChange charsetSpansWrong)

/-- 'harrowlaw01.CharsetTexts': WHATEVER THE INPUT: true; the input reads as it did. -/
def charsetTextsSpec : ChangeSpec := { name := "charsetTexts", fn := fun _ => fun
  | [d1, d2, d3] => { results := [.lit (.bool true)], args := [d1, d2, d3] }
  | _ => none }
def charsetTextsRow : OpenClaim := { program := "ytlcmlipldkpliaa", sum := "4d7fbae9e593840fbe018e5e04aeff76e6be42ba77a120c38f18de711676429a", func := "harrow/harrowlaw01.CharsetTexts", spec := "charsetTexts", inPlace := ["internal/bytealg.IndexByteString", "internal/abi.NoEscape"], unfollowed := true, recurses := true, apart := false }
def CharsetTextsSaid : Prop := charsetTextsRow.holds Try.pinned (OpenSpec.ofChange charsetTextsSpec)

/-- ITS FALSE NEIGHBOUR: 'it returns false'. Refute it at one input. -/
def charsetTextsWrong : ChangeSpec := { name := "charsetTexts", fn := fun _ => fun
  | [d1, d2, d3] => { results := [.lit (.bool false)], args := [d1, d2, d3] }
  | _ => none }
def CharsetTextsWrongFalsely : Prop := charsetTextsRow.holds Try.pinned (OpenSpec.ofChange charsetTextsWrong)

/- THE SECOND FORM. 'bulk': how many values and letters a reading holds, each counted each time it is reached (what is shared counts as often as it is met; a slice's spare places count too). A statement '..UptoSaid' is the law's where the arguments, and the package variables that the reading takes, are together of bulk at most 1048576: NARROWER than '..Said'. Prove '..Said' where nothing that the law and all that it calls make is longer than what came in: it says more and counts as full. Else prove '..UptoSaid'. A law counts once. -/
mutual
def uptoBulk {H : Type} : DataW H → Nat
  | .lit (.string bytes) => bytes.length + 1
  | .lit _ => 1
  | .nil => 1
  | .ptr d => uptoBulk d + 1
  | .slice elems spare => uptoBulkAll elems + uptoBulkAll spare + 1
  | .agg parts => uptoBulkAll parts + 1
  | .iface _ d => uptoBulk d + 1
  | .map entries => uptoBulkEntries entries + 1
  | .held _ => 1
def uptoBulkAll {H : Type} : List (DataW H) → Nat
  | [] => 0
  | d :: r => uptoBulk d + uptoBulkAll r
def uptoBulkEntries {H : Type} : List (Lit × DataW H) → Nat
  | [] => 0
  | x :: r => uptoBulkEntry x + uptoBulkEntries r
def uptoBulkEntry {H : Type} : Lit × DataW H → Nat
  | (.string bytes, d) => bytes.length + uptoBulk d + 1
  | (_, d) => uptoBulk d + 1
 end
def uptoSmall : (H : Type) → List (DataW H) → Bool := fun _ ds => decide (uptoBulkAll ds ≤ 1048576)
def OpenSpec.upto (s : _root_.Go.ChangeSpec) : _root_.Go.OpenSpec := { _root_.Go.OpenSpec.ofChange s with cond := some uptoSmall }

/-- 'harrowlaw01.CharsetBits', WHERE WHAT IT READS IS OF BULK AT MOST 1048576: true; the input reads as it did. -/
def charsetBitsUptoRow : OpenClaim := { program := "ytlcmlipldkpliaa", sum := "4d7fbae9e593840fbe018e5e04aeff76e6be42ba77a120c38f18de711676429a", func := "harrow/harrowlaw01.CharsetBits", spec := "charsetBits", apart := false, narrowed := true }
def CharsetBitsUptoSaid : Prop := charsetBitsUptoRow.holds Try.pinned (OpenSpec.upto charsetBitsSpec)

/-- 'harrowlaw01.CharsetRanges', WHERE WHAT IT READS IS OF BULK AT MOST 1048576: true; the input reads as it did. -/
def charsetRangesUptoRow : OpenClaim := { program := "ytlcmlipldkpliaa", sum := "4d7fbae9e593840fbe018e5e04aeff76e6be42ba77a120c38f18de711676429a", func := "harrow/harrowlaw01.CharsetRanges", spec := "charsetRanges", recurses := true, apart := false, narrowed := true }
def CharsetRangesUptoSaid : Prop := charsetRangesUptoRow.holds Try.pinned (OpenSpec.upto charsetRangesSpec)

/-- 'harrowlaw01.CharsetCounts', WHERE WHAT IT READS IS OF BULK AT MOST 1048576: true; the input reads as it did. -/
def charsetCountsUptoRow : OpenClaim := { program := "ytlcmlipldkpliaa", sum := "4d7fbae9e593840fbe018e5e04aeff76e6be42ba77a120c38f18de711676429a", func := "harrow/harrowlaw01.CharsetCounts", spec := "charsetCounts", unfollowed := true, recurses := true, apart := false, narrowed := true }
def CharsetCountsUptoSaid : Prop := charsetCountsUptoRow.holds Try.pinned (OpenSpec.upto charsetCountsSpec)

/-- 'harrowlaw01.CharsetLists', WHERE WHAT IT READS IS OF BULK AT MOST 1048576: true; the input reads as it did. -/
def charsetListsUptoRow : OpenClaim := { program := "ytlcmlipldkpliaa", sum := "4d7fbae9e593840fbe018e5e04aeff76e6be42ba77a120c38f18de711676429a", func := "harrow/harrowlaw01.CharsetLists", spec := "charsetLists", unfollowed := true, recurses := true, apart := false, narrowed := true }
def CharsetListsUptoSaid : Prop := charsetListsUptoRow.holds Try.pinned (OpenSpec.upto charsetListsSpec)

/-- 'harrowlaw01.CharsetSpans', WHERE WHAT IT READS IS OF BULK AT MOST 1048576: true; the input reads as it did. -/
def charsetSpansUptoRow : OpenClaim := { program := "ytlcmlipldkpliaa", sum := "4d7fbae9e593840fbe018e5e04aeff76e6be42ba77a120c38f18de711676429a", func := "harrow/harrowlaw01.CharsetSpans", spec := "charsetSpans", inPlace := ["internal/bytealg.IndexByteString", "internal/abi.NoEscape"], unfollowed := true, recurses := true, apart := false, narrowed := true }
def CharsetSpansUptoSaid : Prop := charsetSpansUptoRow.holds Try.pinned (OpenSpec.upto charsetSpansSpec)

/-- 'harrowlaw01.CharsetTexts', WHERE WHAT IT READS IS OF BULK AT MOST 1048576: true; the input reads as it did. -/
def charsetTextsUptoRow : OpenClaim := { program := "ytlcmlipldkpliaa", sum := "4d7fbae9e593840fbe018e5e04aeff76e6be42ba77a120c38f18de711676429a", func := "harrow/harrowlaw01.CharsetTexts", spec := "charsetTexts", inPlace := ["internal/bytealg.IndexByteString", "internal/abi.NoEscape"], unfollowed := true, recurses := true, apart := false, narrowed := true }
def CharsetTextsUptoSaid : Prop := charsetTextsUptoRow.holds Try.pinned (OpenSpec.upto charsetTextsSpec)

end Rows
end Go.Proofs.Ytlcmlipldkpliaa
