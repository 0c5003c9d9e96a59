/-
  NARROWER THAN 'FOR EVERY INPUT', by the rows' own cells (each row's printed sentence says how): ShowPatterns: laid · ShowGrammars: laid · ShowBack: laid · ShowForth: laid · ShowFew: laid.
  DERIVED. THE GIVEN ROWS OF THIS SEAT. 5 by the template 'for every input the law returns true; each argument reads behind the call as it read before'; 0 by the template 'total and deterministic' (their statements: YtnpifgcgjgddoaaGreatDoorTotals.lean).
  GIVEN WITH THE SEED: the statements are not yours to turn. If you find one false, say at which input.
  Laid BY PROGRAM, IN A SANDBOX (cutbox-rows.mjs): the forced cells as the released guide's own fill.sh prints them over the translation 65ffeb444e473e4b… (all of the seat's roots in one cut). By AI agents, Wed Nov 11 2026. No macro, syntax, notation, axiom, sorry.
-/
import Derived.Test.YtnpifgcgjgddoaaGreatDoorChecked
import GoSem.Claim
import GoSem.ClaimJoined
import GoSem.ClaimMapViews
import Derived.JoinedTies
import Derived.KernelRfl
namespace Go.Proofs.YtnpifgcgjgddoaaGreatDoor
/- THE CELL 'sum', in the pinned program and in every row, IS THE sha256 OF THE DUMP (.gsa) THAT YtnpifgcgjgddoaaGreatDoorProg.lean LOADS. Nothing in Lean hashes anything: it is a label: what it is worth is what the hold of that sum in a sandbox is worth. -/
noncomputable def Tryz.pinned : Pinned := { name := "ytnpifgcgjgddoaagreatdoor", sum := "65ffeb444e473e4b3671fe3d19c3b8b7873835be17379370ed4c53c853f207bd", checked := Tryz.checked }
namespace Rows
def none {H : Type} : Left H := { results := [], args := [] }

/- WHAT THE LISTED PACKAGE-LEVEL VARIABLES READ AS WHEN THE CALL BEGINS. Each datum BY PROGRAM (the guide's laid-datum.mjs) off the statement by which the dump's own 'gosem.cut.vars' lays the variable. In a bare row this is a premise. The card (YtnpifgcgjgddoaaGreatDoorCards.lean) ties it to the program's text. -/
def laid_math_bits_deBruijn32tab {H : Type} : DataW H := .agg [.lit (.int .u8 0), .lit (.int .u8 1), .lit (.int .u8 28), .lit (.int .u8 2), .lit (.int .u8 29), .lit (.int .u8 14), .lit (.int .u8 24), .lit (.int .u8 3), .lit (.int .u8 30), .lit (.int .u8 22), .lit (.int .u8 20), .lit (.int .u8 15), .lit (.int .u8 25), .lit (.int .u8 17), .lit (.int .u8 4), .lit (.int .u8 8), .lit (.int .u8 31), .lit (.int .u8 27), .lit (.int .u8 13), .lit (.int .u8 23), .lit (.int .u8 21), .lit (.int .u8 19), .lit (.int .u8 16), .lit (.int .u8 7), .lit (.int .u8 26), .lit (.int .u8 12), .lit (.int .u8 18), .lit (.int .u8 6), .lit (.int .u8 11), .lit (.int .u8 5), .lit (.int .u8 10), .lit (.int .u8 9)]
def laid_math_bits_deBruijn64tab {H : Type} : DataW H := .agg [.lit (.int .u8 0), .lit (.int .u8 1), .lit (.int .u8 56), .lit (.int .u8 2), .lit (.int .u8 57), .lit (.int .u8 49), .lit (.int .u8 28), .lit (.int .u8 3), .lit (.int .u8 61), .lit (.int .u8 58), .lit (.int .u8 42), .lit (.int .u8 50), .lit (.int .u8 38), .lit (.int .u8 29), .lit (.int .u8 17), .lit (.int .u8 4), .lit (.int .u8 62), .lit (.int .u8 47), .lit (.int .u8 59), .lit (.int .u8 36), .lit (.int .u8 45), .lit (.int .u8 43), .lit (.int .u8 51), .lit (.int .u8 22), .lit (.int .u8 53), .lit (.int .u8 39), .lit (.int .u8 33), .lit (.int .u8 30), .lit (.int .u8 24), .lit (.int .u8 18), .lit (.int .u8 12), .lit (.int .u8 5), .lit (.int .u8 63), .lit (.int .u8 55), .lit (.int .u8 48), .lit (.int .u8 27), .lit (.int .u8 60), .lit (.int .u8 41), .lit (.int .u8 37), .lit (.int .u8 16), .lit (.int .u8 46), .lit (.int .u8 35), .lit (.int .u8 44), .lit (.int .u8 21), .lit (.int .u8 52), .lit (.int .u8 32), .lit (.int .u8 23), .lit (.int .u8 11), .lit (.int .u8 54), .lit (.int .u8 26), .lit (.int .u8 40), .lit (.int .u8 15), .lit (.int .u8 34), .lit (.int .u8 20), .lit (.int .u8 31), .lit (.int .u8 10), .lit (.int .u8 25), .lit (.int .u8 14), .lit (.int .u8 19), .lit (.int .u8 9), .lit (.int .u8 13), .lit (.int .u8 8), .lit (.int .u8 7), .lit (.int .u8 6)]
def laid_internal_strconv_uint64pow10 {H : Type} : DataW H := .agg [.lit (.int .u64 1), .lit (.int .u64 10), .lit (.int .u64 100), .lit (.int .u64 1000), .lit (.int .u64 10000), .lit (.int .u64 100000), .lit (.int .u64 1000000), .lit (.int .u64 10000000), .lit (.int .u64 100000000), .lit (.int .u64 1000000000), .lit (.int .u64 10000000000), .lit (.int .u64 100000000000), .lit (.int .u64 1000000000000), .lit (.int .u64 10000000000000), .lit (.int .u64 100000000000000), .lit (.int .u64 1000000000000000), .lit (.int .u64 10000000000000000), .lit (.int .u64 100000000000000000), .lit (.int .u64 1000000000000000000), .lit (.int .u64 10000000000000000000)]
def laid_harrow_show_words {H : Type} : DataW H := .agg [.lit (.string []), .lit (.string [101, 109, 112, 116, 121]), .lit (.string [102, 97, 105, 108]), .lit (.string [97, 110, 121]), .lit (.string [116, 101, 120, 116]), .lit (.string [115, 101, 116]), .lit (.string [99, 97, 108, 108]), .lit (.string [115, 101, 113]), .lit (.string [99, 104, 111, 105, 99, 101]), .lit (.string [115, 116, 97, 114]), .lit (.string [112, 108, 117, 115]), .lit (.string [111, 112, 116]), .lit (.string [97, 110, 100]), .lit (.string [110, 111, 116]), .lit (.string [116, 105, 109, 101, 115]), .lit (.string [108, 101, 97, 115, 116]), .lit (.string [109, 111, 115, 116]), .lit (.string [112, 108, 97, 99, 101]), .lit (.string [115, 117, 98]), .lit (.string [103, 114, 111, 117, 112]), .lit (.string [108, 105, 115, 116]), .lit (.string [115, 117, 98, 115, 116]), .lit (.string [115, 116, 114, 105, 110, 103]), .lit (.string [112, 105, 99, 107])]
def laid_harrow_runes_blocks {H : Type} : DataW H := .agg [.agg [.lit (.int .i32 0), .lit (.int .i32 127)], .agg [.lit (.int .i32 128), .lit (.int .i32 2047)], .agg [.lit (.int .i32 2048), .lit (.int .i32 55295)], .agg [.lit (.int .i32 57344), .lit (.int .i32 65535)], .agg [.lit (.int .i32 65536), .lit (.int .i32 1114111)]]
def laid_harrow_token_signs {H : Type} : DataW H := .agg [.agg [.lit (.int .i64 29), .lit (.string [37, 101])], .agg [.lit (.int .i64 30), .lit (.string [37, 102])], .agg [.lit (.int .i64 14), .lit (.string [94, 43])], .agg [.lit (.int .i64 15), .lit (.string [94, 45])], .agg [.lit (.int .i64 13), .lit (.string [94])], .agg [.lit (.int .i64 6), .lit (.string [60, 45])], .agg [.lit (.int .i64 27), .lit (.string [45, 62])], .agg [.lit (.int .i64 7), .lit (.string [47])], .agg [.lit (.int .i64 8), .lit (.string [38])], .agg [.lit (.int .i64 9), .lit (.string [33])], .agg [.lit (.int .i64 10), .lit (.string [63])], .agg [.lit (.int .i64 11), .lit (.string [42])], .agg [.lit (.int .i64 12), .lit (.string [43])], .agg [.lit (.int .i64 16), .lit (.string [40])], .agg [.lit (.int .i64 17), .lit (.string [41])], .agg [.lit (.int .i64 18), .lit (.string [46])], .agg [.lit (.int .i64 21), .lit (.string [123, 58])], .agg [.lit (.int .i64 22), .lit (.string [58, 125])], .agg [.lit (.int .i64 23), .lit (.string [123, 124])], .agg [.lit (.int .i64 24), .lit (.string [124, 125])], .agg [.lit (.int .i64 25), .lit (.string [123, 126])], .agg [.lit (.int .i64 26), .lit (.string [126, 125])], .agg [.lit (.int .i64 19), .lit (.string [123])], .agg [.lit (.int .i64 20), .lit (.string [125])]]

/-- 'harrowlaw07.ShowPatterns': WHATEVER THE INPUT: true; the input reads as it did. -/
def showPatternsSpec : ChangeSpec := { name := "showPatterns", fn := fun _ => fun
  | [d] => { results := [.lit (.bool true)], args := [d] }
  | _ => none }
def showPatternsRow : OpenClaim := { program := "ytnpifgcgjgddoaagreatdoor", sum := "65ffeb444e473e4b3671fe3d19c3b8b7873835be17379370ed4c53c853f207bd", func := "harrow/harrowlaw07.ShowPatterns", spec := "showPatterns", inPlace := ["internal/abi.NoEscape"], unfollowed := true, recurses := true, named := ["internal/strconv.uint64pow10", "math/bits.deBruijn32tab", "math/bits.deBruijn64tab", "harrow/show.words"], apart := false, laid := [("math/bits.deBruijn32tab", laid_math_bits_deBruijn32tab), ("math/bits.deBruijn64tab", laid_math_bits_deBruijn64tab), ("internal/strconv.uint64pow10", laid_internal_strconv_uint64pow10), ("harrow/show.words", laid_harrow_show_words)] }
def ShowPatternsSaid : Prop := showPatternsRow.holds Tryz.pinned (OpenSpec.ofChange showPatternsSpec)

/-- ITS FALSE NEIGHBOUR: 'it returns false'. Refute it at one input. -/
def showPatternsWrong : ChangeSpec := { name := "showPatterns", fn := fun _ => fun
  | [d] => { results := [.lit (.bool false)], args := [d] }
  | _ => none }
def ShowPatternsWrongFalsely : Prop := showPatternsRow.holds Tryz.pinned (OpenSpec.ofChange showPatternsWrong)

/-- 'harrowlaw07.ShowGrammars': WHATEVER THE INPUT: true; the input reads as it did. -/
def showGrammarsSpec : ChangeSpec := { name := "showGrammars", fn := fun _ => fun
  | [d] => { results := [.lit (.bool true)], args := [d] }
  | _ => none }
def showGrammarsRow : OpenClaim := { program := "ytnpifgcgjgddoaagreatdoor", sum := "65ffeb444e473e4b3671fe3d19c3b8b7873835be17379370ed4c53c853f207bd", func := "harrow/harrowlaw07.ShowGrammars", spec := "showGrammars", inPlace := ["internal/abi.NoEscape"], unfollowed := true, recurses := true, named := ["internal/strconv.uint64pow10", "math/bits.deBruijn32tab", "math/bits.deBruijn64tab"], apart := false, laid := [("math/bits.deBruijn32tab", laid_math_bits_deBruijn32tab), ("math/bits.deBruijn64tab", laid_math_bits_deBruijn64tab), ("internal/strconv.uint64pow10", laid_internal_strconv_uint64pow10)] }
def ShowGrammarsSaid : Prop := showGrammarsRow.holds Tryz.pinned (OpenSpec.ofChange showGrammarsSpec)

/-- ITS FALSE NEIGHBOUR: 'it returns false'. Refute it at one input. -/
def showGrammarsWrong : ChangeSpec := { name := "showGrammars", fn := fun _ => fun
  | [d] => { results := [.lit (.bool false)], args := [d] }
  | _ => none }
def ShowGrammarsWrongFalsely : Prop := showGrammarsRow.holds Tryz.pinned (OpenSpec.ofChange showGrammarsWrong)

/-- 'harrowlaw07.ShowBack': WHATEVER THE INPUT: true; the input reads as it did. -/
def showBackSpec : ChangeSpec := { name := "showBack", fn := fun _ => fun
  | [d1, d2] => { results := [.lit (.bool true)], args := [d1, d2] }
  | _ => none }
def showBackRow : OpenClaim := { program := "ytnpifgcgjgddoaagreatdoor", sum := "65ffeb444e473e4b3671fe3d19c3b8b7873835be17379370ed4c53c853f207bd", func := "harrow/harrowlaw07.ShowBack", spec := "showBack", inPlace := ["internal/abi.NoEscape", "internal/bytealg.IndexByteString"], unfollowed := true, recurses := true, named := ["internal/strconv.uint64pow10", "math/bits.deBruijn32tab", "math/bits.deBruijn64tab", "harrow/token.signs", "harrow/runes.blocks"], apart := false, laid := [("math/bits.deBruijn32tab", laid_math_bits_deBruijn32tab), ("math/bits.deBruijn64tab", laid_math_bits_deBruijn64tab), ("internal/strconv.uint64pow10", laid_internal_strconv_uint64pow10), ("harrow/runes.blocks", laid_harrow_runes_blocks), ("harrow/token.signs", laid_harrow_token_signs)] }
def ShowBackSaid : Prop := showBackRow.holds Tryz.pinned (OpenSpec.ofChange showBackSpec)

/-- ITS FALSE NEIGHBOUR: 'it returns false'. Refute it at one input. -/
def showBackWrong : ChangeSpec := { name := "showBack", fn := fun _ => fun
  | [d1, d2] => { results := [.lit (.bool false)], args := [d1, d2] }
  | _ => none }
def ShowBackWrongFalsely : Prop := showBackRow.holds Tryz.pinned (OpenSpec.ofChange showBackWrong)

/-- 'harrowlaw07.ShowForth': WHATEVER THE INPUT: true; the input reads as it did. -/
def showForthSpec : ChangeSpec := { name := "showForth", fn := fun _ => fun
  | [d] => { results := [.lit (.bool true)], args := [d] }
  | _ => none }
def showForthRow : OpenClaim := { program := "ytnpifgcgjgddoaagreatdoor", sum := "65ffeb444e473e4b3671fe3d19c3b8b7873835be17379370ed4c53c853f207bd", func := "harrow/harrowlaw07.ShowForth", spec := "showForth", inPlace := ["internal/abi.NoEscape", "internal/bytealg.IndexByteString"], unfollowed := true, recurses := true, named := ["internal/strconv.uint64pow10", "math/bits.deBruijn32tab", "math/bits.deBruijn64tab", "harrow/token.signs", "harrow/runes.blocks"], apart := false, laid := [("math/bits.deBruijn32tab", laid_math_bits_deBruijn32tab), ("math/bits.deBruijn64tab", laid_math_bits_deBruijn64tab), ("internal/strconv.uint64pow10", laid_internal_strconv_uint64pow10), ("harrow/runes.blocks", laid_harrow_runes_blocks), ("harrow/token.signs", laid_harrow_token_signs)] }
def ShowForthSaid : Prop := showForthRow.holds Tryz.pinned (OpenSpec.ofChange showForthSpec)

/-- ITS FALSE NEIGHBOUR: 'it returns false'. Refute it at one input. -/
def showForthWrong : ChangeSpec := { name := "showForth", fn := fun _ => fun
  | [d] => { results := [.lit (.bool false)], args := [d] }
  | _ => none }
def ShowForthWrongFalsely : Prop := showForthRow.holds Tryz.pinned (OpenSpec.ofChange showForthWrong)

/-- 'harrowlaw07.ShowFew': WHATEVER THE INPUT: true; the input reads as it did. -/
def showFewSpec : ChangeSpec := { name := "showFew", fn := fun _ => fun
  | [d] => { results := [.lit (.bool true)], args := [d] }
  | _ => none }
def showFewRow : OpenClaim := { program := "ytnpifgcgjgddoaagreatdoor", sum := "65ffeb444e473e4b3671fe3d19c3b8b7873835be17379370ed4c53c853f207bd", func := "harrow/harrowlaw07.ShowFew", spec := "showFew", inPlace := ["internal/abi.NoEscape", "internal/bytealg.IndexByteString"], unfollowed := true, recurses := true, named := ["internal/strconv.uint64pow10", "math/bits.deBruijn32tab", "math/bits.deBruijn64tab", "harrow/token.signs", "harrow/runes.blocks"], apart := false, laid := [("math/bits.deBruijn32tab", laid_math_bits_deBruijn32tab), ("math/bits.deBruijn64tab", laid_math_bits_deBruijn64tab), ("internal/strconv.uint64pow10", laid_internal_strconv_uint64pow10), ("harrow/runes.blocks", laid_harrow_runes_blocks), ("harrow/token.signs", laid_harrow_token_signs)] }
def ShowFewSaid : Prop := showFewRow.holds Tryz.pinned (OpenSpec.ofChange showFewSpec)

/-- ITS FALSE NEIGHBOUR: 'it returns false'. Refute it at one input. -/
def showFewWrong : ChangeSpec := { name := "showFew", fn := fun _ => fun
  | [d] => { results := [.lit (.bool false)], args := [d] }
  | _ => none }
def ShowFewWrongFalsely : Prop := showFewRow.holds Tryz.pinned (OpenSpec.ofChange showFewWrong)

/- THE SECOND FORM. 'bulk': how many values and letters a reading holds, each counted each time it is reached (what is shared counts as often as it is met; a slice's spare places count too). A statement '..UptoSaid' is the law's where the arguments, and the package variables that the reading takes, are together of bulk at most 1048576: NARROWER than '..Said'. Prove '..Said' where nothing that the law and all that it calls make is longer than what came in: it says more and counts as full. Else prove '..UptoSaid'. A law counts once. -/
mutual
def uptoBulk {H : Type} : DataW H → Nat
  | .lit (.string bytes) => bytes.length + 1
  | .lit _ => 1
  | .nil => 1
  | .ptr d => uptoBulk d + 1
  | .slice elems spare => uptoBulkAll elems + uptoBulkAll spare + 1
  | .agg parts => uptoBulkAll parts + 1
  | .iface _ d => uptoBulk d + 1
  | .map entries => uptoBulkEntries entries + 1
  | .held _ => 1
def uptoBulkAll {H : Type} : List (DataW H) → Nat
  | [] => 0
  | d :: r => uptoBulk d + uptoBulkAll r
def uptoBulkEntries {H : Type} : List (Lit × DataW H) → Nat
  | [] => 0
  | x :: r => uptoBulkEntry x + uptoBulkEntries r
def uptoBulkEntry {H : Type} : Lit × DataW H → Nat
  | (.string bytes, d) => bytes.length + uptoBulk d + 1
  | (_, d) => uptoBulk d + 1
 end
def uptoSmall : (H : Type) → List (DataW H) → Bool := fun _ ds => decide (uptoBulkAll ds ≤ 1048576)
def OpenSpec.upto (s : _root_.Go.ChangeSpec) : _root_.Go.OpenSpec := { _root_.Go.OpenSpec.ofChange s with cond := some uptoSmall }

/-- 'harrowlaw07.ShowPatterns', WHERE WHAT IT READS IS OF BULK AT MOST 1048576: true; the input reads as it did. -/
def showPatternsUptoRow : OpenClaim := { program := "ytnpifgcgjgddoaagreatdoor", sum := "65ffeb444e473e4b3671fe3d19c3b8b7873835be17379370ed4c53c853f207bd", func := "harrow/harrowlaw07.ShowPatterns", spec := "showPatterns", inPlace := ["internal/abi.NoEscape"], unfollowed := true, recurses := true, named := ["internal/strconv.uint64pow10", "math/bits.deBruijn32tab", "math/bits.deBruijn64tab", "harrow/show.words"], apart := false, laid := [("math/bits.deBruijn32tab", laid_math_bits_deBruijn32tab), ("math/bits.deBruijn64tab", laid_math_bits_deBruijn64tab), ("internal/strconv.uint64pow10", laid_internal_strconv_uint64pow10), ("harrow/show.words", laid_harrow_show_words)], narrowed := true }
def ShowPatternsUptoSaid : Prop := showPatternsUptoRow.holds Tryz.pinned (OpenSpec.upto showPatternsSpec)

/-- 'harrowlaw07.ShowGrammars', WHERE WHAT IT READS IS OF BULK AT MOST 1048576: true; the input reads as it did. -/
def showGrammarsUptoRow : OpenClaim := { program := "ytnpifgcgjgddoaagreatdoor", sum := "65ffeb444e473e4b3671fe3d19c3b8b7873835be17379370ed4c53c853f207bd", func := "harrow/harrowlaw07.ShowGrammars", spec := "showGrammars", inPlace := ["internal/abi.NoEscape"], unfollowed := true, recurses := true, named := ["internal/strconv.uint64pow10", "math/bits.deBruijn32tab", "math/bits.deBruijn64tab"], apart := false, laid := [("math/bits.deBruijn32tab", laid_math_bits_deBruijn32tab), ("math/bits.deBruijn64tab", laid_math_bits_deBruijn64tab), ("internal/strconv.uint64pow10", laid_internal_strconv_uint64pow10)], narrowed := true }
def ShowGrammarsUptoSaid : Prop := showGrammarsUptoRow.holds Tryz.pinned (OpenSpec.upto showGrammarsSpec)

/-- 'harrowlaw07.ShowBack', WHERE WHAT IT READS IS OF BULK AT MOST 1048576: true; the input reads as it did. -/
def showBackUptoRow : OpenClaim := { program := "ytnpifgcgjgddoaagreatdoor", sum := "65ffeb444e473e4b3671fe3d19c3b8b7873835be17379370ed4c53c853f207bd", func := "harrow/harrowlaw07.ShowBack", spec := "showBack", inPlace := ["internal/abi.NoEscape", "internal/bytealg.IndexByteString"], unfollowed := true, recurses := true, named := ["internal/strconv.uint64pow10", "math/bits.deBruijn32tab", "math/bits.deBruijn64tab", "harrow/token.signs", "harrow/runes.blocks"], apart := false, laid := [("math/bits.deBruijn32tab", laid_math_bits_deBruijn32tab), ("math/bits.deBruijn64tab", laid_math_bits_deBruijn64tab), ("internal/strconv.uint64pow10", laid_internal_strconv_uint64pow10), ("harrow/runes.blocks", laid_harrow_runes_blocks), ("harrow/token.signs", laid_harrow_token_signs)], narrowed := true }
def ShowBackUptoSaid : Prop := showBackUptoRow.holds Tryz.pinned (OpenSpec.upto showBackSpec)

/-- 'harrowlaw07.ShowForth', WHERE WHAT IT READS IS OF BULK AT MOST 1048576: true; the input reads as it did. -/
def showForthUptoRow : OpenClaim := { program := "ytnpifgcgjgddoaagreatdoor", sum := "65ffeb444e473e4b3671fe3d19c3b8b7873835be17379370ed4c53c853f207bd", func := "harrow/harrowlaw07.ShowForth", spec := "showForth", inPlace := ["internal/abi.NoEscape", "internal/bytealg.IndexByteString"], unfollowed := true, recurses := true, named := ["internal/strconv.uint64pow10", "math/bits.deBruijn32tab", "math/bits.deBruijn64tab", "harrow/token.signs", "harrow/runes.blocks"], apart := false, laid := [("math/bits.deBruijn32tab", laid_math_bits_deBruijn32tab), ("math/bits.deBruijn64tab", laid_math_bits_deBruijn64tab), ("internal/strconv.uint64pow10", laid_internal_strconv_uint64pow10), ("harrow/runes.blocks", laid_harrow_runes_blocks), ("harrow/token.signs", laid_harrow_token_signs)], narrowed := true }
def ShowForthUptoSaid : Prop := showForthUptoRow.holds Tryz.pinned (OpenSpec.upto showForthSpec)

/-- 'harrowlaw07.ShowFew', WHERE WHAT IT READS IS OF BULK AT MOST 1048576: true; the input reads as it did. -/
def showFewUptoRow : OpenClaim := { program := "ytnpifgcgjgddoaagreatdoor", sum := "65ffeb444e473e4b3671fe3d19c3b8b7873835be17379370ed4c53c853f207bd", func := "harrow/harrowlaw07.ShowFew", spec := "showFew", inPlace := ["internal/abi.NoEscape", "internal/bytealg.IndexByteString"], unfollowed := true, recurses := true, named := ["internal/strconv.uint64pow10", "math/bits.deBruijn32tab", "math/bits.deBruijn64tab", "harrow/token.signs", "harrow/runes.blocks"], apart := false, laid := [("math/bits.deBruijn32tab", laid_math_bits_deBruijn32tab), ("math/bits.deBruijn64tab", laid_math_bits_deBruijn64tab), ("internal/strconv.uint64pow10", laid_internal_strconv_uint64pow10), ("harrow/runes.blocks", laid_harrow_runes_blocks), ("harrow/token.signs", laid_harrow_token_signs)], narrowed := true }
def ShowFewUptoSaid : Prop := showFewUptoRow.holds Tryz.pinned (OpenSpec.upto showFewSpec)

end Rows
end Go.Proofs.YtnpifgcgjgddoaaGreatDoor
