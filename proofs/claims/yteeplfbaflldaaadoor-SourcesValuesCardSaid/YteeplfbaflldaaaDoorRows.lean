/-
  NARROWER THAN 'FOR EVERY INPUT', by the rows' own cells (each row's printed sentence says how): TagsTell: laid · TagsWritten: laid · TagsSwallow: laid · TagsCut: laid · TagsFirst: laid · SourcesBack: laid · SourcesHost: laid · SourcesValues: laid.
  DERIVED. THE GIVEN ROWS OF THIS SEAT. 8 by the template 'for every input the law returns true; each argument reads behind the call as it read before'; 0 by the template 'total and deterministic' (their statements: YteeplfbaflldaaaDoorTotals.lean).
  GIVEN WITH THE SEED: the statements are not yours to turn. If you find one false, say at which input.
  Laid BY PROGRAM, IN A SANDBOX (cutbox-rows.mjs): the forced cells as the released guide's own fill.sh prints them over the translation 427e8626c8c9bfe3… (all of the seat's roots in one cut). By AI agents, Wed Nov 11 2026. No macro, syntax, notation, axiom, sorry.
-/
import Derived.Test.YteeplfbaflldaaaDoorChecked
import GoSem.PinnedTables
import GoSem.Claim
import GoSem.ClaimJoined
import GoSem.ClaimMapViews
import Derived.JoinedTies
import Derived.KernelRfl
namespace Go.Proofs.YteeplfbaflldaaaDoor
/- THE CELL 'sum', in the pinned program and in every row, IS THE sha256 OF THE DUMP (.gsa) THAT YteeplfbaflldaaaDoorProg.lean LOADS. Nothing in Lean hashes anything: it is a label: what it is worth is what the hold of that sum in a sandbox is worth. -/
noncomputable def Tryd.pinned : Pinned := { name := "yteeplfbaflldaaadoor", sum := "427e8626c8c9bfe3658d1315d5d40d354e232cbb718484159dd1708e31775452", checked := Tryd.checked }
namespace Rows
def none {H : Type} : Left H := { results := [], args := [] }

/- WHAT THE LISTED PACKAGE-LEVEL VARIABLES READ AS WHEN THE CALL BEGINS. Each datum BY PROGRAM (the guide's laid-datum.mjs) off the statement by which the dump's own 'gosem.cut.vars' lays the variable. In a bare row this is a premise. The card (YteeplfbaflldaaaDoorCards.lean) ties it to the program's text. -/
def laid_unicode_utf8_acceptRanges {H : Type} : DataW H := .agg [.agg [.lit (.int .u8 128), .lit (.int .u8 191)], .agg [.lit (.int .u8 160), .lit (.int .u8 191)], .agg [.lit (.int .u8 128), .lit (.int .u8 159)], .agg [.lit (.int .u8 144), .lit (.int .u8 191)], .agg [.lit (.int .u8 128), .lit (.int .u8 143)], .agg [.lit (.int .u8 0), .lit (.int .u8 0)], .agg [.lit (.int .u8 0), .lit (.int .u8 0)], .agg [.lit (.int .u8 0), .lit (.int .u8 0)], .agg [.lit (.int .u8 0), .lit (.int .u8 0)], .agg [.lit (.int .u8 0), .lit (.int .u8 0)], .agg [.lit (.int .u8 0), .lit (.int .u8 0)], .agg [.lit (.int .u8 0), .lit (.int .u8 0)], .agg [.lit (.int .u8 0), .lit (.int .u8 0)], .agg [.lit (.int .u8 0), .lit (.int .u8 0)], .agg [.lit (.int .u8 0), .lit (.int .u8 0)], .agg [.lit (.int .u8 0), .lit (.int .u8 0)]]
def laid_lazaret_refs_windows {H : Type} : DataW H := .agg [.lit (.int .i32 8364), .lit (.int .i32 0), .lit (.int .i32 8218), .lit (.int .i32 402), .lit (.int .i32 8222), .lit (.int .i32 8230), .lit (.int .i32 8224), .lit (.int .i32 8225), .lit (.int .i32 710), .lit (.int .i32 8240), .lit (.int .i32 352), .lit (.int .i32 8249), .lit (.int .i32 338), .lit (.int .i32 0), .lit (.int .i32 381), .lit (.int .i32 0), .lit (.int .i32 0), .lit (.int .i32 8216), .lit (.int .i32 8217), .lit (.int .i32 8220), .lit (.int .i32 8221), .lit (.int .i32 8226), .lit (.int .i32 8211), .lit (.int .i32 8212), .lit (.int .i32 732), .lit (.int .i32 8482), .lit (.int .i32 353), .lit (.int .i32 8250), .lit (.int .i32 339), .lit (.int .i32 0), .lit (.int .i32 382), .lit (.int .i32 376)]
/-- One of Go's own tables, pinned by name: the form's constant. -/
def laid_unicode_utf8_first : DataW Unit := Go.Pinned.utf8First
def laid_math_bits_deBruijn32tab {H : Type} : DataW H := .agg [.lit (.int .u8 0), .lit (.int .u8 1), .lit (.int .u8 28), .lit (.int .u8 2), .lit (.int .u8 29), .lit (.int .u8 14), .lit (.int .u8 24), .lit (.int .u8 3), .lit (.int .u8 30), .lit (.int .u8 22), .lit (.int .u8 20), .lit (.int .u8 15), .lit (.int .u8 25), .lit (.int .u8 17), .lit (.int .u8 4), .lit (.int .u8 8), .lit (.int .u8 31), .lit (.int .u8 27), .lit (.int .u8 13), .lit (.int .u8 23), .lit (.int .u8 21), .lit (.int .u8 19), .lit (.int .u8 16), .lit (.int .u8 7), .lit (.int .u8 26), .lit (.int .u8 12), .lit (.int .u8 18), .lit (.int .u8 6), .lit (.int .u8 11), .lit (.int .u8 5), .lit (.int .u8 10), .lit (.int .u8 9)]
def laid_math_bits_deBruijn64tab {H : Type} : DataW H := .agg [.lit (.int .u8 0), .lit (.int .u8 1), .lit (.int .u8 56), .lit (.int .u8 2), .lit (.int .u8 57), .lit (.int .u8 49), .lit (.int .u8 28), .lit (.int .u8 3), .lit (.int .u8 61), .lit (.int .u8 58), .lit (.int .u8 42), .lit (.int .u8 50), .lit (.int .u8 38), .lit (.int .u8 29), .lit (.int .u8 17), .lit (.int .u8 4), .lit (.int .u8 62), .lit (.int .u8 47), .lit (.int .u8 59), .lit (.int .u8 36), .lit (.int .u8 45), .lit (.int .u8 43), .lit (.int .u8 51), .lit (.int .u8 22), .lit (.int .u8 53), .lit (.int .u8 39), .lit (.int .u8 33), .lit (.int .u8 30), .lit (.int .u8 24), .lit (.int .u8 18), .lit (.int .u8 12), .lit (.int .u8 5), .lit (.int .u8 63), .lit (.int .u8 55), .lit (.int .u8 48), .lit (.int .u8 27), .lit (.int .u8 60), .lit (.int .u8 41), .lit (.int .u8 37), .lit (.int .u8 16), .lit (.int .u8 46), .lit (.int .u8 35), .lit (.int .u8 44), .lit (.int .u8 21), .lit (.int .u8 52), .lit (.int .u8 32), .lit (.int .u8 23), .lit (.int .u8 11), .lit (.int .u8 54), .lit (.int .u8 26), .lit (.int .u8 40), .lit (.int .u8 15), .lit (.int .u8 34), .lit (.int .u8 20), .lit (.int .u8 31), .lit (.int .u8 10), .lit (.int .u8 25), .lit (.int .u8 14), .lit (.int .u8 19), .lit (.int .u8 9), .lit (.int .u8 13), .lit (.int .u8 8), .lit (.int .u8 7), .lit (.int .u8 6)]
def laid_internal_strconv_uint64pow10 {H : Type} : DataW H := .agg [.lit (.int .u64 1), .lit (.int .u64 10), .lit (.int .u64 100), .lit (.int .u64 1000), .lit (.int .u64 10000), .lit (.int .u64 100000), .lit (.int .u64 1000000), .lit (.int .u64 10000000), .lit (.int .u64 100000000), .lit (.int .u64 1000000000), .lit (.int .u64 10000000000), .lit (.int .u64 100000000000), .lit (.int .u64 1000000000000), .lit (.int .u64 10000000000000), .lit (.int .u64 100000000000000), .lit (.int .u64 1000000000000000), .lit (.int .u64 10000000000000000), .lit (.int .u64 100000000000000000), .lit (.int .u64 1000000000000000000), .lit (.int .u64 10000000000000000000)]
def laid_errors_errorType {H : Type} : DataW H := .iface "internal/reflectlite.rtype" (.agg [.ptr (.lit (.string [101, 114, 114, 111, 114]))])

/-- 'lazaretlaw10.TagsTell': WHATEVER THE INPUT: true; the input reads as it did. -/
def tagsTellSpec : ChangeSpec := { name := "tagsTell", fn := fun _ => fun
  | [d1, d2] => { results := [.lit (.bool true)], args := [d1, d2] }
  | _ => none }
def tagsTellRow : OpenClaim := { program := "yteeplfbaflldaaadoor", sum := "427e8626c8c9bfe3658d1315d5d40d354e232cbb718484159dd1708e31775452", func := "lazaret/lazaretlaw10.TagsTell", spec := "tagsTell", inPlace := ["internal/bytealg.IndexByteString", "internal/bytealg.CountString", "internal/bytealg.IndexString", "internal/abi.NoEscape", "internal/bytealg.MakeNoZero"], named := ["internal/bytealg.MaxLen", "unicode/utf8.first", "unicode/utf8.acceptRanges", "lazaret/refs.windows"], apart := false, laid := [("unicode/utf8.acceptRanges", laid_unicode_utf8_acceptRanges), ("lazaret/refs.windows", laid_lazaret_refs_windows), ("unicode/utf8.first", laid_unicode_utf8_first)] }
def TagsTellSaid : Prop := tagsTellRow.holds Tryd.pinned (OpenSpec.ofChange tagsTellSpec)

/-- ITS FALSE NEIGHBOUR: 'it returns false'. Refute it at one input. -/
def tagsTellWrong : ChangeSpec := { name := "tagsTell", fn := fun _ => fun
  | [d1, d2] => { results := [.lit (.bool false)], args := [d1, d2] }
  | _ => none }
def TagsTellWrongFalsely : Prop := tagsTellRow.holds Tryd.pinned (OpenSpec.ofChange tagsTellWrong)

/-- 'lazaretlaw10.TagsWritten': WHATEVER THE INPUT: true; the input reads as it did. -/
def tagsWrittenSpec : ChangeSpec := { name := "tagsWritten", fn := fun _ => fun
  | [d1, d2, d3] => { results := [.lit (.bool true)], args := [d1, d2, d3] }
  | _ => none }
def tagsWrittenRow : OpenClaim := { program := "yteeplfbaflldaaadoor", sum := "427e8626c8c9bfe3658d1315d5d40d354e232cbb718484159dd1708e31775452", func := "lazaret/lazaretlaw10.TagsWritten", spec := "tagsWritten", inPlace := ["internal/bytealg.IndexByteString", "internal/bytealg.CountString", "internal/bytealg.IndexString", "internal/abi.NoEscape", "internal/bytealg.MakeNoZero"], named := ["internal/bytealg.MaxLen", "unicode/utf8.first", "unicode/utf8.acceptRanges", "lazaret/refs.windows"], apart := false, laid := [("unicode/utf8.acceptRanges", laid_unicode_utf8_acceptRanges), ("lazaret/refs.windows", laid_lazaret_refs_windows), ("unicode/utf8.first", laid_unicode_utf8_first)] }
def TagsWrittenSaid : Prop := tagsWrittenRow.holds Tryd.pinned (OpenSpec.ofChange tagsWrittenSpec)

/-- ITS FALSE NEIGHBOUR: 'it returns false'. Refute it at one input. -/
def tagsWrittenWrong : ChangeSpec := { name := "tagsWritten", fn := fun _ => fun
  | [d1, d2, d3] => { results := [.lit (.bool false)], args := [d1, d2, d3] }
  | _ => none }
def TagsWrittenWrongFalsely : Prop := tagsWrittenRow.holds Tryd.pinned (OpenSpec.ofChange tagsWrittenWrong)

/-- 'lazaretlaw10.TagsSwallow': WHATEVER THE INPUT: true; the input reads as it did. -/
def tagsSwallowSpec : ChangeSpec := { name := "tagsSwallow", fn := fun _ => fun
  | [d1, d2, d3] => { results := [.lit (.bool true)], args := [d1, d2, d3] }
  | _ => none }
def tagsSwallowRow : OpenClaim := { program := "yteeplfbaflldaaadoor", sum := "427e8626c8c9bfe3658d1315d5d40d354e232cbb718484159dd1708e31775452", func := "lazaret/lazaretlaw10.TagsSwallow", spec := "tagsSwallow", inPlace := ["internal/bytealg.IndexByteString", "internal/bytealg.CountString", "internal/bytealg.IndexString", "internal/abi.NoEscape", "internal/bytealg.MakeNoZero"], named := ["internal/bytealg.MaxLen", "unicode/utf8.first", "unicode/utf8.acceptRanges", "lazaret/refs.windows"], apart := false, laid := [("unicode/utf8.acceptRanges", laid_unicode_utf8_acceptRanges), ("lazaret/refs.windows", laid_lazaret_refs_windows), ("unicode/utf8.first", laid_unicode_utf8_first)] }
def TagsSwallowSaid : Prop := tagsSwallowRow.holds Tryd.pinned (OpenSpec.ofChange tagsSwallowSpec)

/-- ITS FALSE NEIGHBOUR: 'it returns false'. Refute it at one input. -/
def tagsSwallowWrong : ChangeSpec := { name := "tagsSwallow", fn := fun _ => fun
  | [d1, d2, d3] => { results := [.lit (.bool false)], args := [d1, d2, d3] }
  | _ => none }
def TagsSwallowWrongFalsely : Prop := tagsSwallowRow.holds Tryd.pinned (OpenSpec.ofChange tagsSwallowWrong)

/-- 'lazaretlaw10.TagsCut': WHATEVER THE INPUT: true; the input reads as it did. -/
def tagsCutSpec : ChangeSpec := { name := "tagsCut", fn := fun _ => fun
  | [d1, d2, d3] => { results := [.lit (.bool true)], args := [d1, d2, d3] }
  | _ => none }
def tagsCutRow : OpenClaim := { program := "yteeplfbaflldaaadoor", sum := "427e8626c8c9bfe3658d1315d5d40d354e232cbb718484159dd1708e31775452", func := "lazaret/lazaretlaw10.TagsCut", spec := "tagsCut", inPlace := ["internal/bytealg.IndexByteString", "internal/bytealg.CountString", "internal/bytealg.IndexString", "internal/abi.NoEscape", "internal/bytealg.MakeNoZero"], named := ["internal/bytealg.MaxLen", "unicode/utf8.first", "unicode/utf8.acceptRanges", "lazaret/refs.windows"], apart := false, laid := [("unicode/utf8.acceptRanges", laid_unicode_utf8_acceptRanges), ("lazaret/refs.windows", laid_lazaret_refs_windows), ("unicode/utf8.first", laid_unicode_utf8_first)] }
def TagsCutSaid : Prop := tagsCutRow.holds Tryd.pinned (OpenSpec.ofChange tagsCutSpec)

/-- ITS FALSE NEIGHBOUR: 'it returns false'. Refute it at one input. -/
def tagsCutWrong : ChangeSpec := { name := "tagsCut", fn := fun _ => fun
  | [d1, d2, d3] => { results := [.lit (.bool false)], args := [d1, d2, d3] }
  | _ => none }
def TagsCutWrongFalsely : Prop := tagsCutRow.holds Tryd.pinned (OpenSpec.ofChange tagsCutWrong)

/-- 'lazaretlaw10.TagsFirst': WHATEVER THE INPUT: true; the input reads as it did. -/
def tagsFirstSpec : ChangeSpec := { name := "tagsFirst", fn := fun _ => fun
  | [d1, d2, d3] => { results := [.lit (.bool true)], args := [d1, d2, d3] }
  | _ => none }
def tagsFirstRow : OpenClaim := { program := "yteeplfbaflldaaadoor", sum := "427e8626c8c9bfe3658d1315d5d40d354e232cbb718484159dd1708e31775452", func := "lazaret/lazaretlaw10.TagsFirst", spec := "tagsFirst", inPlace := ["internal/bytealg.IndexByteString", "internal/bytealg.CountString", "internal/bytealg.IndexString", "internal/abi.NoEscape", "internal/bytealg.MakeNoZero"], named := ["internal/bytealg.MaxLen", "unicode/utf8.first", "unicode/utf8.acceptRanges", "lazaret/refs.windows"], apart := false, laid := [("unicode/utf8.acceptRanges", laid_unicode_utf8_acceptRanges), ("lazaret/refs.windows", laid_lazaret_refs_windows), ("unicode/utf8.first", laid_unicode_utf8_first)] }
def TagsFirstSaid : Prop := tagsFirstRow.holds Tryd.pinned (OpenSpec.ofChange tagsFirstSpec)

/-- ITS FALSE NEIGHBOUR: 'it returns false'. Refute it at one input. -/
def tagsFirstWrong : ChangeSpec := { name := "tagsFirst", fn := fun _ => fun
  | [d1, d2, d3] => { results := [.lit (.bool false)], args := [d1, d2, d3] }
  | _ => none }
def TagsFirstWrongFalsely : Prop := tagsFirstRow.holds Tryd.pinned (OpenSpec.ofChange tagsFirstWrong)

/-- 'lazaretlaw25.SourcesBack': WHATEVER THE INPUT: true; the input reads as it did. -/
def sourcesBackSpec : ChangeSpec := { name := "sourcesBack", fn := fun _ => fun
  | [d] => { results := [.lit (.bool true)], args := [d] }
  | _ => none }
def sourcesBackRow : OpenClaim := { program := "yteeplfbaflldaaadoor", sum := "427e8626c8c9bfe3658d1315d5d40d354e232cbb718484159dd1708e31775452", func := "lazaret/lazaretlaw25.SourcesBack", spec := "sourcesBack", inPlace := ["internal/abi.NoEscape", "internal/bytealg.IndexByteString", "internal/bytealg.IndexString", "internal/bytealg.CountString", "internal/reflectlite.ValueOf", "(internal/reflectlite.Value).Type", "(internal/reflectlite.Value).IsNil", "internal/reflectlite.TypeOf", "(internal/reflectlite.Value).Elem", "(internal/reflectlite.Value).Set"], unfollowed := true, recurses := true, named := ["internal/bytealg.MaxLen", "unicode/utf8.first", "unicode/utf8.acceptRanges", "errors.errorType", "internal/strconv.uint64pow10", "math/bits.deBruijn32tab", "math/bits.deBruijn64tab"], apart := false, laid := [("math/bits.deBruijn32tab", laid_math_bits_deBruijn32tab), ("math/bits.deBruijn64tab", laid_math_bits_deBruijn64tab), ("internal/strconv.uint64pow10", laid_internal_strconv_uint64pow10), ("unicode/utf8.acceptRanges", laid_unicode_utf8_acceptRanges), ("errors.errorType", laid_errors_errorType), ("unicode/utf8.first", laid_unicode_utf8_first)] }
def SourcesBackSaid : Prop := sourcesBackRow.holds Tryd.pinned (OpenSpec.ofChange sourcesBackSpec)

/-- ITS FALSE NEIGHBOUR: 'it returns false'. Refute it at one input. -/
def sourcesBackWrong : ChangeSpec := { name := "sourcesBack", fn := fun _ => fun
  | [d] => { results := [.lit (.bool false)], args := [d] }
  | _ => none }
def SourcesBackWrongFalsely : Prop := sourcesBackRow.holds Tryd.pinned (OpenSpec.ofChange sourcesBackWrong)

/-- 'lazaretlaw25.SourcesHost': WHATEVER THE INPUT: true; the input reads as it did. -/
def sourcesHostSpec : ChangeSpec := { name := "sourcesHost", fn := fun _ => fun
  | [d1, d2, d3] => { results := [.lit (.bool true)], args := [d1, d2, d3] }
  | _ => none }
def sourcesHostRow : OpenClaim := { program := "yteeplfbaflldaaadoor", sum := "427e8626c8c9bfe3658d1315d5d40d354e232cbb718484159dd1708e31775452", func := "lazaret/lazaretlaw25.SourcesHost", spec := "sourcesHost", inPlace := ["internal/abi.NoEscape", "internal/bytealg.IndexByteString", "internal/bytealg.IndexString", "internal/bytealg.CountString", "internal/reflectlite.ValueOf", "(internal/reflectlite.Value).Type", "(internal/reflectlite.Value).IsNil", "internal/reflectlite.TypeOf", "(internal/reflectlite.Value).Elem", "(internal/reflectlite.Value).Set"], unfollowed := true, recurses := true, named := ["internal/strconv.uint64pow10", "math/bits.deBruijn32tab", "math/bits.deBruijn64tab", "internal/bytealg.MaxLen", "unicode/utf8.first", "unicode/utf8.acceptRanges", "errors.errorType"], apart := false, laid := [("math/bits.deBruijn32tab", laid_math_bits_deBruijn32tab), ("math/bits.deBruijn64tab", laid_math_bits_deBruijn64tab), ("internal/strconv.uint64pow10", laid_internal_strconv_uint64pow10), ("unicode/utf8.acceptRanges", laid_unicode_utf8_acceptRanges), ("errors.errorType", laid_errors_errorType), ("unicode/utf8.first", laid_unicode_utf8_first)] }
def SourcesHostSaid : Prop := sourcesHostRow.holds Tryd.pinned (OpenSpec.ofChange sourcesHostSpec)

/-- ITS FALSE NEIGHBOUR: 'it returns false'. Refute it at one input. -/
def sourcesHostWrong : ChangeSpec := { name := "sourcesHost", fn := fun _ => fun
  | [d1, d2, d3] => { results := [.lit (.bool false)], args := [d1, d2, d3] }
  | _ => none }
def SourcesHostWrongFalsely : Prop := sourcesHostRow.holds Tryd.pinned (OpenSpec.ofChange sourcesHostWrong)

/-- 'lazaretlaw25.SourcesValues': WHATEVER THE INPUT: true; the input reads as it did. -/
def sourcesValuesSpec : ChangeSpec := { name := "sourcesValues", fn := fun _ => fun
  | [d1, d2, d3] => { results := [.lit (.bool true)], args := [d1, d2, d3] }
  | _ => none }
def sourcesValuesRow : OpenClaim := { program := "yteeplfbaflldaaadoor", sum := "427e8626c8c9bfe3658d1315d5d40d354e232cbb718484159dd1708e31775452", func := "lazaret/lazaretlaw25.SourcesValues", spec := "sourcesValues", inPlace := ["internal/abi.NoEscape", "internal/bytealg.IndexByteString", "internal/bytealg.IndexString", "internal/bytealg.CountString", "internal/reflectlite.ValueOf", "(internal/reflectlite.Value).Type", "(internal/reflectlite.Value).IsNil", "internal/reflectlite.TypeOf", "(internal/reflectlite.Value).Elem", "(internal/reflectlite.Value).Set"], unfollowed := true, recurses := true, named := ["internal/bytealg.MaxLen", "unicode/utf8.first", "unicode/utf8.acceptRanges", "errors.errorType"], apart := false, laid := [("unicode/utf8.acceptRanges", laid_unicode_utf8_acceptRanges), ("errors.errorType", laid_errors_errorType), ("unicode/utf8.first", laid_unicode_utf8_first)] }
def SourcesValuesSaid : Prop := sourcesValuesRow.holds Tryd.pinned (OpenSpec.ofChange sourcesValuesSpec)

/-- ITS FALSE NEIGHBOUR: 'it returns false'. Refute it at one input. -/
def sourcesValuesWrong : ChangeSpec := { name := "sourcesValues", fn := fun _ => fun
  | [d1, d2, d3] => { results := [.lit (.bool false)], args := [d1, d2, d3] }
  | _ => none }
def SourcesValuesWrongFalsely : Prop := sourcesValuesRow.holds Tryd.pinned (OpenSpec.ofChange sourcesValuesWrong)

/- THE SECOND FORM. 'bulk': how many values and letters a reading holds, each counted each time it is reached (what is shared counts as often as it is met; a slice's spare places count too). A statement '..UptoSaid' is the law's where the arguments, and the package variables that the reading takes, are together of bulk at most 1048576: NARROWER than '..Said'. Prove '..Said' where nothing that the law and all that it calls make is longer than what came in: it says more and counts as full. Else prove '..UptoSaid'. A law counts once. -/
mutual
def uptoBulk {H : Type} : DataW H → Nat
  | .lit (.string bytes) => bytes.length + 1
  | .lit _ => 1
  | .nil => 1
  | .ptr d => uptoBulk d + 1
  | .slice elems spare => uptoBulkAll elems + uptoBulkAll spare + 1
  | .agg parts => uptoBulkAll parts + 1
  | .iface _ d => uptoBulk d + 1
  | .map entries => uptoBulkEntries entries + 1
  | .held _ => 1
def uptoBulkAll {H : Type} : List (DataW H) → Nat
  | [] => 0
  | d :: r => uptoBulk d + uptoBulkAll r
def uptoBulkEntries {H : Type} : List (Lit × DataW H) → Nat
  | [] => 0
  | x :: r => uptoBulkEntry x + uptoBulkEntries r
def uptoBulkEntry {H : Type} : Lit × DataW H → Nat
  | (.string bytes, d) => bytes.length + uptoBulk d + 1
  | (_, d) => uptoBulk d + 1
 end
def uptoSmall : (H : Type) → List (DataW H) → Bool := fun _ ds => decide (uptoBulkAll ds ≤ 1048576)
def OpenSpec.upto (s : _root_.Go.ChangeSpec) : _root_.Go.OpenSpec := { _root_.Go.OpenSpec.ofChange s with cond := some uptoSmall }

/-- 'lazaretlaw10.TagsTell', WHERE WHAT IT READS IS OF BULK AT MOST 1048576: true; the input reads as it did. -/
def tagsTellUptoRow : OpenClaim := { program := "yteeplfbaflldaaadoor", sum := "427e8626c8c9bfe3658d1315d5d40d354e232cbb718484159dd1708e31775452", func := "lazaret/lazaretlaw10.TagsTell", spec := "tagsTell", inPlace := ["internal/bytealg.IndexByteString", "internal/bytealg.CountString", "internal/bytealg.IndexString", "internal/abi.NoEscape", "internal/bytealg.MakeNoZero"], named := ["internal/bytealg.MaxLen", "unicode/utf8.first", "unicode/utf8.acceptRanges", "lazaret/refs.windows"], apart := false, laid := [("unicode/utf8.acceptRanges", laid_unicode_utf8_acceptRanges), ("lazaret/refs.windows", laid_lazaret_refs_windows), ("unicode/utf8.first", laid_unicode_utf8_first)], narrowed := true }
def TagsTellUptoSaid : Prop := tagsTellUptoRow.holds Tryd.pinned (OpenSpec.upto tagsTellSpec)

/-- 'lazaretlaw10.TagsWritten', WHERE WHAT IT READS IS OF BULK AT MOST 1048576: true; the input reads as it did. -/
def tagsWrittenUptoRow : OpenClaim := { program := "yteeplfbaflldaaadoor", sum := "427e8626c8c9bfe3658d1315d5d40d354e232cbb718484159dd1708e31775452", func := "lazaret/lazaretlaw10.TagsWritten", spec := "tagsWritten", inPlace := ["internal/bytealg.IndexByteString", "internal/bytealg.CountString", "internal/bytealg.IndexString", "internal/abi.NoEscape", "internal/bytealg.MakeNoZero"], named := ["internal/bytealg.MaxLen", "unicode/utf8.first", "unicode/utf8.acceptRanges", "lazaret/refs.windows"], apart := false, laid := [("unicode/utf8.acceptRanges", laid_unicode_utf8_acceptRanges), ("lazaret/refs.windows", laid_lazaret_refs_windows), ("unicode/utf8.first", laid_unicode_utf8_first)], narrowed := true }
def TagsWrittenUptoSaid : Prop := tagsWrittenUptoRow.holds Tryd.pinned (OpenSpec.upto tagsWrittenSpec)

/-- 'lazaretlaw10.TagsSwallow', WHERE WHAT IT READS IS OF BULK AT MOST 1048576: true; the input reads as it did. -/
def tagsSwallowUptoRow : OpenClaim := { program := "yteeplfbaflldaaadoor", sum := "427e8626c8c9bfe3658d1315d5d40d354e232cbb718484159dd1708e31775452", func := "lazaret/lazaretlaw10.TagsSwallow", spec := "tagsSwallow", inPlace := ["internal/bytealg.IndexByteString", "internal/bytealg.CountString", "internal/bytealg.IndexString", "internal/abi.NoEscape", "internal/bytealg.MakeNoZero"], named := ["internal/bytealg.MaxLen", "unicode/utf8.first", "unicode/utf8.acceptRanges", "lazaret/refs.windows"], apart := false, laid := [("unicode/utf8.acceptRanges", laid_unicode_utf8_acceptRanges), ("lazaret/refs.windows", laid_lazaret_refs_windows), ("unicode/utf8.first", laid_unicode_utf8_first)], narrowed := true }
def TagsSwallowUptoSaid : Prop := tagsSwallowUptoRow.holds Tryd.pinned (OpenSpec.upto tagsSwallowSpec)

/-- 'lazaretlaw10.TagsCut', WHERE WHAT IT READS IS OF BULK AT MOST 1048576: true; the input reads as it did. -/
def tagsCutUptoRow : OpenClaim := { program := "yteeplfbaflldaaadoor", sum := "427e8626c8c9bfe3658d1315d5d40d354e232cbb718484159dd1708e31775452", func := "lazaret/lazaretlaw10.TagsCut", spec := "tagsCut", inPlace := ["internal/bytealg.IndexByteString", "internal/bytealg.CountString", "internal/bytealg.IndexString", "internal/abi.NoEscape", "internal/bytealg.MakeNoZero"], named := ["internal/bytealg.MaxLen", "unicode/utf8.first", "unicode/utf8.acceptRanges", "lazaret/refs.windows"], apart := false, laid := [("unicode/utf8.acceptRanges", laid_unicode_utf8_acceptRanges), ("lazaret/refs.windows", laid_lazaret_refs_windows), ("unicode/utf8.first", laid_unicode_utf8_first)], narrowed := true }
def TagsCutUptoSaid : Prop := tagsCutUptoRow.holds Tryd.pinned (OpenSpec.upto tagsCutSpec)

/-- 'lazaretlaw10.TagsFirst', WHERE WHAT IT READS IS OF BULK AT MOST 1048576: true; the input reads as it did. -/
def tagsFirstUptoRow : OpenClaim := { program := "yteeplfbaflldaaadoor", sum := "427e8626c8c9bfe3658d1315d5d40d354e232cbb718484159dd1708e31775452", func := "lazaret/lazaretlaw10.TagsFirst", spec := "tagsFirst", inPlace := ["internal/bytealg.IndexByteString", "internal/bytealg.CountString", "internal/bytealg.IndexString", "internal/abi.NoEscape", "internal/bytealg.MakeNoZero"], named := ["internal/bytealg.MaxLen", "unicode/utf8.first", "unicode/utf8.acceptRanges", "lazaret/refs.windows"], apart := false, laid := [("unicode/utf8.acceptRanges", laid_unicode_utf8_acceptRanges), ("lazaret/refs.windows", laid_lazaret_refs_windows), ("unicode/utf8.first", laid_unicode_utf8_first)], narrowed := true }
def TagsFirstUptoSaid : Prop := tagsFirstUptoRow.holds Tryd.pinned (OpenSpec.upto tagsFirstSpec)

/-- 'lazaretlaw25.SourcesBack', WHERE WHAT IT READS IS OF BULK AT MOST 1048576: true; the input reads as it did. -/
def sourcesBackUptoRow : OpenClaim := { program := "yteeplfbaflldaaadoor", sum := "427e8626c8c9bfe3658d1315d5d40d354e232cbb718484159dd1708e31775452", func := "lazaret/lazaretlaw25.SourcesBack", spec := "sourcesBack", inPlace := ["internal/abi.NoEscape", "internal/bytealg.IndexByteString", "internal/bytealg.IndexString", "internal/bytealg.CountString", "internal/reflectlite.ValueOf", "(internal/reflectlite.Value).Type", "(internal/reflectlite.Value).IsNil", "internal/reflectlite.TypeOf", "(internal/reflectlite.Value).Elem", "(internal/reflectlite.Value).Set"], unfollowed := true, recurses := true, named := ["internal/bytealg.MaxLen", "unicode/utf8.first", "unicode/utf8.acceptRanges", "errors.errorType", "internal/strconv.uint64pow10", "math/bits.deBruijn32tab", "math/bits.deBruijn64tab"], apart := false, laid := [("math/bits.deBruijn32tab", laid_math_bits_deBruijn32tab), ("math/bits.deBruijn64tab", laid_math_bits_deBruijn64tab), ("internal/strconv.uint64pow10", laid_internal_strconv_uint64pow10), ("unicode/utf8.acceptRanges", laid_unicode_utf8_acceptRanges), ("errors.errorType", laid_errors_errorType), ("unicode/utf8.first", laid_unicode_utf8_first)], narrowed := true }
def SourcesBackUptoSaid : Prop := sourcesBackUptoRow.holds Tryd.pinned (OpenSpec.upto sourcesBackSpec)

/-- 'lazaretlaw25.SourcesHost', WHERE WHAT IT READS IS OF BULK AT MOST 1048576: true; the input reads as it did. -/
def sourcesHostUptoRow : OpenClaim := { program := "yteeplfbaflldaaadoor", sum := "427e8626c8c9bfe3658d1315d5d40d354e232cbb718484159dd1708e31775452", func := "lazaret/lazaretlaw25.SourcesHost", spec := "sourcesHost", inPlace := ["internal/abi.NoEscape", "internal/bytealg.IndexByteString", "internal/bytealg.IndexString", "internal/bytealg.CountString", "internal/reflectlite.ValueOf", "(internal/reflectlite.Value).Type", "(internal/reflectlite.Value).IsNil", "internal/reflectlite.TypeOf", "(internal/reflectlite.Value).Elem", "(internal/reflectlite.Value).Set"], unfollowed := true, recurses := true, named := ["internal/strconv.uint64pow10", "math/bits.deBruijn32tab", "math/bits.deBruijn64tab", "internal/bytealg.MaxLen", "unicode/utf8.first", "unicode/utf8.acceptRanges", "errors.errorType"], apart := false, laid := [("math/bits.deBruijn32tab", laid_math_bits_deBruijn32tab), ("math/bits.deBruijn64tab", laid_math_bits_deBruijn64tab), ("internal/strconv.uint64pow10", laid_internal_strconv_uint64pow10), ("unicode/utf8.acceptRanges", laid_unicode_utf8_acceptRanges), ("errors.errorType", laid_errors_errorType), ("unicode/utf8.first", laid_unicode_utf8_first)], narrowed := true }
def SourcesHostUptoSaid : Prop := sourcesHostUptoRow.holds Tryd.pinned (OpenSpec.upto sourcesHostSpec)

/-- 'lazaretlaw25.SourcesValues', WHERE WHAT IT READS IS OF BULK AT MOST 1048576: true; the input reads as it did. -/
def sourcesValuesUptoRow : OpenClaim := { program := "yteeplfbaflldaaadoor", sum := "427e8626c8c9bfe3658d1315d5d40d354e232cbb718484159dd1708e31775452", func := "lazaret/lazaretlaw25.SourcesValues", spec := "sourcesValues", inPlace := ["internal/abi.NoEscape", "internal/bytealg.IndexByteString", "internal/bytealg.IndexString", "internal/bytealg.CountString", "internal/reflectlite.ValueOf", "(internal/reflectlite.Value).Type", "(internal/reflectlite.Value).IsNil", "internal/reflectlite.TypeOf", "(internal/reflectlite.Value).Elem", "(internal/reflectlite.Value).Set"], unfollowed := true, recurses := true, named := ["internal/bytealg.MaxLen", "unicode/utf8.first", "unicode/utf8.acceptRanges", "errors.errorType"], apart := false, laid := [("unicode/utf8.acceptRanges", laid_unicode_utf8_acceptRanges), ("errors.errorType", laid_errors_errorType), ("unicode/utf8.first", laid_unicode_utf8_first)], narrowed := true }
def SourcesValuesUptoSaid : Prop := sourcesValuesUptoRow.holds Tryd.pinned (OpenSpec.upto sourcesValuesSpec)

end Rows
end Go.Proofs.YteeplfbaflldaaaDoor
