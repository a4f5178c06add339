/-
  NARROWER THAN 'FOR EVERY INPUT', by the rows' own cells (each row's printed sentence says how): AsciiBytes: laid · AsciiTexts: laid · AsciiCase: laid · AsciiFields: laid · AsciiCommas: laid · KindsTell: laid · KindsWithin: laid · KindsCase: laid · ChainsNames: laid · ChainsFind: laid · ChainsFirst: laid · ChainsOrder: laid.
  DERIVED. THE GIVEN ROWS OF THIS SEAT. 12 by the template 'for every input the law returns true; each argument reads behind the call as it read before'; 0 by the template 'total and deterministic' (their statements: YthgecembedjnaaaDoorTotals.lean).
  GIVEN WITH THE SEED: the statements are not yours to turn. If you find one false, say at which input.
  Laid BY PROGRAM, IN A SANDBOX (cutbox-rows.mjs): the forced cells as the released guide's own fill.sh prints them over the translation e62fd23756189ac1… (all of the seat's roots in one cut). By AI agents, Wed Nov 11 2026. No macro, syntax, notation, axiom, sorry.
-/
import Derived.Test.YthgecembedjnaaaDoorChecked
import GoSem.PinnedTables
import GoSem.Claim
import GoSem.ClaimJoined
import GoSem.ClaimMapViews
import Derived.JoinedTies
import Derived.KernelRfl
namespace Go.Proofs.YthgecembedjnaaaDoor
/- THE CELL 'sum', in the pinned program and in every row, IS THE sha256 OF THE DUMP (.gsa) THAT YthgecembedjnaaaDoorProg.lean LOADS. Nothing in Lean hashes anything: it is a label: what it is worth is what the hold of that sum in a sandbox is worth. -/
noncomputable def Tryd.pinned : Pinned := { name := "ythgecembedjnaaadoor", sum := "e62fd23756189ac17b18116e1ecd06f1d1496ed2f4eeea15430210347e2b8957", checked := Tryd.checked }
namespace Rows
def none {H : Type} : Left H := { results := [], args := [] }

/- WHAT THE LISTED PACKAGE-LEVEL VARIABLES READ AS WHEN THE CALL BEGINS. Each datum BY PROGRAM (the guide's laid-datum.mjs) off the statement by which the dump's own 'gosem.cut.vars' lays the variable. In a bare row this is a premise. The card (YthgecembedjnaaaDoorCards.lean) ties it to the program's text. -/
def laid_unicode_utf8_acceptRanges {H : Type} : DataW H := .agg [.agg [.lit (.int .u8 128), .lit (.int .u8 191)], .agg [.lit (.int .u8 160), .lit (.int .u8 191)], .agg [.lit (.int .u8 128), .lit (.int .u8 159)], .agg [.lit (.int .u8 144), .lit (.int .u8 191)], .agg [.lit (.int .u8 128), .lit (.int .u8 143)], .agg [.lit (.int .u8 0), .lit (.int .u8 0)], .agg [.lit (.int .u8 0), .lit (.int .u8 0)], .agg [.lit (.int .u8 0), .lit (.int .u8 0)], .agg [.lit (.int .u8 0), .lit (.int .u8 0)], .agg [.lit (.int .u8 0), .lit (.int .u8 0)], .agg [.lit (.int .u8 0), .lit (.int .u8 0)], .agg [.lit (.int .u8 0), .lit (.int .u8 0)], .agg [.lit (.int .u8 0), .lit (.int .u8 0)], .agg [.lit (.int .u8 0), .lit (.int .u8 0)], .agg [.lit (.int .u8 0), .lit (.int .u8 0)], .agg [.lit (.int .u8 0), .lit (.int .u8 0)]]
/-- One of Go's own tables, pinned by name: the form's constant. -/
def laid_unicode_utf8_first : DataW Unit := Go.Pinned.utf8First
def laid_lazaret_kinds_specials {H : Type} : DataW H := .agg [.lit (.string [32, 97, 100, 100, 114, 101, 115, 115, 32, 97, 112, 112, 108, 101, 116, 32, 97, 114, 101, 97, 32, 97, 114, 116, 105, 99, 108, 101, 32, 97, 115, 105, 100, 101, 32, 98, 97, 115, 101, 32, 98, 97, 115, 101, 102, 111, 110, 116, 32, 98, 103, 115, 111, 117, 110, 100, 32, 98, 108, 111, 99, 107, 113, 117, 111, 116, 101, 32, 98, 111, 100, 121, 32, 98, 114, 32, 98, 117, 116, 116, 111, 110, 32, 99, 97, 112, 116, 105, 111, 110, 32, 99, 101, 110, 116, 101, 114, 32, 99, 111, 108, 32, 99, 111, 108, 103, 114, 111, 117, 112, 32, 100, 100, 32, 100, 101, 116, 97, 105, 108, 115, 32, 100, 105, 114, 32, 100, 105, 118, 32, 100, 108, 32, 100, 116, 32, 101, 109, 98, 101, 100, 32, 102, 105, 101, 108, 100, 115, 101, 116, 32, 102, 105, 103, 99, 97, 112, 116, 105, 111, 110, 32, 102, 105, 103, 117, 114, 101, 32, 102, 111, 111, 116, 101, 114, 32, 102, 111, 114, 109, 32, 102, 114, 97, 109, 101, 32, 102, 114, 97, 109, 101, 115, 101, 116, 32, 104, 49, 32, 104, 50, 32, 104, 51, 32, 104, 52, 32, 104, 53, 32, 104, 54, 32, 104, 101, 97, 100, 32, 104, 101, 97, 100, 101, 114, 32, 104, 103, 114, 111, 117, 112, 32, 104, 114, 32, 104, 116, 109, 108, 32, 105, 102, 114, 97, 109, 101, 32, 105, 109, 103, 32, 105, 110, 112, 117, 116, 32, 107, 101, 121, 103, 101, 110, 32, 108, 105, 32, 108, 105, 110, 107, 32, 108, 105, 115, 116, 105, 110, 103, 32, 109, 97, 105, 110, 32, 109, 97, 114, 113, 117, 101, 101, 32, 109, 101, 110, 117, 32, 109, 101, 116, 97, 32, 110, 97, 118, 32, 110, 111, 101, 109, 98, 101, 100, 32, 110, 111, 102, 114, 97, 109, 101, 115, 32, 110, 111, 115, 99, 114, 105, 112, 116, 32, 111, 98, 106, 101, 99, 116, 32, 111, 108, 32, 112, 32, 112, 97, 114, 97, 109, 32, 112, 108, 97, 105, 110, 116, 101, 120, 116, 32, 112, 114, 101, 32, 115, 99, 114, 105, 112, 116, 32, 115, 101, 97, 114, 99, 104, 32, 115, 101, 99, 116, 105, 111, 110, 32, 115, 101, 108, 101, 99, 116, 32, 115, 111, 117, 114, 99, 101, 32, 115, 116, 121, 108, 101, 32, 115, 117, 109, 109, 97, 114, 121, 32, 116, 97, 98, 108, 101, 32, 116, 98, 111, 100, 121, 32, 116, 100, 32, 116, 101, 109, 112, 108, 97, 116, 101, 32, 116, 101, 120, 116, 97, 114, 101, 97, 32, 116, 102, 111, 111, 116, 32, 116, 104, 32, 116, 104, 101, 97, 100, 32, 116, 105, 116, 108, 101, 32, 116, 114, 32, 116, 114, 97, 99, 107, 32, 117, 108, 32, 119, 98, 114, 32, 120, 109, 112, 32]), .lit (.string [32, 100, 101, 115, 99, 32, 102, 111, 114, 101, 105, 103, 110, 111, 98, 106, 101, 99, 116, 32, 116, 105, 116, 108, 101, 32]), .lit (.string [32, 97, 110, 110, 111, 116, 97, 116, 105, 111, 110, 45, 120, 109, 108, 32, 109, 105, 32, 109, 110, 32, 109, 111, 32, 109, 115, 32, 109, 116, 101, 120, 116, 32])]
def laid_lazaret_kinds_scopes {H : Type} : DataW H := .agg [.lit (.string [32, 97, 112, 112, 108, 101, 116, 32, 99, 97, 112, 116, 105, 111, 110, 32, 104, 116, 109, 108, 32, 109, 97, 114, 113, 117, 101, 101, 32, 111, 98, 106, 101, 99, 116, 32, 116, 97, 98, 108, 101, 32, 116, 100, 32, 116, 101, 109, 112, 108, 97, 116, 101, 32, 116, 104, 32]), .lit (.string [32, 97, 112, 112, 108, 101, 116, 32, 99, 97, 112, 116, 105, 111, 110, 32, 104, 116, 109, 108, 32, 109, 97, 114, 113, 117, 101, 101, 32, 111, 98, 106, 101, 99, 116, 32, 116, 97, 98, 108, 101, 32, 116, 100, 32, 116, 101, 109, 112, 108, 97, 116, 101, 32, 116, 104, 32, 111, 108, 32, 117, 108, 32]), .lit (.string [32, 97, 112, 112, 108, 101, 116, 32, 99, 97, 112, 116, 105, 111, 110, 32, 104, 116, 109, 108, 32, 109, 97, 114, 113, 117, 101, 101, 32, 111, 98, 106, 101, 99, 116, 32, 116, 97, 98, 108, 101, 32, 116, 100, 32, 116, 101, 109, 112, 108, 97, 116, 101, 32, 116, 104, 32, 98, 117, 116, 116, 111, 110, 32]), .lit (.string [32, 104, 116, 109, 108, 32, 116, 97, 98, 108, 101, 32, 116, 101, 109, 112, 108, 97, 116, 101, 32])]
def laid_lazaret_kinds_states {H : Type} : DataW H := .agg [.lit (.string []), .lit (.string [32, 116, 101, 120, 116, 97, 114, 101, 97, 32, 116, 105, 116, 108, 101, 32]), .lit (.string [32, 105, 102, 114, 97, 109, 101, 32, 110, 111, 101, 109, 98, 101, 100, 32, 110, 111, 102, 114, 97, 109, 101, 115, 32, 115, 116, 121, 108, 101, 32, 120, 109, 112, 32]), .lit (.string [32, 115, 99, 114, 105, 112, 116, 32]), .lit (.string [32, 112, 108, 97, 105, 110, 116, 101, 120, 116, 32])]
def laid_lazaret_chains_effective {H : Type} : DataW H := .agg [.lit (.string []), .lit (.string [115, 99, 114, 105, 112, 116, 45, 115, 114, 99, 45, 101, 108, 101, 109]), .lit (.string [115, 99, 114, 105, 112, 116, 45, 115, 114, 99, 45, 101, 108, 101, 109]), .lit (.string [115, 99, 114, 105, 112, 116, 45, 115, 114, 99, 45, 97, 116, 116, 114]), .lit (.string [115, 99, 114, 105, 112, 116, 45, 115, 114, 99, 45, 101, 108, 101, 109]), .lit (.string [115, 116, 121, 108, 101, 45, 115, 114, 99, 45, 101, 108, 101, 109]), .lit (.string [115, 116, 121, 108, 101, 45, 115, 114, 99, 45, 101, 108, 101, 109]), .lit (.string [115, 116, 121, 108, 101, 45, 115, 114, 99, 45, 97, 116, 116, 114]), .lit (.string [105, 109, 103, 45, 115, 114, 99]), .lit (.string [102, 111, 110, 116, 45, 115, 114, 99]), .lit (.string [109, 101, 100, 105, 97, 45, 115, 114, 99]), .lit (.string [102, 114, 97, 109, 101, 45, 115, 114, 99]), .lit (.string [111, 98, 106, 101, 99, 116, 45, 115, 114, 99]), .lit (.string [109, 97, 110, 105, 102, 101, 115, 116, 45, 115, 114, 99]), .lit (.string [99, 111, 110, 110, 101, 99, 116, 45, 115, 114, 99]), .lit (.string [98, 97, 115, 101, 45, 117, 114, 105]), .lit (.string [102, 111, 114, 109, 45, 97, 99, 116, 105, 111, 110])]

/-- 'lazaretlaw02.AsciiBytes': WHATEVER THE INPUT: true; the input reads as it did. -/
def asciiBytesSpec : ChangeSpec := { name := "asciiBytes", fn := fun _ => fun
  | [d] => { results := [.lit (.bool true)], args := [d] }
  | _ => none }
def asciiBytesRow : OpenClaim := { program := "ythgecembedjnaaadoor", sum := "e62fd23756189ac17b18116e1ecd06f1d1496ed2f4eeea15430210347e2b8957", func := "lazaret/lazaretlaw02.AsciiBytes", spec := "asciiBytes", inPlace := ["internal/abi.NoEscape", "internal/bytealg.CountString", "internal/bytealg.IndexByteString", "internal/bytealg.IndexString"], unfollowed := true, recurses := true, named := ["unicode/utf8.first", "unicode/utf8.acceptRanges", "internal/bytealg.MaxLen"], apart := false, laid := [("unicode/utf8.acceptRanges", laid_unicode_utf8_acceptRanges), ("unicode/utf8.first", laid_unicode_utf8_first)] }
def AsciiBytesSaid : Prop := asciiBytesRow.holds Tryd.pinned (OpenSpec.ofChange asciiBytesSpec)

/-- ITS FALSE NEIGHBOUR: 'it returns false'. Refute it at one input. -/
def asciiBytesWrong : ChangeSpec := { name := "asciiBytes", fn := fun _ => fun
  | [d] => { results := [.lit (.bool false)], args := [d] }
  | _ => none }
def AsciiBytesWrongFalsely : Prop := asciiBytesRow.holds Tryd.pinned (OpenSpec.ofChange asciiBytesWrong)

/-- 'lazaretlaw02.AsciiTexts': WHATEVER THE INPUT: true; the input reads as it did. -/
def asciiTextsSpec : ChangeSpec := { name := "asciiTexts", fn := fun _ => fun
  | [d1, d2] => { results := [.lit (.bool true)], args := [d1, d2] }
  | _ => none }
def asciiTextsRow : OpenClaim := { program := "ythgecembedjnaaadoor", sum := "e62fd23756189ac17b18116e1ecd06f1d1496ed2f4eeea15430210347e2b8957", func := "lazaret/lazaretlaw02.AsciiTexts", spec := "asciiTexts", inPlace := ["internal/abi.NoEscape", "internal/bytealg.CountString", "internal/bytealg.IndexByteString", "internal/bytealg.IndexString"], unfollowed := true, recurses := true, named := ["unicode/utf8.first", "unicode/utf8.acceptRanges", "internal/bytealg.MaxLen"], apart := false, laid := [("unicode/utf8.acceptRanges", laid_unicode_utf8_acceptRanges), ("unicode/utf8.first", laid_unicode_utf8_first)] }
def AsciiTextsSaid : Prop := asciiTextsRow.holds Tryd.pinned (OpenSpec.ofChange asciiTextsSpec)

/-- ITS FALSE NEIGHBOUR: 'it returns false'. Refute it at one input. -/
def asciiTextsWrong : ChangeSpec := { name := "asciiTexts", fn := fun _ => fun
  | [d1, d2] => { results := [.lit (.bool false)], args := [d1, d2] }
  | _ => none }
def AsciiTextsWrongFalsely : Prop := asciiTextsRow.holds Tryd.pinned (OpenSpec.ofChange asciiTextsWrong)

/-- 'lazaretlaw02.AsciiCase': WHATEVER THE INPUT: true; the input reads as it did. -/
def asciiCaseSpec : ChangeSpec := { name := "asciiCase", fn := fun _ => fun
  | [d1, d2, d3] => { results := [.lit (.bool true)], args := [d1, d2, d3] }
  | _ => none }
def asciiCaseRow : OpenClaim := { program := "ythgecembedjnaaadoor", sum := "e62fd23756189ac17b18116e1ecd06f1d1496ed2f4eeea15430210347e2b8957", func := "lazaret/lazaretlaw02.AsciiCase", spec := "asciiCase", inPlace := ["internal/abi.NoEscape", "internal/bytealg.CountString", "internal/bytealg.IndexByteString", "internal/bytealg.IndexString"], unfollowed := true, recurses := true, named := ["unicode/utf8.first", "unicode/utf8.acceptRanges", "internal/bytealg.MaxLen"], apart := false, laid := [("unicode/utf8.acceptRanges", laid_unicode_utf8_acceptRanges), ("unicode/utf8.first", laid_unicode_utf8_first)] }
def AsciiCaseSaid : Prop := asciiCaseRow.holds Tryd.pinned (OpenSpec.ofChange asciiCaseSpec)

/-- ITS FALSE NEIGHBOUR: 'it returns false'. Refute it at one input. -/
def asciiCaseWrong : ChangeSpec := { name := "asciiCase", fn := fun _ => fun
  | [d1, d2, d3] => { results := [.lit (.bool false)], args := [d1, d2, d3] }
  | _ => none }
def AsciiCaseWrongFalsely : Prop := asciiCaseRow.holds Tryd.pinned (OpenSpec.ofChange asciiCaseWrong)

/-- 'lazaretlaw02.AsciiFields': WHATEVER THE INPUT: true; the input reads as it did. -/
def asciiFieldsSpec : ChangeSpec := { name := "asciiFields", fn := fun _ => fun
  | [d1, d2] => { results := [.lit (.bool true)], args := [d1, d2] }
  | _ => none }
def asciiFieldsRow : OpenClaim := { program := "ythgecembedjnaaadoor", sum := "e62fd23756189ac17b18116e1ecd06f1d1496ed2f4eeea15430210347e2b8957", func := "lazaret/lazaretlaw02.AsciiFields", spec := "asciiFields", inPlace := ["internal/abi.NoEscape", "internal/bytealg.CountString", "internal/bytealg.IndexByteString", "internal/bytealg.IndexString"], unfollowed := true, recurses := true, named := ["unicode/utf8.first", "unicode/utf8.acceptRanges", "internal/bytealg.MaxLen"], apart := false, laid := [("unicode/utf8.acceptRanges", laid_unicode_utf8_acceptRanges), ("unicode/utf8.first", laid_unicode_utf8_first)] }
def AsciiFieldsSaid : Prop := asciiFieldsRow.holds Tryd.pinned (OpenSpec.ofChange asciiFieldsSpec)

/-- ITS FALSE NEIGHBOUR: 'it returns false'. Refute it at one input. -/
def asciiFieldsWrong : ChangeSpec := { name := "asciiFields", fn := fun _ => fun
  | [d1, d2] => { results := [.lit (.bool false)], args := [d1, d2] }
  | _ => none }
def AsciiFieldsWrongFalsely : Prop := asciiFieldsRow.holds Tryd.pinned (OpenSpec.ofChange asciiFieldsWrong)

/-- 'lazaretlaw02.AsciiCommas': WHATEVER THE INPUT: true; the input reads as it did. -/
def asciiCommasSpec : ChangeSpec := { name := "asciiCommas", fn := fun _ => fun
  | [d1, d2] => { results := [.lit (.bool true)], args := [d1, d2] }
  | _ => none }
def asciiCommasRow : OpenClaim := { program := "ythgecembedjnaaadoor", sum := "e62fd23756189ac17b18116e1ecd06f1d1496ed2f4eeea15430210347e2b8957", func := "lazaret/lazaretlaw02.AsciiCommas", spec := "asciiCommas", inPlace := ["internal/abi.NoEscape", "internal/bytealg.CountString", "internal/bytealg.IndexByteString", "internal/bytealg.IndexString"], unfollowed := true, recurses := true, named := ["unicode/utf8.first", "unicode/utf8.acceptRanges", "internal/bytealg.MaxLen"], apart := false, laid := [("unicode/utf8.acceptRanges", laid_unicode_utf8_acceptRanges), ("unicode/utf8.first", laid_unicode_utf8_first)] }
def AsciiCommasSaid : Prop := asciiCommasRow.holds Tryd.pinned (OpenSpec.ofChange asciiCommasSpec)

/-- ITS FALSE NEIGHBOUR: 'it returns false'. Refute it at one input. -/
def asciiCommasWrong : ChangeSpec := { name := "asciiCommas", fn := fun _ => fun
  | [d1, d2] => { results := [.lit (.bool false)], args := [d1, d2] }
  | _ => none }
def AsciiCommasWrongFalsely : Prop := asciiCommasRow.holds Tryd.pinned (OpenSpec.ofChange asciiCommasWrong)

/-- 'lazaretlaw13.KindsTell': WHATEVER THE INPUT: true; the input reads as it did. -/
def kindsTellSpec : ChangeSpec := { name := "kindsTell", fn := fun _ => fun
  | [d1, d2, d3] => { results := [.lit (.bool true)], args := [d1, d2, d3] }
  | _ => none }
def kindsTellRow : OpenClaim := { program := "ythgecembedjnaaadoor", sum := "e62fd23756189ac17b18116e1ecd06f1d1496ed2f4eeea15430210347e2b8957", func := "lazaret/lazaretlaw13.KindsTell", spec := "kindsTell", inPlace := ["internal/bytealg.IndexByteString", "internal/bytealg.IndexString"], named := ["lazaret/kinds.specials", "internal/bytealg.MaxLen", "lazaret/kinds.scopes", "lazaret/kinds.states"], apart := false, laid := [("lazaret/kinds.specials", laid_lazaret_kinds_specials), ("lazaret/kinds.scopes", laid_lazaret_kinds_scopes), ("lazaret/kinds.states", laid_lazaret_kinds_states)] }
def KindsTellSaid : Prop := kindsTellRow.holds Tryd.pinned (OpenSpec.ofChange kindsTellSpec)

/-- ITS FALSE NEIGHBOUR: 'it returns false'. Refute it at one input. -/
def kindsTellWrong : ChangeSpec := { name := "kindsTell", fn := fun _ => fun
  | [d1, d2, d3] => { results := [.lit (.bool false)], args := [d1, d2, d3] }
  | _ => none }
def KindsTellWrongFalsely : Prop := kindsTellRow.holds Tryd.pinned (OpenSpec.ofChange kindsTellWrong)

/-- 'lazaretlaw13.KindsWithin': WHATEVER THE INPUT: true; the input reads as it did. -/
def kindsWithinSpec : ChangeSpec := { name := "kindsWithin", fn := fun _ => fun
  | [d1, d2] => { results := [.lit (.bool true)], args := [d1, d2] }
  | _ => none }
def kindsWithinRow : OpenClaim := { program := "ythgecembedjnaaadoor", sum := "e62fd23756189ac17b18116e1ecd06f1d1496ed2f4eeea15430210347e2b8957", func := "lazaret/lazaretlaw13.KindsWithin", spec := "kindsWithin", inPlace := ["internal/bytealg.IndexByteString", "internal/bytealg.IndexString"], named := ["lazaret/kinds.specials", "internal/bytealg.MaxLen", "lazaret/kinds.scopes", "lazaret/kinds.states"], apart := false, laid := [("lazaret/kinds.specials", laid_lazaret_kinds_specials), ("lazaret/kinds.scopes", laid_lazaret_kinds_scopes), ("lazaret/kinds.states", laid_lazaret_kinds_states)] }
def KindsWithinSaid : Prop := kindsWithinRow.holds Tryd.pinned (OpenSpec.ofChange kindsWithinSpec)

/-- ITS FALSE NEIGHBOUR: 'it returns false'. Refute it at one input. -/
def kindsWithinWrong : ChangeSpec := { name := "kindsWithin", fn := fun _ => fun
  | [d1, d2] => { results := [.lit (.bool false)], args := [d1, d2] }
  | _ => none }
def KindsWithinWrongFalsely : Prop := kindsWithinRow.holds Tryd.pinned (OpenSpec.ofChange kindsWithinWrong)

/-- 'lazaretlaw13.KindsCase': WHATEVER THE INPUT: true; the input reads as it did. -/
def kindsCaseSpec : ChangeSpec := { name := "kindsCase", fn := fun _ => fun
  | [d1, d2] => { results := [.lit (.bool true)], args := [d1, d2] }
  | _ => none }
def kindsCaseRow : OpenClaim := { program := "ythgecembedjnaaadoor", sum := "e62fd23756189ac17b18116e1ecd06f1d1496ed2f4eeea15430210347e2b8957", func := "lazaret/lazaretlaw13.KindsCase", spec := "kindsCase", inPlace := ["internal/bytealg.IndexByteString", "internal/bytealg.IndexString"], named := ["lazaret/kinds.specials", "internal/bytealg.MaxLen", "lazaret/kinds.scopes", "lazaret/kinds.states"], apart := false, laid := [("lazaret/kinds.specials", laid_lazaret_kinds_specials), ("lazaret/kinds.scopes", laid_lazaret_kinds_scopes), ("lazaret/kinds.states", laid_lazaret_kinds_states)] }
def KindsCaseSaid : Prop := kindsCaseRow.holds Tryd.pinned (OpenSpec.ofChange kindsCaseSpec)

/-- ITS FALSE NEIGHBOUR: 'it returns false'. Refute it at one input. -/
def kindsCaseWrong : ChangeSpec := { name := "kindsCase", fn := fun _ => fun
  | [d1, d2] => { results := [.lit (.bool false)], args := [d1, d2] }
  | _ => none }
def KindsCaseWrongFalsely : Prop := kindsCaseRow.holds Tryd.pinned (OpenSpec.ofChange kindsCaseWrong)

/-- 'lazaretlaw28.ChainsNames': WHATEVER THE INPUT: true; the input reads as it did. -/
def chainsNamesSpec : ChangeSpec := { name := "chainsNames", fn := fun _ => fun
  | [d1, d2] => { results := [.lit (.bool true)], args := [d1, d2] }
  | _ => none }
def chainsNamesRow : OpenClaim := { program := "ythgecembedjnaaadoor", sum := "e62fd23756189ac17b18116e1ecd06f1d1496ed2f4eeea15430210347e2b8957", func := "lazaret/lazaretlaw28.ChainsNames", spec := "chainsNames", inPlace := ["internal/bytealg.CountString", "internal/bytealg.IndexByteString", "internal/bytealg.IndexString", "internal/abi.NoEscape"], unfollowed := true, recurses := true, named := ["unicode/utf8.first", "unicode/utf8.acceptRanges", "internal/bytealg.MaxLen", "lazaret/chains.effective"], apart := false, laid := [("unicode/utf8.acceptRanges", laid_unicode_utf8_acceptRanges), ("lazaret/chains.effective", laid_lazaret_chains_effective), ("unicode/utf8.first", laid_unicode_utf8_first)] }
def ChainsNamesSaid : Prop := chainsNamesRow.holds Tryd.pinned (OpenSpec.ofChange chainsNamesSpec)

/-- ITS FALSE NEIGHBOUR: 'it returns false'. Refute it at one input. -/
def chainsNamesWrong : ChangeSpec := { name := "chainsNames", fn := fun _ => fun
  | [d1, d2] => { results := [.lit (.bool false)], args := [d1, d2] }
  | _ => none }
def ChainsNamesWrongFalsely : Prop := chainsNamesRow.holds Tryd.pinned (OpenSpec.ofChange chainsNamesWrong)

/-- 'lazaretlaw28.ChainsFind': WHATEVER THE INPUT: true; the input reads as it did. -/
def chainsFindSpec : ChangeSpec := { name := "chainsFind", fn := fun _ => fun
  | [d1, d2] => { results := [.lit (.bool true)], args := [d1, d2] }
  | _ => none }
def chainsFindRow : OpenClaim := { program := "ythgecembedjnaaadoor", sum := "e62fd23756189ac17b18116e1ecd06f1d1496ed2f4eeea15430210347e2b8957", func := "lazaret/lazaretlaw28.ChainsFind", spec := "chainsFind", inPlace := ["internal/bytealg.CountString", "internal/bytealg.IndexByteString", "internal/bytealg.IndexString", "internal/abi.NoEscape"], unfollowed := true, recurses := true, named := ["unicode/utf8.first", "unicode/utf8.acceptRanges", "internal/bytealg.MaxLen", "lazaret/chains.effective"], apart := false, laid := [("unicode/utf8.acceptRanges", laid_unicode_utf8_acceptRanges), ("lazaret/chains.effective", laid_lazaret_chains_effective), ("unicode/utf8.first", laid_unicode_utf8_first)] }
def ChainsFindSaid : Prop := chainsFindRow.holds Tryd.pinned (OpenSpec.ofChange chainsFindSpec)

/-- ITS FALSE NEIGHBOUR: 'it returns false'. Refute it at one input. -/
def chainsFindWrong : ChangeSpec := { name := "chainsFind", fn := fun _ => fun
  | [d1, d2] => { results := [.lit (.bool false)], args := [d1, d2] }
  | _ => none }
def ChainsFindWrongFalsely : Prop := chainsFindRow.holds Tryd.pinned (OpenSpec.ofChange chainsFindWrong)

/-- 'lazaretlaw28.ChainsFirst': WHATEVER THE INPUT: true; the input reads as it did. -/
def chainsFirstSpec : ChangeSpec := { name := "chainsFirst", fn := fun _ => fun
  | [d1, d2] => { results := [.lit (.bool true)], args := [d1, d2] }
  | _ => none }
def chainsFirstRow : OpenClaim := { program := "ythgecembedjnaaadoor", sum := "e62fd23756189ac17b18116e1ecd06f1d1496ed2f4eeea15430210347e2b8957", func := "lazaret/lazaretlaw28.ChainsFirst", spec := "chainsFirst", inPlace := ["internal/bytealg.CountString", "internal/bytealg.IndexByteString", "internal/bytealg.IndexString", "internal/abi.NoEscape"], unfollowed := true, recurses := true, named := ["unicode/utf8.first", "unicode/utf8.acceptRanges", "internal/bytealg.MaxLen", "lazaret/chains.effective"], apart := false, laid := [("unicode/utf8.acceptRanges", laid_unicode_utf8_acceptRanges), ("lazaret/chains.effective", laid_lazaret_chains_effective), ("unicode/utf8.first", laid_unicode_utf8_first)] }
def ChainsFirstSaid : Prop := chainsFirstRow.holds Tryd.pinned (OpenSpec.ofChange chainsFirstSpec)

/-- ITS FALSE NEIGHBOUR: 'it returns false'. Refute it at one input. -/
def chainsFirstWrong : ChangeSpec := { name := "chainsFirst", fn := fun _ => fun
  | [d1, d2] => { results := [.lit (.bool false)], args := [d1, d2] }
  | _ => none }
def ChainsFirstWrongFalsely : Prop := chainsFirstRow.holds Tryd.pinned (OpenSpec.ofChange chainsFirstWrong)

/-- 'lazaretlaw28.ChainsOrder': WHATEVER THE INPUT: true; the input reads as it did. -/
def chainsOrderSpec : ChangeSpec := { name := "chainsOrder", fn := fun _ => fun
  | [d] => { results := [.lit (.bool true)], args := [d] }
  | _ => none }
def chainsOrderRow : OpenClaim := { program := "ythgecembedjnaaadoor", sum := "e62fd23756189ac17b18116e1ecd06f1d1496ed2f4eeea15430210347e2b8957", func := "lazaret/lazaretlaw28.ChainsOrder", spec := "chainsOrder", inPlace := ["internal/bytealg.CountString", "internal/bytealg.IndexByteString", "internal/bytealg.IndexString", "internal/abi.NoEscape"], unfollowed := true, recurses := true, named := ["unicode/utf8.first", "unicode/utf8.acceptRanges", "internal/bytealg.MaxLen", "lazaret/chains.effective"], apart := false, laid := [("unicode/utf8.acceptRanges", laid_unicode_utf8_acceptRanges), ("lazaret/chains.effective", laid_lazaret_chains_effective), ("unicode/utf8.first", laid_unicode_utf8_first)] }
def ChainsOrderSaid : Prop := chainsOrderRow.holds Tryd.pinned (OpenSpec.ofChange chainsOrderSpec)

/-- ITS FALSE NEIGHBOUR: 'it returns false'. Refute it at one input. -/
def chainsOrderWrong : ChangeSpec := { name := "chainsOrder", fn := fun _ => fun
  | [d] => { results := [.lit (.bool false)], args := [d] }
  | _ => none }
def ChainsOrderWrongFalsely : Prop := chainsOrderRow.holds Tryd.pinned (OpenSpec.ofChange chainsOrderWrong)

/- THE SECOND FORM. 'bulk': how many values and letters a reading holds, each counted each time it is reached (what is shared counts as often as it is met; a slice's spare places count too). A statement '..UptoSaid' is the law's where the arguments, and the package variables that the reading takes, are together of bulk at most 1048576: NARROWER than '..Said'. Prove '..Said' where nothing that the law and all that it calls make is longer than what came in: it says more and counts as full. Else prove '..UptoSaid'. A law counts once. -/
mutual
def uptoBulk {H : Type} : DataW H → Nat
  | .lit (.string bytes) => bytes.length + 1
  | .lit _ => 1
  | .nil => 1
  | .ptr d => uptoBulk d + 1
  | .slice elems spare => uptoBulkAll elems + uptoBulkAll spare + 1
  | .agg parts => uptoBulkAll parts + 1
  | .iface _ d => uptoBulk d + 1
  | .map entries => uptoBulkEntries entries + 1
  | .held _ => 1
def uptoBulkAll {H : Type} : List (DataW H) → Nat
  | [] => 0
  | d :: r => uptoBulk d + uptoBulkAll r
def uptoBulkEntries {H : Type} : List (Lit × DataW H) → Nat
  | [] => 0
  | x :: r => uptoBulkEntry x + uptoBulkEntries r
def uptoBulkEntry {H : Type} : Lit × DataW H → Nat
  | (.string bytes, d) => bytes.length + uptoBulk d + 1
  | (_, d) => uptoBulk d + 1
 end
def uptoSmall : (H : Type) → List (DataW H) → Bool := fun _ ds => decide (uptoBulkAll ds ≤ 1048576)
def OpenSpec.upto (s : _root_.Go.ChangeSpec) : _root_.Go.OpenSpec := { _root_.Go.OpenSpec.ofChange s with cond := some uptoSmall }

/-- 'lazaretlaw02.AsciiBytes', WHERE WHAT IT READS IS OF BULK AT MOST 1048576: true; the input reads as it did. -/
def asciiBytesUptoRow : OpenClaim := { program := "ythgecembedjnaaadoor", sum := "e62fd23756189ac17b18116e1ecd06f1d1496ed2f4eeea15430210347e2b8957", func := "lazaret/lazaretlaw02.AsciiBytes", spec := "asciiBytes", inPlace := ["internal/abi.NoEscape", "internal/bytealg.CountString", "internal/bytealg.IndexByteString", "internal/bytealg.IndexString"], unfollowed := true, recurses := true, named := ["unicode/utf8.first", "unicode/utf8.acceptRanges", "internal/bytealg.MaxLen"], apart := false, laid := [("unicode/utf8.acceptRanges", laid_unicode_utf8_acceptRanges), ("unicode/utf8.first", laid_unicode_utf8_first)], narrowed := true }
def AsciiBytesUptoSaid : Prop := asciiBytesUptoRow.holds Tryd.pinned (OpenSpec.upto asciiBytesSpec)

/-- 'lazaretlaw02.AsciiTexts', WHERE WHAT IT READS IS OF BULK AT MOST 1048576: true; the input reads as it did. -/
def asciiTextsUptoRow : OpenClaim := { program := "ythgecembedjnaaadoor", sum := "e62fd23756189ac17b18116e1ecd06f1d1496ed2f4eeea15430210347e2b8957", func := "lazaret/lazaretlaw02.AsciiTexts", spec := "asciiTexts", inPlace := ["internal/abi.NoEscape", "internal/bytealg.CountString", "internal/bytealg.IndexByteString", "internal/bytealg.IndexString"], unfollowed := true, recurses := true, named := ["unicode/utf8.first", "unicode/utf8.acceptRanges", "internal/bytealg.MaxLen"], apart := false, laid := [("unicode/utf8.acceptRanges", laid_unicode_utf8_acceptRanges), ("unicode/utf8.first", laid_unicode_utf8_first)], narrowed := true }
def AsciiTextsUptoSaid : Prop := asciiTextsUptoRow.holds Tryd.pinned (OpenSpec.upto asciiTextsSpec)

/-- 'lazaretlaw02.AsciiCase', WHERE WHAT IT READS IS OF BULK AT MOST 1048576: true; the input reads as it did. -/
def asciiCaseUptoRow : OpenClaim := { program := "ythgecembedjnaaadoor", sum := "e62fd23756189ac17b18116e1ecd06f1d1496ed2f4eeea15430210347e2b8957", func := "lazaret/lazaretlaw02.AsciiCase", spec := "asciiCase", inPlace := ["internal/abi.NoEscape", "internal/bytealg.CountString", "internal/bytealg.IndexByteString", "internal/bytealg.IndexString"], unfollowed := true, recurses := true, named := ["unicode/utf8.first", "unicode/utf8.acceptRanges", "internal/bytealg.MaxLen"], apart := false, laid := [("unicode/utf8.acceptRanges", laid_unicode_utf8_acceptRanges), ("unicode/utf8.first", laid_unicode_utf8_first)], narrowed := true }
def AsciiCaseUptoSaid : Prop := asciiCaseUptoRow.holds Tryd.pinned (OpenSpec.upto asciiCaseSpec)

/-- 'lazaretlaw02.AsciiFields', WHERE WHAT IT READS IS OF BULK AT MOST 1048576: true; the input reads as it did. -/
def asciiFieldsUptoRow : OpenClaim := { program := "ythgecembedjnaaadoor", sum := "e62fd23756189ac17b18116e1ecd06f1d1496ed2f4eeea15430210347e2b8957", func := "lazaret/lazaretlaw02.AsciiFields", spec := "asciiFields", inPlace := ["internal/abi.NoEscape", "internal/bytealg.CountString", "internal/bytealg.IndexByteString", "internal/bytealg.IndexString"], unfollowed := true, recurses := true, named := ["unicode/utf8.first", "unicode/utf8.acceptRanges", "internal/bytealg.MaxLen"], apart := false, laid := [("unicode/utf8.acceptRanges", laid_unicode_utf8_acceptRanges), ("unicode/utf8.first", laid_unicode_utf8_first)], narrowed := true }
def AsciiFieldsUptoSaid : Prop := asciiFieldsUptoRow.holds Tryd.pinned (OpenSpec.upto asciiFieldsSpec)

/-- 'lazaretlaw02.AsciiCommas', WHERE WHAT IT READS IS OF BULK AT MOST 1048576: true; the input reads as it did. -/
def asciiCommasUptoRow : OpenClaim := { program := "ythgecembedjnaaadoor", sum := "e62fd23756189ac17b18116e1ecd06f1d1496ed2f4eeea15430210347e2b8957", func := "lazaret/lazaretlaw02.AsciiCommas", spec := "asciiCommas", inPlace := ["internal/abi.NoEscape", "internal/bytealg.CountString", "internal/bytealg.IndexByteString", "internal/bytealg.IndexString"], unfollowed := true, recurses := true, named := ["unicode/utf8.first", "unicode/utf8.acceptRanges", "internal/bytealg.MaxLen"], apart := false, laid := [("unicode/utf8.acceptRanges", laid_unicode_utf8_acceptRanges), ("unicode/utf8.first", laid_unicode_utf8_first)], narrowed := true }
def AsciiCommasUptoSaid : Prop := asciiCommasUptoRow.holds Tryd.pinned (OpenSpec.upto asciiCommasSpec)

/-- 'lazaretlaw13.KindsTell', WHERE WHAT IT READS IS OF BULK AT MOST 1048576: true; the input reads as it did. -/
def kindsTellUptoRow : OpenClaim := { program := "ythgecembedjnaaadoor", sum := "e62fd23756189ac17b18116e1ecd06f1d1496ed2f4eeea15430210347e2b8957", func := "lazaret/lazaretlaw13.KindsTell", spec := "kindsTell", inPlace := ["internal/bytealg.IndexByteString", "internal/bytealg.IndexString"], named := ["lazaret/kinds.specials", "internal/bytealg.MaxLen", "lazaret/kinds.scopes", "lazaret/kinds.states"], apart := false, laid := [("lazaret/kinds.specials", laid_lazaret_kinds_specials), ("lazaret/kinds.scopes", laid_lazaret_kinds_scopes), ("lazaret/kinds.states", laid_lazaret_kinds_states)], narrowed := true }
def KindsTellUptoSaid : Prop := kindsTellUptoRow.holds Tryd.pinned (OpenSpec.upto kindsTellSpec)

/-- 'lazaretlaw13.KindsWithin', WHERE WHAT IT READS IS OF BULK AT MOST 1048576: true; the input reads as it did. -/
def kindsWithinUptoRow : OpenClaim := { program := "ythgecembedjnaaadoor", sum := "e62fd23756189ac17b18116e1ecd06f1d1496ed2f4eeea15430210347e2b8957", func := "lazaret/lazaretlaw13.KindsWithin", spec := "kindsWithin", inPlace := ["internal/bytealg.IndexByteString", "internal/bytealg.IndexString"], named := ["lazaret/kinds.specials", "internal/bytealg.MaxLen", "lazaret/kinds.scopes", "lazaret/kinds.states"], apart := false, laid := [("lazaret/kinds.specials", laid_lazaret_kinds_specials), ("lazaret/kinds.scopes", laid_lazaret_kinds_scopes), ("lazaret/kinds.states", laid_lazaret_kinds_states)], narrowed := true }
def KindsWithinUptoSaid : Prop := kindsWithinUptoRow.holds Tryd.pinned (OpenSpec.upto kindsWithinSpec)

/-- 'lazaretlaw13.KindsCase', WHERE WHAT IT READS IS OF BULK AT MOST 1048576: true; the input reads as it did. -/
def kindsCaseUptoRow : OpenClaim := { program := "ythgecembedjnaaadoor", sum := "e62fd23756189ac17b18116e1ecd06f1d1496ed2f4eeea15430210347e2b8957", func := "lazaret/lazaretlaw13.KindsCase", spec := "kindsCase", inPlace := ["internal/bytealg.IndexByteString", "internal/bytealg.IndexString"], named := ["lazaret/kinds.specials", "internal/bytealg.MaxLen", "lazaret/kinds.scopes", "lazaret/kinds.states"], apart := false, laid := [("lazaret/kinds.specials", laid_lazaret_kinds_specials), ("lazaret/kinds.scopes", laid_lazaret_kinds_scopes), ("lazaret/kinds.states", laid_lazaret_kinds_states)], narrowed := true }
def KindsCaseUptoSaid : Prop := kindsCaseUptoRow.holds Tryd.pinned (OpenSpec.upto kindsCaseSpec)

/-- 'lazaretlaw28.ChainsNames', WHERE WHAT IT READS IS OF BULK AT MOST 1048576: true; the input reads as it did. -/
def chainsNamesUptoRow : OpenClaim := { program := "ythgecembedjnaaadoor", sum := "e62fd23756189ac17b18116e1ecd06f1d1496ed2f4eeea15430210347e2b8957", func := "lazaret/lazaretlaw28.ChainsNames", spec := "chainsNames", inPlace := ["internal/bytealg.CountString", "internal/bytealg.IndexByteString", "internal/bytealg.IndexString", "internal/abi.NoEscape"], unfollowed := true, recurses := true, named := ["unicode/utf8.first", "unicode/utf8.acceptRanges", "internal/bytealg.MaxLen", "lazaret/chains.effective"], apart := false, laid := [("unicode/utf8.acceptRanges", laid_unicode_utf8_acceptRanges), ("lazaret/chains.effective", laid_lazaret_chains_effective), ("unicode/utf8.first", laid_unicode_utf8_first)], narrowed := true }
def ChainsNamesUptoSaid : Prop := chainsNamesUptoRow.holds Tryd.pinned (OpenSpec.upto chainsNamesSpec)

/-- 'lazaretlaw28.ChainsFind', WHERE WHAT IT READS IS OF BULK AT MOST 1048576: true; the input reads as it did. -/
def chainsFindUptoRow : OpenClaim := { program := "ythgecembedjnaaadoor", sum := "e62fd23756189ac17b18116e1ecd06f1d1496ed2f4eeea15430210347e2b8957", func := "lazaret/lazaretlaw28.ChainsFind", spec := "chainsFind", inPlace := ["internal/bytealg.CountString", "internal/bytealg.IndexByteString", "internal/bytealg.IndexString", "internal/abi.NoEscape"], unfollowed := true, recurses := true, named := ["unicode/utf8.first", "unicode/utf8.acceptRanges", "internal/bytealg.MaxLen", "lazaret/chains.effective"], apart := false, laid := [("unicode/utf8.acceptRanges", laid_unicode_utf8_acceptRanges), ("lazaret/chains.effective", laid_lazaret_chains_effective), ("unicode/utf8.first", laid_unicode_utf8_first)], narrowed := true }
def ChainsFindUptoSaid : Prop := chainsFindUptoRow.holds Tryd.pinned (OpenSpec.upto chainsFindSpec)

/-- 'lazaretlaw28.ChainsFirst', WHERE WHAT IT READS IS OF BULK AT MOST 1048576: true; the input reads as it did. -/
def chainsFirstUptoRow : OpenClaim := { program := "ythgecembedjnaaadoor", sum := "e62fd23756189ac17b18116e1ecd06f1d1496ed2f4eeea15430210347e2b8957", func := "lazaret/lazaretlaw28.ChainsFirst", spec := "chainsFirst", inPlace := ["internal/bytealg.CountString", "internal/bytealg.IndexByteString", "internal/bytealg.IndexString", "internal/abi.NoEscape"], unfollowed := true, recurses := true, named := ["unicode/utf8.first", "unicode/utf8.acceptRanges", "internal/bytealg.MaxLen", "lazaret/chains.effective"], apart := false, laid := [("unicode/utf8.acceptRanges", laid_unicode_utf8_acceptRanges), ("lazaret/chains.effective", laid_lazaret_chains_effective), ("unicode/utf8.first", laid_unicode_utf8_first)], narrowed := true }
def ChainsFirstUptoSaid : Prop := chainsFirstUptoRow.holds Tryd.pinned (OpenSpec.upto chainsFirstSpec)

/-- 'lazaretlaw28.ChainsOrder', WHERE WHAT IT READS IS OF BULK AT MOST 1048576: true; the input reads as it did. -/
def chainsOrderUptoRow : OpenClaim := { program := "ythgecembedjnaaadoor", sum := "e62fd23756189ac17b18116e1ecd06f1d1496ed2f4eeea15430210347e2b8957", func := "lazaret/lazaretlaw28.ChainsOrder", spec := "chainsOrder", inPlace := ["internal/bytealg.CountString", "internal/bytealg.IndexByteString", "internal/bytealg.IndexString", "internal/abi.NoEscape"], unfollowed := true, recurses := true, named := ["unicode/utf8.first", "unicode/utf8.acceptRanges", "internal/bytealg.MaxLen", "lazaret/chains.effective"], apart := false, laid := [("unicode/utf8.acceptRanges", laid_unicode_utf8_acceptRanges), ("lazaret/chains.effective", laid_lazaret_chains_effective), ("unicode/utf8.first", laid_unicode_utf8_first)], narrowed := true }
def ChainsOrderUptoSaid : Prop := chainsOrderUptoRow.holds Tryd.pinned (OpenSpec.upto chainsOrderSpec)

end Rows
end Go.Proofs.YthgecembedjnaaaDoor
