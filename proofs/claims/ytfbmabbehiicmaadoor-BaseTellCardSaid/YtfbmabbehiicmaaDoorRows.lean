/-
  NARROWER THAN 'FOR EVERY INPUT', by the rows' own cells (each row's printed sentence says how): TextsTell: laid · TextsWhole: laid · TextsPieces: laid · TextsLines: laid · BaseTell: laid · BaseBack: laid · BaseWay: laid · BaseSpoilt: laid.
  DERIVED. THE GIVEN ROWS OF THIS SEAT. 8 by the template 'for every input the law returns true; each argument reads behind the call as it read before'; 0 by the template 'total and deterministic' (their statements: YtfbmabbehiicmaaDoorTotals.lean).
  GIVEN WITH THE SEED: the statements are not yours to turn. If you find one false, say at which input.
  Laid BY PROGRAM, IN A SANDBOX (cutbox-rows.mjs): the forced cells as the released guide's own fill.sh prints them over the translation 8024889375c19593… (all of the seat's roots in one cut). By AI agents, Wed Nov 11 2026. No macro, syntax, notation, axiom, sorry.
-/
import Derived.Test.YtfbmabbehiicmaaDoorChecked
import GoSem.PinnedTables
import GoSem.Claim
import GoSem.ClaimJoined
import GoSem.ClaimMapViews
import Derived.JoinedTies
import Derived.KernelRfl
namespace Go.Proofs.YtfbmabbehiicmaaDoor
/- THE CELL 'sum', in the pinned program and in every row, IS THE sha256 OF THE DUMP (.gsa) THAT YtfbmabbehiicmaaDoorProg.lean LOADS. Nothing in Lean hashes anything: it is a label: what it is worth is what the hold of that sum in a sandbox is worth. -/
noncomputable def Tryd.pinned : Pinned := { name := "ytfbmabbehiicmaadoor", sum := "8024889375c195933a74ba6dfb5d7d6af53f72867b4c3fa689fcd1aece2a2d00", checked := Tryd.checked }
namespace Rows
def none {H : Type} : Left H := { results := [], args := [] }

/- WHAT THE LISTED PACKAGE-LEVEL VARIABLES READ AS WHEN THE CALL BEGINS. Each datum BY PROGRAM (the guide's laid-datum.mjs) off the statement by which the dump's own 'gosem.cut.vars' lays the variable. In a bare row this is a premise. The card (YtfbmabbehiicmaaDoorCards.lean) ties it to the program's text. -/
def laid_unicode_utf8_acceptRanges {H : Type} : DataW H := .agg [.agg [.lit (.int .u8 128), .lit (.int .u8 191)], .agg [.lit (.int .u8 160), .lit (.int .u8 191)], .agg [.lit (.int .u8 128), .lit (.int .u8 159)], .agg [.lit (.int .u8 144), .lit (.int .u8 191)], .agg [.lit (.int .u8 128), .lit (.int .u8 143)], .agg [.lit (.int .u8 0), .lit (.int .u8 0)], .agg [.lit (.int .u8 0), .lit (.int .u8 0)], .agg [.lit (.int .u8 0), .lit (.int .u8 0)], .agg [.lit (.int .u8 0), .lit (.int .u8 0)], .agg [.lit (.int .u8 0), .lit (.int .u8 0)], .agg [.lit (.int .u8 0), .lit (.int .u8 0)], .agg [.lit (.int .u8 0), .lit (.int .u8 0)], .agg [.lit (.int .u8 0), .lit (.int .u8 0)], .agg [.lit (.int .u8 0), .lit (.int .u8 0)], .agg [.lit (.int .u8 0), .lit (.int .u8 0)], .agg [.lit (.int .u8 0), .lit (.int .u8 0)]]
def laid_lazaret_texts_leads {H : Type} : DataW H := .agg [.agg [.lit (.int .u8 0), .lit (.int .u8 127), .lit (.int .u8 128), .lit (.int .u8 191), .lit (.int .i64 1)], .agg [.lit (.int .u8 194), .lit (.int .u8 223), .lit (.int .u8 128), .lit (.int .u8 191), .lit (.int .i64 2)], .agg [.lit (.int .u8 224), .lit (.int .u8 224), .lit (.int .u8 160), .lit (.int .u8 191), .lit (.int .i64 3)], .agg [.lit (.int .u8 225), .lit (.int .u8 236), .lit (.int .u8 128), .lit (.int .u8 191), .lit (.int .i64 3)], .agg [.lit (.int .u8 237), .lit (.int .u8 237), .lit (.int .u8 128), .lit (.int .u8 159), .lit (.int .i64 3)], .agg [.lit (.int .u8 238), .lit (.int .u8 239), .lit (.int .u8 128), .lit (.int .u8 191), .lit (.int .i64 3)], .agg [.lit (.int .u8 240), .lit (.int .u8 240), .lit (.int .u8 144), .lit (.int .u8 191), .lit (.int .i64 4)], .agg [.lit (.int .u8 241), .lit (.int .u8 243), .lit (.int .u8 128), .lit (.int .u8 191), .lit (.int .i64 4)], .agg [.lit (.int .u8 244), .lit (.int .u8 244), .lit (.int .u8 128), .lit (.int .u8 143), .lit (.int .i64 4)]]
/-- One of Go's own tables, pinned by name: the form's constant. -/
def laid_unicode_utf8_first : DataW Unit := Go.Pinned.utf8First

/-- 'lazaretlaw01.TextsTell': WHATEVER THE INPUT: true; the input reads as it did. -/
def textsTellSpec : ChangeSpec := { name := "textsTell", fn := fun _ => fun
  | [d] => { results := [.lit (.bool true)], args := [d] }
  | _ => none }
def textsTellRow : OpenClaim := { program := "ytfbmabbehiicmaadoor", sum := "8024889375c195933a74ba6dfb5d7d6af53f72867b4c3fa689fcd1aece2a2d00", func := "lazaret/lazaretlaw01.TextsTell", spec := "textsTell", inPlace := ["internal/abi.NoEscape", "internal/bytealg.CountString", "internal/bytealg.IndexByteString", "internal/bytealg.IndexString", "internal/bytealg.MakeNoZero"], named := ["lazaret/texts.leads", "internal/bytealg.MaxLen", "unicode/utf8.first", "unicode/utf8.acceptRanges"], apart := false, laid := [("unicode/utf8.acceptRanges", laid_unicode_utf8_acceptRanges), ("lazaret/texts.leads", laid_lazaret_texts_leads), ("unicode/utf8.first", laid_unicode_utf8_first)] }
def TextsTellSaid : Prop := textsTellRow.holds Tryd.pinned (OpenSpec.ofChange textsTellSpec)

/-- ITS FALSE NEIGHBOUR: 'it returns false'. Refute it at one input. -/
def textsTellWrong : ChangeSpec := { name := "textsTell", fn := fun _ => fun
  | [d] => { results := [.lit (.bool false)], args := [d] }
  | _ => none }
def TextsTellWrongFalsely : Prop := textsTellRow.holds Tryd.pinned (OpenSpec.ofChange textsTellWrong)

/-- 'lazaretlaw01.TextsWhole': WHATEVER THE INPUT: true; the input reads as it did. -/
def textsWholeSpec : ChangeSpec := { name := "textsWhole", fn := fun _ => fun
  | [d] => { results := [.lit (.bool true)], args := [d] }
  | _ => none }
def textsWholeRow : OpenClaim := { program := "ytfbmabbehiicmaadoor", sum := "8024889375c195933a74ba6dfb5d7d6af53f72867b4c3fa689fcd1aece2a2d00", func := "lazaret/lazaretlaw01.TextsWhole", spec := "textsWhole", inPlace := ["internal/abi.NoEscape", "internal/bytealg.CountString", "internal/bytealg.IndexByteString", "internal/bytealg.IndexString", "internal/bytealg.MakeNoZero"], named := ["lazaret/texts.leads", "internal/bytealg.MaxLen", "unicode/utf8.first", "unicode/utf8.acceptRanges"], apart := false, laid := [("unicode/utf8.acceptRanges", laid_unicode_utf8_acceptRanges), ("lazaret/texts.leads", laid_lazaret_texts_leads), ("unicode/utf8.first", laid_unicode_utf8_first)] }
def TextsWholeSaid : Prop := textsWholeRow.holds Tryd.pinned (OpenSpec.ofChange textsWholeSpec)

/-- ITS FALSE NEIGHBOUR: 'it returns false'. Refute it at one input. -/
def textsWholeWrong : ChangeSpec := { name := "textsWhole", fn := fun _ => fun
  | [d] => { results := [.lit (.bool false)], args := [d] }
  | _ => none }
def TextsWholeWrongFalsely : Prop := textsWholeRow.holds Tryd.pinned (OpenSpec.ofChange textsWholeWrong)

/-- 'lazaretlaw01.TextsPieces': WHATEVER THE INPUT: true; the input reads as it did. -/
def textsPiecesSpec : ChangeSpec := { name := "textsPieces", fn := fun _ => fun
  | [d] => { results := [.lit (.bool true)], args := [d] }
  | _ => none }
def textsPiecesRow : OpenClaim := { program := "ytfbmabbehiicmaadoor", sum := "8024889375c195933a74ba6dfb5d7d6af53f72867b4c3fa689fcd1aece2a2d00", func := "lazaret/lazaretlaw01.TextsPieces", spec := "textsPieces", inPlace := ["internal/abi.NoEscape", "internal/bytealg.CountString", "internal/bytealg.IndexByteString", "internal/bytealg.IndexString", "internal/bytealg.MakeNoZero"], named := ["lazaret/texts.leads", "internal/bytealg.MaxLen", "unicode/utf8.first", "unicode/utf8.acceptRanges"], apart := false, laid := [("unicode/utf8.acceptRanges", laid_unicode_utf8_acceptRanges), ("lazaret/texts.leads", laid_lazaret_texts_leads), ("unicode/utf8.first", laid_unicode_utf8_first)] }
def TextsPiecesSaid : Prop := textsPiecesRow.holds Tryd.pinned (OpenSpec.ofChange textsPiecesSpec)

/-- ITS FALSE NEIGHBOUR: 'it returns false'. Refute it at one input. -/
def textsPiecesWrong : ChangeSpec := { name := "textsPieces", fn := fun _ => fun
  | [d] => { results := [.lit (.bool false)], args := [d] }
  | _ => none }
def TextsPiecesWrongFalsely : Prop := textsPiecesRow.holds Tryd.pinned (OpenSpec.ofChange textsPiecesWrong)

/-- 'lazaretlaw01.TextsLines': WHATEVER THE INPUT: true; the input reads as it did. -/
def textsLinesSpec : ChangeSpec := { name := "textsLines", fn := fun _ => fun
  | [d1, d2] => { results := [.lit (.bool true)], args := [d1, d2] }
  | _ => none }
def textsLinesRow : OpenClaim := { program := "ytfbmabbehiicmaadoor", sum := "8024889375c195933a74ba6dfb5d7d6af53f72867b4c3fa689fcd1aece2a2d00", func := "lazaret/lazaretlaw01.TextsLines", spec := "textsLines", inPlace := ["internal/abi.NoEscape", "internal/bytealg.CountString", "internal/bytealg.IndexByteString", "internal/bytealg.IndexString", "internal/bytealg.MakeNoZero"], named := ["lazaret/texts.leads", "internal/bytealg.MaxLen", "unicode/utf8.first", "unicode/utf8.acceptRanges"], apart := false, laid := [("unicode/utf8.acceptRanges", laid_unicode_utf8_acceptRanges), ("lazaret/texts.leads", laid_lazaret_texts_leads), ("unicode/utf8.first", laid_unicode_utf8_first)] }
def TextsLinesSaid : Prop := textsLinesRow.holds Tryd.pinned (OpenSpec.ofChange textsLinesSpec)

/-- ITS FALSE NEIGHBOUR: 'it returns false'. Refute it at one input. -/
def textsLinesWrong : ChangeSpec := { name := "textsLines", fn := fun _ => fun
  | [d1, d2] => { results := [.lit (.bool false)], args := [d1, d2] }
  | _ => none }
def TextsLinesWrongFalsely : Prop := textsLinesRow.holds Tryd.pinned (OpenSpec.ofChange textsLinesWrong)

/-- 'lazaretlaw03.BaseTell': WHATEVER THE INPUT: true; the input reads as it did. -/
def baseTellSpec : ChangeSpec := { name := "baseTell", fn := fun _ => fun
  | [d] => { results := [.lit (.bool true)], args := [d] }
  | _ => none }
def baseTellRow : OpenClaim := { program := "ytfbmabbehiicmaadoor", sum := "8024889375c195933a74ba6dfb5d7d6af53f72867b4c3fa689fcd1aece2a2d00", func := "lazaret/lazaretlaw03.BaseTell", spec := "baseTell", inPlace := ["internal/abi.NoEscape", "internal/bytealg.CountString", "internal/bytealg.IndexByteString", "internal/bytealg.IndexString", "internal/bytealg.MakeNoZero"], named := ["internal/bytealg.MaxLen", "unicode/utf8.first", "unicode/utf8.acceptRanges"], apart := false, laid := [("unicode/utf8.acceptRanges", laid_unicode_utf8_acceptRanges), ("unicode/utf8.first", laid_unicode_utf8_first)] }
def BaseTellSaid : Prop := baseTellRow.holds Tryd.pinned (OpenSpec.ofChange baseTellSpec)

/-- ITS FALSE NEIGHBOUR: 'it returns false'. Refute it at one input. -/
def baseTellWrong : ChangeSpec := { name := "baseTell", fn := fun _ => fun
  | [d] => { results := [.lit (.bool false)], args := [d] }
  | _ => none }
def BaseTellWrongFalsely : Prop := baseTellRow.holds Tryd.pinned (OpenSpec.ofChange baseTellWrong)

/-- 'lazaretlaw03.BaseBack': WHATEVER THE INPUT: true; the input reads as it did. -/
def baseBackSpec : ChangeSpec := { name := "baseBack", fn := fun _ => fun
  | [d1, d2] => { results := [.lit (.bool true)], args := [d1, d2] }
  | _ => none }
def baseBackRow : OpenClaim := { program := "ytfbmabbehiicmaadoor", sum := "8024889375c195933a74ba6dfb5d7d6af53f72867b4c3fa689fcd1aece2a2d00", func := "lazaret/lazaretlaw03.BaseBack", spec := "baseBack", inPlace := ["internal/abi.NoEscape", "internal/bytealg.CountString", "internal/bytealg.IndexByteString", "internal/bytealg.IndexString", "internal/bytealg.MakeNoZero"], named := ["internal/bytealg.MaxLen", "unicode/utf8.first", "unicode/utf8.acceptRanges"], apart := false, laid := [("unicode/utf8.acceptRanges", laid_unicode_utf8_acceptRanges), ("unicode/utf8.first", laid_unicode_utf8_first)] }
def BaseBackSaid : Prop := baseBackRow.holds Tryd.pinned (OpenSpec.ofChange baseBackSpec)

/-- ITS FALSE NEIGHBOUR: 'it returns false'. Refute it at one input. -/
def baseBackWrong : ChangeSpec := { name := "baseBack", fn := fun _ => fun
  | [d1, d2] => { results := [.lit (.bool false)], args := [d1, d2] }
  | _ => none }
def BaseBackWrongFalsely : Prop := baseBackRow.holds Tryd.pinned (OpenSpec.ofChange baseBackWrong)

/-- 'lazaretlaw03.BaseWay': WHATEVER THE INPUT: true; the input reads as it did. -/
def baseWaySpec : ChangeSpec := { name := "baseWay", fn := fun _ => fun
  | [d] => { results := [.lit (.bool true)], args := [d] }
  | _ => none }
def baseWayRow : OpenClaim := { program := "ytfbmabbehiicmaadoor", sum := "8024889375c195933a74ba6dfb5d7d6af53f72867b4c3fa689fcd1aece2a2d00", func := "lazaret/lazaretlaw03.BaseWay", spec := "baseWay", inPlace := ["internal/abi.NoEscape", "internal/bytealg.CountString", "internal/bytealg.IndexByteString", "internal/bytealg.IndexString", "internal/bytealg.MakeNoZero"], named := ["internal/bytealg.MaxLen", "unicode/utf8.first", "unicode/utf8.acceptRanges"], apart := false, laid := [("unicode/utf8.acceptRanges", laid_unicode_utf8_acceptRanges), ("unicode/utf8.first", laid_unicode_utf8_first)] }
def BaseWaySaid : Prop := baseWayRow.holds Tryd.pinned (OpenSpec.ofChange baseWaySpec)

/-- ITS FALSE NEIGHBOUR: 'it returns false'. Refute it at one input. -/
def baseWayWrong : ChangeSpec := { name := "baseWay", fn := fun _ => fun
  | [d] => { results := [.lit (.bool false)], args := [d] }
  | _ => none }
def BaseWayWrongFalsely : Prop := baseWayRow.holds Tryd.pinned (OpenSpec.ofChange baseWayWrong)

/-- 'lazaretlaw03.BaseSpoilt': WHATEVER THE INPUT: true; the input reads as it did. -/
def baseSpoiltSpec : ChangeSpec := { name := "baseSpoilt", fn := fun _ => fun
  | [d1, d2, d3] => { results := [.lit (.bool true)], args := [d1, d2, d3] }
  | _ => none }
def baseSpoiltRow : OpenClaim := { program := "ytfbmabbehiicmaadoor", sum := "8024889375c195933a74ba6dfb5d7d6af53f72867b4c3fa689fcd1aece2a2d00", func := "lazaret/lazaretlaw03.BaseSpoilt", spec := "baseSpoilt", inPlace := ["internal/abi.NoEscape", "internal/bytealg.CountString", "internal/bytealg.IndexByteString", "internal/bytealg.IndexString", "internal/bytealg.MakeNoZero"], named := ["internal/bytealg.MaxLen", "unicode/utf8.first", "unicode/utf8.acceptRanges"], apart := false, laid := [("unicode/utf8.acceptRanges", laid_unicode_utf8_acceptRanges), ("unicode/utf8.first", laid_unicode_utf8_first)] }
def BaseSpoiltSaid : Prop := baseSpoiltRow.holds Tryd.pinned (OpenSpec.ofChange baseSpoiltSpec)

/-- ITS FALSE NEIGHBOUR: 'it returns false'. Refute it at one input. -/
def baseSpoiltWrong : ChangeSpec := { name := "baseSpoilt", fn := fun _ => fun
  | [d1, d2, d3] => { results := [.lit (.bool false)], args := [d1, d2, d3] }
  | _ => none }
def BaseSpoiltWrongFalsely : Prop := baseSpoiltRow.holds Tryd.pinned (OpenSpec.ofChange baseSpoiltWrong)

/- THE SECOND FORM. 'bulk': how many values and letters a reading holds, each counted each time it is reached (what is shared counts as often as it is met; a slice's spare places count too). A statement '..UptoSaid' is the law's where the arguments, and the package variables that the reading takes, are together of bulk at most 1048576: NARROWER than '..Said'. Prove '..Said' where nothing that the law and all that it calls make is longer than what came in: it says more and counts as full. Else prove '..UptoSaid'. A law counts once. -/
mutual
def uptoBulk {H : Type} : DataW H → Nat
  | .lit (.string bytes) => bytes.length + 1
  | .lit _ => 1
  | .nil => 1
  | .ptr d => uptoBulk d + 1
  | .slice elems spare => uptoBulkAll elems + uptoBulkAll spare + 1
  | .agg parts => uptoBulkAll parts + 1
  | .iface _ d => uptoBulk d + 1
  | .map entries => uptoBulkEntries entries + 1
  | .held _ => 1
def uptoBulkAll {H : Type} : List (DataW H) → Nat
  | [] => 0
  | d :: r => uptoBulk d + uptoBulkAll r
def uptoBulkEntries {H : Type} : List (Lit × DataW H) → Nat
  | [] => 0
  | x :: r => uptoBulkEntry x + uptoBulkEntries r
def uptoBulkEntry {H : Type} : Lit × DataW H → Nat
  | (.string bytes, d) => bytes.length + uptoBulk d + 1
  | (_, d) => uptoBulk d + 1
 end
def uptoSmall : (H : Type) → List (DataW H) → Bool := fun _ ds => decide (uptoBulkAll ds ≤ 1048576)
def OpenSpec.upto (s : _root_.Go.ChangeSpec) : _root_.Go.OpenSpec := { _root_.Go.OpenSpec.ofChange s with cond := some uptoSmall }

/-- 'lazaretlaw01.TextsTell', WHERE WHAT IT READS IS OF BULK AT MOST 1048576: true; the input reads as it did. -/
def textsTellUptoRow : OpenClaim := { program := "ytfbmabbehiicmaadoor", sum := "8024889375c195933a74ba6dfb5d7d6af53f72867b4c3fa689fcd1aece2a2d00", func := "lazaret/lazaretlaw01.TextsTell", spec := "textsTell", inPlace := ["internal/abi.NoEscape", "internal/bytealg.CountString", "internal/bytealg.IndexByteString", "internal/bytealg.IndexString", "internal/bytealg.MakeNoZero"], named := ["lazaret/texts.leads", "internal/bytealg.MaxLen", "unicode/utf8.first", "unicode/utf8.acceptRanges"], apart := false, laid := [("unicode/utf8.acceptRanges", laid_unicode_utf8_acceptRanges), ("lazaret/texts.leads", laid_lazaret_texts_leads), ("unicode/utf8.first", laid_unicode_utf8_first)], narrowed := true }
def TextsTellUptoSaid : Prop := textsTellUptoRow.holds Tryd.pinned (OpenSpec.upto textsTellSpec)

/-- 'lazaretlaw01.TextsWhole', WHERE WHAT IT READS IS OF BULK AT MOST 1048576: true; the input reads as it did. -/
def textsWholeUptoRow : OpenClaim := { program := "ytfbmabbehiicmaadoor", sum := "8024889375c195933a74ba6dfb5d7d6af53f72867b4c3fa689fcd1aece2a2d00", func := "lazaret/lazaretlaw01.TextsWhole", spec := "textsWhole", inPlace := ["internal/abi.NoEscape", "internal/bytealg.CountString", "internal/bytealg.IndexByteString", "internal/bytealg.IndexString", "internal/bytealg.MakeNoZero"], named := ["lazaret/texts.leads", "internal/bytealg.MaxLen", "unicode/utf8.first", "unicode/utf8.acceptRanges"], apart := false, laid := [("unicode/utf8.acceptRanges", laid_unicode_utf8_acceptRanges), ("lazaret/texts.leads", laid_lazaret_texts_leads), ("unicode/utf8.first", laid_unicode_utf8_first)], narrowed := true }
def TextsWholeUptoSaid : Prop := textsWholeUptoRow.holds Tryd.pinned (OpenSpec.upto textsWholeSpec)

/-- 'lazaretlaw01.TextsPieces', WHERE WHAT IT READS IS OF BULK AT MOST 1048576: true; the input reads as it did. -/
def textsPiecesUptoRow : OpenClaim := { program := "ytfbmabbehiicmaadoor", sum := "8024889375c195933a74ba6dfb5d7d6af53f72867b4c3fa689fcd1aece2a2d00", func := "lazaret/lazaretlaw01.TextsPieces", spec := "textsPieces", inPlace := ["internal/abi.NoEscape", "internal/bytealg.CountString", "internal/bytealg.IndexByteString", "internal/bytealg.IndexString", "internal/bytealg.MakeNoZero"], named := ["lazaret/texts.leads", "internal/bytealg.MaxLen", "unicode/utf8.first", "unicode/utf8.acceptRanges"], apart := false, laid := [("unicode/utf8.acceptRanges", laid_unicode_utf8_acceptRanges), ("lazaret/texts.leads", laid_lazaret_texts_leads), ("unicode/utf8.first", laid_unicode_utf8_first)], narrowed := true }
def TextsPiecesUptoSaid : Prop := textsPiecesUptoRow.holds Tryd.pinned (OpenSpec.upto textsPiecesSpec)

/-- 'lazaretlaw01.TextsLines', WHERE WHAT IT READS IS OF BULK AT MOST 1048576: true; the input reads as it did. -/
def textsLinesUptoRow : OpenClaim := { program := "ytfbmabbehiicmaadoor", sum := "8024889375c195933a74ba6dfb5d7d6af53f72867b4c3fa689fcd1aece2a2d00", func := "lazaret/lazaretlaw01.TextsLines", spec := "textsLines", inPlace := ["internal/abi.NoEscape", "internal/bytealg.CountString", "internal/bytealg.IndexByteString", "internal/bytealg.IndexString", "internal/bytealg.MakeNoZero"], named := ["lazaret/texts.leads", "internal/bytealg.MaxLen", "unicode/utf8.first", "unicode/utf8.acceptRanges"], apart := false, laid := [("unicode/utf8.acceptRanges", laid_unicode_utf8_acceptRanges), ("lazaret/texts.leads", laid_lazaret_texts_leads), ("unicode/utf8.first", laid_unicode_utf8_first)], narrowed := true }
def TextsLinesUptoSaid : Prop := textsLinesUptoRow.holds Tryd.pinned (OpenSpec.upto textsLinesSpec)

/-- 'lazaretlaw03.BaseTell', WHERE WHAT IT READS IS OF BULK AT MOST 1048576: true; the input reads as it did. -/
def baseTellUptoRow : OpenClaim := { program := "ytfbmabbehiicmaadoor", sum := "8024889375c195933a74ba6dfb5d7d6af53f72867b4c3fa689fcd1aece2a2d00", func := "lazaret/lazaretlaw03.BaseTell", spec := "baseTell", inPlace := ["internal/abi.NoEscape", "internal/bytealg.CountString", "internal/bytealg.IndexByteString", "internal/bytealg.IndexString", "internal/bytealg.MakeNoZero"], named := ["internal/bytealg.MaxLen", "unicode/utf8.first", "unicode/utf8.acceptRanges"], apart := false, laid := [("unicode/utf8.acceptRanges", laid_unicode_utf8_acceptRanges), ("unicode/utf8.first", laid_unicode_utf8_first)], narrowed := true }
def BaseTellUptoSaid : Prop := baseTellUptoRow.holds Tryd.pinned (OpenSpec.upto baseTellSpec)

/-- 'lazaretlaw03.BaseBack', WHERE WHAT IT READS IS OF BULK AT MOST 1048576: true; the input reads as it did. -/
def baseBackUptoRow : OpenClaim := { program := "ytfbmabbehiicmaadoor", sum := "8024889375c195933a74ba6dfb5d7d6af53f72867b4c3fa689fcd1aece2a2d00", func := "lazaret/lazaretlaw03.BaseBack", spec := "baseBack", inPlace := ["internal/abi.NoEscape", "internal/bytealg.CountString", "internal/bytealg.IndexByteString", "internal/bytealg.IndexString", "internal/bytealg.MakeNoZero"], named := ["internal/bytealg.MaxLen", "unicode/utf8.first", "unicode/utf8.acceptRanges"], apart := false, laid := [("unicode/utf8.acceptRanges", laid_unicode_utf8_acceptRanges), ("unicode/utf8.first", laid_unicode_utf8_first)], narrowed := true }
def BaseBackUptoSaid : Prop := baseBackUptoRow.holds Tryd.pinned (OpenSpec.upto baseBackSpec)

/-- 'lazaretlaw03.BaseWay', WHERE WHAT IT READS IS OF BULK AT MOST 1048576: true; the input reads as it did. -/
def baseWayUptoRow : OpenClaim := { program := "ytfbmabbehiicmaadoor", sum := "8024889375c195933a74ba6dfb5d7d6af53f72867b4c3fa689fcd1aece2a2d00", func := "lazaret/lazaretlaw03.BaseWay", spec := "baseWay", inPlace := ["internal/abi.NoEscape", "internal/bytealg.CountString", "internal/bytealg.IndexByteString", "internal/bytealg.IndexString", "internal/bytealg.MakeNoZero"], named := ["internal/bytealg.MaxLen", "unicode/utf8.first", "unicode/utf8.acceptRanges"], apart := false, laid := [("unicode/utf8.acceptRanges", laid_unicode_utf8_acceptRanges), ("unicode/utf8.first", laid_unicode_utf8_first)], narrowed := true }
def BaseWayUptoSaid : Prop := baseWayUptoRow.holds Tryd.pinned (OpenSpec.upto baseWaySpec)

/-- 'lazaretlaw03.BaseSpoilt', WHERE WHAT IT READS IS OF BULK AT MOST 1048576: true; the input reads as it did. -/
def baseSpoiltUptoRow : OpenClaim := { program := "ytfbmabbehiicmaadoor", sum := "8024889375c195933a74ba6dfb5d7d6af53f72867b4c3fa689fcd1aece2a2d00", func := "lazaret/lazaretlaw03.BaseSpoilt", spec := "baseSpoilt", inPlace := ["internal/abi.NoEscape", "internal/bytealg.CountString", "internal/bytealg.IndexByteString", "internal/bytealg.IndexString", "internal/bytealg.MakeNoZero"], named := ["internal/bytealg.MaxLen", "unicode/utf8.first", "unicode/utf8.acceptRanges"], apart := false, laid := [("unicode/utf8.acceptRanges", laid_unicode_utf8_acceptRanges), ("unicode/utf8.first", laid_unicode_utf8_first)], narrowed := true }
def BaseSpoiltUptoSaid : Prop := baseSpoiltUptoRow.holds Tryd.pinned (OpenSpec.upto baseSpoiltSpec)

end Rows
end Go.Proofs.YtfbmabbehiicmaaDoor
