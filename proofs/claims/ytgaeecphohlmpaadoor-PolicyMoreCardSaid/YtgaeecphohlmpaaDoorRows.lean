/-
  NARROWER THAN 'FOR EVERY INPUT', by the rows' own cells (each row's printed sentence says how): ChainsNames: laid · ChainsFind: laid · ChainsFirst: laid · ChainsOrder: laid · ChainsMore: laid · PolicyText: laid · PolicyHeaders: laid · PolicyAsk: laid · PolicyBack: laid · PolicyOnce: laid · PolicyMore: laid · PolicyMeta: laid.
  DERIVED. THE GIVEN ROWS OF THIS SEAT. 12 by the template 'for every input the law returns true; each argument reads behind the call as it read before'; 0 by the template 'total and deterministic' (their statements: YtgaeecphohlmpaaDoorTotals.lean).
  GIVEN WITH THE SEED: the statements are not yours to turn. If you find one false, say at which input.
  Laid BY PROGRAM, IN A SANDBOX (cutbox-rows.mjs): the forced cells as the released guide's own fill.sh prints them over the translation 0d98fa892fa364c4… (all of the seat's roots in one cut). By AI agents, Wed Nov 11 2026. No macro, syntax, notation, axiom, sorry.
-/
import Derived.Test.YtgaeecphohlmpaaDoorChecked
import GoSem.PinnedTables
import GoSem.Claim
import GoSem.ClaimJoined
import GoSem.ClaimMapViews
import Derived.JoinedTies
import Derived.KernelRfl
namespace Go.Proofs.YtgaeecphohlmpaaDoor
/- THE CELL 'sum', in the pinned program and in every row, IS THE sha256 OF THE DUMP (.gsa) THAT YtgaeecphohlmpaaDoorProg.lean LOADS. Nothing in Lean hashes anything: it is a label: what it is worth is what the hold of that sum in a sandbox is worth. -/
noncomputable def Tryd.pinned : Pinned := { name := "ytgaeecphohlmpaadoor", sum := "0d98fa892fa364c485db112b446ae9c988510b853c2744373151ddcb2775d6cd", checked := Tryd.checked }
namespace Rows
def none {H : Type} : Left H := { results := [], args := [] }

/- WHAT THE LISTED PACKAGE-LEVEL VARIABLES READ AS WHEN THE CALL BEGINS. Each datum BY PROGRAM (the guide's laid-datum.mjs) off the statement by which the dump's own 'gosem.cut.vars' lays the variable. In a bare row this is a premise. The card (YtgaeecphohlmpaaDoorCards.lean) ties it to the program's text. -/
def laid_unicode_utf8_acceptRanges {H : Type} : DataW H := .agg [.agg [.lit (.int .u8 128), .lit (.int .u8 191)], .agg [.lit (.int .u8 160), .lit (.int .u8 191)], .agg [.lit (.int .u8 128), .lit (.int .u8 159)], .agg [.lit (.int .u8 144), .lit (.int .u8 191)], .agg [.lit (.int .u8 128), .lit (.int .u8 143)], .agg [.lit (.int .u8 0), .lit (.int .u8 0)], .agg [.lit (.int .u8 0), .lit (.int .u8 0)], .agg [.lit (.int .u8 0), .lit (.int .u8 0)], .agg [.lit (.int .u8 0), .lit (.int .u8 0)], .agg [.lit (.int .u8 0), .lit (.int .u8 0)], .agg [.lit (.int .u8 0), .lit (.int .u8 0)], .agg [.lit (.int .u8 0), .lit (.int .u8 0)], .agg [.lit (.int .u8 0), .lit (.int .u8 0)], .agg [.lit (.int .u8 0), .lit (.int .u8 0)], .agg [.lit (.int .u8 0), .lit (.int .u8 0)], .agg [.lit (.int .u8 0), .lit (.int .u8 0)]]
def laid_lazaret_chains_effective {H : Type} : DataW H := .agg [.lit (.string []), .lit (.string [115, 99, 114, 105, 112, 116, 45, 115, 114, 99, 45, 101, 108, 101, 109]), .lit (.string [115, 99, 114, 105, 112, 116, 45, 115, 114, 99, 45, 101, 108, 101, 109]), .lit (.string [115, 99, 114, 105, 112, 116, 45, 115, 114, 99, 45, 97, 116, 116, 114]), .lit (.string [115, 99, 114, 105, 112, 116, 45, 115, 114, 99, 45, 101, 108, 101, 109]), .lit (.string [115, 116, 121, 108, 101, 45, 115, 114, 99, 45, 101, 108, 101, 109]), .lit (.string [115, 116, 121, 108, 101, 45, 115, 114, 99, 45, 101, 108, 101, 109]), .lit (.string [115, 116, 121, 108, 101, 45, 115, 114, 99, 45, 97, 116, 116, 114]), .lit (.string [105, 109, 103, 45, 115, 114, 99]), .lit (.string [102, 111, 110, 116, 45, 115, 114, 99]), .lit (.string [109, 101, 100, 105, 97, 45, 115, 114, 99]), .lit (.string [102, 114, 97, 109, 101, 45, 115, 114, 99]), .lit (.string [111, 98, 106, 101, 99, 116, 45, 115, 114, 99]), .lit (.string [109, 97, 110, 105, 102, 101, 115, 116, 45, 115, 114, 99]), .lit (.string [99, 111, 110, 110, 101, 99, 116, 45, 115, 114, 99]), .lit (.string [98, 97, 115, 101, 45, 117, 114, 105]), .lit (.string [102, 111, 114, 109, 45, 97, 99, 116, 105, 111, 110])]
/-- One of Go's own tables, pinned by name: the form's constant. -/
def laid_unicode_utf8_first : DataW Unit := Go.Pinned.utf8First

/-- 'lazaretlaw28.ChainsNames': WHATEVER THE INPUT: true; the input reads as it did. -/
def chainsNamesSpec : ChangeSpec := { name := "chainsNames", fn := fun _ => fun
  | [d1, d2] => { results := [.lit (.bool true)], args := [d1, d2] }
  | _ => none }
def chainsNamesRow : OpenClaim := { program := "ytgaeecphohlmpaadoor", sum := "0d98fa892fa364c485db112b446ae9c988510b853c2744373151ddcb2775d6cd", func := "lazaret/lazaretlaw28.ChainsNames", spec := "chainsNames", inPlace := ["internal/bytealg.CountString", "internal/bytealg.IndexByteString", "internal/bytealg.IndexString", "internal/abi.NoEscape"], unfollowed := true, recurses := true, named := ["unicode/utf8.first", "unicode/utf8.acceptRanges", "internal/bytealg.MaxLen", "lazaret/chains.effective"], apart := false, laid := [("unicode/utf8.acceptRanges", laid_unicode_utf8_acceptRanges), ("lazaret/chains.effective", laid_lazaret_chains_effective), ("unicode/utf8.first", laid_unicode_utf8_first)] }
def ChainsNamesSaid : Prop := chainsNamesRow.holds Tryd.pinned (OpenSpec.ofChange chainsNamesSpec)

/-- ITS FALSE NEIGHBOUR: 'it returns false'. Refute it at one input. -/
def chainsNamesWrong : ChangeSpec := { name := "chainsNames", fn := fun _ => fun
  | [d1, d2] => { results := [.lit (.bool false)], args := [d1, d2] }
  | _ => none }
def ChainsNamesWrongFalsely : Prop := chainsNamesRow.holds Tryd.pinned (OpenSpec.ofChange chainsNamesWrong)

/-- 'lazaretlaw28.ChainsFind': WHATEVER THE INPUT: true; the input reads as it did. -/
def chainsFindSpec : ChangeSpec := { name := "chainsFind", fn := fun _ => fun
  | [d1, d2] => { results := [.lit (.bool true)], args := [d1, d2] }
  | _ => none }
def chainsFindRow : OpenClaim := { program := "ytgaeecphohlmpaadoor", sum := "0d98fa892fa364c485db112b446ae9c988510b853c2744373151ddcb2775d6cd", func := "lazaret/lazaretlaw28.ChainsFind", spec := "chainsFind", inPlace := ["internal/bytealg.CountString", "internal/bytealg.IndexByteString", "internal/bytealg.IndexString", "internal/abi.NoEscape"], unfollowed := true, recurses := true, named := ["unicode/utf8.first", "unicode/utf8.acceptRanges", "internal/bytealg.MaxLen", "lazaret/chains.effective"], apart := false, laid := [("unicode/utf8.acceptRanges", laid_unicode_utf8_acceptRanges), ("lazaret/chains.effective", laid_lazaret_chains_effective), ("unicode/utf8.first", laid_unicode_utf8_first)] }
def ChainsFindSaid : Prop := chainsFindRow.holds Tryd.pinned (OpenSpec.ofChange chainsFindSpec)

/-- ITS FALSE NEIGHBOUR: 'it returns false'. Refute it at one input. -/
def chainsFindWrong : ChangeSpec := { name := "chainsFind", fn := fun _ => fun
  | [d1, d2] => { results := [.lit (.bool false)], args := [d1, d2] }
  | _ => none }
def ChainsFindWrongFalsely : Prop := chainsFindRow.holds Tryd.pinned (OpenSpec.ofChange chainsFindWrong)

/-- 'lazaretlaw28.ChainsFirst': WHATEVER THE INPUT: true; the input reads as it did. -/
def chainsFirstSpec : ChangeSpec := { name := "chainsFirst", fn := fun _ => fun
  | [d1, d2] => { results := [.lit (.bool true)], args := [d1, d2] }
  | _ => none }
def chainsFirstRow : OpenClaim := { program := "ytgaeecphohlmpaadoor", sum := "0d98fa892fa364c485db112b446ae9c988510b853c2744373151ddcb2775d6cd", func := "lazaret/lazaretlaw28.ChainsFirst", spec := "chainsFirst", inPlace := ["internal/bytealg.CountString", "internal/bytealg.IndexByteString", "internal/bytealg.IndexString", "internal/abi.NoEscape"], unfollowed := true, recurses := true, named := ["unicode/utf8.first", "unicode/utf8.acceptRanges", "internal/bytealg.MaxLen", "lazaret/chains.effective"], apart := false, laid := [("unicode/utf8.acceptRanges", laid_unicode_utf8_acceptRanges), ("lazaret/chains.effective", laid_lazaret_chains_effective), ("unicode/utf8.first", laid_unicode_utf8_first)] }
def ChainsFirstSaid : Prop := chainsFirstRow.holds Tryd.pinned (OpenSpec.ofChange chainsFirstSpec)

/-- ITS FALSE NEIGHBOUR: 'it returns false'. Refute it at one input. -/
def chainsFirstWrong : ChangeSpec := { name := "chainsFirst", fn := fun _ => fun
  | [d1, d2] => { results := [.lit (.bool false)], args := [d1, d2] }
  | _ => none }
def ChainsFirstWrongFalsely : Prop := chainsFirstRow.holds Tryd.pinned (OpenSpec.ofChange chainsFirstWrong)

/-- 'lazaretlaw28.ChainsOrder': WHATEVER THE INPUT: true; the input reads as it did. -/
def chainsOrderSpec : ChangeSpec := { name := "chainsOrder", fn := fun _ => fun
  | [d] => { results := [.lit (.bool true)], args := [d] }
  | _ => none }
def chainsOrderRow : OpenClaim := { program := "ytgaeecphohlmpaadoor", sum := "0d98fa892fa364c485db112b446ae9c988510b853c2744373151ddcb2775d6cd", func := "lazaret/lazaretlaw28.ChainsOrder", spec := "chainsOrder", inPlace := ["internal/bytealg.CountString", "internal/bytealg.IndexByteString", "internal/bytealg.IndexString", "internal/abi.NoEscape"], unfollowed := true, recurses := true, named := ["unicode/utf8.first", "unicode/utf8.acceptRanges", "internal/bytealg.MaxLen", "lazaret/chains.effective"], apart := false, laid := [("unicode/utf8.acceptRanges", laid_unicode_utf8_acceptRanges), ("lazaret/chains.effective", laid_lazaret_chains_effective), ("unicode/utf8.first", laid_unicode_utf8_first)] }
def ChainsOrderSaid : Prop := chainsOrderRow.holds Tryd.pinned (OpenSpec.ofChange chainsOrderSpec)

/-- ITS FALSE NEIGHBOUR: 'it returns false'. Refute it at one input. -/
def chainsOrderWrong : ChangeSpec := { name := "chainsOrder", fn := fun _ => fun
  | [d] => { results := [.lit (.bool false)], args := [d] }
  | _ => none }
def ChainsOrderWrongFalsely : Prop := chainsOrderRow.holds Tryd.pinned (OpenSpec.ofChange chainsOrderWrong)

/-- 'lazaretlaw28.ChainsMore': WHATEVER THE INPUT: true; the input reads as it did. -/
def chainsMoreSpec : ChangeSpec := { name := "chainsMore", fn := fun _ => fun
  | [d1, d2, d3] => { results := [.lit (.bool true)], args := [d1, d2, d3] }
  | _ => none }
def chainsMoreRow : OpenClaim := { program := "ytgaeecphohlmpaadoor", sum := "0d98fa892fa364c485db112b446ae9c988510b853c2744373151ddcb2775d6cd", func := "lazaret/lazaretlaw28.ChainsMore", spec := "chainsMore", inPlace := ["internal/bytealg.CountString", "internal/bytealg.IndexByteString", "internal/bytealg.IndexString", "internal/abi.NoEscape"], unfollowed := true, recurses := true, named := ["unicode/utf8.first", "unicode/utf8.acceptRanges", "internal/bytealg.MaxLen", "lazaret/chains.effective"], apart := false, laid := [("unicode/utf8.acceptRanges", laid_unicode_utf8_acceptRanges), ("lazaret/chains.effective", laid_lazaret_chains_effective), ("unicode/utf8.first", laid_unicode_utf8_first)] }
def ChainsMoreSaid : Prop := chainsMoreRow.holds Tryd.pinned (OpenSpec.ofChange chainsMoreSpec)

/-- ITS FALSE NEIGHBOUR: 'it returns false'. Refute it at one input. -/
def chainsMoreWrong : ChangeSpec := { name := "chainsMore", fn := fun _ => fun
  | [d1, d2, d3] => { results := [.lit (.bool false)], args := [d1, d2, d3] }
  | _ => none }
def ChainsMoreWrongFalsely : Prop := chainsMoreRow.holds Tryd.pinned (OpenSpec.ofChange chainsMoreWrong)

/-- 'lazaretlaw24.PolicyText': WHATEVER THE INPUT: true; the input reads as it did. -/
def policyTextSpec : ChangeSpec := { name := "policyText", fn := fun _ => fun
  | [d1, d2] => { results := [.lit (.bool true)], args := [d1, d2] }
  | _ => none }
def policyTextRow : OpenClaim := { program := "ytgaeecphohlmpaadoor", sum := "0d98fa892fa364c485db112b446ae9c988510b853c2744373151ddcb2775d6cd", func := "lazaret/lazaretlaw24.PolicyText", spec := "policyText", inPlace := ["internal/bytealg.CountString", "internal/bytealg.IndexByteString", "internal/bytealg.IndexString", "internal/abi.NoEscape", "internal/bytealg.MakeNoZero"], unfollowed := true, recurses := true, named := ["unicode/utf8.first", "unicode/utf8.acceptRanges", "internal/bytealg.MaxLen"], apart := false, laid := [("unicode/utf8.acceptRanges", laid_unicode_utf8_acceptRanges), ("unicode/utf8.first", laid_unicode_utf8_first)] }
def PolicyTextSaid : Prop := policyTextRow.holds Tryd.pinned (OpenSpec.ofChange policyTextSpec)

/-- ITS FALSE NEIGHBOUR: 'it returns false'. Refute it at one input. -/
def policyTextWrong : ChangeSpec := { name := "policyText", fn := fun _ => fun
  | [d1, d2] => { results := [.lit (.bool false)], args := [d1, d2] }
  | _ => none }
def PolicyTextWrongFalsely : Prop := policyTextRow.holds Tryd.pinned (OpenSpec.ofChange policyTextWrong)

/-- 'lazaretlaw24.PolicyHeaders': WHATEVER THE INPUT: true; the input reads as it did. -/
def policyHeadersSpec : ChangeSpec := { name := "policyHeaders", fn := fun _ => fun
  | [d] => { results := [.lit (.bool true)], args := [d] }
  | _ => none }
def policyHeadersRow : OpenClaim := { program := "ytgaeecphohlmpaadoor", sum := "0d98fa892fa364c485db112b446ae9c988510b853c2744373151ddcb2775d6cd", func := "lazaret/lazaretlaw24.PolicyHeaders", spec := "policyHeaders", inPlace := ["internal/bytealg.CountString", "internal/bytealg.IndexByteString", "internal/bytealg.IndexString", "internal/abi.NoEscape", "internal/bytealg.MakeNoZero"], unfollowed := true, recurses := true, named := ["unicode/utf8.first", "unicode/utf8.acceptRanges", "internal/bytealg.MaxLen"], apart := false, laid := [("unicode/utf8.acceptRanges", laid_unicode_utf8_acceptRanges), ("unicode/utf8.first", laid_unicode_utf8_first)] }
def PolicyHeadersSaid : Prop := policyHeadersRow.holds Tryd.pinned (OpenSpec.ofChange policyHeadersSpec)

/-- ITS FALSE NEIGHBOUR: 'it returns false'. Refute it at one input. -/
def policyHeadersWrong : ChangeSpec := { name := "policyHeaders", fn := fun _ => fun
  | [d] => { results := [.lit (.bool false)], args := [d] }
  | _ => none }
def PolicyHeadersWrongFalsely : Prop := policyHeadersRow.holds Tryd.pinned (OpenSpec.ofChange policyHeadersWrong)

/-- 'lazaretlaw24.PolicyAsk': WHATEVER THE INPUT: true; the input reads as it did. -/
def policyAskSpec : ChangeSpec := { name := "policyAsk", fn := fun _ => fun
  | [d1, d2] => { results := [.lit (.bool true)], args := [d1, d2] }
  | _ => none }
def policyAskRow : OpenClaim := { program := "ytgaeecphohlmpaadoor", sum := "0d98fa892fa364c485db112b446ae9c988510b853c2744373151ddcb2775d6cd", func := "lazaret/lazaretlaw24.PolicyAsk", spec := "policyAsk", inPlace := ["internal/bytealg.CountString", "internal/bytealg.IndexByteString", "internal/bytealg.IndexString", "internal/abi.NoEscape", "internal/bytealg.MakeNoZero"], unfollowed := true, recurses := true, named := ["unicode/utf8.first", "unicode/utf8.acceptRanges", "internal/bytealg.MaxLen"], apart := false, laid := [("unicode/utf8.acceptRanges", laid_unicode_utf8_acceptRanges), ("unicode/utf8.first", laid_unicode_utf8_first)] }
def PolicyAskSaid : Prop := policyAskRow.holds Tryd.pinned (OpenSpec.ofChange policyAskSpec)

/-- ITS FALSE NEIGHBOUR: 'it returns false'. Refute it at one input. -/
def policyAskWrong : ChangeSpec := { name := "policyAsk", fn := fun _ => fun
  | [d1, d2] => { results := [.lit (.bool false)], args := [d1, d2] }
  | _ => none }
def PolicyAskWrongFalsely : Prop := policyAskRow.holds Tryd.pinned (OpenSpec.ofChange policyAskWrong)

/-- 'lazaretlaw24.PolicyBack': WHATEVER THE INPUT: true; the input reads as it did. -/
def policyBackSpec : ChangeSpec := { name := "policyBack", fn := fun _ => fun
  | [d] => { results := [.lit (.bool true)], args := [d] }
  | _ => none }
def policyBackRow : OpenClaim := { program := "ytgaeecphohlmpaadoor", sum := "0d98fa892fa364c485db112b446ae9c988510b853c2744373151ddcb2775d6cd", func := "lazaret/lazaretlaw24.PolicyBack", spec := "policyBack", inPlace := ["internal/bytealg.CountString", "internal/bytealg.IndexByteString", "internal/bytealg.IndexString", "internal/abi.NoEscape", "internal/bytealg.MakeNoZero"], unfollowed := true, recurses := true, named := ["unicode/utf8.first", "unicode/utf8.acceptRanges", "internal/bytealg.MaxLen"], apart := false, laid := [("unicode/utf8.acceptRanges", laid_unicode_utf8_acceptRanges), ("unicode/utf8.first", laid_unicode_utf8_first)] }
def PolicyBackSaid : Prop := policyBackRow.holds Tryd.pinned (OpenSpec.ofChange policyBackSpec)

/-- ITS FALSE NEIGHBOUR: 'it returns false'. Refute it at one input. -/
def policyBackWrong : ChangeSpec := { name := "policyBack", fn := fun _ => fun
  | [d] => { results := [.lit (.bool false)], args := [d] }
  | _ => none }
def PolicyBackWrongFalsely : Prop := policyBackRow.holds Tryd.pinned (OpenSpec.ofChange policyBackWrong)

/-- 'lazaretlaw24.PolicyOnce': WHATEVER THE INPUT: true; the input reads as it did. -/
def policyOnceSpec : ChangeSpec := { name := "policyOnce", fn := fun _ => fun
  | [d1, d2] => { results := [.lit (.bool true)], args := [d1, d2] }
  | _ => none }
def policyOnceRow : OpenClaim := { program := "ytgaeecphohlmpaadoor", sum := "0d98fa892fa364c485db112b446ae9c988510b853c2744373151ddcb2775d6cd", func := "lazaret/lazaretlaw24.PolicyOnce", spec := "policyOnce", inPlace := ["internal/bytealg.CountString", "internal/bytealg.IndexByteString", "internal/bytealg.IndexString", "internal/abi.NoEscape", "internal/bytealg.MakeNoZero"], unfollowed := true, recurses := true, named := ["unicode/utf8.first", "unicode/utf8.acceptRanges", "internal/bytealg.MaxLen"], apart := false, laid := [("unicode/utf8.acceptRanges", laid_unicode_utf8_acceptRanges), ("unicode/utf8.first", laid_unicode_utf8_first)] }
def PolicyOnceSaid : Prop := policyOnceRow.holds Tryd.pinned (OpenSpec.ofChange policyOnceSpec)

/-- ITS FALSE NEIGHBOUR: 'it returns false'. Refute it at one input. -/
def policyOnceWrong : ChangeSpec := { name := "policyOnce", fn := fun _ => fun
  | [d1, d2] => { results := [.lit (.bool false)], args := [d1, d2] }
  | _ => none }
def PolicyOnceWrongFalsely : Prop := policyOnceRow.holds Tryd.pinned (OpenSpec.ofChange policyOnceWrong)

/-- 'lazaretlaw24.PolicyMore': WHATEVER THE INPUT: true; the input reads as it did. -/
def policyMoreSpec : ChangeSpec := { name := "policyMore", fn := fun _ => fun
  | [d1, d2] => { results := [.lit (.bool true)], args := [d1, d2] }
  | _ => none }
def policyMoreRow : OpenClaim := { program := "ytgaeecphohlmpaadoor", sum := "0d98fa892fa364c485db112b446ae9c988510b853c2744373151ddcb2775d6cd", func := "lazaret/lazaretlaw24.PolicyMore", spec := "policyMore", inPlace := ["internal/bytealg.CountString", "internal/bytealg.IndexByteString", "internal/bytealg.IndexString", "internal/abi.NoEscape", "internal/bytealg.MakeNoZero"], unfollowed := true, recurses := true, named := ["unicode/utf8.first", "unicode/utf8.acceptRanges", "internal/bytealg.MaxLen"], apart := false, laid := [("unicode/utf8.acceptRanges", laid_unicode_utf8_acceptRanges), ("unicode/utf8.first", laid_unicode_utf8_first)] }
def PolicyMoreSaid : Prop := policyMoreRow.holds Tryd.pinned (OpenSpec.ofChange policyMoreSpec)

/-- ITS FALSE NEIGHBOUR: 'it returns false'. Refute it at one input. -/
def policyMoreWrong : ChangeSpec := { name := "policyMore", fn := fun _ => fun
  | [d1, d2] => { results := [.lit (.bool false)], args := [d1, d2] }
  | _ => none }
def PolicyMoreWrongFalsely : Prop := policyMoreRow.holds Tryd.pinned (OpenSpec.ofChange policyMoreWrong)

/-- 'lazaretlaw24.PolicyMeta': WHATEVER THE INPUT: true; the input reads as it did. -/
def policyMetaSpec : ChangeSpec := { name := "policyMeta", fn := fun _ => fun
  | [d] => { results := [.lit (.bool true)], args := [d] }
  | _ => none }
def policyMetaRow : OpenClaim := { program := "ytgaeecphohlmpaadoor", sum := "0d98fa892fa364c485db112b446ae9c988510b853c2744373151ddcb2775d6cd", func := "lazaret/lazaretlaw24.PolicyMeta", spec := "policyMeta", inPlace := ["internal/bytealg.CountString", "internal/bytealg.IndexByteString", "internal/bytealg.IndexString", "internal/abi.NoEscape", "internal/bytealg.MakeNoZero"], unfollowed := true, recurses := true, named := ["unicode/utf8.first", "unicode/utf8.acceptRanges", "internal/bytealg.MaxLen"], apart := false, laid := [("unicode/utf8.acceptRanges", laid_unicode_utf8_acceptRanges), ("unicode/utf8.first", laid_unicode_utf8_first)] }
def PolicyMetaSaid : Prop := policyMetaRow.holds Tryd.pinned (OpenSpec.ofChange policyMetaSpec)

/-- ITS FALSE NEIGHBOUR: 'it returns false'. Refute it at one input. -/
def policyMetaWrong : ChangeSpec := { name := "policyMeta", fn := fun _ => fun
  | [d] => { results := [.lit (.bool false)], args := [d] }
  | _ => none }
def PolicyMetaWrongFalsely : Prop := policyMetaRow.holds Tryd.pinned (OpenSpec.ofChange policyMetaWrong)

/- THE SECOND FORM. 'bulk': how many values and letters a reading holds, each counted each time it is reached (what is shared counts as often as it is met; a slice's spare places count too). A statement '..UptoSaid' is the law's where the arguments, and the package variables that the reading takes, are together of bulk at most 1048576: NARROWER than '..Said'. Prove '..Said' where nothing that the law and all that it calls make is longer than what came in: it says more and counts as full. Else prove '..UptoSaid'. A law counts once. -/
mutual
def uptoBulk {H : Type} : DataW H → Nat
  | .lit (.string bytes) => bytes.length + 1
  | .lit _ => 1
  | .nil => 1
  | .ptr d => uptoBulk d + 1
  | .slice elems spare => uptoBulkAll elems + uptoBulkAll spare + 1
  | .agg parts => uptoBulkAll parts + 1
  | .iface _ d => uptoBulk d + 1
  | .map entries => uptoBulkEntries entries + 1
  | .held _ => 1
def uptoBulkAll {H : Type} : List (DataW H) → Nat
  | [] => 0
  | d :: r => uptoBulk d + uptoBulkAll r
def uptoBulkEntries {H : Type} : List (Lit × DataW H) → Nat
  | [] => 0
  | x :: r => uptoBulkEntry x + uptoBulkEntries r
def uptoBulkEntry {H : Type} : Lit × DataW H → Nat
  | (.string bytes, d) => bytes.length + uptoBulk d + 1
  | (_, d) => uptoBulk d + 1
 end
def uptoSmall : (H : Type) → List (DataW H) → Bool := fun _ ds => decide (uptoBulkAll ds ≤ 1048576)
def OpenSpec.upto (s : _root_.Go.ChangeSpec) : _root_.Go.OpenSpec := { _root_.Go.OpenSpec.ofChange s with cond := some uptoSmall }

/-- 'lazaretlaw28.ChainsNames', WHERE WHAT IT READS IS OF BULK AT MOST 1048576: true; the input reads as it did. -/
def chainsNamesUptoRow : OpenClaim := { program := "ytgaeecphohlmpaadoor", sum := "0d98fa892fa364c485db112b446ae9c988510b853c2744373151ddcb2775d6cd", func := "lazaret/lazaretlaw28.ChainsNames", spec := "chainsNames", inPlace := ["internal/bytealg.CountString", "internal/bytealg.IndexByteString", "internal/bytealg.IndexString", "internal/abi.NoEscape"], unfollowed := true, recurses := true, named := ["unicode/utf8.first", "unicode/utf8.acceptRanges", "internal/bytealg.MaxLen", "lazaret/chains.effective"], apart := false, laid := [("unicode/utf8.acceptRanges", laid_unicode_utf8_acceptRanges), ("lazaret/chains.effective", laid_lazaret_chains_effective), ("unicode/utf8.first", laid_unicode_utf8_first)], narrowed := true }
def ChainsNamesUptoSaid : Prop := chainsNamesUptoRow.holds Tryd.pinned (OpenSpec.upto chainsNamesSpec)

/-- 'lazaretlaw28.ChainsFind', WHERE WHAT IT READS IS OF BULK AT MOST 1048576: true; the input reads as it did. -/
def chainsFindUptoRow : OpenClaim := { program := "ytgaeecphohlmpaadoor", sum := "0d98fa892fa364c485db112b446ae9c988510b853c2744373151ddcb2775d6cd", func := "lazaret/lazaretlaw28.ChainsFind", spec := "chainsFind", inPlace := ["internal/bytealg.CountString", "internal/bytealg.IndexByteString", "internal/bytealg.IndexString", "internal/abi.NoEscape"], unfollowed := true, recurses := true, named := ["unicode/utf8.first", "unicode/utf8.acceptRanges", "internal/bytealg.MaxLen", "lazaret/chains.effective"], apart := false, laid := [("unicode/utf8.acceptRanges", laid_unicode_utf8_acceptRanges), ("lazaret/chains.effective", laid_lazaret_chains_effective), ("unicode/utf8.first", laid_unicode_utf8_first)], narrowed := true }
def ChainsFindUptoSaid : Prop := chainsFindUptoRow.holds Tryd.pinned (OpenSpec.upto chainsFindSpec)

/-- 'lazaretlaw28.ChainsFirst', WHERE WHAT IT READS IS OF BULK AT MOST 1048576: true; the input reads as it did. -/
def chainsFirstUptoRow : OpenClaim := { program := "ytgaeecphohlmpaadoor", sum := "0d98fa892fa364c485db112b446ae9c988510b853c2744373151ddcb2775d6cd", func := "lazaret/lazaretlaw28.ChainsFirst", spec := "chainsFirst", inPlace := ["internal/bytealg.CountString", "internal/bytealg.IndexByteString", "internal/bytealg.IndexString", "internal/abi.NoEscape"], unfollowed := true, recurses := true, named := ["unicode/utf8.first", "unicode/utf8.acceptRanges", "internal/bytealg.MaxLen", "lazaret/chains.effective"], apart := false, laid := [("unicode/utf8.acceptRanges", laid_unicode_utf8_acceptRanges), ("lazaret/chains.effective", laid_lazaret_chains_effective), ("unicode/utf8.first", laid_unicode_utf8_first)], narrowed := true }
def ChainsFirstUptoSaid : Prop := chainsFirstUptoRow.holds Tryd.pinned (OpenSpec.upto chainsFirstSpec)

/-- 'lazaretlaw28.ChainsOrder', WHERE WHAT IT READS IS OF BULK AT MOST 1048576: true; the input reads as it did. -/
def chainsOrderUptoRow : OpenClaim := { program := "ytgaeecphohlmpaadoor", sum := "0d98fa892fa364c485db112b446ae9c988510b853c2744373151ddcb2775d6cd", func := "lazaret/lazaretlaw28.ChainsOrder", spec := "chainsOrder", inPlace := ["internal/bytealg.CountString", "internal/bytealg.IndexByteString", "internal/bytealg.IndexString", "internal/abi.NoEscape"], unfollowed := true, recurses := true, named := ["unicode/utf8.first", "unicode/utf8.acceptRanges", "internal/bytealg.MaxLen", "lazaret/chains.effective"], apart := false, laid := [("unicode/utf8.acceptRanges", laid_unicode_utf8_acceptRanges), ("lazaret/chains.effective", laid_lazaret_chains_effective), ("unicode/utf8.first", laid_unicode_utf8_first)], narrowed := true }
def ChainsOrderUptoSaid : Prop := chainsOrderUptoRow.holds Tryd.pinned (OpenSpec.upto chainsOrderSpec)

/-- 'lazaretlaw28.ChainsMore', WHERE WHAT IT READS IS OF BULK AT MOST 1048576: true; the input reads as it did. -/
def chainsMoreUptoRow : OpenClaim := { program := "ytgaeecphohlmpaadoor", sum := "0d98fa892fa364c485db112b446ae9c988510b853c2744373151ddcb2775d6cd", func := "lazaret/lazaretlaw28.ChainsMore", spec := "chainsMore", inPlace := ["internal/bytealg.CountString", "internal/bytealg.IndexByteString", "internal/bytealg.IndexString", "internal/abi.NoEscape"], unfollowed := true, recurses := true, named := ["unicode/utf8.first", "unicode/utf8.acceptRanges", "internal/bytealg.MaxLen", "lazaret/chains.effective"], apart := false, laid := [("unicode/utf8.acceptRanges", laid_unicode_utf8_acceptRanges), ("lazaret/chains.effective", laid_lazaret_chains_effective), ("unicode/utf8.first", laid_unicode_utf8_first)], narrowed := true }
def ChainsMoreUptoSaid : Prop := chainsMoreUptoRow.holds Tryd.pinned (OpenSpec.upto chainsMoreSpec)

/-- 'lazaretlaw24.PolicyText', WHERE WHAT IT READS IS OF BULK AT MOST 1048576: true; the input reads as it did. -/
def policyTextUptoRow : OpenClaim := { program := "ytgaeecphohlmpaadoor", sum := "0d98fa892fa364c485db112b446ae9c988510b853c2744373151ddcb2775d6cd", func := "lazaret/lazaretlaw24.PolicyText", spec := "policyText", inPlace := ["internal/bytealg.CountString", "internal/bytealg.IndexByteString", "internal/bytealg.IndexString", "internal/abi.NoEscape", "internal/bytealg.MakeNoZero"], unfollowed := true, recurses := true, named := ["unicode/utf8.first", "unicode/utf8.acceptRanges", "internal/bytealg.MaxLen"], apart := false, laid := [("unicode/utf8.acceptRanges", laid_unicode_utf8_acceptRanges), ("unicode/utf8.first", laid_unicode_utf8_first)], narrowed := true }
def PolicyTextUptoSaid : Prop := policyTextUptoRow.holds Tryd.pinned (OpenSpec.upto policyTextSpec)

/-- 'lazaretlaw24.PolicyHeaders', WHERE WHAT IT READS IS OF BULK AT MOST 1048576: true; the input reads as it did. -/
def policyHeadersUptoRow : OpenClaim := { program := "ytgaeecphohlmpaadoor", sum := "0d98fa892fa364c485db112b446ae9c988510b853c2744373151ddcb2775d6cd", func := "lazaret/lazaretlaw24.PolicyHeaders", spec := "policyHeaders", inPlace := ["internal/bytealg.CountString", "internal/bytealg.IndexByteString", "internal/bytealg.IndexString", "internal/abi.NoEscape", "internal/bytealg.MakeNoZero"], unfollowed := true, recurses := true, named := ["unicode/utf8.first", "unicode/utf8.acceptRanges", "internal/bytealg.MaxLen"], apart := false, laid := [("unicode/utf8.acceptRanges", laid_unicode_utf8_acceptRanges), ("unicode/utf8.first", laid_unicode_utf8_first)], narrowed := true }
def PolicyHeadersUptoSaid : Prop := policyHeadersUptoRow.holds Tryd.pinned (OpenSpec.upto policyHeadersSpec)

/-- 'lazaretlaw24.PolicyAsk', WHERE WHAT IT READS IS OF BULK AT MOST 1048576: true; the input reads as it did. -/
def policyAskUptoRow : OpenClaim := { program := "ytgaeecphohlmpaadoor", sum := "0d98fa892fa364c485db112b446ae9c988510b853c2744373151ddcb2775d6cd", func := "lazaret/lazaretlaw24.PolicyAsk", spec := "policyAsk", inPlace := ["internal/bytealg.CountString", "internal/bytealg.IndexByteString", "internal/bytealg.IndexString", "internal/abi.NoEscape", "internal/bytealg.MakeNoZero"], unfollowed := true, recurses := true, named := ["unicode/utf8.first", "unicode/utf8.acceptRanges", "internal/bytealg.MaxLen"], apart := false, laid := [("unicode/utf8.acceptRanges", laid_unicode_utf8_acceptRanges), ("unicode/utf8.first", laid_unicode_utf8_first)], narrowed := true }
def PolicyAskUptoSaid : Prop := policyAskUptoRow.holds Tryd.pinned (OpenSpec.upto policyAskSpec)

/-- 'lazaretlaw24.PolicyBack', WHERE WHAT IT READS IS OF BULK AT MOST 1048576: true; the input reads as it did. -/
def policyBackUptoRow : OpenClaim := { program := "ytgaeecphohlmpaadoor", sum := "0d98fa892fa364c485db112b446ae9c988510b853c2744373151ddcb2775d6cd", func := "lazaret/lazaretlaw24.PolicyBack", spec := "policyBack", inPlace := ["internal/bytealg.CountString", "internal/bytealg.IndexByteString", "internal/bytealg.IndexString", "internal/abi.NoEscape", "internal/bytealg.MakeNoZero"], unfollowed := true, recurses := true, named := ["unicode/utf8.first", "unicode/utf8.acceptRanges", "internal/bytealg.MaxLen"], apart := false, laid := [("unicode/utf8.acceptRanges", laid_unicode_utf8_acceptRanges), ("unicode/utf8.first", laid_unicode_utf8_first)], narrowed := true }
def PolicyBackUptoSaid : Prop := policyBackUptoRow.holds Tryd.pinned (OpenSpec.upto policyBackSpec)

/-- 'lazaretlaw24.PolicyOnce', WHERE WHAT IT READS IS OF BULK AT MOST 1048576: true; the input reads as it did. -/
def policyOnceUptoRow : OpenClaim := { program := "ytgaeecphohlmpaadoor", sum := "0d98fa892fa364c485db112b446ae9c988510b853c2744373151ddcb2775d6cd", func := "lazaret/lazaretlaw24.PolicyOnce", spec := "policyOnce", inPlace := ["internal/bytealg.CountString", "internal/bytealg.IndexByteString", "internal/bytealg.IndexString", "internal/abi.NoEscape", "internal/bytealg.MakeNoZero"], unfollowed := true, recurses := true, named := ["unicode/utf8.first", "unicode/utf8.acceptRanges", "internal/bytealg.MaxLen"], apart := false, laid := [("unicode/utf8.acceptRanges", laid_unicode_utf8_acceptRanges), ("unicode/utf8.first", laid_unicode_utf8_first)], narrowed := true }
def PolicyOnceUptoSaid : Prop := policyOnceUptoRow.holds Tryd.pinned (OpenSpec.upto policyOnceSpec)

/-- 'lazaretlaw24.PolicyMore', WHERE WHAT IT READS IS OF BULK AT MOST 1048576: true; the input reads as it did. -/
def policyMoreUptoRow : OpenClaim := { program := "ytgaeecphohlmpaadoor", sum := "0d98fa892fa364c485db112b446ae9c988510b853c2744373151ddcb2775d6cd", func := "lazaret/lazaretlaw24.PolicyMore", spec := "policyMore", inPlace := ["internal/bytealg.CountString", "internal/bytealg.IndexByteString", "internal/bytealg.IndexString", "internal/abi.NoEscape", "internal/bytealg.MakeNoZero"], unfollowed := true, recurses := true, named := ["unicode/utf8.first", "unicode/utf8.acceptRanges", "internal/bytealg.MaxLen"], apart := false, laid := [("unicode/utf8.acceptRanges", laid_unicode_utf8_acceptRanges), ("unicode/utf8.first", laid_unicode_utf8_first)], narrowed := true }
def PolicyMoreUptoSaid : Prop := policyMoreUptoRow.holds Tryd.pinned (OpenSpec.upto policyMoreSpec)

/-- 'lazaretlaw24.PolicyMeta', WHERE WHAT IT READS IS OF BULK AT MOST 1048576: true; the input reads as it did. -/
def policyMetaUptoRow : OpenClaim := { program := "ytgaeecphohlmpaadoor", sum := "0d98fa892fa364c485db112b446ae9c988510b853c2744373151ddcb2775d6cd", func := "lazaret/lazaretlaw24.PolicyMeta", spec := "policyMeta", inPlace := ["internal/bytealg.CountString", "internal/bytealg.IndexByteString", "internal/bytealg.IndexString", "internal/abi.NoEscape", "internal/bytealg.MakeNoZero"], unfollowed := true, recurses := true, named := ["unicode/utf8.first", "unicode/utf8.acceptRanges", "internal/bytealg.MaxLen"], apart := false, laid := [("unicode/utf8.acceptRanges", laid_unicode_utf8_acceptRanges), ("unicode/utf8.first", laid_unicode_utf8_first)], narrowed := true }
def PolicyMetaUptoSaid : Prop := policyMetaUptoRow.holds Tryd.pinned (OpenSpec.upto policyMetaSpec)

end Rows
end Go.Proofs.YtgaeecphohlmpaaDoor
