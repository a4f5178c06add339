/-
  DERIVED. GIVEN WITH THE SEED: THE CARDS: each row of YthgecembedjnaaaDoorRows.lean that lists a variable, with what it lists TIED to the program's text (the seventh form; the later family's looks); each row that meets fmt, with fmt's text TOLD by the authors' own Lean function (tested against real Go, not proved from fmt's source: count such statements apart). THE CARD IS WHAT COUNTS. Prove the row's statement (the work); the ties are given (YthgecembedjnaaaDoorTie.lean); close each card by the builder's one call (the guide's Derived/Test/ToyasCard.lean, 'card_holds'). Laid BY PROGRAM, IN A SANDBOX (cutbox-door.mjs). By AI agents, Wed Nov 11 2026. No macro, syntax, notation, axiom, sorry.
-/
import Derived.Test.YthgecembedjnaaaDoorRows
import GoSem.ClaimSeven
namespace Go.Proofs.YthgecembedjnaaaDoor
namespace Rows

/-- THE TIED CARD OF 'lazaretlaw02.AsciiBytes'. -/
def asciiBytesCard : Claim7 := { stood := { row := asciiBytesRow, standIns := [], harness := (true, "1bebc2fc392135f5da6df0bd6a114e3a44a8c76c9c35605b71e987a1dcbc022a"), looks := false }, kinds := [], alts := [], laidByText := true, laidKinds := [.data, .pinned], laidTests := true, laidLooks := .later }
def AsciiBytesCardSaid : Prop := Claim7.holds Tryd.pinned (.plain (OpenSpec.ofChange asciiBytesSpec)) asciiBytesCard

/-- THE TIED CARD OF 'lazaretlaw02.AsciiTexts'. -/
def asciiTextsCard : Claim7 := { stood := { row := asciiTextsRow, standIns := [], harness := (true, "1bebc2fc392135f5da6df0bd6a114e3a44a8c76c9c35605b71e987a1dcbc022a"), looks := false }, kinds := [], alts := [], laidByText := true, laidKinds := [.data, .pinned], laidTests := true, laidLooks := .later }
def AsciiTextsCardSaid : Prop := Claim7.holds Tryd.pinned (.plain (OpenSpec.ofChange asciiTextsSpec)) asciiTextsCard

/-- THE TIED CARD OF 'lazaretlaw02.AsciiCase'. -/
def asciiCaseCard : Claim7 := { stood := { row := asciiCaseRow, standIns := [], harness := (true, "1bebc2fc392135f5da6df0bd6a114e3a44a8c76c9c35605b71e987a1dcbc022a"), looks := false }, kinds := [], alts := [], laidByText := true, laidKinds := [.data, .pinned], laidTests := true, laidLooks := .later }
def AsciiCaseCardSaid : Prop := Claim7.holds Tryd.pinned (.plain (OpenSpec.ofChange asciiCaseSpec)) asciiCaseCard

/-- THE TIED CARD OF 'lazaretlaw02.AsciiFields'. -/
def asciiFieldsCard : Claim7 := { stood := { row := asciiFieldsRow, standIns := [], harness := (true, "1bebc2fc392135f5da6df0bd6a114e3a44a8c76c9c35605b71e987a1dcbc022a"), looks := false }, kinds := [], alts := [], laidByText := true, laidKinds := [.data, .pinned], laidTests := true, laidLooks := .later }
def AsciiFieldsCardSaid : Prop := Claim7.holds Tryd.pinned (.plain (OpenSpec.ofChange asciiFieldsSpec)) asciiFieldsCard

/-- THE TIED CARD OF 'lazaretlaw02.AsciiCommas'. -/
def asciiCommasCard : Claim7 := { stood := { row := asciiCommasRow, standIns := [], harness := (true, "1bebc2fc392135f5da6df0bd6a114e3a44a8c76c9c35605b71e987a1dcbc022a"), looks := false }, kinds := [], alts := [], laidByText := true, laidKinds := [.data, .pinned], laidTests := true, laidLooks := .later }
def AsciiCommasCardSaid : Prop := Claim7.holds Tryd.pinned (.plain (OpenSpec.ofChange asciiCommasSpec)) asciiCommasCard

/-- THE TIED CARD OF 'lazaretlaw13.KindsTell'. -/
def kindsTellCard : Claim7 := { stood := { row := kindsTellRow, standIns := [], harness := (true, "1bebc2fc392135f5da6df0bd6a114e3a44a8c76c9c35605b71e987a1dcbc022a"), looks := false }, kinds := [], alts := [], laidByText := true, laidKinds := [.data, .data, .data], laidTests := true, laidLooks := .later }
def KindsTellCardSaid : Prop := Claim7.holds Tryd.pinned (.plain (OpenSpec.ofChange kindsTellSpec)) kindsTellCard

/-- THE TIED CARD OF 'lazaretlaw13.KindsWithin'. -/
def kindsWithinCard : Claim7 := { stood := { row := kindsWithinRow, standIns := [], harness := (true, "1bebc2fc392135f5da6df0bd6a114e3a44a8c76c9c35605b71e987a1dcbc022a"), looks := false }, kinds := [], alts := [], laidByText := true, laidKinds := [.data, .data, .data], laidTests := true, laidLooks := .later }
def KindsWithinCardSaid : Prop := Claim7.holds Tryd.pinned (.plain (OpenSpec.ofChange kindsWithinSpec)) kindsWithinCard

/-- THE TIED CARD OF 'lazaretlaw13.KindsCase'. -/
def kindsCaseCard : Claim7 := { stood := { row := kindsCaseRow, standIns := [], harness := (true, "1bebc2fc392135f5da6df0bd6a114e3a44a8c76c9c35605b71e987a1dcbc022a"), looks := false }, kinds := [], alts := [], laidByText := true, laidKinds := [.data, .data, .data], laidTests := true, laidLooks := .later }
def KindsCaseCardSaid : Prop := Claim7.holds Tryd.pinned (.plain (OpenSpec.ofChange kindsCaseSpec)) kindsCaseCard

/-- THE TIED CARD OF 'lazaretlaw28.ChainsNames'. -/
def chainsNamesCard : Claim7 := { stood := { row := chainsNamesRow, standIns := [], harness := (true, "1bebc2fc392135f5da6df0bd6a114e3a44a8c76c9c35605b71e987a1dcbc022a"), looks := false }, kinds := [], alts := [], laidByText := true, laidKinds := [.data, .data, .pinned], laidTests := true, laidLooks := .later }
def ChainsNamesCardSaid : Prop := Claim7.holds Tryd.pinned (.plain (OpenSpec.ofChange chainsNamesSpec)) chainsNamesCard

/-- THE TIED CARD OF 'lazaretlaw28.ChainsFind'. -/
def chainsFindCard : Claim7 := { stood := { row := chainsFindRow, standIns := [], harness := (true, "1bebc2fc392135f5da6df0bd6a114e3a44a8c76c9c35605b71e987a1dcbc022a"), looks := false }, kinds := [], alts := [], laidByText := true, laidKinds := [.data, .data, .pinned], laidTests := true, laidLooks := .later }
def ChainsFindCardSaid : Prop := Claim7.holds Tryd.pinned (.plain (OpenSpec.ofChange chainsFindSpec)) chainsFindCard

/-- THE TIED CARD OF 'lazaretlaw28.ChainsFirst'. -/
def chainsFirstCard : Claim7 := { stood := { row := chainsFirstRow, standIns := [], harness := (true, "1bebc2fc392135f5da6df0bd6a114e3a44a8c76c9c35605b71e987a1dcbc022a"), looks := false }, kinds := [], alts := [], laidByText := true, laidKinds := [.data, .data, .pinned], laidTests := true, laidLooks := .later }
def ChainsFirstCardSaid : Prop := Claim7.holds Tryd.pinned (.plain (OpenSpec.ofChange chainsFirstSpec)) chainsFirstCard

/-- THE TIED CARD OF 'lazaretlaw28.ChainsOrder'. -/
def chainsOrderCard : Claim7 := { stood := { row := chainsOrderRow, standIns := [], harness := (true, "1bebc2fc392135f5da6df0bd6a114e3a44a8c76c9c35605b71e987a1dcbc022a"), looks := false }, kinds := [], alts := [], laidByText := true, laidKinds := [.data, .data, .pinned], laidTests := true, laidLooks := .later }
def ChainsOrderCardSaid : Prop := Claim7.holds Tryd.pinned (.plain (OpenSpec.ofChange chainsOrderSpec)) chainsOrderCard

/-- THE SECOND FORM's CARD OF 'lazaretlaw02.AsciiBytes'. -/
def asciiBytesUptoCard : Claim7 := { stood := { row := asciiBytesUptoRow, standIns := [], harness := (true, "1bebc2fc392135f5da6df0bd6a114e3a44a8c76c9c35605b71e987a1dcbc022a"), looks := false }, kinds := [], alts := [], laidByText := true, laidKinds := [.data, .pinned], laidTests := true, laidLooks := .later }
def AsciiBytesUptoCardSaid : Prop := Claim7.holds Tryd.pinned (.plain (OpenSpec.upto asciiBytesSpec)) asciiBytesUptoCard

/-- THE SECOND FORM's CARD OF 'lazaretlaw02.AsciiTexts'. -/
def asciiTextsUptoCard : Claim7 := { stood := { row := asciiTextsUptoRow, standIns := [], harness := (true, "1bebc2fc392135f5da6df0bd6a114e3a44a8c76c9c35605b71e987a1dcbc022a"), looks := false }, kinds := [], alts := [], laidByText := true, laidKinds := [.data, .pinned], laidTests := true, laidLooks := .later }
def AsciiTextsUptoCardSaid : Prop := Claim7.holds Tryd.pinned (.plain (OpenSpec.upto asciiTextsSpec)) asciiTextsUptoCard

/-- THE SECOND FORM's CARD OF 'lazaretlaw02.AsciiCase'. -/
def asciiCaseUptoCard : Claim7 := { stood := { row := asciiCaseUptoRow, standIns := [], harness := (true, "1bebc2fc392135f5da6df0bd6a114e3a44a8c76c9c35605b71e987a1dcbc022a"), looks := false }, kinds := [], alts := [], laidByText := true, laidKinds := [.data, .pinned], laidTests := true, laidLooks := .later }
def AsciiCaseUptoCardSaid : Prop := Claim7.holds Tryd.pinned (.plain (OpenSpec.upto asciiCaseSpec)) asciiCaseUptoCard

/-- THE SECOND FORM's CARD OF 'lazaretlaw02.AsciiFields'. -/
def asciiFieldsUptoCard : Claim7 := { stood := { row := asciiFieldsUptoRow, standIns := [], harness := (true, "1bebc2fc392135f5da6df0bd6a114e3a44a8c76c9c35605b71e987a1dcbc022a"), looks := false }, kinds := [], alts := [], laidByText := true, laidKinds := [.data, .pinned], laidTests := true, laidLooks := .later }
def AsciiFieldsUptoCardSaid : Prop := Claim7.holds Tryd.pinned (.plain (OpenSpec.upto asciiFieldsSpec)) asciiFieldsUptoCard

/-- THE SECOND FORM's CARD OF 'lazaretlaw02.AsciiCommas'. -/
def asciiCommasUptoCard : Claim7 := { stood := { row := asciiCommasUptoRow, standIns := [], harness := (true, "1bebc2fc392135f5da6df0bd6a114e3a44a8c76c9c35605b71e987a1dcbc022a"), looks := false }, kinds := [], alts := [], laidByText := true, laidKinds := [.data, .pinned], laidTests := true, laidLooks := .later }
def AsciiCommasUptoCardSaid : Prop := Claim7.holds Tryd.pinned (.plain (OpenSpec.upto asciiCommasSpec)) asciiCommasUptoCard

/-- THE SECOND FORM's CARD OF 'lazaretlaw13.KindsTell'. -/
def kindsTellUptoCard : Claim7 := { stood := { row := kindsTellUptoRow, standIns := [], harness := (true, "1bebc2fc392135f5da6df0bd6a114e3a44a8c76c9c35605b71e987a1dcbc022a"), looks := false }, kinds := [], alts := [], laidByText := true, laidKinds := [.data, .data, .data], laidTests := true, laidLooks := .later }
def KindsTellUptoCardSaid : Prop := Claim7.holds Tryd.pinned (.plain (OpenSpec.upto kindsTellSpec)) kindsTellUptoCard

/-- THE SECOND FORM's CARD OF 'lazaretlaw13.KindsWithin'. -/
def kindsWithinUptoCard : Claim7 := { stood := { row := kindsWithinUptoRow, standIns := [], harness := (true, "1bebc2fc392135f5da6df0bd6a114e3a44a8c76c9c35605b71e987a1dcbc022a"), looks := false }, kinds := [], alts := [], laidByText := true, laidKinds := [.data, .data, .data], laidTests := true, laidLooks := .later }
def KindsWithinUptoCardSaid : Prop := Claim7.holds Tryd.pinned (.plain (OpenSpec.upto kindsWithinSpec)) kindsWithinUptoCard

/-- THE SECOND FORM's CARD OF 'lazaretlaw13.KindsCase'. -/
def kindsCaseUptoCard : Claim7 := { stood := { row := kindsCaseUptoRow, standIns := [], harness := (true, "1bebc2fc392135f5da6df0bd6a114e3a44a8c76c9c35605b71e987a1dcbc022a"), looks := false }, kinds := [], alts := [], laidByText := true, laidKinds := [.data, .data, .data], laidTests := true, laidLooks := .later }
def KindsCaseUptoCardSaid : Prop := Claim7.holds Tryd.pinned (.plain (OpenSpec.upto kindsCaseSpec)) kindsCaseUptoCard

/-- THE SECOND FORM's CARD OF 'lazaretlaw28.ChainsNames'. -/
def chainsNamesUptoCard : Claim7 := { stood := { row := chainsNamesUptoRow, standIns := [], harness := (true, "1bebc2fc392135f5da6df0bd6a114e3a44a8c76c9c35605b71e987a1dcbc022a"), looks := false }, kinds := [], alts := [], laidByText := true, laidKinds := [.data, .data, .pinned], laidTests := true, laidLooks := .later }
def ChainsNamesUptoCardSaid : Prop := Claim7.holds Tryd.pinned (.plain (OpenSpec.upto chainsNamesSpec)) chainsNamesUptoCard

/-- THE SECOND FORM's CARD OF 'lazaretlaw28.ChainsFind'. -/
def chainsFindUptoCard : Claim7 := { stood := { row := chainsFindUptoRow, standIns := [], harness := (true, "1bebc2fc392135f5da6df0bd6a114e3a44a8c76c9c35605b71e987a1dcbc022a"), looks := false }, kinds := [], alts := [], laidByText := true, laidKinds := [.data, .data, .pinned], laidTests := true, laidLooks := .later }
def ChainsFindUptoCardSaid : Prop := Claim7.holds Tryd.pinned (.plain (OpenSpec.upto chainsFindSpec)) chainsFindUptoCard

/-- THE SECOND FORM's CARD OF 'lazaretlaw28.ChainsFirst'. -/
def chainsFirstUptoCard : Claim7 := { stood := { row := chainsFirstUptoRow, standIns := [], harness := (true, "1bebc2fc392135f5da6df0bd6a114e3a44a8c76c9c35605b71e987a1dcbc022a"), looks := false }, kinds := [], alts := [], laidByText := true, laidKinds := [.data, .data, .pinned], laidTests := true, laidLooks := .later }
def ChainsFirstUptoCardSaid : Prop := Claim7.holds Tryd.pinned (.plain (OpenSpec.upto chainsFirstSpec)) chainsFirstUptoCard

/-- THE SECOND FORM's CARD OF 'lazaretlaw28.ChainsOrder'. -/
def chainsOrderUptoCard : Claim7 := { stood := { row := chainsOrderUptoRow, standIns := [], harness := (true, "1bebc2fc392135f5da6df0bd6a114e3a44a8c76c9c35605b71e987a1dcbc022a"), looks := false }, kinds := [], alts := [], laidByText := true, laidKinds := [.data, .data, .pinned], laidTests := true, laidLooks := .later }
def ChainsOrderUptoCardSaid : Prop := Claim7.holds Tryd.pinned (.plain (OpenSpec.upto chainsOrderSpec)) chainsOrderUptoCard
end Rows
end Go.Proofs.YthgecembedjnaaaDoor
