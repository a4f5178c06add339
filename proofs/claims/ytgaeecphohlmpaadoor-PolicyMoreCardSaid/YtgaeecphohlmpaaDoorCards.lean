/-
  DERIVED. GIVEN WITH THE SEED: THE CARDS: each row of YtgaeecphohlmpaaDoorRows.lean that lists a variable, with what it lists TIED to the program's text (the seventh form; the later family's looks); each row that meets fmt, with fmt's text TOLD by the authors' own Lean function (tested against real Go, not proved from fmt's source: count such statements apart). THE CARD IS WHAT COUNTS. Prove the row's statement (the work); the ties are given (YtgaeecphohlmpaaDoorTie.lean); close each card by the builder's one call (the guide's Derived/Test/ToyasCard.lean, 'card_holds'). Laid BY PROGRAM, IN A SANDBOX (cutbox-door.mjs). By AI agents, Wed Nov 11 2026. No macro, syntax, notation, axiom, sorry.
-/
import Derived.Test.YtgaeecphohlmpaaDoorRows
import GoSem.ClaimSeven
namespace Go.Proofs.YtgaeecphohlmpaaDoor
namespace Rows

/-- THE TIED CARD OF 'lazaretlaw28.ChainsNames'. -/
def chainsNamesCard : Claim7 := { stood := { row := chainsNamesRow, standIns := [], harness := (true, "5abb5cbbd086c5a196dfd4345832176825be6b4030b5635ff48850985ec60f2b"), looks := false }, kinds := [], alts := [], laidByText := true, laidKinds := [.data, .data, .pinned], laidTests := true, laidLooks := .later }
def ChainsNamesCardSaid : Prop := Claim7.holds Tryd.pinned (.plain (OpenSpec.ofChange chainsNamesSpec)) chainsNamesCard

/-- THE TIED CARD OF 'lazaretlaw28.ChainsFind'. -/
def chainsFindCard : Claim7 := { stood := { row := chainsFindRow, standIns := [], harness := (true, "5abb5cbbd086c5a196dfd4345832176825be6b4030b5635ff48850985ec60f2b"), looks := false }, kinds := [], alts := [], laidByText := true, laidKinds := [.data, .data, .pinned], laidTests := true, laidLooks := .later }
def ChainsFindCardSaid : Prop := Claim7.holds Tryd.pinned (.plain (OpenSpec.ofChange chainsFindSpec)) chainsFindCard

/-- THE TIED CARD OF 'lazaretlaw28.ChainsFirst'. -/
def chainsFirstCard : Claim7 := { stood := { row := chainsFirstRow, standIns := [], harness := (true, "5abb5cbbd086c5a196dfd4345832176825be6b4030b5635ff48850985ec60f2b"), looks := false }, kinds := [], alts := [], laidByText := true, laidKinds := [.data, .data, .pinned], laidTests := true, laidLooks := .later }
def ChainsFirstCardSaid : Prop := Claim7.holds Tryd.pinned (.plain (OpenSpec.ofChange chainsFirstSpec)) chainsFirstCard

/-- THE TIED CARD OF 'lazaretlaw28.ChainsOrder'. -/
def chainsOrderCard : Claim7 := { stood := { row := chainsOrderRow, standIns := [], harness := (true, "5abb5cbbd086c5a196dfd4345832176825be6b4030b5635ff48850985ec60f2b"), looks := false }, kinds := [], alts := [], laidByText := true, laidKinds := [.data, .data, .pinned], laidTests := true, laidLooks := .later }
def ChainsOrderCardSaid : Prop := Claim7.holds Tryd.pinned (.plain (OpenSpec.ofChange chainsOrderSpec)) chainsOrderCard

/-- THE TIED CARD OF 'lazaretlaw28.ChainsMore'. -/
def chainsMoreCard : Claim7 := { stood := { row := chainsMoreRow, standIns := [], harness := (true, "5abb5cbbd086c5a196dfd4345832176825be6b4030b5635ff48850985ec60f2b"), looks := false }, kinds := [], alts := [], laidByText := true, laidKinds := [.data, .data, .pinned], laidTests := true, laidLooks := .later }
def ChainsMoreCardSaid : Prop := Claim7.holds Tryd.pinned (.plain (OpenSpec.ofChange chainsMoreSpec)) chainsMoreCard

/-- THE TIED CARD OF 'lazaretlaw24.PolicyText'. -/
def policyTextCard : Claim7 := { stood := { row := policyTextRow, standIns := [], harness := (true, "5abb5cbbd086c5a196dfd4345832176825be6b4030b5635ff48850985ec60f2b"), looks := false }, kinds := [], alts := [], laidByText := true, laidKinds := [.data, .pinned], laidTests := true, laidLooks := .later }
def PolicyTextCardSaid : Prop := Claim7.holds Tryd.pinned (.plain (OpenSpec.ofChange policyTextSpec)) policyTextCard

/-- THE TIED CARD OF 'lazaretlaw24.PolicyHeaders'. -/
def policyHeadersCard : Claim7 := { stood := { row := policyHeadersRow, standIns := [], harness := (true, "5abb5cbbd086c5a196dfd4345832176825be6b4030b5635ff48850985ec60f2b"), looks := false }, kinds := [], alts := [], laidByText := true, laidKinds := [.data, .pinned], laidTests := true, laidLooks := .later }
def PolicyHeadersCardSaid : Prop := Claim7.holds Tryd.pinned (.plain (OpenSpec.ofChange policyHeadersSpec)) policyHeadersCard

/-- THE TIED CARD OF 'lazaretlaw24.PolicyAsk'. -/
def policyAskCard : Claim7 := { stood := { row := policyAskRow, standIns := [], harness := (true, "5abb5cbbd086c5a196dfd4345832176825be6b4030b5635ff48850985ec60f2b"), looks := false }, kinds := [], alts := [], laidByText := true, laidKinds := [.data, .pinned], laidTests := true, laidLooks := .later }
def PolicyAskCardSaid : Prop := Claim7.holds Tryd.pinned (.plain (OpenSpec.ofChange policyAskSpec)) policyAskCard

/-- THE TIED CARD OF 'lazaretlaw24.PolicyBack'. -/
def policyBackCard : Claim7 := { stood := { row := policyBackRow, standIns := [], harness := (true, "5abb5cbbd086c5a196dfd4345832176825be6b4030b5635ff48850985ec60f2b"), looks := false }, kinds := [], alts := [], laidByText := true, laidKinds := [.data, .pinned], laidTests := true, laidLooks := .later }
def PolicyBackCardSaid : Prop := Claim7.holds Tryd.pinned (.plain (OpenSpec.ofChange policyBackSpec)) policyBackCard

/-- THE TIED CARD OF 'lazaretlaw24.PolicyOnce'. -/
def policyOnceCard : Claim7 := { stood := { row := policyOnceRow, standIns := [], harness := (true, "5abb5cbbd086c5a196dfd4345832176825be6b4030b5635ff48850985ec60f2b"), looks := false }, kinds := [], alts := [], laidByText := true, laidKinds := [.data, .pinned], laidTests := true, laidLooks := .later }
def PolicyOnceCardSaid : Prop := Claim7.holds Tryd.pinned (.plain (OpenSpec.ofChange policyOnceSpec)) policyOnceCard

/-- THE TIED CARD OF 'lazaretlaw24.PolicyMore'. -/
def policyMoreCard : Claim7 := { stood := { row := policyMoreRow, standIns := [], harness := (true, "5abb5cbbd086c5a196dfd4345832176825be6b4030b5635ff48850985ec60f2b"), looks := false }, kinds := [], alts := [], laidByText := true, laidKinds := [.data, .pinned], laidTests := true, laidLooks := .later }
def PolicyMoreCardSaid : Prop := Claim7.holds Tryd.pinned (.plain (OpenSpec.ofChange policyMoreSpec)) policyMoreCard

/-- THE TIED CARD OF 'lazaretlaw24.PolicyMeta'. -/
def policyMetaCard : Claim7 := { stood := { row := policyMetaRow, standIns := [], harness := (true, "5abb5cbbd086c5a196dfd4345832176825be6b4030b5635ff48850985ec60f2b"), looks := false }, kinds := [], alts := [], laidByText := true, laidKinds := [.data, .pinned], laidTests := true, laidLooks := .later }
def PolicyMetaCardSaid : Prop := Claim7.holds Tryd.pinned (.plain (OpenSpec.ofChange policyMetaSpec)) policyMetaCard

/-- THE SECOND FORM's CARD OF 'lazaretlaw28.ChainsNames'. -/
def chainsNamesUptoCard : Claim7 := { stood := { row := chainsNamesUptoRow, standIns := [], harness := (true, "5abb5cbbd086c5a196dfd4345832176825be6b4030b5635ff48850985ec60f2b"), looks := false }, kinds := [], alts := [], laidByText := true, laidKinds := [.data, .data, .pinned], laidTests := true, laidLooks := .later }
def ChainsNamesUptoCardSaid : Prop := Claim7.holds Tryd.pinned (.plain (OpenSpec.upto chainsNamesSpec)) chainsNamesUptoCard

/-- THE SECOND FORM's CARD OF 'lazaretlaw28.ChainsFind'. -/
def chainsFindUptoCard : Claim7 := { stood := { row := chainsFindUptoRow, standIns := [], harness := (true, "5abb5cbbd086c5a196dfd4345832176825be6b4030b5635ff48850985ec60f2b"), looks := false }, kinds := [], alts := [], laidByText := true, laidKinds := [.data, .data, .pinned], laidTests := true, laidLooks := .later }
def ChainsFindUptoCardSaid : Prop := Claim7.holds Tryd.pinned (.plain (OpenSpec.upto chainsFindSpec)) chainsFindUptoCard

/-- THE SECOND FORM's CARD OF 'lazaretlaw28.ChainsFirst'. -/
def chainsFirstUptoCard : Claim7 := { stood := { row := chainsFirstUptoRow, standIns := [], harness := (true, "5abb5cbbd086c5a196dfd4345832176825be6b4030b5635ff48850985ec60f2b"), looks := false }, kinds := [], alts := [], laidByText := true, laidKinds := [.data, .data, .pinned], laidTests := true, laidLooks := .later }
def ChainsFirstUptoCardSaid : Prop := Claim7.holds Tryd.pinned (.plain (OpenSpec.upto chainsFirstSpec)) chainsFirstUptoCard

/-- THE SECOND FORM's CARD OF 'lazaretlaw28.ChainsOrder'. -/
def chainsOrderUptoCard : Claim7 := { stood := { row := chainsOrderUptoRow, standIns := [], harness := (true, "5abb5cbbd086c5a196dfd4345832176825be6b4030b5635ff48850985ec60f2b"), looks := false }, kinds := [], alts := [], laidByText := true, laidKinds := [.data, .data, .pinned], laidTests := true, laidLooks := .later }
def ChainsOrderUptoCardSaid : Prop := Claim7.holds Tryd.pinned (.plain (OpenSpec.upto chainsOrderSpec)) chainsOrderUptoCard

/-- THE SECOND FORM's CARD OF 'lazaretlaw28.ChainsMore'. -/
def chainsMoreUptoCard : Claim7 := { stood := { row := chainsMoreUptoRow, standIns := [], harness := (true, "5abb5cbbd086c5a196dfd4345832176825be6b4030b5635ff48850985ec60f2b"), looks := false }, kinds := [], alts := [], laidByText := true, laidKinds := [.data, .data, .pinned], laidTests := true, laidLooks := .later }
def ChainsMoreUptoCardSaid : Prop := Claim7.holds Tryd.pinned (.plain (OpenSpec.upto chainsMoreSpec)) chainsMoreUptoCard

/-- THE SECOND FORM's CARD OF 'lazaretlaw24.PolicyText'. -/
def policyTextUptoCard : Claim7 := { stood := { row := policyTextUptoRow, standIns := [], harness := (true, "5abb5cbbd086c5a196dfd4345832176825be6b4030b5635ff48850985ec60f2b"), looks := false }, kinds := [], alts := [], laidByText := true, laidKinds := [.data, .pinned], laidTests := true, laidLooks := .later }
def PolicyTextUptoCardSaid : Prop := Claim7.holds Tryd.pinned (.plain (OpenSpec.upto policyTextSpec)) policyTextUptoCard

/-- THE SECOND FORM's CARD OF 'lazaretlaw24.PolicyHeaders'. -/
def policyHeadersUptoCard : Claim7 := { stood := { row := policyHeadersUptoRow, standIns := [], harness := (true, "5abb5cbbd086c5a196dfd4345832176825be6b4030b5635ff48850985ec60f2b"), looks := false }, kinds := [], alts := [], laidByText := true, laidKinds := [.data, .pinned], laidTests := true, laidLooks := .later }
def PolicyHeadersUptoCardSaid : Prop := Claim7.holds Tryd.pinned (.plain (OpenSpec.upto policyHeadersSpec)) policyHeadersUptoCard

/-- THE SECOND FORM's CARD OF 'lazaretlaw24.PolicyAsk'. -/
def policyAskUptoCard : Claim7 := { stood := { row := policyAskUptoRow, standIns := [], harness := (true, "5abb5cbbd086c5a196dfd4345832176825be6b4030b5635ff48850985ec60f2b"), looks := false }, kinds := [], alts := [], laidByText := true, laidKinds := [.data, .pinned], laidTests := true, laidLooks := .later }
def PolicyAskUptoCardSaid : Prop := Claim7.holds Tryd.pinned (.plain (OpenSpec.upto policyAskSpec)) policyAskUptoCard

/-- THE SECOND FORM's CARD OF 'lazaretlaw24.PolicyBack'. -/
def policyBackUptoCard : Claim7 := { stood := { row := policyBackUptoRow, standIns := [], harness := (true, "5abb5cbbd086c5a196dfd4345832176825be6b4030b5635ff48850985ec60f2b"), looks := false }, kinds := [], alts := [], laidByText := true, laidKinds := [.data, .pinned], laidTests := true, laidLooks := .later }
def PolicyBackUptoCardSaid : Prop := Claim7.holds Tryd.pinned (.plain (OpenSpec.upto policyBackSpec)) policyBackUptoCard

/-- THE SECOND FORM's CARD OF 'lazaretlaw24.PolicyOnce'. -/
def policyOnceUptoCard : Claim7 := { stood := { row := policyOnceUptoRow, standIns := [], harness := (true, "5abb5cbbd086c5a196dfd4345832176825be6b4030b5635ff48850985ec60f2b"), looks := false }, kinds := [], alts := [], laidByText := true, laidKinds := [.data, .pinned], laidTests := true, laidLooks := .later }
def PolicyOnceUptoCardSaid : Prop := Claim7.holds Tryd.pinned (.plain (OpenSpec.upto policyOnceSpec)) policyOnceUptoCard

/-- THE SECOND FORM's CARD OF 'lazaretlaw24.PolicyMore'. -/
def policyMoreUptoCard : Claim7 := { stood := { row := policyMoreUptoRow, standIns := [], harness := (true, "5abb5cbbd086c5a196dfd4345832176825be6b4030b5635ff48850985ec60f2b"), looks := false }, kinds := [], alts := [], laidByText := true, laidKinds := [.data, .pinned], laidTests := true, laidLooks := .later }
def PolicyMoreUptoCardSaid : Prop := Claim7.holds Tryd.pinned (.plain (OpenSpec.upto policyMoreSpec)) policyMoreUptoCard

/-- THE SECOND FORM's CARD OF 'lazaretlaw24.PolicyMeta'. -/
def policyMetaUptoCard : Claim7 := { stood := { row := policyMetaUptoRow, standIns := [], harness := (true, "5abb5cbbd086c5a196dfd4345832176825be6b4030b5635ff48850985ec60f2b"), looks := false }, kinds := [], alts := [], laidByText := true, laidKinds := [.data, .pinned], laidTests := true, laidLooks := .later }
def PolicyMetaUptoCardSaid : Prop := Claim7.holds Tryd.pinned (.plain (OpenSpec.upto policyMetaSpec)) policyMetaUptoCard
end Rows
end Go.Proofs.YtgaeecphohlmpaaDoor
