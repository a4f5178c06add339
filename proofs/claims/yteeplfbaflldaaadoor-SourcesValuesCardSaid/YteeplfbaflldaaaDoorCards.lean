/-
  DERIVED. GIVEN WITH THE SEED: THE CARDS: each row of YteeplfbaflldaaaDoorRows.lean that lists a variable, with what it lists TIED to the program's text (the seventh form; the later family's looks); each row that meets fmt, with fmt's text TOLD by the authors' own Lean function (tested against real Go, not proved from fmt's source: count such statements apart). THE CARD IS WHAT COUNTS. Prove the row's statement (the work); the ties are given (YteeplfbaflldaaaDoorTie.lean); close each card by the builder's one call (the guide's Derived/Test/ToyasCard.lean, 'card_holds'). Laid BY PROGRAM, IN A SANDBOX (cutbox-door.mjs). By AI agents, Wed Nov 11 2026. No macro, syntax, notation, axiom, sorry.
-/
import Derived.Test.YteeplfbaflldaaaDoorRows
import GoSem.ClaimSeven
namespace Go.Proofs.YteeplfbaflldaaaDoor
namespace Rows

/-- THE TIED CARD OF 'lazaretlaw10.TagsTell'. -/
def tagsTellCard : Claim7 := { stood := { row := tagsTellRow, standIns := [], harness := (true, "6426fe13131d1561ee6c21705e6e79d3557e77eb06ffcbddd6aac68822c61bb2"), looks := true }, kinds := [], alts := [], laidByText := true, laidKinds := [.data, .data, .pinned], laidTests := true, laidLooks := .later }
def TagsTellCardSaid : Prop := Claim7.holds Tryd.pinned (.plain (OpenSpec.ofChange tagsTellSpec)) tagsTellCard

/-- THE TIED CARD OF 'lazaretlaw10.TagsWritten'. -/
def tagsWrittenCard : Claim7 := { stood := { row := tagsWrittenRow, standIns := [], harness := (true, "6426fe13131d1561ee6c21705e6e79d3557e77eb06ffcbddd6aac68822c61bb2"), looks := true }, kinds := [], alts := [], laidByText := true, laidKinds := [.data, .data, .pinned], laidTests := true, laidLooks := .later }
def TagsWrittenCardSaid : Prop := Claim7.holds Tryd.pinned (.plain (OpenSpec.ofChange tagsWrittenSpec)) tagsWrittenCard

/-- THE TIED CARD OF 'lazaretlaw10.TagsSwallow'. -/
def tagsSwallowCard : Claim7 := { stood := { row := tagsSwallowRow, standIns := [], harness := (true, "6426fe13131d1561ee6c21705e6e79d3557e77eb06ffcbddd6aac68822c61bb2"), looks := true }, kinds := [], alts := [], laidByText := true, laidKinds := [.data, .data, .pinned], laidTests := true, laidLooks := .later }
def TagsSwallowCardSaid : Prop := Claim7.holds Tryd.pinned (.plain (OpenSpec.ofChange tagsSwallowSpec)) tagsSwallowCard

/-- THE TIED CARD OF 'lazaretlaw10.TagsCut'. -/
def tagsCutCard : Claim7 := { stood := { row := tagsCutRow, standIns := [], harness := (true, "6426fe13131d1561ee6c21705e6e79d3557e77eb06ffcbddd6aac68822c61bb2"), looks := true }, kinds := [], alts := [], laidByText := true, laidKinds := [.data, .data, .pinned], laidTests := true, laidLooks := .later }
def TagsCutCardSaid : Prop := Claim7.holds Tryd.pinned (.plain (OpenSpec.ofChange tagsCutSpec)) tagsCutCard

/-- THE TIED CARD OF 'lazaretlaw10.TagsFirst'. -/
def tagsFirstCard : Claim7 := { stood := { row := tagsFirstRow, standIns := [], harness := (true, "6426fe13131d1561ee6c21705e6e79d3557e77eb06ffcbddd6aac68822c61bb2"), looks := true }, kinds := [], alts := [], laidByText := true, laidKinds := [.data, .data, .pinned], laidTests := true, laidLooks := .later }
def TagsFirstCardSaid : Prop := Claim7.holds Tryd.pinned (.plain (OpenSpec.ofChange tagsFirstSpec)) tagsFirstCard

/-- THE TIED CARD OF 'lazaretlaw25.SourcesBack'. -/
def sourcesBackCard : Claim7 := { stood := { row := sourcesBackRow, standIns := [], harness := (true, "6426fe13131d1561ee6c21705e6e79d3557e77eb06ffcbddd6aac68822c61bb2"), looks := true }, kinds := [], alts := [], laidByText := true, laidKinds := [.data, .data, .data, .data, .handle, .pinned], laidTests := true, laidLooks := .later }
def SourcesBackCardSaid : Prop := Claim7.holds Tryd.pinned (.plain (OpenSpec.ofChange sourcesBackSpec)) sourcesBackCard

/-- THE TIED CARD OF 'lazaretlaw25.SourcesHost'. -/
def sourcesHostCard : Claim7 := { stood := { row := sourcesHostRow, standIns := [], harness := (true, "6426fe13131d1561ee6c21705e6e79d3557e77eb06ffcbddd6aac68822c61bb2"), looks := true }, kinds := [], alts := [], laidByText := true, laidKinds := [.data, .data, .data, .data, .handle, .pinned], laidTests := true, laidLooks := .later }
def SourcesHostCardSaid : Prop := Claim7.holds Tryd.pinned (.plain (OpenSpec.ofChange sourcesHostSpec)) sourcesHostCard

/-- THE TIED CARD OF 'lazaretlaw25.SourcesValues'. -/
def sourcesValuesCard : Claim7 := { stood := { row := sourcesValuesRow, standIns := [], harness := (true, "6426fe13131d1561ee6c21705e6e79d3557e77eb06ffcbddd6aac68822c61bb2"), looks := true }, kinds := [], alts := [], laidByText := true, laidKinds := [.data, .handle, .pinned], laidTests := true, laidLooks := .later }
def SourcesValuesCardSaid : Prop := Claim7.holds Tryd.pinned (.plain (OpenSpec.ofChange sourcesValuesSpec)) sourcesValuesCard

/-- THE SECOND FORM's CARD OF 'lazaretlaw10.TagsTell'. -/
def tagsTellUptoCard : Claim7 := { stood := { row := tagsTellUptoRow, standIns := [], harness := (true, "6426fe13131d1561ee6c21705e6e79d3557e77eb06ffcbddd6aac68822c61bb2"), looks := true }, kinds := [], alts := [], laidByText := true, laidKinds := [.data, .data, .pinned], laidTests := true, laidLooks := .later }
def TagsTellUptoCardSaid : Prop := Claim7.holds Tryd.pinned (.plain (OpenSpec.upto tagsTellSpec)) tagsTellUptoCard

/-- THE SECOND FORM's CARD OF 'lazaretlaw10.TagsWritten'. -/
def tagsWrittenUptoCard : Claim7 := { stood := { row := tagsWrittenUptoRow, standIns := [], harness := (true, "6426fe13131d1561ee6c21705e6e79d3557e77eb06ffcbddd6aac68822c61bb2"), looks := true }, kinds := [], alts := [], laidByText := true, laidKinds := [.data, .data, .pinned], laidTests := true, laidLooks := .later }
def TagsWrittenUptoCardSaid : Prop := Claim7.holds Tryd.pinned (.plain (OpenSpec.upto tagsWrittenSpec)) tagsWrittenUptoCard

/-- THE SECOND FORM's CARD OF 'lazaretlaw10.TagsSwallow'. -/
def tagsSwallowUptoCard : Claim7 := { stood := { row := tagsSwallowUptoRow, standIns := [], harness := (true, "6426fe13131d1561ee6c21705e6e79d3557e77eb06ffcbddd6aac68822c61bb2"), looks := true }, kinds := [], alts := [], laidByText := true, laidKinds := [.data, .data, .pinned], laidTests := true, laidLooks := .later }
def TagsSwallowUptoCardSaid : Prop := Claim7.holds Tryd.pinned (.plain (OpenSpec.upto tagsSwallowSpec)) tagsSwallowUptoCard

/-- THE SECOND FORM's CARD OF 'lazaretlaw10.TagsCut'. -/
def tagsCutUptoCard : Claim7 := { stood := { row := tagsCutUptoRow, standIns := [], harness := (true, "6426fe13131d1561ee6c21705e6e79d3557e77eb06ffcbddd6aac68822c61bb2"), looks := true }, kinds := [], alts := [], laidByText := true, laidKinds := [.data, .data, .pinned], laidTests := true, laidLooks := .later }
def TagsCutUptoCardSaid : Prop := Claim7.holds Tryd.pinned (.plain (OpenSpec.upto tagsCutSpec)) tagsCutUptoCard

/-- THE SECOND FORM's CARD OF 'lazaretlaw10.TagsFirst'. -/
def tagsFirstUptoCard : Claim7 := { stood := { row := tagsFirstUptoRow, standIns := [], harness := (true, "6426fe13131d1561ee6c21705e6e79d3557e77eb06ffcbddd6aac68822c61bb2"), looks := true }, kinds := [], alts := [], laidByText := true, laidKinds := [.data, .data, .pinned], laidTests := true, laidLooks := .later }
def TagsFirstUptoCardSaid : Prop := Claim7.holds Tryd.pinned (.plain (OpenSpec.upto tagsFirstSpec)) tagsFirstUptoCard

/-- THE SECOND FORM's CARD OF 'lazaretlaw25.SourcesBack'. -/
def sourcesBackUptoCard : Claim7 := { stood := { row := sourcesBackUptoRow, standIns := [], harness := (true, "6426fe13131d1561ee6c21705e6e79d3557e77eb06ffcbddd6aac68822c61bb2"), looks := true }, kinds := [], alts := [], laidByText := true, laidKinds := [.data, .data, .data, .data, .handle, .pinned], laidTests := true, laidLooks := .later }
def SourcesBackUptoCardSaid : Prop := Claim7.holds Tryd.pinned (.plain (OpenSpec.upto sourcesBackSpec)) sourcesBackUptoCard

/-- THE SECOND FORM's CARD OF 'lazaretlaw25.SourcesHost'. -/
def sourcesHostUptoCard : Claim7 := { stood := { row := sourcesHostUptoRow, standIns := [], harness := (true, "6426fe13131d1561ee6c21705e6e79d3557e77eb06ffcbddd6aac68822c61bb2"), looks := true }, kinds := [], alts := [], laidByText := true, laidKinds := [.data, .data, .data, .data, .handle, .pinned], laidTests := true, laidLooks := .later }
def SourcesHostUptoCardSaid : Prop := Claim7.holds Tryd.pinned (.plain (OpenSpec.upto sourcesHostSpec)) sourcesHostUptoCard

/-- THE SECOND FORM's CARD OF 'lazaretlaw25.SourcesValues'. -/
def sourcesValuesUptoCard : Claim7 := { stood := { row := sourcesValuesUptoRow, standIns := [], harness := (true, "6426fe13131d1561ee6c21705e6e79d3557e77eb06ffcbddd6aac68822c61bb2"), looks := true }, kinds := [], alts := [], laidByText := true, laidKinds := [.data, .handle, .pinned], laidTests := true, laidLooks := .later }
def SourcesValuesUptoCardSaid : Prop := Claim7.holds Tryd.pinned (.plain (OpenSpec.upto sourcesValuesSpec)) sourcesValuesUptoCard
end Rows
end Go.Proofs.YteeplfbaflldaaaDoor
