/-
  DERIVED. GIVEN WITH THE SEED: THE CARDS: each row of YtfbmabbehiicmaaDoorRows.lean that lists a variable, with what it lists TIED to the program's text (the seventh form; the later family's looks); each row that meets fmt, with fmt's text TOLD by the authors' own Lean function (tested against real Go, not proved from fmt's source: count such statements apart). THE CARD IS WHAT COUNTS. Prove the row's statement (the work); the ties are given (YtfbmabbehiicmaaDoorTie.lean); close each card by the builder's one call (the guide's Derived/Test/ToyasCard.lean, 'card_holds'). Laid BY PROGRAM, IN A SANDBOX (cutbox-door.mjs). By AI agents, Wed Nov 11 2026. No macro, syntax, notation, axiom, sorry.
-/
import Derived.Test.YtfbmabbehiicmaaDoorRows
import GoSem.ClaimSeven
namespace Go.Proofs.YtfbmabbehiicmaaDoor
namespace Rows

/-- THE TIED CARD OF 'lazaretlaw01.TextsTell'. -/
def textsTellCard : Claim7 := { stood := { row := textsTellRow, standIns := [], harness := (true, "92f518e725be9515f072c19c7b4f085381f9765f9a036d5fcff6f3bb5a0d18ed"), looks := false }, kinds := [], alts := [], laidByText := true, laidKinds := [.data, .data, .pinned], laidTests := true, laidLooks := .later }
def TextsTellCardSaid : Prop := Claim7.holds Tryd.pinned (.plain (OpenSpec.ofChange textsTellSpec)) textsTellCard

/-- THE TIED CARD OF 'lazaretlaw01.TextsWhole'. -/
def textsWholeCard : Claim7 := { stood := { row := textsWholeRow, standIns := [], harness := (true, "92f518e725be9515f072c19c7b4f085381f9765f9a036d5fcff6f3bb5a0d18ed"), looks := false }, kinds := [], alts := [], laidByText := true, laidKinds := [.data, .data, .pinned], laidTests := true, laidLooks := .later }
def TextsWholeCardSaid : Prop := Claim7.holds Tryd.pinned (.plain (OpenSpec.ofChange textsWholeSpec)) textsWholeCard

/-- THE TIED CARD OF 'lazaretlaw01.TextsPieces'. -/
def textsPiecesCard : Claim7 := { stood := { row := textsPiecesRow, standIns := [], harness := (true, "92f518e725be9515f072c19c7b4f085381f9765f9a036d5fcff6f3bb5a0d18ed"), looks := false }, kinds := [], alts := [], laidByText := true, laidKinds := [.data, .data, .pinned], laidTests := true, laidLooks := .later }
def TextsPiecesCardSaid : Prop := Claim7.holds Tryd.pinned (.plain (OpenSpec.ofChange textsPiecesSpec)) textsPiecesCard

/-- THE TIED CARD OF 'lazaretlaw01.TextsLines'. -/
def textsLinesCard : Claim7 := { stood := { row := textsLinesRow, standIns := [], harness := (true, "92f518e725be9515f072c19c7b4f085381f9765f9a036d5fcff6f3bb5a0d18ed"), looks := false }, kinds := [], alts := [], laidByText := true, laidKinds := [.data, .data, .pinned], laidTests := true, laidLooks := .later }
def TextsLinesCardSaid : Prop := Claim7.holds Tryd.pinned (.plain (OpenSpec.ofChange textsLinesSpec)) textsLinesCard

/-- THE TIED CARD OF 'lazaretlaw03.BaseTell'. -/
def baseTellCard : Claim7 := { stood := { row := baseTellRow, standIns := [], harness := (true, "92f518e725be9515f072c19c7b4f085381f9765f9a036d5fcff6f3bb5a0d18ed"), looks := false }, kinds := [], alts := [], laidByText := true, laidKinds := [.data, .pinned], laidTests := true, laidLooks := .later }
def BaseTellCardSaid : Prop := Claim7.holds Tryd.pinned (.plain (OpenSpec.ofChange baseTellSpec)) baseTellCard

/-- THE TIED CARD OF 'lazaretlaw03.BaseBack'. -/
def baseBackCard : Claim7 := { stood := { row := baseBackRow, standIns := [], harness := (true, "92f518e725be9515f072c19c7b4f085381f9765f9a036d5fcff6f3bb5a0d18ed"), looks := false }, kinds := [], alts := [], laidByText := true, laidKinds := [.data, .pinned], laidTests := true, laidLooks := .later }
def BaseBackCardSaid : Prop := Claim7.holds Tryd.pinned (.plain (OpenSpec.ofChange baseBackSpec)) baseBackCard

/-- THE TIED CARD OF 'lazaretlaw03.BaseWay'. -/
def baseWayCard : Claim7 := { stood := { row := baseWayRow, standIns := [], harness := (true, "92f518e725be9515f072c19c7b4f085381f9765f9a036d5fcff6f3bb5a0d18ed"), looks := false }, kinds := [], alts := [], laidByText := true, laidKinds := [.data, .pinned], laidTests := true, laidLooks := .later }
def BaseWayCardSaid : Prop := Claim7.holds Tryd.pinned (.plain (OpenSpec.ofChange baseWaySpec)) baseWayCard

/-- THE TIED CARD OF 'lazaretlaw03.BaseSpoilt'. -/
def baseSpoiltCard : Claim7 := { stood := { row := baseSpoiltRow, standIns := [], harness := (true, "92f518e725be9515f072c19c7b4f085381f9765f9a036d5fcff6f3bb5a0d18ed"), looks := false }, kinds := [], alts := [], laidByText := true, laidKinds := [.data, .pinned], laidTests := true, laidLooks := .later }
def BaseSpoiltCardSaid : Prop := Claim7.holds Tryd.pinned (.plain (OpenSpec.ofChange baseSpoiltSpec)) baseSpoiltCard

/-- THE SECOND FORM's CARD OF 'lazaretlaw01.TextsTell'. -/
def textsTellUptoCard : Claim7 := { stood := { row := textsTellUptoRow, standIns := [], harness := (true, "92f518e725be9515f072c19c7b4f085381f9765f9a036d5fcff6f3bb5a0d18ed"), looks := false }, kinds := [], alts := [], laidByText := true, laidKinds := [.data, .data, .pinned], laidTests := true, laidLooks := .later }
def TextsTellUptoCardSaid : Prop := Claim7.holds Tryd.pinned (.plain (OpenSpec.upto textsTellSpec)) textsTellUptoCard

/-- THE SECOND FORM's CARD OF 'lazaretlaw01.TextsWhole'. -/
def textsWholeUptoCard : Claim7 := { stood := { row := textsWholeUptoRow, standIns := [], harness := (true, "92f518e725be9515f072c19c7b4f085381f9765f9a036d5fcff6f3bb5a0d18ed"), looks := false }, kinds := [], alts := [], laidByText := true, laidKinds := [.data, .data, .pinned], laidTests := true, laidLooks := .later }
def TextsWholeUptoCardSaid : Prop := Claim7.holds Tryd.pinned (.plain (OpenSpec.upto textsWholeSpec)) textsWholeUptoCard

/-- THE SECOND FORM's CARD OF 'lazaretlaw01.TextsPieces'. -/
def textsPiecesUptoCard : Claim7 := { stood := { row := textsPiecesUptoRow, standIns := [], harness := (true, "92f518e725be9515f072c19c7b4f085381f9765f9a036d5fcff6f3bb5a0d18ed"), looks := false }, kinds := [], alts := [], laidByText := true, laidKinds := [.data, .data, .pinned], laidTests := true, laidLooks := .later }
def TextsPiecesUptoCardSaid : Prop := Claim7.holds Tryd.pinned (.plain (OpenSpec.upto textsPiecesSpec)) textsPiecesUptoCard

/-- THE SECOND FORM's CARD OF 'lazaretlaw01.TextsLines'. -/
def textsLinesUptoCard : Claim7 := { stood := { row := textsLinesUptoRow, standIns := [], harness := (true, "92f518e725be9515f072c19c7b4f085381f9765f9a036d5fcff6f3bb5a0d18ed"), looks := false }, kinds := [], alts := [], laidByText := true, laidKinds := [.data, .data, .pinned], laidTests := true, laidLooks := .later }
def TextsLinesUptoCardSaid : Prop := Claim7.holds Tryd.pinned (.plain (OpenSpec.upto textsLinesSpec)) textsLinesUptoCard

/-- THE SECOND FORM's CARD OF 'lazaretlaw03.BaseTell'. -/
def baseTellUptoCard : Claim7 := { stood := { row := baseTellUptoRow, standIns := [], harness := (true, "92f518e725be9515f072c19c7b4f085381f9765f9a036d5fcff6f3bb5a0d18ed"), looks := false }, kinds := [], alts := [], laidByText := true, laidKinds := [.data, .pinned], laidTests := true, laidLooks := .later }
def BaseTellUptoCardSaid : Prop := Claim7.holds Tryd.pinned (.plain (OpenSpec.upto baseTellSpec)) baseTellUptoCard

/-- THE SECOND FORM's CARD OF 'lazaretlaw03.BaseBack'. -/
def baseBackUptoCard : Claim7 := { stood := { row := baseBackUptoRow, standIns := [], harness := (true, "92f518e725be9515f072c19c7b4f085381f9765f9a036d5fcff6f3bb5a0d18ed"), looks := false }, kinds := [], alts := [], laidByText := true, laidKinds := [.data, .pinned], laidTests := true, laidLooks := .later }
def BaseBackUptoCardSaid : Prop := Claim7.holds Tryd.pinned (.plain (OpenSpec.upto baseBackSpec)) baseBackUptoCard

/-- THE SECOND FORM's CARD OF 'lazaretlaw03.BaseWay'. -/
def baseWayUptoCard : Claim7 := { stood := { row := baseWayUptoRow, standIns := [], harness := (true, "92f518e725be9515f072c19c7b4f085381f9765f9a036d5fcff6f3bb5a0d18ed"), looks := false }, kinds := [], alts := [], laidByText := true, laidKinds := [.data, .pinned], laidTests := true, laidLooks := .later }
def BaseWayUptoCardSaid : Prop := Claim7.holds Tryd.pinned (.plain (OpenSpec.upto baseWaySpec)) baseWayUptoCard

/-- THE SECOND FORM's CARD OF 'lazaretlaw03.BaseSpoilt'. -/
def baseSpoiltUptoCard : Claim7 := { stood := { row := baseSpoiltUptoRow, standIns := [], harness := (true, "92f518e725be9515f072c19c7b4f085381f9765f9a036d5fcff6f3bb5a0d18ed"), looks := false }, kinds := [], alts := [], laidByText := true, laidKinds := [.data, .pinned], laidTests := true, laidLooks := .later }
def BaseSpoiltUptoCardSaid : Prop := Claim7.holds Tryd.pinned (.plain (OpenSpec.upto baseSpoiltSpec)) baseSpoiltUptoCard
end Rows
end Go.Proofs.YtfbmabbehiicmaaDoor
