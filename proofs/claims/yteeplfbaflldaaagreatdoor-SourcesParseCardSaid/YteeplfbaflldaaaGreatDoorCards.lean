/-
  DERIVED. GIVEN WITH THE SEED: THE CARDS: each row of YteeplfbaflldaaaGreatDoorRows.lean that lists a variable, with what it lists TIED to the program's text (the seventh form; the later family's looks); each row that meets fmt, with fmt's text TOLD by the authors' own Lean function (tested against real Go, not proved from fmt's source: count such statements apart). THE CARD IS WHAT COUNTS. Prove the row's statement (the work); the ties are given (YteeplfbaflldaaaGreatDoorTie.lean); close each card by the builder's one call (the guide's Derived/Test/ToyasCard.lean, 'card_holds'). Laid BY PROGRAM, IN A SANDBOX (cutbox-door.mjs). By AI agents, Wed Nov 11 2026. No macro, syntax, notation, axiom, sorry.
-/
import Derived.Test.YteeplfbaflldaaaGreatDoorRows
import GoSem.ClaimSeven
namespace Go.Proofs.YteeplfbaflldaaaGreatDoor
namespace Rows

/-- THE TIED CARD OF 'lazaretlaw25.SourcesParse'. -/
def sourcesParseCard : Claim7 := { stood := { row := sourcesParseRow, standIns := [], harness := (true, "a49524830d6952f41cc29188b7f30d90cba9132c1e6ed3df2719c3f133257152"), looks := true }, kinds := [], alts := [], laidByText := true, laidKinds := [.data, .data, .data, .data, .handle, .pinned], laidTests := true, laidLooks := .later }
def SourcesParseCardSaid : Prop := Claim7.holds Tryz.pinned (.plain (OpenSpec.ofChange sourcesParseSpec)) sourcesParseCard

/-- THE SECOND FORM's CARD OF 'lazaretlaw25.SourcesParse'. -/
def sourcesParseUptoCard : Claim7 := { stood := { row := sourcesParseUptoRow, standIns := [], harness := (true, "a49524830d6952f41cc29188b7f30d90cba9132c1e6ed3df2719c3f133257152"), looks := true }, kinds := [], alts := [], laidByText := true, laidKinds := [.data, .data, .data, .data, .handle, .pinned], laidTests := true, laidLooks := .later }
def SourcesParseUptoCardSaid : Prop := Claim7.holds Tryz.pinned (.plain (OpenSpec.upto sourcesParseSpec)) sourcesParseUptoCard
end Rows
end Go.Proofs.YteeplfbaflldaaaGreatDoor
