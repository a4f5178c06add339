/-
  DERIVED. GIVEN WITH THE SEED: THE CARDS: each row of YtgaeecphohlmpabDoorRows.lean that lists a variable, with what it lists TIED to the program's text (the seventh form; the later family's looks); each row that meets fmt, with fmt's text TOLD by the authors' own Lean function (tested against real Go, not proved from fmt's source: count such statements apart). THE CARD IS WHAT COUNTS. Prove the row's statement (the work); the ties are given (YtgaeecphohlmpabDoorTie.lean); close each card by the builder's one call (the guide's Derived/Test/ToyasCard.lean, 'card_holds'). Laid BY PROGRAM, IN A SANDBOX (cutbox-door.mjs). By AI agents, Wed Nov 11 2026. No macro, syntax, notation, axiom, sorry.
-/
import Derived.Test.YtgaeecphohlmpabDoorRows
import GoSem.ClaimSeven
namespace Go.Proofs.YtgaeecphohlmpabDoor
namespace Rows

/-- THE TIED CARD OF 'lazaretlaw29.TrustedTell'. -/
def trustedTellCard : Claim7 := { stood := { row := trustedTellRow, standIns := [], harness := (true, "9cccdda5c9764384c53bfcaa928f830eb0d486c0840034dc32432547de9679e2"), looks := false }, kinds := [], alts := [], laidByText := true, laidKinds := [.data, .pinned], laidTests := true, laidLooks := .later }
def TrustedTellCardSaid : Prop := Claim7.holds Tryd.pinned (.plain (OpenSpec.ofChange trustedTellSpec)) trustedTellCard

/-- THE TIED CARD OF 'lazaretlaw29.TrustedNames'. -/
def trustedNamesCard : Claim7 := { stood := { row := trustedNamesRow, standIns := [], harness := (true, "9cccdda5c9764384c53bfcaa928f830eb0d486c0840034dc32432547de9679e2"), looks := false }, kinds := [], alts := [], laidByText := true, laidKinds := [.data, .pinned], laidTests := true, laidLooks := .later }
def TrustedNamesCardSaid : Prop := Claim7.holds Tryd.pinned (.plain (OpenSpec.ofChange trustedNamesSpec)) trustedNamesCard

/-- THE TIED CARD OF 'lazaretlaw29.TrustedMore'. -/
def trustedMoreCard : Claim7 := { stood := { row := trustedMoreRow, standIns := [], harness := (true, "9cccdda5c9764384c53bfcaa928f830eb0d486c0840034dc32432547de9679e2"), looks := false }, kinds := [], alts := [], laidByText := true, laidKinds := [.data, .pinned], laidTests := true, laidLooks := .later }
def TrustedMoreCardSaid : Prop := Claim7.holds Tryd.pinned (.plain (OpenSpec.ofChange trustedMoreSpec)) trustedMoreCard

/-- THE SECOND FORM's CARD OF 'lazaretlaw29.TrustedTell'. -/
def trustedTellUptoCard : Claim7 := { stood := { row := trustedTellUptoRow, standIns := [], harness := (true, "9cccdda5c9764384c53bfcaa928f830eb0d486c0840034dc32432547de9679e2"), looks := false }, kinds := [], alts := [], laidByText := true, laidKinds := [.data, .pinned], laidTests := true, laidLooks := .later }
def TrustedTellUptoCardSaid : Prop := Claim7.holds Tryd.pinned (.plain (OpenSpec.upto trustedTellSpec)) trustedTellUptoCard

/-- THE SECOND FORM's CARD OF 'lazaretlaw29.TrustedNames'. -/
def trustedNamesUptoCard : Claim7 := { stood := { row := trustedNamesUptoRow, standIns := [], harness := (true, "9cccdda5c9764384c53bfcaa928f830eb0d486c0840034dc32432547de9679e2"), looks := false }, kinds := [], alts := [], laidByText := true, laidKinds := [.data, .pinned], laidTests := true, laidLooks := .later }
def TrustedNamesUptoCardSaid : Prop := Claim7.holds Tryd.pinned (.plain (OpenSpec.upto trustedNamesSpec)) trustedNamesUptoCard

/-- THE SECOND FORM's CARD OF 'lazaretlaw29.TrustedMore'. -/
def trustedMoreUptoCard : Claim7 := { stood := { row := trustedMoreUptoRow, standIns := [], harness := (true, "9cccdda5c9764384c53bfcaa928f830eb0d486c0840034dc32432547de9679e2"), looks := false }, kinds := [], alts := [], laidByText := true, laidKinds := [.data, .pinned], laidTests := true, laidLooks := .later }
def TrustedMoreUptoCardSaid : Prop := Claim7.holds Tryd.pinned (.plain (OpenSpec.upto trustedMoreSpec)) trustedMoreUptoCard
end Rows
end Go.Proofs.YtgaeecphohlmpabDoor
