/-
  DERIVED. GIVEN WITH THE SEED: THE CARDS: each row of YtjnhlkaafnaooaaDoorRows.lean that lists a variable, with what it lists TIED to the program's text (the seventh form; the later family's looks); each row that meets fmt, with fmt's text TOLD by the authors' own Lean function (tested against real Go, not proved from fmt's source: count such statements apart). THE CARD IS WHAT COUNTS. Prove the row's statement (the work); the ties are given (YtjnhlkaafnaooaaDoorTie.lean); close each card by the builder's one call (the guide's Derived/Test/ToyasCard.lean, 'card_holds'). Laid BY PROGRAM, IN A SANDBOX (cutbox-door.mjs). By AI agents, Wed Nov 11 2026. No macro, syntax, notation, axiom, sorry.
-/
import Derived.Test.YtjnhlkaafnaooaaDoorRows
import GoSem.ClaimSeven
namespace Go.Proofs.YtjnhlkaafnaooaaDoor
namespace Rows

/-- THE TIED CARD OF 'keystorelaw.Hashed'. -/
def hashedCard : Claim7 := { stood := { row := hashedRow, standIns := [], harness := (true, "49b78ab5655235b18f8ea8681bc6c8f55d36658bb0a4c7237a1aeff57a245a18"), looks := false }, kinds := [], alts := [], laidByText := true, laidKinds := [.data, .data], laidTests := true, laidLooks := .later }
def HashedCardSaid : Prop := Claim7.holds Tryd.pinned (.plain (OpenSpec.ofChange hashedSpec)) hashedCard

/-- THE TIED CARD OF 'keystorelaw.Stretched'. -/
def stretchedCard : Claim7 := { stood := { row := stretchedRow, standIns := [], harness := (true, "49b78ab5655235b18f8ea8681bc6c8f55d36658bb0a4c7237a1aeff57a245a18"), looks := false }, kinds := [], alts := [], laidByText := true, laidKinds := [.data, .data], laidTests := true, laidLooks := .later }
def StretchedCardSaid : Prop := Claim7.holds Tryd.pinned (.plain (OpenSpec.ofChange stretchedSpec)) stretchedCard

/-- THE SECOND FORM's CARD OF 'keystorelaw.Hashed'. -/
def hashedUptoCard : Claim7 := { stood := { row := hashedUptoRow, standIns := [], harness := (true, "49b78ab5655235b18f8ea8681bc6c8f55d36658bb0a4c7237a1aeff57a245a18"), looks := false }, kinds := [], alts := [], laidByText := true, laidKinds := [.data, .data], laidTests := true, laidLooks := .later }
def HashedUptoCardSaid : Prop := Claim7.holds Tryd.pinned (.plain (OpenSpec.upto hashedSpec)) hashedUptoCard

/-- THE SECOND FORM's CARD OF 'keystorelaw.Stretched'. -/
def stretchedUptoCard : Claim7 := { stood := { row := stretchedUptoRow, standIns := [], harness := (true, "49b78ab5655235b18f8ea8681bc6c8f55d36658bb0a4c7237a1aeff57a245a18"), looks := false }, kinds := [], alts := [], laidByText := true, laidKinds := [.data, .data], laidTests := true, laidLooks := .later }
def StretchedUptoCardSaid : Prop := Claim7.holds Tryd.pinned (.plain (OpenSpec.upto stretchedSpec)) stretchedUptoCard
end Rows
end Go.Proofs.YtjnhlkaafnaooaaDoor
