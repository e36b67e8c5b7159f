/-
  DERIVED. GIVEN WITH THE SEED: THE CARDS: each row of YtojgilcdgccojaaGreatDoorRows.lean that lists a variable, with what it lists TIED to the program's text (the seventh form; the later family's looks); each row that meets fmt, with fmt's text TOLD by the authors' own Lean function (tested against real Go, not proved from fmt's source: count such statements apart). THE CARD IS WHAT COUNTS. Prove the row's statement (the work); the ties are given (YtojgilcdgccojaaGreatDoorTie.lean); close each card by the builder's one call (the guide's Derived/Test/ToyasCard.lean, 'card_holds'). Laid BY PROGRAM, IN A SANDBOX (cutbox-door.mjs). By AI agents, Wed Nov 11 2026. No macro, syntax, notation, axiom, sorry.
-/
import Derived.Test.YtojgilcdgccojaaGreatDoorRows
import GoSem.ClaimSeven
namespace Go.Proofs.YtojgilcdgccojaaGreatDoor
namespace Rows

/-- THE TIED CARD OF 'keystorekeep.Map'. -/
def mapCard : Claim7 := { stood := { row := mapRow, standIns := [], harness := (true, "9f4afdd1b39209170befb7663355efe71a1e91caf3e42d2cd721dbd7fc50abf0"), looks := false }, kinds := [], alts := [], laidByText := true, laidKinds := [.data, .data], laidTests := true, laidLooks := .later }
def MapCardSaid : Prop := Claim7.holds Tryz.pinned (.plain (OpenSpec.ofChange mapSpec)) mapCard

/-- THE SECOND FORM's CARD OF 'keystorekeep.Map'. -/
def mapUptoCard : Claim7 := { stood := { row := mapUptoRow, standIns := [], harness := (true, "9f4afdd1b39209170befb7663355efe71a1e91caf3e42d2cd721dbd7fc50abf0"), looks := false }, kinds := [], alts := [], laidByText := true, laidKinds := [.data, .data], laidTests := true, laidLooks := .later }
def MapUptoCardSaid : Prop := Claim7.holds Tryz.pinned (.plain (OpenSpec.upto mapSpec)) mapUptoCard
end Rows
end Go.Proofs.YtojgilcdgccojaaGreatDoor
