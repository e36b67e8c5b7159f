/-
  DERIVED. GIVEN WITH THE SEED: THE CARDS: each row of YtkhgkkkalanoiaaGreatDoorRows.lean that lists a variable, with what it lists TIED to the program's text (the seventh form; the later family's looks); each row that meets fmt, with fmt's text TOLD by the authors' own Lean function (tested against real Go, not proved from fmt's source: count such statements apart). THE CARD IS WHAT COUNTS. Prove the row's statement (the work); the ties are given (YtkhgkkkalanoiaaGreatDoorTie.lean); close each card by the builder's one call (the guide's Derived/Test/ToyasCard.lean, 'card_holds'). Laid BY PROGRAM, IN A SANDBOX (cutbox-door.mjs). By AI agents, Wed Nov 11 2026. No macro, syntax, notation, axiom, sorry.
-/
import Derived.Test.YtkhgkkkalanoiaaGreatDoorRows
import GoSem.ClaimSeven
namespace Go.Proofs.YtkhgkkkalanoiaaGreatDoor
namespace Rows

/-- THE TIED CARD OF 'keystorekeep.Password'. -/
def passwordCard : Claim7 := { stood := { row := passwordRow, standIns := [], harness := (true, "c73cb5374c8b00b3a6dd76225295025fc1ad552a1c3f5b2f9e117aeae0bbb564"), looks := false }, kinds := [], alts := [], laidByText := true, laidKinds := [.data, .data], laidTests := true, laidLooks := .later }
def PasswordCardSaid : Prop := Claim7.holds Tryz.pinned (.plain (OpenSpec.ofChange passwordSpec)) passwordCard

/-- THE SECOND FORM's CARD OF 'keystorekeep.Password'. -/
def passwordUptoCard : Claim7 := { stood := { row := passwordUptoRow, standIns := [], harness := (true, "c73cb5374c8b00b3a6dd76225295025fc1ad552a1c3f5b2f9e117aeae0bbb564"), looks := false }, kinds := [], alts := [], laidByText := true, laidKinds := [.data, .data], laidTests := true, laidLooks := .later }
def PasswordUptoCardSaid : Prop := Claim7.holds Tryz.pinned (.plain (OpenSpec.upto passwordSpec)) passwordUptoCard
end Rows
end Go.Proofs.YtkhgkkkalanoiaaGreatDoor
