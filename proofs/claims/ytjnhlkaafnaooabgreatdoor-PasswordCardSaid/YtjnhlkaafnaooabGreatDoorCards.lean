/-
  DERIVED. GIVEN WITH THE SEED: THE CARDS: each row of YtjnhlkaafnaooabGreatDoorRows.lean that lists a variable, with what it lists TIED to the program's text (the seventh form; the later family's looks); each row that meets fmt, with fmt's text TOLD by the authors' own Lean function (tested against real Go, not proved from fmt's source: count such statements apart). THE CARD IS WHAT COUNTS. Prove the row's statement (the work); the ties are given (YtjnhlkaafnaooabGreatDoorTie.lean); close each card by the builder's one call (the guide's Derived/Test/ToyasCard.lean, 'card_holds'). Laid BY PROGRAM, IN A SANDBOX (cutbox-door.mjs). By AI agents, Wed Nov 11 2026. No macro, syntax, notation, axiom, sorry.
-/
import Derived.Test.YtjnhlkaafnaooabGreatDoorRows
import GoSem.ClaimSeven
namespace Go.Proofs.YtjnhlkaafnaooabGreatDoor
namespace Rows

/-- THE TIED CARD OF 'keystorekeep.Crash'. -/
def crashCard : Claim7 := { stood := { row := crashRow, standIns := [], harness := (true, "0b7906f10f67b7168bbe30023c665e6035bda3f4fcb270867ebf9510d05cfcee"), looks := false }, kinds := [], alts := [], laidByText := true, laidKinds := [.data, .data], laidTests := true, laidLooks := .later }
def CrashCardSaid : Prop := Claim7.holds Tryz.pinned (.plain (OpenSpec.ofChange crashSpec)) crashCard

/-- THE TIED CARD OF 'keystorekeep.Guard'. -/
def guardCard : Claim7 := { stood := { row := guardRow, standIns := [], harness := (true, "0b7906f10f67b7168bbe30023c665e6035bda3f4fcb270867ebf9510d05cfcee"), looks := false }, kinds := [], alts := [], laidByText := true, laidKinds := [.data, .data], laidTests := true, laidLooks := .later }
def GuardCardSaid : Prop := Claim7.holds Tryz.pinned (.plain (OpenSpec.ofChange guardSpec)) guardCard

/-- THE TIED CARD OF 'keystorekeep.Nonces'. -/
def noncesCard : Claim7 := { stood := { row := noncesRow, standIns := [], harness := (true, "0b7906f10f67b7168bbe30023c665e6035bda3f4fcb270867ebf9510d05cfcee"), looks := false }, kinds := [], alts := [], laidByText := true, laidKinds := [.data, .data], laidTests := true, laidLooks := .later }
def NoncesCardSaid : Prop := Claim7.holds Tryz.pinned (.plain (OpenSpec.ofChange noncesSpec)) noncesCard

/-- THE TIED CARD OF 'keystorekeep.Password'. -/
def passwordCard : Claim7 := { stood := { row := passwordRow, standIns := [], harness := (true, "0b7906f10f67b7168bbe30023c665e6035bda3f4fcb270867ebf9510d05cfcee"), looks := false }, kinds := [], alts := [], laidByText := true, laidKinds := [.data, .data], laidTests := true, laidLooks := .later }
def PasswordCardSaid : Prop := Claim7.holds Tryz.pinned (.plain (OpenSpec.ofChange passwordSpec)) passwordCard

/-- THE TIED CARD OF 'keystorekeep.Room'. -/
def roomCard : Claim7 := { stood := { row := roomRow, standIns := [], harness := (true, "0b7906f10f67b7168bbe30023c665e6035bda3f4fcb270867ebf9510d05cfcee"), looks := false }, kinds := [], alts := [], laidByText := true, laidKinds := [.data, .data], laidTests := true, laidLooks := .later }
def RoomCardSaid : Prop := Claim7.holds Tryz.pinned (.plain (OpenSpec.ofChange roomSpec)) roomCard

/-- THE TIED CARD OF 'keystorekeep.Keeps'. -/
def keepsCard : Claim7 := { stood := { row := keepsRow, standIns := [], harness := (true, "0b7906f10f67b7168bbe30023c665e6035bda3f4fcb270867ebf9510d05cfcee"), looks := false }, kinds := [], alts := [], laidByText := true, laidKinds := [.data, .data], laidTests := true, laidLooks := .later }
def KeepsCardSaid : Prop := Claim7.holds Tryz.pinned (.plain (OpenSpec.ofChange keepsSpec)) keepsCard

/-- THE SECOND FORM's CARD OF 'keystorekeep.Crash'. -/
def crashUptoCard : Claim7 := { stood := { row := crashUptoRow, standIns := [], harness := (true, "0b7906f10f67b7168bbe30023c665e6035bda3f4fcb270867ebf9510d05cfcee"), looks := false }, kinds := [], alts := [], laidByText := true, laidKinds := [.data, .data], laidTests := true, laidLooks := .later }
def CrashUptoCardSaid : Prop := Claim7.holds Tryz.pinned (.plain (OpenSpec.upto crashSpec)) crashUptoCard

/-- THE SECOND FORM's CARD OF 'keystorekeep.Guard'. -/
def guardUptoCard : Claim7 := { stood := { row := guardUptoRow, standIns := [], harness := (true, "0b7906f10f67b7168bbe30023c665e6035bda3f4fcb270867ebf9510d05cfcee"), looks := false }, kinds := [], alts := [], laidByText := true, laidKinds := [.data, .data], laidTests := true, laidLooks := .later }
def GuardUptoCardSaid : Prop := Claim7.holds Tryz.pinned (.plain (OpenSpec.upto guardSpec)) guardUptoCard

/-- THE SECOND FORM's CARD OF 'keystorekeep.Nonces'. -/
def noncesUptoCard : Claim7 := { stood := { row := noncesUptoRow, standIns := [], harness := (true, "0b7906f10f67b7168bbe30023c665e6035bda3f4fcb270867ebf9510d05cfcee"), looks := false }, kinds := [], alts := [], laidByText := true, laidKinds := [.data, .data], laidTests := true, laidLooks := .later }
def NoncesUptoCardSaid : Prop := Claim7.holds Tryz.pinned (.plain (OpenSpec.upto noncesSpec)) noncesUptoCard

/-- THE SECOND FORM's CARD OF 'keystorekeep.Password'. -/
def passwordUptoCard : Claim7 := { stood := { row := passwordUptoRow, standIns := [], harness := (true, "0b7906f10f67b7168bbe30023c665e6035bda3f4fcb270867ebf9510d05cfcee"), looks := false }, kinds := [], alts := [], laidByText := true, laidKinds := [.data, .data], laidTests := true, laidLooks := .later }
def PasswordUptoCardSaid : Prop := Claim7.holds Tryz.pinned (.plain (OpenSpec.upto passwordSpec)) passwordUptoCard

/-- THE SECOND FORM's CARD OF 'keystorekeep.Room'. -/
def roomUptoCard : Claim7 := { stood := { row := roomUptoRow, standIns := [], harness := (true, "0b7906f10f67b7168bbe30023c665e6035bda3f4fcb270867ebf9510d05cfcee"), looks := false }, kinds := [], alts := [], laidByText := true, laidKinds := [.data, .data], laidTests := true, laidLooks := .later }
def RoomUptoCardSaid : Prop := Claim7.holds Tryz.pinned (.plain (OpenSpec.upto roomSpec)) roomUptoCard

/-- THE SECOND FORM's CARD OF 'keystorekeep.Keeps'. -/
def keepsUptoCard : Claim7 := { stood := { row := keepsUptoRow, standIns := [], harness := (true, "0b7906f10f67b7168bbe30023c665e6035bda3f4fcb270867ebf9510d05cfcee"), looks := false }, kinds := [], alts := [], laidByText := true, laidKinds := [.data, .data], laidTests := true, laidLooks := .later }
def KeepsUptoCardSaid : Prop := Claim7.holds Tryz.pinned (.plain (OpenSpec.upto keepsSpec)) keepsUptoCard
end Rows
end Go.Proofs.YtjnhlkaafnaooabGreatDoor
