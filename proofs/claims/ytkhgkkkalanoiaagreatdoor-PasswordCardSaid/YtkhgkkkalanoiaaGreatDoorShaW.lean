import Derived.Test.YtkhgkkkalanoiaaGreatDoorStepW
namespace Go.Proofs.YtkhgkkkalanoiaaGreatDoor
open Go.RowKit
def padTo (t : List UInt8) (j : Nat) : List UInt8 := t ++ 128 :: List.replicate j 0
theorem padTo_len (t : List UInt8) (j : Nat) : (padTo t j).length = t.length + 1 + j := by simp [padTo]; omega
theorem padTo_succ (t : List UInt8) (j : Nat) : padTo t (j + 1) = padTo t j ++ [0] := by simp [padTo, List.replicate_succ']
def sizeOfStr : Value → Nat
  | .string s => s.size
  | _ => 0
end Go.Proofs.YtkhgkkkalanoiaaGreatDoor
