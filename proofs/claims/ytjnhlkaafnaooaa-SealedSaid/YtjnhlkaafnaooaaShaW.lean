import Derived.Test.YtjnhlkaafnaooaaStepW
namespace Go.Proofs.Ytjnhlkaafnaooaa
open Go.RowKit
theorem ones8 (v : Nat) (w : World) (h : v < 1099511627776) : Calls Try.prog 20 #[.int .i64 (v : Int), .int .i64 8] w fun e w' => e = .returned (.string ⟨(onesL v 8).toArray⟩) ∧ Below w.heap.size w w' := ones_any 8 v w (by decide) h
theorem ones4 (v : Nat) (w : World) (h : v < 1099511627776) : Calls Try.prog 20 #[.int .i64 (v : Int), .int .i64 4] w fun e w' => e = .returned (.string ⟨(onesL v 4).toArray⟩) ∧ Below w.heap.size w w' := ones_any 4 v w (by decide) h

def padTo (t : List UInt8) (j : Nat) : List UInt8 := t ++ 128 :: List.replicate j 0
theorem padTo_len (t : List UInt8) (j : Nat) : (padTo t j).length = t.length + 1 + j := by simp [padTo]; omega
theorem padTo_succ (t : List UInt8) (j : Nat) : padTo t (j + 1) = padTo t j ++ [0] := by simp [padTo, List.replicate_succ']
def sizeOfStr : Value → Nat
  | .string s => s.size
  | _ => 0
end Go.Proofs.Ytjnhlkaafnaooaa
