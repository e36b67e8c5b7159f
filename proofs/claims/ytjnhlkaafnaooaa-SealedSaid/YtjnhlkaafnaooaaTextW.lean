import Derived.Test.YtjnhlkaafnaooaaMakeW
import Derived.Test.YtjnhlkaafnaooaaVaultP
namespace Go.Proofs.Ytjnhlkaafnaooaa
open Go.RowKit
theorem rep_set (k : Nat) (x : Nat) (l : List Nat) : (List.replicate (k + 1) 0 ++ l).set k x = List.replicate k 0 ++ (x :: l) := by
  rw [List.replicate_succ', List.append_assoc, List.set_append_right _ _ (by simp)]
  simp
theorem made_u8 (n : Nat) : madeCells #[.int .u8 0] n = (vals .u8 (List.replicate n 0)).toArray := by
  apply Array.ext
  · simp [madeCells, vals]
  · intro i h1 h2
    simp [madeCells, vals, Nat.mod_one]
end Go.Proofs.Ytjnhlkaafnaooaa
