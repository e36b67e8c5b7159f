import Derived.Test.YtjnhlkaafnaooaaRootLW
namespace Go.Proofs.Ytjnhlkaafnaooaa
open Go.RowKit
section
variable {w : World} {n place : Nat} {digest k s : List UInt8} {be cap : Nat}
end
theorem len_maxLen {cap : Nat} (h : cap ≤ maxLen) : (cap : Int) ≤ 9223372036854775807 := by unfold maxLen at h; omega
theorem less_self : ∀ k : List UInt8, Op.bytesLess k k = false
  | [] => rfl
  | a :: k => by simp [Op.bytesLess, less_self k]
section
variable {w : World} {bw b lk : Nat} {top rv : Value} {ch : Bool}
end
end Go.Proofs.Ytjnhlkaafnaooaa
