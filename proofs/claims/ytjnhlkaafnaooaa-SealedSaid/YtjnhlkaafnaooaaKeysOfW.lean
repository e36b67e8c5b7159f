import Derived.Test.YtjnhlkaafnaooaaPageW
namespace Go.Proofs.Ytjnhlkaafnaooaa
open Go.RowKit
theorem keyL_len (pass salt : List UInt8) (r : Int) (n : Nat) : (keyL pass salt r n).length = n := by
  unfold keyL
  rw [List.length_take, keyTo_len]
  omega
theorem tagsL_len (pass salt : List UInt8) : (tagsL pass salt).length = 32 := by unfold tagsL stretchL; rw [List.length_take, keyL_len]; decide
theorem pagesL_len (pass salt : List UInt8) : (pagesL pass salt).length = 32 := by unfold pagesL stretchL; rw [List.length_drop, keyL_len]
end Go.Proofs.Ytjnhlkaafnaooaa
