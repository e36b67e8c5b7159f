import Derived.Test.YtjnhlkaafnaooaaTextLW
namespace Go.Proofs.Ytjnhlkaafnaooaa
open Go.RowKit
theorem leafPage_len (rk k s : List UInt8) (a c p : Nat) (hr : rk.length = 240) : (pageL rk a c p (leafOne k s)).length = 256 := by rw [pageL_len _ _ _ _ _ hr, leafOne_len]
end Go.Proofs.Ytjnhlkaafnaooaa
