import Derived.Test.YtjnhlkaafnaooaaNodeW
import Derived.Test.YtjnhlkaafnaooaaNodeP
namespace Go.Proofs.Ytjnhlkaafnaooaa
open Go.RowKit
section
variable {w : World} {n : Nat} {leaf : Bool} {place : Nat} {digest : List UInt8} {ev : Value}
end
end Go.Proofs.Ytjnhlkaafnaooaa
