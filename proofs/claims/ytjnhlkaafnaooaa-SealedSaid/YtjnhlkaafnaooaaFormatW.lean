import Derived.Test.YtjnhlkaafnaooaaBeginW
namespace Go.Proofs.Ytjnhlkaafnaooaa
open Go.RowKit
def salt0 : List UInt8 := List.replicate 16 0
end Go.Proofs.Ytjnhlkaafnaooaa
