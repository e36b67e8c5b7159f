import Derived.Test.YtjnhlkaafnaooaaLookW
namespace Go.Proofs.Ytjnhlkaafnaooaa
open Go.RowKit
end Go.Proofs.Ytjnhlkaafnaooaa
