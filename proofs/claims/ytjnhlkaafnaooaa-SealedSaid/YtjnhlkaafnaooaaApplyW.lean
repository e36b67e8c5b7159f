import Derived.Test.YtjnhlkaafnaooaaWorkW
namespace Go.Proofs.Ytjnhlkaafnaooaa
open Go.RowKit
end Go.Proofs.Ytjnhlkaafnaooaa
