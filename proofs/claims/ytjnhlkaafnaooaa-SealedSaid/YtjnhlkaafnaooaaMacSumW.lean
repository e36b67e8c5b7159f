import Derived.Test.YtjnhlkaafnaooaaKeyedW
namespace Go.Proofs.Ytjnhlkaafnaooaa
open Go.RowKit
end Go.Proofs.Ytjnhlkaafnaooaa
