import Derived.Test.YtjnhlkaafnaooaaSaveLW
namespace Go.Proofs.Ytjnhlkaafnaooaa
open Go.RowKit
end Go.Proofs.Ytjnhlkaafnaooaa
