import Derived.Test.YtjnhlkaafnaooaaTreeW
namespace Go.Proofs.Ytjnhlkaafnaooaa
open Go.RowKit
end Go.Proofs.Ytjnhlkaafnaooaa
