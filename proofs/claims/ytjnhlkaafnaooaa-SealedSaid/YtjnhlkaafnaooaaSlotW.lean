import Derived.Test.YtjnhlkaafnaooaaTextW
import Derived.Test.YtjnhlkaafnaooaaRegW
import Derived.Test.YtjnhlkaafnaooaaMacSumW
namespace Go.Proofs.Ytjnhlkaafnaooaa
open Go.RowKit
end Go.Proofs.Ytjnhlkaafnaooaa
