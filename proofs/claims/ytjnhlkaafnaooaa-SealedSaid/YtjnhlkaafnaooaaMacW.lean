import Derived.Test.YtjnhlkaafnaooaaShaW
import Derived.Test.YtjnhlkaafnaooaaWriteW
import Derived.Test.YtjnhlkaafnaooaaMacP
import Derived.Laws.BitsAllLaws
namespace Go.Proofs.Ytjnhlkaafnaooaa
open Go.RowKit
end Go.Proofs.Ytjnhlkaafnaooaa
