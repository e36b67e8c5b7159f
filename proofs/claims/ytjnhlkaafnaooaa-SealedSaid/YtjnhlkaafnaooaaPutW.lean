import Derived.Test.YtjnhlkaafnaooaaFormatW
import Derived.Laws.AppendOwnNone
namespace Go.Proofs.Ytjnhlkaafnaooaa
open Go.RowKit
end Go.Proofs.Ytjnhlkaafnaooaa
