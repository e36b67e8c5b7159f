import Derived.Test.YtjnhlkaafnaooaaRoomP
namespace Go.Proofs.Ytjnhlkaafnaooaa
open Go.RowKit
def zeroVM : VM := ⟨false, [], .pointer none, .pointer none, 0, 0, 0, 0, [], List.replicate 48 false, .slice none 0 0⟩
end Go.Proofs.Ytjnhlkaafnaooaa
