import Derived.Test.YtjnhlkaafnaooaaFreeW
namespace Go.Proofs.Ytjnhlkaafnaooaa
open Go.RowKit
def roomL (m : DM) (v : VM) (c : Nat) : Nat := if m.ceiling ≤ v.version then 10 else if 40 < v.done + c then 11 else if (freeTo v.used m.blocks.length).length < c then 9 else 0
end Go.Proofs.Ytjnhlkaafnaooaa
