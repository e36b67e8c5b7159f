import Derived.Test.YtjnhlkaafnaooaaCurW
namespace Go.Proofs.Ytjnhlkaafnaooaa
open Go.RowKit
def entV (k s : List UInt8) (p : Nat) (d : List UInt8) (c : Value) : List Value := [strV k, strV s, .int .i64 p, strV d, c]
end Go.Proofs.Ytjnhlkaafnaooaa
