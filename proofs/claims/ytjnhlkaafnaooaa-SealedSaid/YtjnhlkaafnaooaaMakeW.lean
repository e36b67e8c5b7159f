import Derived.Test.YtjnhlkaafnaooaaFlushW
namespace Go.Proofs.Ytjnhlkaafnaooaa
open Go.RowKit
theorem info_string : (Try.prog.info? 9).map (fun i => (i.zero, i.size, i.bytes)) = some (some (.string ⟨#[]⟩), 1, 16) := by kernel_rfl
def zeroBlock : List UInt8 := List.replicate 256 0
def mk7 (v0 v1 : Value) (c : Nat) : Array Value := #[v0, v1, .int .i64 0, .int .i64 (c : Int), .slice none 0 0, .int .i64 (-1), .slice none 0 0]
end Go.Proofs.Ytjnhlkaafnaooaa
