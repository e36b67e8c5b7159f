import Derived.Test.YtjnhlkaafnaooaaNumW
namespace Go.Proofs.Ytjnhlkaafnaooaa
open Go.RowKit
theorem xor3_int (a b c : Nat) (ha : a < 4294967296) (hb : b < 4294967296) (hc : c < 4294967296) : bits .xor .i64 (bits .xor .i64 (a : Int) (b : Int)) (c : Int) = ((a ^^^ b ^^^ c : Nat) : Int) := by
  have h1 : a ^^^ b < 4294967296 := Nat.xor_lt_two_pow (n := 32) ha hb
  rw [i64_xor_nat a b (by omega) (by omega), i64_xor_nat _ c (by omega) (by omega)]

end Go.Proofs.Ytjnhlkaafnaooaa
