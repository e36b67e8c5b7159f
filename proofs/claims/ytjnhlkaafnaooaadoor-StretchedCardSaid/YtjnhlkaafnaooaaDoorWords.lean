import Derived.Test.YtjnhlkaafnaooaaDoorPlain
import Derived.Test.YtjnhlkaafnaooaaDoorField
namespace Go.Proofs.YtjnhlkaafnaooaaDoor
/-- A number as n bytes, the high one first. -/
def onesL : Nat → Nat → List UInt8
  | _, 0 => []
  | v, n + 1 => onesL (v / 256) n ++ [UInt8.ofNat (v % 256)]
theorem onesL_len : ∀ n v, (onesL v n).length = n
  | 0, _ => rfl
  | n + 1, v => by simp [onesL, onesL_len n]
/-- The number that bytes are. -/
def numL (l : List UInt8) : Nat := l.foldl (fun v b => v * 256 + b.toNat) 0
theorem numL_snoc (l : List UInt8) (b : UInt8) : numL (l ++ [b]) = numL l * 256 + b.toNat := by simp [numL]
theorem numL_go : ∀ (l : List UInt8) (v : Nat), l.foldl (fun v b => v * 256 + b.toNat) v < (v + 1) * 256 ^ l.length
  | [], v => by simp
  | b :: l, v => by
    have h := numL_go l (v * 256 + b.toNat)
    have hb : v * 256 + b.toNat + 1 ≤ (v + 1) * 256 := by have := b.toNat_lt; omega
    have h2 := Nat.mul_le_mul_right (256 ^ l.length) hb
    rw [List.foldl_cons, List.length_cons, Nat.pow_succ, Nat.mul_comm (256 ^ l.length), ← Nat.mul_assoc]
    exact Nat.lt_of_lt_of_le h h2
theorem numL_lt (l : List UInt8) : numL l < 256 ^ l.length := by
  have := numL_go l 0
  simpa [numL] using this
end Go.Proofs.YtjnhlkaafnaooaaDoor
