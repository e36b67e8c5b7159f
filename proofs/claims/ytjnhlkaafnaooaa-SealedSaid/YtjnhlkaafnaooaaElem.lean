import Derived.Test.YtjnhlkaafnaooaaGf
namespace Go.Proofs.Ytjnhlkaafnaooaa
/-- Two halves of 64 bits. -/
theorem half_xor (a b c d : Nat) (hb : b < 2 ^ 64) (hd : d < 2 ^ 64) : (a * 2 ^ 64 + b) ^^^ (c * 2 ^ 64 + d) = (a ^^^ c) * 2 ^ 64 + (b ^^^ d) := by
  have hbd : b ^^^ d < 2 ^ 64 := Nat.xor_lt_two_pow hb hd
  apply Nat.eq_of_testBit_eq
  intro i
  have e : ∀ a b, b < 2 ^ 64 → (a * 2 ^ 64 + b).testBit i = if i < 64 then b.testBit i else a.testBit (i - 64) := fun a b hb => by
    rw [Nat.mul_comm]; exact Nat.testBit_two_pow_mul_add a hb i
  rw [Nat.testBit_xor, e a b hb, e c d hd, e _ _ hbd, Nat.testBit_xor, Nat.testBit_xor]
  split <;> rfl
theorem xor_hi (x y : Nat) : (x ^^^ y) / 2 ^ 64 = x / 2 ^ 64 ^^^ y / 2 ^ 64 := by
  rw [← Nat.shiftRight_eq_div_pow, ← Nat.shiftRight_eq_div_pow, ← Nat.shiftRight_eq_div_pow, Nat.shiftRight_xor_distrib]
theorem xor_lo (x y : Nat) : (x ^^^ y) % 2 ^ 64 = x % 2 ^ 64 ^^^ y % 2 ^ 64 := Nat.xor_mod_two_pow
theorem or_join64 (a b : Nat) (i : Nat) (ha : a % 2 ^ i = 0) (hb : b < 2 ^ i) : a ||| b = a + b := by
  have h : a = 2 ^ i * (a / 2 ^ i) := by have := Nat.div_add_mod a (2 ^ i); omega
  rw [h, Nat.two_pow_add_eq_or_of_lt hb]
/-- The field's x, in halves. -/
theorem sh_hi (e : Nat) : sh e / 2 ^ 64 = if e % 2 ^ 64 % 2 = 1 then e / 2 ^ 64 / 2 ^^^ 225 * 2 ^ 56 else e / 2 ^ 64 / 2 := by
  have h1 : e % 2 ^ 64 % 2 = e % 2 := by omega
  have h2 : e / 2 / 2 ^ 64 = e / 2 ^ 64 / 2 := by omega
  rw [h1]
  unfold sh
  split
  · rw [xor_hi, h2]; rfl
  · exact h2
theorem sh_lo (e : Nat) : sh e % 2 ^ 64 = (e / 2 ^ 64 % 2) * 2 ^ 63 ||| e % 2 ^ 64 / 2 := by
  have h3 : (e / 2) % 2 ^ 64 = (e / 2 ^ 64 % 2) * 2 ^ 63 + e % 2 ^ 64 / 2 := by omega
  rw [or_join64 _ _ 63 (Nat.mul_mod_left _ _) (by omega), ← h3]
  unfold sh
  split
  · rw [xor_lo]
    have : ghR % 2 ^ 64 = 0 := by decide
    rw [this, Nat.xor_zero]
  · rfl
/-- An element moved to the left by k bits: its highest bit. -/
def leftN (x k : Nat) : Nat := x * 2 ^ k % 2 ^ 128
theorem left_zero (x : Nat) (h : x < 2 ^ 128) : leftN x 0 = x := by unfold leftN; rw [Nat.pow_zero, Nat.mul_one, Nat.mod_eq_of_lt h]
theorem left_lt (x k : Nat) : leftN x k < 2 ^ 128 := Nat.mod_lt _ (by decide)
theorem left_succ (x k : Nat) : leftN x (k + 1) = 2 * leftN x k % 2 ^ 128 := by
  unfold leftN
  rw [Nat.pow_succ, ← Nat.mul_assoc, Nat.mul_mod, Nat.mul_comm 2 (_ % _), Nat.mul_mod (x * 2 ^ k % 2 ^ 128) 2, Nat.mod_mod]
theorem left_bit (x k : Nat) (hk : k < 128) : leftN x k / 2 ^ 127 % 2 = if x.testBit (127 - k) then 1 else 0 := by
  have h1 : (leftN x k).testBit 127 = x.testBit (127 - k) := by
    unfold leftN
    rw [Nat.testBit_mod_two_pow, Nat.testBit_mul_two_pow]
    simp; omega
  have h2 : (leftN x k).testBit 127 = decide (leftN x k / 2 ^ 127 % 2 = 1) := Nat.testBit_eq_decide_div_mod_eq
  rw [← h1, h2]
  by_cases h : leftN x k / 2 ^ 127 % 2 = 1
  · simp [h]
  · have : leftN x k / 2 ^ 127 % 2 = 0 := by omega
    simp [this]
theorem left_hi (a : Nat) (_ha : a < 2 ^ 128) : (2 * a % 2 ^ 128) / 2 ^ 64 = (a / 2 ^ 64 * 2 % 2 ^ 64 ||| a % 2 ^ 64 / 2 ^ 63) := by
  have h3 : (2 * a % 2 ^ 128) / 2 ^ 64 = a / 2 ^ 64 * 2 % 2 ^ 64 + a % 2 ^ 64 / 2 ^ 63 := by omega
  rw [h3, or_join64 _ _ 1 (by omega) (by omega)]
theorem left_lo (a : Nat) : (2 * a % 2 ^ 128) % 2 ^ 64 = a % 2 ^ 64 * 2 % 2 ^ 64 := by omega
end Go.Proofs.Ytjnhlkaafnaooaa
