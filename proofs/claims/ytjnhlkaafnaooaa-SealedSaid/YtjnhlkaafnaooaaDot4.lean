import Derived.Test.YtjnhlkaafnaooaaGcmQ
import Derived.Test.YtjnhlkaafnaooaaElem
namespace Go.Proofs.Ytjnhlkaafnaooaa
/-- An element as four words of 32 bits. -/
def w4 (e i : Nat) : Nat := e / 2 ^ (96 - 32 * i) % 2 ^ 32
def words4 (e : Nat) : List Nat := [w4 e 0, w4 e 1, w4 e 2, w4 e 3]
theorem w4_lt (e i : Nat) : w4 e i < 4294967296 := Nat.mod_lt _ (by decide)
theorem w4_xor (a b i : Nat) : w4 (a ^^^ b) i = w4 a i ^^^ w4 b i := by
  unfold w4
  rw [← Nat.shiftRight_eq_div_pow, ← Nat.shiftRight_eq_div_pow, ← Nat.shiftRight_eq_div_pow, Nat.shiftRight_xor_distrib, Nat.xor_mod_two_pow]
theorem w4_low (e : Nat) : w4 e 3 % 2 = e % 2 := by unfold w4; simp
theorem w4_ghR (i : Nat) (hi : i < 4) : w4 ghR i = if i = 0 then 225 * 2 ^ 24 else 0 := by
  have : i = 0 ∨ i = 1 ∨ i = 2 ∨ i = 3 := by omega
  rcases this with rfl | rfl | rfl | rfl <;> decide
theorem w4_half0 (e : Nat) (he : e < 2 ^ 128) : w4 (e / 2) 0 = w4 e 0 / 2 := by unfold w4; simp; omega
theorem w4_half (e i : Nat) (h1 : 1 ≤ i) (hi : i < 4) : w4 (e / 2) i = w4 e i / 2 ||| w4 e (i - 1) % 2 * 2147483648 := by
  have h : w4 (e / 2) i = w4 e (i - 1) % 2 * 2147483648 + w4 e i / 2 := by
    have : i = 1 ∨ i = 2 ∨ i = 3 := by omega
    unfold w4
    rcases this with rfl | rfl | rfl
    · simp; omega
    · simp; omega
    · simp; omega
  have hlt : w4 e i / 2 < 2 ^ 31 := by have := w4_lt e i; omega
  rw [h, Nat.or_comm, or_join64 _ _ 31 (by omega) hlt]
theorem w4_sh0 (e : Nat) (he : e < 2 ^ 128) : w4 (sh e) 0 = if w4 e 3 % 2 = 1 then w4 e 0 / 2 ^^^ 3774873600 else w4 e 0 / 2 := by
  rw [w4_low]
  unfold sh
  split
  · rw [w4_xor, w4_half0 e he, w4_ghR 0 (by decide)]; rfl
  · exact w4_half0 e he
theorem w4_sh (e i : Nat) (h1 : 1 ≤ i) (hi : i < 4) : w4 (sh e) i = w4 e i / 2 ||| w4 e (i - 1) % 2 * 2147483648 := by
  rw [← w4_half e i h1 hi]
  unfold sh
  split
  · rw [w4_xor, w4_ghR i hi, if_neg (by omega), Nat.xor_zero]
  · rfl
theorem w4_bit (e i : Nat) (hi : i < 128) : w4 e (i / 32) / 2 ^ (31 - i % 32) % 2 = if e.testBit (127 - i) then 1 else 0 := by
  have ht : e.testBit (127 - i) = decide (e / 2 ^ (127 - i) % 2 = 1) := Nat.testBit_eq_decide_div_mod_eq
  have h1 : w4 e (i / 32) / 2 ^ (31 - i % 32) % 2 = e / 2 ^ (127 - i) % 2 := by
    have t1 : (w4 e (i / 32)).testBit (31 - i % 32) = e.testBit (127 - i) := by
      unfold w4
      rw [Nat.testBit_mod_two_pow, Nat.testBit_div_two_pow, show 31 - i % 32 + (96 - 32 * (i / 32)) = 127 - i by omega]
      have : (31 - i % 32 < 32) := by omega
      simp [this]
    have t2 : (w4 e (i / 32)).testBit (31 - i % 32) = decide (w4 e (i / 32) / 2 ^ (31 - i % 32) % 2 = 1) := Nat.testBit_eq_decide_div_mod_eq
    rw [t2, ht] at t1
    have := decide_eq_decide.1 t1
    omega
  rw [h1, ht]
  rcases Nat.mod_two_eq_zero_or_one (e / 2 ^ (127 - i)) with h | h <;> simp [h]
theorem w4_num (t : List UInt8) (i : Nat) (ht : t.length = 16) (hi : i < 4) : w4 (numL t) i = numL ((t.drop (4 * i)).take 4) := by
  have e : t = t.take (4 * i) ++ ((t.drop (4 * i)).take 4 ++ (t.drop (4 * i)).drop 4) := by rw [List.take_append_drop, List.take_append_drop]
  have l1 : ((t.drop (4 * i)).take 4).length = 4 := by simp; omega
  have l2 : ((t.drop (4 * i)).drop 4).length = 12 - 4 * i := by simp; omega
  have hlt := numL_lt ((t.drop (4 * i)).take 4)
  have hlt2 := numL_lt ((t.drop (4 * i)).drop 4)
  rw [l1] at hlt
  rw [l2] at hlt2
  generalize t.take (4 * i) = A at e
  generalize (t.drop (4 * i)).take 4 = B at *
  generalize (t.drop (4 * i)).drop 4 = C at *
  rw [e, numL_append, numL_append, List.length_append, l1, l2]
  have hp : 2 ^ (96 - 32 * i) = 256 ^ (12 - 4 * i) := by rw [show (256 : Nat) = 2 ^ 8 from rfl, ← Nat.pow_mul]; congr 1; omega
  unfold w4
  rw [hp]
  have hpos : 0 < 256 ^ (12 - 4 * i) := Nat.pow_pos (by decide)
  have e2 : numL A * 256 ^ (4 + (12 - 4 * i)) + (numL B * 256 ^ (12 - 4 * i) + numL C) = numL C + 256 ^ (12 - 4 * i) * (numL A * 2 ^ 32 + numL B) := by
    rw [Nat.pow_add, show (256 : Nat) ^ 4 = 2 ^ 32 from rfl, Nat.mul_add, ← Nat.mul_assoc, Nat.mul_comm (256 ^ (12 - 4 * i)) (numL A * 2 ^ 32), Nat.mul_comm (256 ^ (12 - 4 * i)) (numL B)]
    omega
  rw [e2, Nat.add_mul_div_left _ _ hpos, Nat.div_eq_of_lt hlt2, Nat.zero_add]
  have : (256 : Nat) ^ 4 = 2 ^ 32 := rfl
  omega
theorem onesL_cut : ∀ (b a v : Nat), onesL v (a + b) = onesL (v / 256 ^ b) a ++ onesL v b := by
  intro b
  induction b with
  | zero => intro a v; simp [onesL]
  | succ b ih =>
    intro a v
    rw [show a + (b + 1) = (a + b) + 1 by omega, onesL, ih, onesL, Nat.div_div_eq_div_mul, Nat.pow_succ, Nat.mul_comm 256, List.append_assoc]
theorem onesL_mod : ∀ (n v : Nat), onesL (v % 256 ^ n) n = onesL v n := by
  intro n
  induction n with
  | zero => intro v; rfl
  | succ n ih =>
    intro v
    rw [onesL, onesL]
    have h1 : v % 256 ^ (n + 1) / 256 = v / 256 % 256 ^ n := by rw [Nat.pow_succ, Nat.mul_comm, Nat.mod_mul_right_div_self]
    have h2 : v % 256 ^ (n + 1) % 256 = v % 256 := by rw [Nat.pow_succ]; exact Nat.mod_mul_left_mod _ _ _
    rw [h1, h2, ih]
theorem ones_words (e : Nat) : onesL (w4 e 0) 4 ++ onesL (w4 e 1) 4 ++ onesL (w4 e 2) 4 ++ onesL (w4 e 3) 4 = onesL e 16 := by
  have c1 := onesL_cut 4 12 e
  have c2 := onesL_cut 4 8 (e / 256 ^ 4)
  have c3 := onesL_cut 4 4 (e / 256 ^ 4 / 256 ^ 4)
  rw [show 12 + 4 = 16 from rfl] at c1
  rw [show 8 + 4 = 12 from rfl] at c2
  rw [show 4 + 4 = 8 from rfl] at c3
  rw [c1, c2, c3]
  have m := onesL_mod 4
  have g : ∀ i, i < 4 → w4 e i = e / 2 ^ (96 - 32 * i) % 256 ^ 4 := fun i _ => rfl
  rw [g 0 (by decide), g 1 (by decide), g 2 (by decide), g 3 (by decide), m, m, m, m]
  simp [Nat.div_div_eq_div_mul]
theorem ones_halves (e : Nat) : onesL (e / 2 ^ 64) 8 ++ onesL (e % 2 ^ 64) 8 = onesL e 16 := by
  have c1 := onesL_cut 8 8 e
  rw [show 8 + 8 = 16 from rfl] at c1
  rw [c1, show (2 : Nat) ^ 64 = 256 ^ 8 from rfl, onesL_mod 8]
theorem num_halves (t : List UInt8) (ht : t.length = 16) : numL t / 2 ^ 64 = numL (t.take 8) ∧ numL t % 2 ^ 64 = numL (t.drop 8) := by
  have e : t = t.take 8 ++ t.drop 8 := by simp
  have l2 : (t.drop 8).length = 8 := by simp [ht]
  have hlt := numL_lt (t.drop 8)
  rw [l2] at hlt
  have hn : numL t = numL (t.take 8) * 256 ^ 8 + numL (t.drop 8) := by conv => lhs; rw [e]; rw [numL_append, l2]
  have : (256 : Nat) ^ 8 = 2 ^ 64 := rfl
  rw [this] at hn hlt
  omega
end Go.Proofs.Ytjnhlkaafnaooaa
