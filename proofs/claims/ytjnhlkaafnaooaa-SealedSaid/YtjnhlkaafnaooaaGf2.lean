import Derived.Test.YtjnhlkaafnaooaaGf
namespace Go.Proofs.Ytjnhlkaafnaooaa
/-- The second root of the field's x. -/
def gS : Nat := 50130884412459684338974012517024680228
def rtBit (k : Nat) : Nat := if k % 2 = 0 then shN gOne (k / 2) else shN gS (k / 2)
def rtTo (v : Nat) : Nat → Nat
  | 0 => 0
  | k + 1 => if v.testBit (127 - k) then rtTo v k ^^^ rtBit k else rtTo v k
def rt (v : Nat) : Nat := rtTo v 128
theorem rtTo_xor (x y k : Nat) : rtTo (x ^^^ y) k = rtTo x k ^^^ rtTo y k := by
  induction k with
  | zero => simp [rtTo]
  | succ k ih =>
    rw [rtTo, rtTo, rtTo, ih, Nat.testBit_xor]
    cases x.testBit (127 - k) <;> cases y.testBit (127 - k) <;> simp
    · rw [Nat.xor_assoc]
    · rw [Nat.xor_assoc, Nat.xor_comm (rtTo y k), ← Nat.xor_assoc]
    · rw [xor_swap]; simp
theorem rt_xor (x y : Nat) : rt (x ^^^ y) = rt x ^^^ rt y := rtTo_xor x y 128
theorem rtTo_zero (k : Nat) : rtTo 0 k = 0 := by
  induction k with
  | zero => rfl
  | succ k ih => rw [rtTo, ih]; simp
theorem sq_bit (i : Nat) : sq (shN gOne i) = shN (shN gOne i) i := by
  unfold sq
  rw [dot_shN, dot_one _ (shN_lt _ _ (by decide))]
set_option maxRecDepth 100000 in
theorem rt_bits : ∀ i, i < 128 → rt (shN (shN gOne i) i) = shN gOne i := by decide +kernel
/-- A number below 2^(n+1) that is not below 2^n. -/
theorem high_bit (n x : Nat) (h1 : 2 ^ n ≤ x) (h2 : x < 2 ^ (n + 1)) : ∃ y, y < 2 ^ n ∧ x = y ^^^ 2 ^ n := by
  refine ⟨x ^^^ 2 ^ n, ?_, by rw [Nat.xor_assoc, Nat.xor_self, Nat.xor_zero]⟩
  apply Nat.lt_pow_two_of_testBit
  intro i hi
  rw [Nat.testBit_xor, Nat.testBit_two_pow]
  by_cases e : i = n
  · subst e
    have hd : x / 2 ^ i = 1 := Nat.div_eq_of_lt_le (by omega) (by rw [Nat.pow_succ] at h2; omega)
    have ht : x.testBit i = decide (x / 2 ^ i % 2 = 1) := Nat.testBit_eq_decide_div_mod_eq
    rw [ht, hd]; simp
  · have : x.testBit i = false := Nat.testBit_lt_two_pow (Nat.lt_of_lt_of_le h2 (Nat.pow_le_pow_right (by decide) (by omega)))
    rw [this]; simp; omega
theorem rt_sq_to (n : Nat) (hn : n ≤ 128) : ∀ x, x < 2 ^ n → rt (sq x) = x := by
  induction n with
  | zero =>
    intro x hx
    obtain rfl : x = 0 := by simpa using hx
    unfold sq
    rw [dot_zero]; exact rtTo_zero 128
  | succ n ih =>
    intro x hx
    by_cases h : x < 2 ^ n
    · exact ih (by omega) x h
    · obtain ⟨y, hy, rfl⟩ := high_bit n x (by omega) hx
      have hy2 : y < 2 ^ 128 := Nat.lt_of_lt_of_le hy (Nat.pow_le_pow_right (by decide) (by omega))
      have hb : 2 ^ n < 2 ^ 128 := Nat.pow_lt_pow_right (by decide) (by omega)
      have hs := shN_one (127 - n) (by omega)
      have e : 127 - (127 - n) = n := by omega
      rw [e] at hs
      rw [sq_xor y (2 ^ n) hy2 hb, rt_xor, ih (by omega) y hy, ← hs, sq_bit, rt_bits _ (by omega)]
theorem sq_inj0 (x : Nat) (hx : x < 2 ^ 128) (h : sq x = 0) : x = 0 := by
  have := rt_sq_to 128 (by omega) x hx
  rw [h] at this
  rw [← this]; exact rtTo_zero 128
/-- Powers. -/
def gPow (h : Nat) : Nat → Nat
  | 0 => gOne
  | k + 1 => dotN (gPow h k) h
theorem gPow_lt (h k : Nat) (hh : h < 2 ^ 128) : gPow h k < 2 ^ 128 := by
  cases k with
  | zero => show gOne < _; decide
  | succ k => exact dot_lt _ _ hh
theorem gPow_add (h j k : Nat) (hh : h < 2 ^ 128) : gPow h (j + k) = dotN (gPow h j) (gPow h k) := by
  induction k with
  | zero => rw [Nat.add_zero]; exact (dot_one _ (gPow_lt h j hh)).symm
  | succ k ih =>
    show dotN (gPow h (j + k)) h = dotN (gPow h j) (dotN (gPow h k) h)
    rw [ih, dot_assoc _ _ _ (gPow_lt h k hh) hh]
theorem gPow_up (h k : Nat) (hh : h < 2 ^ 128) (h0 : gPow h k = 0) : gPow h (k + k) = 0 := by
  rw [gPow_add h k k hh, h0, dot_zero]
theorem gPow_double (h k : Nat) (hh : h < 2 ^ 128) (h0 : gPow h (k + k) = 0) : gPow h k = 0 :=
  sq_inj0 _ (gPow_lt h k hh) (by unfold sq; rw [← gPow_add h k k hh]; exact h0)
theorem gPow_ge (h j k : Nat) (hh : h < 2 ^ 128) (hk : k ≤ j) (h0 : gPow h k = 0) : gPow h j = 0 := by
  have e : j = (j - k) + k := by omega
  rw [e, gPow_add h _ _ hh, h0, dot_zero]
theorem gPow_two (h n : Nat) (hh : h < 2 ^ 128) (h0 : gPow h (2 ^ n) = 0) : h = 0 := by
  induction n with
  | zero =>
    have e : gPow h (2 ^ 0) = dotN gOne h := rfl
    rw [e, dot_comm gOne h (by decide) hh, dot_one h hh] at h0
    exact h0
  | succ n ih => exact ih (gPow_double h (2 ^ n) hh (by rw [Nat.pow_succ, Nat.mul_two] at h0; exact h0))
/-- No power of what is not 0 is 0. -/
theorem gPow_ne (h k : Nat) (hh : h < 2 ^ 128) (h0 : gPow h k = 0) : h = 0 :=
  gPow_two h k hh (gPow_ge h (2 ^ k) k hh (Nat.le_of_lt Nat.lt_two_pow_self) h0)
/-- A turned bit, times a power of what is not 0, is not 0. -/
theorem bit_pow_ne (h k i : Nat) (hh : h < 2 ^ 128) (h0 : dotN (shN gOne i) (gPow h k) = 0) : h = 0 := by
  have hb : shN gOne i < 2 ^ 128 := shN_lt _ _ (by decide)
  rw [dot_comm _ _ hb (gPow_lt h k hh), dot_shN, dot_one _ (gPow_lt h k hh)] at h0
  exact gPow_ne h k hh (shN_inj0 _ i (gPow_lt h k hh) h0)
end Go.Proofs.Ytjnhlkaafnaooaa
