import Derived.WalkKit
namespace Go.Proofs.Ytjnhlkaafnaooaa
/-- The field of the tags: a block as a number, its first bit the highest. -/
def ghR : Nat := 225 * 2 ^ 120
def sh (v : Nat) : Nat := if v % 2 = 1 then v / 2 ^^^ ghR else v / 2
def shN (v : Nat) : Nat → Nat
  | 0 => v
  | k + 1 => sh (shN v k)
def dotTo (x v : Nat) : Nat → Nat
  | 0 => 0
  | k + 1 => if x.testBit (127 - k) then dotTo x v k ^^^ shN v k else dotTo x v k
def dotN (x v : Nat) : Nat := dotTo x v 128

theorem xor_swap (a b c d : Nat) : (a ^^^ b) ^^^ (c ^^^ d) = (a ^^^ c) ^^^ (b ^^^ d) := by
  rw [Nat.xor_assoc, ← Nat.xor_assoc b, Nat.xor_comm b c, Nat.xor_assoc c, ← Nat.xor_assoc a]
theorem xor_mod2 (a b : Nat) : (a ^^^ b) % 2 = (a + b) % 2 := by
  have h : (a ^^^ b) % 2 ^ 1 = a % 2 ^ 1 ^^^ b % 2 ^ 1 := Nat.xor_mod_two_pow
  rw [Nat.pow_one] at h
  rw [h]
  rcases Nat.mod_two_eq_zero_or_one a with ha | ha <;> rcases Nat.mod_two_eq_zero_or_one b with hb | hb <;> rw [ha, hb]
  · show 0 = _; omega
  · show 1 = _; omega
  · show 1 = _; omega
  · show 0 = _; omega
theorem sh_zero : sh 0 = 0 := by simp [sh]
theorem sh_xor (a b : Nat) : sh (a ^^^ b) = sh a ^^^ sh b := by
  have h1 : (a ^^^ b) % 2 = (a + b) % 2 := xor_mod2 a b
  have h2 : (a ^^^ b) / 2 = a / 2 ^^^ b / 2 := Nat.xor_div_two
  unfold sh
  rw [h1, h2]
  rcases Nat.mod_two_eq_zero_or_one a with ha | ha <;> rcases Nat.mod_two_eq_zero_or_one b with hb | hb
  · rw [if_neg (by omega), if_neg (by omega), if_neg (by omega)]
  · rw [if_pos (by omega), if_neg (by omega), if_pos (by omega), Nat.xor_assoc]
  · rw [if_pos (by omega), if_pos (by omega), if_neg (by omega), Nat.xor_assoc, Nat.xor_assoc, Nat.xor_comm ghR]
  · rw [if_neg (by omega), if_pos (by omega), if_pos (by omega), xor_swap, Nat.xor_self, Nat.xor_zero]
theorem sh_lt (v : Nat) (h : v < 2 ^ 128) : sh v < 2 ^ 128 := by
  unfold sh
  split
  · exact Nat.xor_lt_two_pow (by omega) (by decide)
  · omega
theorem sh_inj0 (v : Nat) (h : v < 2 ^ 128) (h0 : sh v = 0) : v = 0 := by
  unfold sh at h0
  split at h0
  · have e : v / 2 = ghR := by
      have := congrArg (· ^^^ ghR) h0
      simpa [Nat.xor_assoc] using this
    have : ghR < 2 ^ 127 := by rw [← e]; omega
    exact absurd this (by decide)
  · omega
theorem shN_zero (k : Nat) : shN 0 k = 0 := by
  induction k with
  | zero => rfl
  | succ k ih => rw [shN, ih, sh_zero]
theorem shN_xor (a b k : Nat) : shN (a ^^^ b) k = shN a k ^^^ shN b k := by
  induction k with
  | zero => rfl
  | succ k ih => rw [shN, ih, sh_xor]; rfl
theorem shN_lt (v k : Nat) (h : v < 2 ^ 128) : shN v k < 2 ^ 128 := by
  induction k with
  | zero => exact h
  | succ k ih => exact sh_lt _ ih
theorem shN_inj0 (v k : Nat) (h : v < 2 ^ 128) (h0 : shN v k = 0) : v = 0 := by
  induction k with
  | zero => exact h0
  | succ k ih => exact ih (sh_inj0 _ (shN_lt v k h) h0)
theorem shN_sh (v k : Nat) : shN (sh v) k = sh (shN v k) := by
  induction k with
  | zero => rfl
  | succ k ih => rw [shN, ih]; rfl
theorem dotTo_lt (x v k : Nat) (h : v < 2 ^ 128) : dotTo x v k < 2 ^ 128 := by
  induction k with
  | zero => exact Nat.two_pow_pos _
  | succ k ih =>
    rw [dotTo]; split
    · exact Nat.xor_lt_two_pow ih (shN_lt _ _ h)
    · exact ih
theorem dotTo_xor_right (x a b k : Nat) : dotTo x (a ^^^ b) k = dotTo x a k ^^^ dotTo x b k := by
  induction k with
  | zero => simp [dotTo]
  | succ k ih =>
    rw [dotTo, dotTo, dotTo, ih, shN_xor]; split
    · rw [xor_swap]
    · rfl
theorem dotTo_xor_left (x y v k : Nat) : dotTo (x ^^^ y) v k = dotTo x v k ^^^ dotTo y v k := by
  induction k with
  | zero => simp [dotTo]
  | succ k ih =>
    rw [dotTo, dotTo, dotTo, ih, Nat.testBit_xor]
    cases x.testBit (127 - k) <;> cases y.testBit (127 - k) <;> simp
    · rw [Nat.xor_assoc]
    · rw [Nat.xor_assoc, Nat.xor_comm (dotTo y v k), ← Nat.xor_assoc]
    · rw [xor_swap]; simp
theorem dotTo_sh (x v k : Nat) : dotTo x (sh v) k = sh (dotTo x v k) := by
  induction k with
  | zero => exact sh_zero.symm
  | succ k ih =>
    rw [dotTo, dotTo, ih, shN_sh]; split
    · rw [sh_xor]
    · rfl
theorem dot_sh (x v : Nat) : dotN x (sh v) = sh (dotN x v) := dotTo_sh x v 128
theorem dot_shN (x v k : Nat) : dotN x (shN v k) = shN (dotN x v) k := by
  induction k with
  | zero => rfl
  | succ k ih => rw [shN, dot_sh, ih]; rfl
theorem dot_xor_left (x y v : Nat) : dotN (x ^^^ y) v = dotN x v ^^^ dotN y v := dotTo_xor_left x y v 128
theorem dot_xor_right (x a b : Nat) : dotN x (a ^^^ b) = dotN x a ^^^ dotN x b := dotTo_xor_right x a b 128
theorem dot_lt (x v : Nat) (h : v < 2 ^ 128) : dotN x v < 2 ^ 128 := dotTo_lt x v 128 h
theorem dotTo_zero (x k : Nat) : dotTo x 0 k = 0 := by
  induction k with
  | zero => rfl
  | succ k ih => rw [dotTo, ih, shN_zero]; simp
theorem dot_zero (x : Nat) : dotN x 0 = 0 := dotTo_zero x 128
/-- Products of products come in any order. -/
theorem dotTo_dot (x y v k : Nat) : dotTo x (dotN y v) k = dotN y (dotTo x v k) := by
  induction k with
  | zero => exact (dot_zero y).symm
  | succ k ih =>
    rw [dotTo, dotTo, ih, ← dot_shN]; split
    · rw [dot_xor_right]
    · rfl
theorem dot_dot (x y v : Nat) : dotN x (dotN y v) = dotN y (dotN x v) := dotTo_dot x y v 128
/-- The one of the field. -/
def gOne : Nat := 2 ^ 127
theorem shN_one : ∀ k, k < 128 → shN gOne k = 2 ^ (127 - k) := by decide +kernel
theorem dotTo_one (x k : Nat) (hk : k ≤ 128) (hx : x < 2 ^ 128) : dotTo x gOne k = x / 2 ^ (128 - k) * 2 ^ (128 - k) := by
  induction k with
  | zero => simp [dotTo]; omega
  | succ k ih =>
    have hp : 2 ^ (128 - k) = 2 * 2 ^ (127 - k) := by rw [← Nat.pow_succ']; congr 1; omega
    have e1 : 128 - (k + 1) = 127 - k := by omega
    rw [dotTo, ih (by omega), shN_one k (by omega), e1, hp]
    have hd : x / (2 * 2 ^ (127 - k)) = x / 2 ^ (127 - k) / 2 := by rw [Nat.mul_comm, ← Nat.div_div_eq_div_mul]
    have ht : x.testBit (127 - k) = decide (x / 2 ^ (127 - k) % 2 = 1) := Nat.testBit_eq_decide_div_mod_eq
    rw [hd, ht]
    generalize x / 2 ^ (127 - k) = u
    generalize 127 - k = m
    by_cases hu : u % 2 = 1
    · rw [if_pos (by simpa using hu)]
      have e2 : u / 2 * (2 * 2 ^ m) ^^^ 2 ^ m = u * 2 ^ m := by
        have h3 : (u / 2 * 2) ^^^ 1 = u := by
          apply Nat.eq_of_testBit_eq
          intro i
          cases i with
          | zero => rw [Nat.testBit_xor]; simp [Nat.testBit_zero, hu]
          | succ i => rw [Nat.testBit_xor]; simp [Nat.testBit_succ]
        rw [← Nat.mul_assoc]
        have h4 : 2 ^ m = 1 <<< m := by rw [Nat.shiftLeft_eq, Nat.one_mul]
        have h5 : u / 2 * 2 * 2 ^ m = (u / 2 * 2) <<< m := by rw [Nat.shiftLeft_eq]
        rw [h5]
        conv => lhs; rw [h4]
        rw [← Nat.shiftLeft_xor_distrib, h3, Nat.shiftLeft_eq]
      exact e2
    · rw [if_neg (by simpa using hu)]
      have : u = u / 2 * 2 := by omega
      rw [← Nat.mul_assoc, ← this]
theorem dot_one (x : Nat) (hx : x < 2 ^ 128) : dotN x gOne = x := by
  have := dotTo_one x 128 (by omega) hx
  unfold dotN
  simpa using this
theorem dot_comm (x y : Nat) (hx : x < 2 ^ 128) (hy : y < 2 ^ 128) : dotN x y = dotN y x := by
  have h := dot_dot x y gOne
  rwa [dot_one x hx, dot_one y hy] at h
theorem dot_assoc (x y z : Nat) (hy : y < 2 ^ 128) (hz : z < 2 ^ 128) : dotN (dotN x y) z = dotN x (dotN y z) := by
  rw [dot_comm (dotN x y) z (dot_lt _ _ hy) hz, dot_dot z x y, dot_comm z y hz hy]
theorem zero_dot (x : Nat) (hx : x < 2 ^ 128) : dotN 0 x = 0 := by rw [dot_comm 0 x (Nat.two_pow_pos _) hx, dot_zero]
/-- Squares. -/
def sq (x : Nat) : Nat := dotN x x
theorem sq_lt (x : Nat) (h : x < 2 ^ 128) : sq x < 2 ^ 128 := dot_lt x x h
theorem sq_xor (x y : Nat) (hx : x < 2 ^ 128) (hy : y < 2 ^ 128) : sq (x ^^^ y) = sq x ^^^ sq y := by
  unfold sq
  rw [dot_xor_left, dot_xor_right, dot_xor_right, dot_comm y x hy hx, Nat.xor_comm (dotN x y) (dotN y y), xor_swap, Nat.xor_comm (dotN x y), Nat.xor_assoc, Nat.xor_self, Nat.xor_zero]
end Go.Proofs.Ytjnhlkaafnaooaa
