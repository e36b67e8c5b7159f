import Derived.Test.YtjnhlkaafnaooabGreatDoorRmB
namespace Go.Proofs.YtjnhlkaafnaooabGreatDoor
theorem prod2_fin : ∀ a : Fin 256, prodN 2 a.val = dbl a.val := by decide +kernel
theorem prod3_fin : ∀ a : Fin 256, prodN 3 a.val = dbl a.val ^^^ a.val := by decide +kernel
theorem prod1_fin : ∀ a : Fin 256, prodN 1 a.val = a.val := by decide +kernel
theorem prodR_fin : ∀ a : Fin 256, prodN a.val 2 = dbl a.val := by decide +kernel
theorem dbl_lt (v : Nat) (h : v < 256) : dbl v < 256 := by
  have := prod2_fin ⟨v, h⟩
  dsimp only at this
  rw [← this]; exact prodN_lt _ _ (by decide)
theorem xor8 {a b : Nat} (ha : a < 256) (hb : b < 256) : a ^^^ b < 256 := Nat.xor_lt_two_pow (n := 8) ha hb
/-- The columns' step, the short way. -/
theorem mix_short (a b c d : Nat) (ha : a < 256) (hb : b < 256) (hc : c < 256) (hd : d < 256) : a ^^^ (a ^^^ b ^^^ c ^^^ d) ^^^ dbl (a ^^^ b) = mixA a b c d := by
  have f1 := prod2_fin ⟨a, ha⟩
  have f2 := prod3_fin ⟨b, hb⟩
  have f3 := prod1_fin ⟨c, hc⟩
  have f4 := prod1_fin ⟨d, hd⟩
  dsimp only at f1 f2 f3 f4
  unfold mixA
  rw [f1, f2, f3, f4, dbl_xor a b ha hb]
  generalize dbl a = x
  generalize dbl b = y
  have : a ^^^ (a ^^^ b ^^^ c ^^^ d) ^^^ (x ^^^ y) = (a ^^^ a) ^^^ (x ^^^ (y ^^^ b) ^^^ c ^^^ d) := by ac_rfl
  rw [this, Nat.xor_self, Nat.zero_xor]
/-- The box by its rule: p up through the powers of 3, q down. -/
def thirdA (x : Nat) : Nat := x ^^^ 2 * x % 256
def thirdB (x : Nat) : Nat := x ^^^ 4 * x % 256
def thirdC (x : Nat) : Nat := x ^^^ 16 * x % 256
def thirdD (x : Nat) : Nat := if 128 ≤ x then x ^^^ 9 else x
def thirdN (x : Nat) : Nat := thirdD (thirdC (thirdB (thirdA x)))
def rotB (x n : Nat) : Nat := x * 2 ^ n % 256 ||| x / 2 ^ (8 - n)
def boxVal (q : Nat) : Nat := 99 ^^^ q ^^^ rotB q 1 ^^^ rotB q 2 ^^^ rotB q 3 ^^^ rotB q 4
def boxP : Nat → Nat
  | 0 => 1
  | k + 1 => boxP k ^^^ dbl (boxP k)
def boxQ : Nat → Nat
  | 0 => 1
  | k + 1 => thirdN (boxQ k)
def boxTo : Nat → List Nat
  | 0 => (List.replicate 256 0).set 0 99
  | k + 1 => (boxTo k).set (boxP (k + 1)) (boxVal (boxQ (k + 1)))
theorem third_fin : ∀ a : Fin 256, thirdN a.val < 256 ∧ boxVal a.val < 256 := by decide +kernel
theorem boxP_lt (k : Nat) : boxP k < 256 := by
  induction k with
  | zero => decide
  | succ k ih => exact xor8 ih (dbl_lt _ ih)
theorem boxQ_lt (k : Nat) : boxQ k < 256 := by
  induction k with
  | zero => decide
  | succ k ih => exact (third_fin ⟨boxQ k, ih⟩).1
theorem boxTo_len (k : Nat) : (boxTo k).length = 256 := by
  induction k with
  | zero => rw [boxTo, List.length_set, List.length_replicate]
  | succ k ih => rw [boxTo, List.length_set, ih]
set_option maxRecDepth 100000 in
theorem boxTo_lit : boxTo 255 = sbLit := by decide +kernel
end Go.Proofs.YtjnhlkaafnaooabGreatDoor
