import Derived.WalkKit
namespace Go.Proofs.YtjnhlkaafnaooaaDoor
theorem wrap_i64_nat (n : Nat) (h : n < 9223372036854775808) : IntKind.i64.wrap (n : Int) = (n : Int) := by
  simp [IntKind.wrap, IntKind.bits, IntKind.signed]
  omega

theorem ofInt64_nat (a : Nat) (h : a < 18446744073709551616) : (BitVec.ofInt 64 (a : Int)).toNat = a := by
  rw [BitVec.ofInt_natCast, BitVec.toNat_ofNat]; exact Nat.mod_eq_of_lt (by omega)

theorem i64_xor_nat (a b : Nat) (ha : a < 9223372036854775808) (hb : b < 9223372036854775808) : bits .xor .i64 (a : Int) (b : Int) = ((a ^^^ b : Nat) : Int) := by
  show IntKind.i64.wrap ((BitVec.ofInt 64 (a : Int) ^^^ BitVec.ofInt 64 (b : Int)).toNat : Int) = _
  rw [BitVec.toNat_xor, ofInt64_nat _ (by omega), ofInt64_nat _ (by omega)]
  exact wrap_i64_nat _ (Nat.xor_lt_two_pow (n := 63) (by omega) (by omega))

theorem i64_and_nat (a b : Nat) (ha : a < 9223372036854775808) (hb : b < 9223372036854775808) : bits .and .i64 (a : Int) (b : Int) = ((a &&& b : Nat) : Int) := by
  show IntKind.i64.wrap ((BitVec.ofInt 64 (a : Int) &&& BitVec.ofInt 64 (b : Int)).toNat : Int) = _
  rw [BitVec.toNat_and, ofInt64_nat _ (by omega), ofInt64_nat _ (by omega)]
  exact wrap_i64_nat _ (Nat.lt_of_le_of_lt Nat.and_le_left ha)

theorem i64_or_nat (a b : Nat) (ha : a < 9223372036854775808) (hb : b < 9223372036854775808) : bits .or .i64 (a : Int) (b : Int) = ((a ||| b : Nat) : Int) := by
  show IntKind.i64.wrap ((BitVec.ofInt 64 (a : Int) ||| BitVec.ofInt 64 (b : Int)).toNat : Int) = _
  rw [BitVec.toNat_or, ofInt64_nat _ (by omega), ofInt64_nat _ (by omega)]
  exact wrap_i64_nat _ (Nat.or_lt_two_pow (n := 63) (by omega) (by omega))

/-- A round of the product in the field of 2^8 elements. -/
def prodStep (a b v k : Nat) : Nat :=
  let u := if 256 ≤ 2 * v then (2 * v) ^^^ 283 else 2 * v
  if b / 2 ^ (7 - k) % 2 = 1 then u ^^^ a else u
def prodTo (a b : Nat) : Nat → Nat
  | 0 => 0
  | k + 1 => prodStep a b (prodTo a b k) k
def prodN (a b : Nat) : Nat := prodTo a b 8

theorem double_lt (v : Nat) (hv : v < 256) : (if 256 ≤ 2 * v then (2 * v) ^^^ 283 else 2 * v) < 256 := by
  have : ∀ v : Fin 256, (if 256 ≤ 2 * v.val then (2 * v.val) ^^^ 283 else 2 * v.val) < 256 := by decide +kernel
  exact this ⟨v, hv⟩
theorem prodStep_lt (a b v k : Nat) (ha : a < 256) (hv : v < 256) : prodStep a b v k < 256 := by
  unfold prodStep
  have h := double_lt v hv
  dsimp only
  split
  · exact Nat.xor_lt_two_pow (n := 8) h ha
  · exact h
theorem prodTo_lt (a b k : Nat) (ha : a < 256) : prodTo a b k < 256 := by
  induction k with
  | zero => exact Nat.zero_lt_succ _
  | succ k ih => exact prodStep_lt a b _ k ha ih

/-- The element by which a is one, looked for from b on; of 0 0. -/
def invFrom (a : Nat) : Nat → Nat → Nat
  | 0, _ => 0
  | f + 1, b => if prodN a b = 1 then b else invFrom a f (b + 1)
def invN (a : Nat) : Nat := invFrom a 255 1
theorem invFrom_lt (a : Nat) : ∀ f b, b + f ≤ 256 → invFrom a f b < 256
  | 0, _, _ => Nat.zero_lt_succ _
  | f + 1, b, h => by
    unfold invFrom
    split
    · omega
    · exact invFrom_lt a f (b + 1) (by omega)

/-- No divisor of n from d on, as long as its square is not above n. -/
def primeFrom (n : Nat) : Nat → Nat → Bool
  | 0, _ => true
  | f + 1, d => if n < d * d then true else if n % d = 0 then false else primeFrom n f (d + 1)
def primeN (n : Nat) : Bool := primeFrom n n 2
theorem bit_test (b j : Nat) (hb : b < 9223372036854775808) : (bits .and .i64 ((b : Int) / 2 ^ j) 1 == 1) = decide (b / 2 ^ j % 2 = 1) := by
  have e1 : (b : Int) / 2 ^ j = ((b / 2 ^ j : Nat) : Int) := by simp
  have h1 : b / 2 ^ j < 9223372036854775808 := Nat.lt_of_le_of_lt (Nat.div_le_self _ _) hb
  have e2 := i64_and_nat (b / 2 ^ j) 1 h1 (by decide)
  rw [nat_mask1] at e2
  rw [e1, show (1 : Int) = ((1 : Nat) : Int) from rfl, e2, Bool.eq_iff_iff]
  simp
  omega
theorem prod_big (V : Nat) (hV : V < 256) : bits .xor .i64 (2 * (V : Int)) 283 = ((2 * V ^^^ 283 : Nat) : Int) := by
  have := i64_xor_nat (2 * V) 283 (by omega) (by decide)
  rw [← this]; congr 1
theorem prod_x (u a : Nat) (hu : u < 512) (ha : a < 256) : bits .xor .i64 (u : Int) (a : Int) = ((u ^^^ a : Nat) : Int) :=
  i64_xor_nat u a (by omega) (by omega)
theorem prod_tt (V a b k : Nat) (hV : V < 256) (ha : a < 256) (hb : b < 256) (h1 : (256 : Int) ≤ 2 * (V : Int)) (h2 : (bits .and .i64 ((b : Int) / 2 ^ (7 - k)) 1 == 1) = true) :
    bits .xor .i64 (bits .xor .i64 (2 * (V : Int)) 283) (a : Int) = ((prodStep a b V k : Nat) : Int) := by
  rw [bit_test _ _ (by omega), decide_eq_true_eq] at h2
  have h := double_lt V hV
  rw [if_pos (by omega)] at h
  rw [prod_big V hV, prod_x _ _ (by omega) ha]
  unfold prodStep
  rw [if_pos (show 256 ≤ 2 * V by omega), if_pos h2]
theorem prod_tf (V a b k : Nat) (hV : V < 256) (hb : b < 256) (h1 : (256 : Int) ≤ 2 * (V : Int)) (h2 : (bits .and .i64 ((b : Int) / 2 ^ (7 - k)) 1 == 1) = false) :
    bits .xor .i64 (2 * (V : Int)) 283 = ((prodStep a b V k : Nat) : Int) := by
  rw [bit_test _ _ (by omega), decide_eq_false_iff_not] at h2
  rw [prod_big V hV]
  unfold prodStep
  rw [if_pos (show 256 ≤ 2 * V by omega), if_neg h2]
theorem prod_ft (V a b k : Nat) (hV : V < 256) (ha : a < 256) (hb : b < 256) (h1 : 2 * (V : Int) < 256) (h2 : (bits .and .i64 ((b : Int) / 2 ^ (7 - k)) 1 == 1) = true) :
    bits .xor .i64 (2 * (V : Int)) (a : Int) = ((prodStep a b V k : Nat) : Int) := by
  rw [bit_test _ _ (by omega), decide_eq_true_eq] at h2
  have := prod_x (2 * V) a (by omega) ha
  unfold prodStep
  rw [if_neg (show ¬ 256 ≤ 2 * V by omega), if_pos h2, ← this]
  congr 1
theorem prod_ff (V a b k : Nat) (hb : b < 256) (h1 : 2 * (V : Int) < 256) (h2 : (bits .and .i64 ((b : Int) / 2 ^ (7 - k)) 1 == 1) = false) :
    2 * (V : Int) = ((prodStep a b V k : Nat) : Int) := by
  rw [bit_test _ _ (by omega), decide_eq_false_iff_not] at h2
  unfold prodStep
  rw [if_neg (show ¬ 256 ≤ 2 * V by omega), if_neg h2]
  omega
theorem invFrom_hit (a f b : Nat) (h : prodN a b = 1) : invFrom a (f + 1) b = b := by simp [invFrom, h]
theorem invFrom_miss (a f b : Nat) (h : ¬ prodN a b = 1) : invFrom a (f + 1) b = invFrom a f (b + 1) := by simp [invFrom, h]
theorem prodN_lt (a b : Nat) (ha : a < 256) : prodN a b < 256 := prodTo_lt a b 8 ha
theorem primeFrom_end (n f d : Nat) (h : n < d * d) : primeFrom n f d = true := by
  cases f with
  | zero => rfl
  | succ f => simp [primeFrom, h]
theorem primeFrom_no (n f d : Nat) (h : ¬ n < d * d) (h2 : n % d = 0) : primeFrom n (f + 1) d = false := by simp [primeFrom, h, h2]
theorem primeFrom_on (n f d : Nat) (h : ¬ n < d * d) (h2 : ¬ n % d = 0) : primeFrom n (f + 1) d = primeFrom n f (d + 1) := by simp [primeFrom, h, h2]
end Go.Proofs.YtjnhlkaafnaooaaDoor
