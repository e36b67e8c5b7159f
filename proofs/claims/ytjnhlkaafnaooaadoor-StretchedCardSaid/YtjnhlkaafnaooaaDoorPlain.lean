import Derived.WalkKit
namespace Go.Proofs.YtjnhlkaafnaooaaDoor
/-- Turned right by n bits. -/
def rotr (x n : Nat) : Nat := x / 2 ^ n + x * 2 ^ (32 - n) % 4294967296

theorem rotr_lt (x n : Nat) (hx : x < 4294967296) (hn : 1 ≤ n) (hn2 : n ≤ 31) : rotr x n < 4294967296 := by
  unfold rotr
  have h1 : x / 2 ^ n < 2 ^ (32 - n) := by
    rw [Nat.div_lt_iff_lt_mul (by exact Nat.two_pow_pos n), ← Nat.pow_add]
    have : 32 - n + n = 32 := by omega
    rw [this]; simpa using hx
  have e : (4294967296 : Nat) = 2 ^ (32 - n) * 2 ^ n := by
    rw [← Nat.pow_add]
    have : 32 - n + n = 32 := by omega
    rw [this]
  have h2 : x * 2 ^ (32 - n) % 4294967296 = 2 ^ (32 - n) * (x % 2 ^ n) := by
    rw [e, Nat.mul_comm x, Nat.mul_mod_mul_left]
  have h3 : x % 2 ^ n + 1 ≤ 2 ^ n := Nat.mod_lt _ (Nat.two_pow_pos n)
  have h4 : 2 ^ (32 - n) * (x % 2 ^ n + 1) ≤ 2 ^ (32 - n) * 2 ^ n := Nat.mul_le_mul_left _ h3
  rw [← e, Nat.mul_add, Nat.mul_one] at h4
  rw [h2]
  omega

theorem rotr_or (x n : Nat) (hx : x < 4294967296) (_hn : 1 ≤ n) (hn2 : n ≤ 31) : (x / 2 ^ n) ||| (x * 2 ^ (32 - n) % 4294967296) = rotr x n := by
  have h1 : x / 2 ^ n < 2 ^ (32 - n) := by
    rw [Nat.div_lt_iff_lt_mul (by exact Nat.two_pow_pos n), ← Nat.pow_add]
    have : 32 - n + n = 32 := by omega
    rw [this]; simpa using hx
  have e : (4294967296 : Nat) = 2 ^ (32 - n) * 2 ^ n := by
    rw [← Nat.pow_add]
    have : 32 - n + n = 32 := by omega
    rw [this]
  have h2 : x * 2 ^ (32 - n) % 4294967296 = 2 ^ (32 - n) * (x % 2 ^ n) := by
    rw [e, Nat.mul_comm x, Nat.mul_mod_mul_left]
  rw [Nat.or_comm, nat_join (32 - n) _ _ (by rw [h2]; exact Nat.mul_mod_right _ _) h1, rotr, Nat.add_comm]

/-- The walk's own writing of 'turn'. -/
theorem turn_int (x : Nat) (n : Int) (hx : x < 4294967296) (hn : 1 ≤ n) (hn2 : n ≤ 31) :
    bits .or .u32 ((x : Int) / 2 ^ n.toNat) ((x : Int) * 2 ^ (32 - n).toNat % 4294967296) = ((rotr x n.toNat : Nat) : Int) := by
  have e1 : (x : Int) / 2 ^ n.toNat = ((x / 2 ^ n.toNat : Nat) : Int) := by simp
  have e2 : (32 - n).toNat = 32 - n.toNat := by omega
  have e3 : (x : Int) * 2 ^ (32 - n.toNat) % 4294967296 = ((x * 2 ^ (32 - n.toNat) % 4294967296 : Nat) : Int) := by simp
  rw [e2, e1, e3, u32_or_nat _ _ (Nat.lt_of_le_of_lt (Nat.div_le_self _ _) hx) (Nat.mod_lt _ (by decide)), rotr_or x n.toNat hx (by omega) (by omega)]

theorem right_int (x : Nat) (n : Int) (hx : x < 4294967296) (hn : 1 ≤ n) (hn2 : n ≤ 31) :
    RowKit.wrap64 ((x : Int) / 2 ^ n.toNat + (RowKit.wrap64 ((x : Int) * 2 ^ (32 - n).toNat)).tmod 4294967296) = ((rotr x n.toNat : Nat) : Int) := by
  have e1 : (x : Int) / 2 ^ n.toNat = ((x / 2 ^ n.toNat : Nat) : Int) := by simp
  have e2 : (32 - n).toNat = 32 - n.toNat := by omega
  have e3 : (x : Int) * 2 ^ (32 - n.toNat) = ((x * 2 ^ (32 - n.toNat) : Nat) : Int) := by simp
  have h5 : x * 2 ^ (32 - n.toNat) < 9223372036854775808 := by
    have a1 : (2 : Nat) ^ (32 - n.toNat) ≤ 2 ^ 31 := Nat.pow_le_pow_right (by decide) (by omega)
    have a2 : x * 2 ^ (32 - n.toNat) ≤ 4294967295 * 2 ^ 31 := Nat.mul_le_mul (by omega) a1
    have a3 : 4294967295 * 2 ^ 31 < 9223372036854775808 := by decide
    omega
  have hr := rotr_lt x n.toNat hx (by omega) (by omega)
  rw [e2, e1, e3]
  have w1 : RowKit.wrap64 ((x * 2 ^ (32 - n.toNat) : Nat) : Int) = ((x * 2 ^ (32 - n.toNat) : Nat) : Int) := by
    unfold RowKit.wrap64
    omega
  rw [w1]
  have t1 : (((x * 2 ^ (32 - n.toNat) : Nat) : Int)).tmod 4294967296 = ((x * 2 ^ (32 - n.toNat) % 4294967296 : Nat) : Int) := by
    rw [Int.tmod_eq_emod_of_nonneg (by omega)]; rfl
  rw [t1, ← Int.natCast_add]
  show RowKit.wrap64 ((rotr x n.toNat : Nat) : Int) = _
  generalize rotr x n.toNat = z at hr
  unfold RowKit.wrap64
  omega
end Go.Proofs.YtjnhlkaafnaooaaDoor
