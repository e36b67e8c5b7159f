import Derived.Test.YtjnhlkaafnaooaaDoorRoot
import Derived.Test.YtjnhlkaafnaooaaDoorField
namespace Go.Proofs.YtjnhlkaafnaooaaDoor
/-- What one number adds to the two lists of words. -/
def stepC (n : Nat) (hk : List Nat × List Nat) : List Nat × List Nat :=
  if primeN n then (if hk.1.length < 8 then hk.1 ++ [rootN n 2] else hk.1, hk.2 ++ [rootN n 3]) else hk
def constTo : Nat → List Nat × List Nat
  | 0 => ([], [])
  | m + 1 => stepC (m + 2) (constTo m)
def hWords : List Nat := [1779033703, 3144134277, 1013904242, 2773480762, 1359893119, 2600822924, 528734635, 1541459225]
def kWords : List Nat := [1116352408, 1899447441, 3049323471, 3921009573, 961987163, 1508970993, 2453635748, 2870763221, 3624381080, 310598401, 607225278, 1426881987, 1925078388, 2162078206, 2614888103, 3248222580, 3835390401, 4022224774, 264347078, 604807628, 770255983, 1249150122, 1555081692, 1996064986, 2554220882, 2821834349, 2952996808, 3210313671, 3336571891, 3584528711, 113926993, 338241895, 666307205, 773529912, 1294757372, 1396182291, 1695183700, 1986661051, 2177026350, 2456956037, 2730485921, 2820302411, 3259730800, 3345764771, 3516065817, 3600352804, 4094571909, 275423344, 430227734, 506948616, 659060556, 883997877, 958139571, 1322822218, 1537002063, 1747873779, 1955562222, 2024104815, 2227730452, 2361852424, 2428436474, 2756734187, 3204031479, 3329325298]
theorem constTo_end : constTo 310 = (hWords, kWords) := by decide +kernel
theorem constTo_last : (constTo 309).2.length = 63 := by decide +kernel
theorem constTo_mono (m : Nat) : (constTo m).2.length ≤ (constTo (m + 1)).2.length := by
  show _ ≤ (stepC (m + 2) (constTo m)).2.length
  unfold stepC
  split <;> simp
theorem constTo_short : ∀ d m, m + d = 309 → (constTo m).2.length < 64
  | 0, m, h => by have : m = 309 := by omega
                  subst this; rw [constTo_last]; decide
  | d + 1, m, h => by have := constTo_short d (m + 1) (by omega); have := constTo_mono m; omega
theorem constTo_lt (m : Nat) (h : m < 310) : (constTo m).2.length < 64 := constTo_short (309 - m) m (by omega)
theorem constTo_h8 (m : Nat) : (constTo m).1.length ≤ 8 := by
  induction m with
  | zero => simp [constTo]
  | succ m ih =>
    show (stepC (m + 2) (constTo m)).1.length ≤ 8
    unfold stepC
    split
    · dsimp only
      split
      · simp; omega
      · exact ih
    · exact ih
/-- The bits of the substitution. -/
def sbit (x i : Nat) : Nat := x / 2 ^ i ^^^ x / 2 ^ ((i + 4) % 8) ^^^ x / 2 ^ ((i + 5) % 8) ^^^ x / 2 ^ ((i + 6) % 8) ^^^ x / 2 ^ ((i + 7) % 8) ^^^ 99 / 2 ^ i
def sTo (x : Nat) : Nat → Nat
  | 0 => 0
  | i + 1 => sTo x i + sbit x i % 2 * 2 ^ i
def sboxN (b : Nat) : Nat := sTo (invN b) 8
def sList (n : Nat) : List Nat := (List.range n).map sboxN
theorem sList_succ (n : Nat) : sList (n + 1) = sList n ++ [sboxN n] := by simp [sList, List.range_succ]
theorem sList_len (n : Nat) : (sList n).length = n := by simp [sList]
theorem sTo_lt (x i : Nat) : sTo x i < 2 ^ i := by
  induction i with
  | zero => simp [sTo]
  | succ i ih =>
    rw [sTo, Nat.pow_succ]
    have h1 : sbit x i % 2 * 2 ^ i ≤ 1 * 2 ^ i := Nat.mul_le_mul_right _ (by omega)
    omega
theorem invN_lt (a : Nat) : invN a < 256 := invFrom_lt a 255 1 (by omega)
theorem sboxN_lt (b : Nat) : sboxN b < 256 := sTo_lt _ 8
theorem sh_bit (k x : Nat) (hx : x < 256) (_hk : k < 8) :
    bits .xor .i64 (bits .xor .i64 (bits .xor .i64 (bits .xor .i64 (bits .xor .i64 ((x / 2 ^ k : Nat) : Int) ((x / 2 ^ ((k + 4) % 8) : Nat) : Int)) ((x / 2 ^ ((k + 5) % 8) : Nat) : Int)) ((x / 2 ^ ((k + 6) % 8) : Nat) : Int)) ((x / 2 ^ ((k + 7) % 8) : Nat) : Int)) ((99 / 2 ^ k : Nat) : Int) = ((sbit x k : Nat) : Int) := by
  have hd : ∀ j, x / 2 ^ j < 256 := fun j => Nat.lt_of_le_of_lt (Nat.div_le_self _ _) hx
  have h9 : 99 / 2 ^ k < 256 := Nat.lt_of_le_of_lt (Nat.div_le_self _ _) (by decide)
  have hx2 : ∀ a b : Nat, a < 256 → b < 256 → a ^^^ b < 256 := fun a b ha hb => Nat.xor_lt_two_pow (n := 8) ha hb
  have key : ∀ a b : Nat, a < 256 → b < 256 → bits .xor .i64 (a : Int) (b : Int) = ((a ^^^ b : Nat) : Int) := fun a b ha hb => i64_xor_nat a b (by omega) (by omega)
  rw [key _ _ (hd _) (hd _), key _ _ (hx2 _ _ (hd _) (hd _)) (hd _), key _ _ (hx2 _ _ (hx2 _ _ (hd _) (hd _)) (hd _)) (hd _), key _ _ (hx2 _ _ (hx2 _ _ (hx2 _ _ (hd _) (hd _)) (hd _)) (hd _)) (hd _), key _ _ (hx2 _ _ (hx2 _ _ (hx2 _ _ (hx2 _ _ (hd _) (hd _)) (hd _)) (hd _)) (hd _)) h9]
  rfl
theorem wrap_small (y z : Nat) (h : y + z < 65536) : RowKit.wrap64 ((y : Int) + RowKit.wrap64 (z : Int)) = ((y + z : Nat) : Int) := by
  unfold RowKit.wrap64
  omega
theorem sbit_lt (x k : Nat) (hx : x < 256) : sbit x k < 256 := by
  have hd : ∀ j, x / 2 ^ j < 256 := fun j => Nat.lt_of_le_of_lt (Nat.div_le_self _ _) hx
  have h9 : 99 / 2 ^ k < 256 := Nat.lt_of_le_of_lt (Nat.div_le_self _ _) (by decide)
  have hx2 : ∀ a b : Nat, a < 256 → b < 256 → a ^^^ b < 256 := fun a b ha hb => Nat.xor_lt_two_pow (n := 8) ha hb
  unfold sbit
  exact hx2 _ _ (hx2 _ _ (hx2 _ _ (hx2 _ _ (hx2 _ _ (hd _) (hd _)) (hd _)) (hd _)) (hd _)) h9
theorem and_one (n : Nat) (h : n < 9223372036854775808) : bits .and .i64 (n : Int) 1 = ((n % 2 : Nat) : Int) := by
  have := i64_and_nat n 1 h (by decide)
  rw [nat_mask1] at this
  exact this
theorem sh_round (k x : Nat) (hx : x < 256) (hk : k < 8) :
    RowKit.wrap64 (((sTo x k : Nat) : Int) + RowKit.wrap64 (bits .and .i64 (bits .xor .i64 (bits .xor .i64 (bits .xor .i64 (bits .xor .i64 (bits .xor .i64 ((x : Int) / 2 ^ k) ((x : Int) / 2 ^ ((k + 4) % 8))) ((x : Int) / 2 ^ ((k + 5) % 8))) ((x : Int) / 2 ^ ((k + 6) % 8))) ((x : Int) / 2 ^ ((k + 7) % 8))) (99 / 2 ^ k)) 1 * 2 ^ k)) = ((sTo x (k + 1) : Nat) : Int) := by
  have h := sh_bit k x hx hk
  have e : ∀ j : Nat, ((x / 2 ^ j : Nat) : Int) = (x : Int) / 2 ^ j := fun j => by simp
  have e9 : ((99 / 2 ^ k : Nat) : Int) = 99 / 2 ^ k := by simp
  rw [e, e, e, e, e, e9] at h
  rw [h, and_one _ (by have := sbit_lt x k hx; omega)]
  have ep : (((sbit x k % 2 : Nat) : Int)) * 2 ^ k = ((sbit x k % 2 * 2 ^ k : Nat) : Int) := by simp
  have hl := sTo_lt x (k + 1)
  have hp : 2 ^ (k + 1) ≤ 256 := Nat.pow_le_pow_right (n := 2) (by decide) (show k + 1 ≤ 8 by omega)
  have hl2 : sTo x (k + 1) = sTo x k + sbit x k % 2 * 2 ^ k := rfl
  rw [ep, hl2]
  exact wrap_small _ _ (by rw [← hl2]; omega)
end Go.Proofs.YtjnhlkaafnaooaaDoor
