import Derived.Test.YtjnhlkaafnaooaaConsts
import Derived.Test.YtjnhlkaafnaooaaGf
namespace Go.Proofs.Ytjnhlkaafnaooaa
/-- Doubling in the field of 2^8 elements. -/
def dbl (v : Nat) : Nat := if 256 ≤ 2 * v then (2 * v) ^^^ 283 else 2 * v
theorem dbl_xor_fin : ∀ u v : Fin 256, dbl (u.val ^^^ v.val) = dbl u.val ^^^ dbl v.val := by decide +kernel
theorem dbl_xor (u v : Nat) (hu : u < 256) (hv : v < 256) : dbl (u ^^^ v) = dbl u ^^^ dbl v := dbl_xor_fin ⟨u, hu⟩ ⟨v, hv⟩
theorem bit_xor (b c i : Nat) : (b ^^^ c) / 2 ^ i % 2 = (b / 2 ^ i % 2 + c / 2 ^ i % 2) % 2 := by
  have h : (b ^^^ c) / 2 ^ i = b / 2 ^ i ^^^ c / 2 ^ i := by rw [← Nat.shiftRight_eq_div_pow, ← Nat.shiftRight_eq_div_pow, ← Nat.shiftRight_eq_div_pow, Nat.shiftRight_xor_distrib]
  rw [h, xor_mod2, Nat.add_mod]
theorem prodTo_xor (m b c k : Nat) (hm : m < 256) : prodTo m (b ^^^ c) k = prodTo m b k ^^^ prodTo m c k := by
  induction k with
  | zero => simp [prodTo]
  | succ k ih =>
    have e : ∀ x, prodTo m x (k + 1) = if x / 2 ^ (7 - k) % 2 = 1 then dbl (prodTo m x k) ^^^ m else dbl (prodTo m x k) := fun x => rfl
    rw [e, e, e, ih, bit_xor, dbl_xor _ _ (prodTo_lt m b k hm) (prodTo_lt m c k hm)]
    generalize dbl (prodTo m b k) = p
    generalize dbl (prodTo m c k) = q
    rcases Nat.mod_two_eq_zero_or_one (b / 2 ^ (7 - k)) with hb | hb <;> rcases Nat.mod_two_eq_zero_or_one (c / 2 ^ (7 - k)) with hc | hc <;> rw [hb, hc]
    · simp
    · simp [Nat.xor_assoc]
    · simp only [Nat.reduceAdd, Nat.reduceMod, if_true]
      rw [if_neg (by decide)]; ac_rfl
    · simp only [Nat.reduceAdd, Nat.reduceMod, if_true]
      rw [if_neg (by decide), xor_swap, Nat.xor_self, Nat.xor_zero]
theorem prod_xor (m b c : Nat) (hm : m < 256) : prodN m (b ^^^ c) = prodN m b ^^^ prodN m c := prodTo_xor m b c 8 hm
def mixA (a b c d : Nat) : Nat := prodN 2 a ^^^ prodN 3 b ^^^ prodN 1 c ^^^ prodN 1 d
theorem mix_a : ∀ a : Fin 256, prodN 14 (prodN 2 a.val) ^^^ prodN 11 (prodN 1 a.val) ^^^ prodN 13 (prodN 1 a.val) ^^^ prodN 9 (prodN 3 a.val) = a.val := by decide +kernel
theorem mix_b : ∀ a : Fin 256, prodN 14 (prodN 3 a.val) ^^^ prodN 11 (prodN 2 a.val) ^^^ prodN 13 (prodN 1 a.val) ^^^ prodN 9 (prodN 1 a.val) = 0 := by decide +kernel
theorem mix_c : ∀ a : Fin 256, prodN 14 (prodN 1 a.val) ^^^ prodN 11 (prodN 3 a.val) ^^^ prodN 13 (prodN 2 a.val) ^^^ prodN 9 (prodN 1 a.val) = 0 := by decide +kernel
theorem mix_d : ∀ a : Fin 256, prodN 14 (prodN 1 a.val) ^^^ prodN 11 (prodN 1 a.val) ^^^ prodN 13 (prodN 3 a.val) ^^^ prodN 9 (prodN 2 a.val) = 0 := by decide +kernel
/-- The columns' step can be undone. -/
theorem unmix (a b c d : Nat) (ha : a < 256) (hb : b < 256) (hc : c < 256) (hd : d < 256) :
    prodN 14 (mixA a b c d) ^^^ prodN 11 (mixA b c d a) ^^^ prodN 13 (mixA c d a b) ^^^ prodN 9 (mixA d a b c) = a := by
  have fa := mix_a ⟨a, ha⟩
  have fb := mix_b ⟨b, hb⟩
  have fc := mix_c ⟨c, hc⟩
  have fd := mix_d ⟨d, hd⟩
  dsimp only at fa fb fc fd
  unfold mixA
  rw [prod_xor 14 _ _ (by decide), prod_xor 14 _ _ (by decide), prod_xor 14 _ _ (by decide), prod_xor 11 _ _ (by decide), prod_xor 11 _ _ (by decide), prod_xor 11 _ _ (by decide),
    prod_xor 13 _ _ (by decide), prod_xor 13 _ _ (by decide), prod_xor 13 _ _ (by decide), prod_xor 9 _ _ (by decide), prod_xor 9 _ _ (by decide), prod_xor 9 _ _ (by decide)]
  have e : ∀ a0 a1 a2 a3 b0 b1 b2 b3 c0 c1 c2 c3 d0 d1 d2 d3 : Nat,
      (a0 ^^^ b0 ^^^ c0 ^^^ d0) ^^^ (b1 ^^^ c1 ^^^ d1 ^^^ a1) ^^^ (c2 ^^^ d2 ^^^ a2 ^^^ b2) ^^^ (d3 ^^^ a3 ^^^ b3 ^^^ c3) = (a0 ^^^ a1 ^^^ a2 ^^^ a3) ^^^ ((b0 ^^^ b1 ^^^ b2 ^^^ b3) ^^^ ((c0 ^^^ c1 ^^^ c2 ^^^ c3) ^^^ (d0 ^^^ d1 ^^^ d2 ^^^ d3))) := by
    intros; ac_rfl
  rw [e, fa, fb, fc, fd]; simp
end Go.Proofs.Ytjnhlkaafnaooaa
