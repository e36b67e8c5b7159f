import Derived.WalkKit
import Derived.Test.YtjnhlkaafnaooabGreatDoorRmA
namespace Go.Proofs.YtjnhlkaafnaooabGreatDoor
/-- The field of the tags: a block as a number, its first bit the highest. -/
def ghR : Nat := 225 * 2 ^ 120
def sh (v : Nat) : Nat := if v % 2 = 1 then v / 2 ^^^ ghR else v / 2
def shN (v : Nat) : Nat → Nat
  | 0 => v
  | k + 1 => sh (shN v k)
def dotTo (x v : Nat) : Nat → Nat
  | 0 => 0
  | k + 1 => if x.testBit (127 - k) then dotTo x v k ^^^ shN v k else dotTo x v k
def dotN (x v : Nat) : Nat := dotTo x v 128

theorem xor_swap (a b c d : Nat) : (a ^^^ b) ^^^ (c ^^^ d) = (a ^^^ c) ^^^ (b ^^^ d) := by
  rw [Nat.xor_assoc, ← Nat.xor_assoc b, Nat.xor_comm b c, Nat.xor_assoc c, ← Nat.xor_assoc a]
theorem xor_mod2 (a b : Nat) : (a ^^^ b) % 2 = (a + b) % 2 := by
  have h : (a ^^^ b) % 2 ^ 1 = a % 2 ^ 1 ^^^ b % 2 ^ 1 := Nat.xor_mod_two_pow
  rw [Nat.pow_one] at h
  rw [h]
  rcases Nat.mod_two_eq_zero_or_one a with ha | ha <;> rcases Nat.mod_two_eq_zero_or_one b with hb | hb <;> rw [ha, hb]
  · show 0 = _; omega
  · show 1 = _; omega
  · show 1 = _; omega
  · show 0 = _; omega
theorem sh_zero : sh 0 = 0 := by simp [sh]
theorem sh_xor (a b : Nat) : sh (a ^^^ b) = sh a ^^^ sh b := by
  have h1 : (a ^^^ b) % 2 = (a + b) % 2 := xor_mod2 a b
  have h2 : (a ^^^ b) / 2 = a / 2 ^^^ b / 2 := Nat.xor_div_two
  unfold sh
  rw [h1, h2]
  rcases Nat.mod_two_eq_zero_or_one a with ha | ha <;> rcases Nat.mod_two_eq_zero_or_one b with hb | hb
  · rw [if_neg (by omega), if_neg (by omega), if_neg (by omega)]
  · rw [if_pos (by omega), if_neg (by omega), if_pos (by omega), Nat.xor_assoc]
  · rw [if_pos (by omega), if_pos (by omega), if_neg (by omega), Nat.xor_assoc, Nat.xor_assoc, Nat.xor_comm ghR]
  · rw [if_neg (by omega), if_pos (by omega), if_pos (by omega), xor_swap, Nat.xor_self, Nat.xor_zero]
theorem sh_lt (v : Nat) (h : v < 2 ^ 128) : sh v < 2 ^ 128 := by
  unfold sh
  split
  · exact Nat.xor_lt_two_pow (by omega) (by decide)
  · omega
theorem sh_inj0 (v : Nat) (h : v < 2 ^ 128) (h0 : sh v = 0) : v = 0 := by
  unfold sh at h0
  split at h0
  · have e : v / 2 = ghR := by
      have := congrArg (· ^^^ ghR) h0
      simpa [Nat.xor_assoc] using this
    have : ghR < 2 ^ 127 := by rw [← e]; omega
    exact absurd this (by decide)
  · omega
theorem shN_zero (k : Nat) : shN 0 k = 0 := by
  induction k with
  | zero => rfl
  | succ k ih => rw [shN, ih, sh_zero]
theorem shN_xor (a b k : Nat) : shN (a ^^^ b) k = shN a k ^^^ shN b k := by
  induction k with
  | zero => rfl
  | succ k ih => rw [shN, ih, sh_xor]; rfl
theorem shN_lt (v k : Nat) (h : v < 2 ^ 128) : shN v k < 2 ^ 128 := by
  induction k with
  | zero => exact h
  | succ k ih => exact sh_lt _ ih
theorem shN_inj0 (v k : Nat) (h : v < 2 ^ 128) (h0 : shN v k = 0) : v = 0 := by
  induction k with
  | zero => exact h0
  | succ k ih => exact ih (sh_inj0 _ (shN_lt v k h) h0)
theorem shN_sh (v k : Nat) : shN (sh v) k = sh (shN v k) := by
  induction k with
  | zero => rfl
  | succ k ih => rw [shN, ih]; rfl
theorem dotTo_lt (x v k : Nat) (h : v < 2 ^ 128) : dotTo x v k < 2 ^ 128 := by
  induction k with
  | zero => exact Nat.two_pow_pos _
  | succ k ih =>
    rw [dotTo]; split
    · exact Nat.xor_lt_two_pow ih (shN_lt _ _ h)
    · exact ih
theorem dotTo_xor_right (x a b k : Nat) : dotTo x (a ^^^ b) k = dotTo x a k ^^^ dotTo x b k := by
  induction k with
  | zero => simp [dotTo]
  | succ k ih =>
    rw [dotTo, dotTo, dotTo, ih, shN_xor]; split
    · rw [xor_swap]
    · rfl
theorem dotTo_xor_left (x y v k : Nat) : dotTo (x ^^^ y) v k = dotTo x v k ^^^ dotTo y v k := by
  induction k with
  | zero => simp [dotTo]
  | succ k ih =>
    rw [dotTo, dotTo, dotTo, ih, Nat.testBit_xor]
    cases x.testBit (127 - k) <;> cases y.testBit (127 - k) <;> simp
    · rw [Nat.xor_assoc]
    · rw [Nat.xor_assoc, Nat.xor_comm (dotTo y v k), ← Nat.xor_assoc]
    · rw [xor_swap]; simp
theorem dotTo_sh (x v k : Nat) : dotTo x (sh v) k = sh (dotTo x v k) := by
  induction k with
  | zero => exact sh_zero.symm
  | succ k ih =>
    rw [dotTo, dotTo, ih, shN_sh]; split
    · rw [sh_xor]
    · rfl
theorem dot_sh (x v : Nat) : dotN x (sh v) = sh (dotN x v) := dotTo_sh x v 128
theorem dot_shN (x v k : Nat) : dotN x (shN v k) = shN (dotN x v) k := by
  induction k with
  | zero => rfl
  | succ k ih => rw [shN, dot_sh, ih]; rfl
theorem dot_xor_left (x y v : Nat) : dotN (x ^^^ y) v = dotN x v ^^^ dotN y v := dotTo_xor_left x y v 128
theorem dot_xor_right (x a b : Nat) : dotN x (a ^^^ b) = dotN x a ^^^ dotN x b := dotTo_xor_right x a b 128
theorem dot_lt (x v : Nat) (h : v < 2 ^ 128) : dotN x v < 2 ^ 128 := dotTo_lt x v 128 h
theorem dotTo_zero (x k : Nat) : dotTo x 0 k = 0 := by
  induction k with
  | zero => rfl
  | succ k ih => rw [dotTo, ih, shN_zero]; simp
theorem dot_zero (x : Nat) : dotN x 0 = 0 := dotTo_zero x 128
/-- Products of products come in any order. -/
theorem dotTo_dot (x y v k : Nat) : dotTo x (dotN y v) k = dotN y (dotTo x v k) := by
  induction k with
  | zero => exact (dot_zero y).symm
  | succ k ih =>
    rw [dotTo, dotTo, ih, ← dot_shN]; split
    · rw [dot_xor_right]
    · rfl
theorem dot_dot (x y v : Nat) : dotN x (dotN y v) = dotN y (dotN x v) := dotTo_dot x y v 128
/-- The one of the field. -/
def gOne : Nat := 2 ^ 127
theorem shN_one : ∀ k, k < 128 → shN gOne k = 2 ^ (127 - k) := by decide +kernel
theorem dotTo_one (x k : Nat) (hk : k ≤ 128) (hx : x < 2 ^ 128) : dotTo x gOne k = x / 2 ^ (128 - k) * 2 ^ (128 - k) := by
  induction k with
  | zero => simp [dotTo]; omega
  | succ k ih =>
    have hp : 2 ^ (128 - k) = 2 * 2 ^ (127 - k) := by rw [← Nat.pow_succ']; congr 1; omega
    have e1 : 128 - (k + 1) = 127 - k := by omega
    rw [dotTo, ih (by omega), shN_one k (by omega), e1, hp]
    have hd : x / (2 * 2 ^ (127 - k)) = x / 2 ^ (127 - k) / 2 := by rw [Nat.mul_comm, ← Nat.div_div_eq_div_mul]
    have ht : x.testBit (127 - k) = decide (x / 2 ^ (127 - k) % 2 = 1) := Nat.testBit_eq_decide_div_mod_eq
    rw [hd, ht]
    generalize x / 2 ^ (127 - k) = u
    generalize 127 - k = m
    by_cases hu : u % 2 = 1
    · rw [if_pos (by simpa using hu)]
      have e2 : u / 2 * (2 * 2 ^ m) ^^^ 2 ^ m = u * 2 ^ m := by
        have h3 : (u / 2 * 2) ^^^ 1 = u := by
          apply Nat.eq_of_testBit_eq
          intro i
          cases i with
          | zero => rw [Nat.testBit_xor]; simp [Nat.testBit_zero, hu]
          | succ i => rw [Nat.testBit_xor]; simp [Nat.testBit_succ]
        rw [← Nat.mul_assoc]
        have h4 : 2 ^ m = 1 <<< m := by rw [Nat.shiftLeft_eq, Nat.one_mul]
        have h5 : u / 2 * 2 * 2 ^ m = (u / 2 * 2) <<< m := by rw [Nat.shiftLeft_eq]
        rw [h5]
        conv => lhs; rw [h4]
        rw [← Nat.shiftLeft_xor_distrib, h3, Nat.shiftLeft_eq]
      exact e2
    · rw [if_neg (by simpa using hu)]
      have : u = u / 2 * 2 := by omega
      rw [← Nat.mul_assoc, ← this]
theorem dot_one (x : Nat) (hx : x < 2 ^ 128) : dotN x gOne = x := by
  have := dotTo_one x 128 (by omega) hx
  unfold dotN
  simpa using this
theorem dot_comm (x y : Nat) (hx : x < 2 ^ 128) (hy : y < 2 ^ 128) : dotN x y = dotN y x := by
  have h := dot_dot x y gOne
  rwa [dot_one x hx, dot_one y hy] at h
theorem dot_assoc (x y z : Nat) (hy : y < 2 ^ 128) (hz : z < 2 ^ 128) : dotN (dotN x y) z = dotN x (dotN y z) := by
  rw [dot_comm (dotN x y) z (dot_lt _ _ hy) hz, dot_dot z x y, dot_comm z y hz hy]
theorem zero_dot (x : Nat) (hx : x < 2 ^ 128) : dotN 0 x = 0 := by rw [dot_comm 0 x (Nat.two_pow_pos _) hx, dot_zero]
/-- Squares. -/
def sq (x : Nat) : Nat := dotN x x
theorem sq_lt (x : Nat) (h : x < 2 ^ 128) : sq x < 2 ^ 128 := dot_lt x x h
theorem sq_xor (x y : Nat) (hx : x < 2 ^ 128) (hy : y < 2 ^ 128) : sq (x ^^^ y) = sq x ^^^ sq y := by
  unfold sq
  rw [dot_xor_left, dot_xor_right, dot_xor_right, dot_comm y x hy hx, Nat.xor_comm (dotN x y) (dotN y y), xor_swap, Nat.xor_comm (dotN x y), Nat.xor_assoc, Nat.xor_self, Nat.xor_zero]
end Go.Proofs.YtjnhlkaafnaooabGreatDoor

namespace Go.Proofs.YtjnhlkaafnaooabGreatDoor
/-- Doubling in the field of 2^8 elements. -/
def dbl (v : Nat) : Nat := if 256 ≤ 2 * v then (2 * v) ^^^ 283 else 2 * v
theorem dbl_xor_fin : ∀ u v : Fin 256, dbl (u.val ^^^ v.val) = dbl u.val ^^^ dbl v.val := by decide +kernel
theorem dbl_xor (u v : Nat) (hu : u < 256) (hv : v < 256) : dbl (u ^^^ v) = dbl u ^^^ dbl v := dbl_xor_fin ⟨u, hu⟩ ⟨v, hv⟩
theorem bit_xor (b c i : Nat) : (b ^^^ c) / 2 ^ i % 2 = (b / 2 ^ i % 2 + c / 2 ^ i % 2) % 2 := by
  have h : (b ^^^ c) / 2 ^ i = b / 2 ^ i ^^^ c / 2 ^ i := by rw [← Nat.shiftRight_eq_div_pow, ← Nat.shiftRight_eq_div_pow, ← Nat.shiftRight_eq_div_pow, Nat.shiftRight_xor_distrib]
  rw [h, xor_mod2, Nat.add_mod]
theorem prodTo_xor (m b c k : Nat) (hm : m < 256) : prodTo m (b ^^^ c) k = prodTo m b k ^^^ prodTo m c k := by
  induction k with
  | zero => simp [prodTo]
  | succ k ih =>
    have e : ∀ x, prodTo m x (k + 1) = if x / 2 ^ (7 - k) % 2 = 1 then dbl (prodTo m x k) ^^^ m else dbl (prodTo m x k) := fun x => rfl
    rw [e, e, e, ih, bit_xor, dbl_xor _ _ (prodTo_lt m b k hm) (prodTo_lt m c k hm)]
    generalize dbl (prodTo m b k) = p
    generalize dbl (prodTo m c k) = q
    rcases Nat.mod_two_eq_zero_or_one (b / 2 ^ (7 - k)) with hb | hb <;> rcases Nat.mod_two_eq_zero_or_one (c / 2 ^ (7 - k)) with hc | hc <;> rw [hb, hc]
    · simp
    · simp [Nat.xor_assoc]
    · simp only [Nat.reduceAdd, Nat.reduceMod, if_true]
      rw [if_neg (by decide)]; ac_rfl
    · simp only [Nat.reduceAdd, Nat.reduceMod, if_true]
      rw [if_neg (by decide), xor_swap, Nat.xor_self, Nat.xor_zero]
theorem prod_xor (m b c : Nat) (hm : m < 256) : prodN m (b ^^^ c) = prodN m b ^^^ prodN m c := prodTo_xor m b c 8 hm
def mixA (a b c d : Nat) : Nat := prodN 2 a ^^^ prodN 3 b ^^^ prodN 1 c ^^^ prodN 1 d
theorem mix_a : ∀ a : Fin 256, prodN 14 (prodN 2 a.val) ^^^ prodN 11 (prodN 1 a.val) ^^^ prodN 13 (prodN 1 a.val) ^^^ prodN 9 (prodN 3 a.val) = a.val := by decide +kernel
theorem mix_b : ∀ a : Fin 256, prodN 14 (prodN 3 a.val) ^^^ prodN 11 (prodN 2 a.val) ^^^ prodN 13 (prodN 1 a.val) ^^^ prodN 9 (prodN 1 a.val) = 0 := by decide +kernel
theorem mix_c : ∀ a : Fin 256, prodN 14 (prodN 1 a.val) ^^^ prodN 11 (prodN 3 a.val) ^^^ prodN 13 (prodN 2 a.val) ^^^ prodN 9 (prodN 1 a.val) = 0 := by decide +kernel
theorem mix_d : ∀ a : Fin 256, prodN 14 (prodN 1 a.val) ^^^ prodN 11 (prodN 1 a.val) ^^^ prodN 13 (prodN 3 a.val) ^^^ prodN 9 (prodN 2 a.val) = 0 := by decide +kernel
/-- The columns' step can be undone. -/
theorem unmix (a b c d : Nat) (ha : a < 256) (hb : b < 256) (hc : c < 256) (hd : d < 256) :
    prodN 14 (mixA a b c d) ^^^ prodN 11 (mixA b c d a) ^^^ prodN 13 (mixA c d a b) ^^^ prodN 9 (mixA d a b c) = a := by
  have fa := mix_a ⟨a, ha⟩
  have fb := mix_b ⟨b, hb⟩
  have fc := mix_c ⟨c, hc⟩
  have fd := mix_d ⟨d, hd⟩
  dsimp only at fa fb fc fd
  unfold mixA
  rw [prod_xor 14 _ _ (by decide), prod_xor 14 _ _ (by decide), prod_xor 14 _ _ (by decide), prod_xor 11 _ _ (by decide), prod_xor 11 _ _ (by decide), prod_xor 11 _ _ (by decide),
    prod_xor 13 _ _ (by decide), prod_xor 13 _ _ (by decide), prod_xor 13 _ _ (by decide), prod_xor 9 _ _ (by decide), prod_xor 9 _ _ (by decide), prod_xor 9 _ _ (by decide)]
  have e : ∀ a0 a1 a2 a3 b0 b1 b2 b3 c0 c1 c2 c3 d0 d1 d2 d3 : Nat,
      (a0 ^^^ b0 ^^^ c0 ^^^ d0) ^^^ (b1 ^^^ c1 ^^^ d1 ^^^ a1) ^^^ (c2 ^^^ d2 ^^^ a2 ^^^ b2) ^^^ (d3 ^^^ a3 ^^^ b3 ^^^ c3) = (a0 ^^^ a1 ^^^ a2 ^^^ a3) ^^^ ((b0 ^^^ b1 ^^^ b2 ^^^ b3) ^^^ ((c0 ^^^ c1 ^^^ c2 ^^^ c3) ^^^ (d0 ^^^ d1 ^^^ d2 ^^^ d3))) := by
    intros; ac_rfl
  rw [e, fa, fb, fc, fd]; simp
end Go.Proofs.YtjnhlkaafnaooabGreatDoor

namespace Go.Proofs.YtjnhlkaafnaooabGreatDoor
/-- The substitution, written out; and what undoes it. -/
def sbLit : List Nat := [99, 124, 119, 123, 242, 107, 111, 197, 48, 1, 103, 43, 254, 215, 171, 118, 202, 130, 201, 125, 250, 89, 71, 240, 173, 212, 162, 175, 156, 164, 114, 192, 183, 253, 147, 38, 54, 63, 247, 204, 52, 165, 229, 241, 113, 216, 49, 21, 4, 199, 35, 195, 24, 150, 5, 154, 7, 18, 128, 226, 235, 39, 178, 117, 9, 131, 44, 26, 27, 110, 90, 160, 82, 59, 214, 179, 41, 227, 47, 132, 83, 209, 0, 237, 32, 252, 177, 91, 106, 203, 190, 57, 74, 76, 88, 207, 208, 239, 170, 251, 67, 77, 51, 133, 69, 249, 2, 127, 80, 60, 159, 168, 81, 163, 64, 143, 146, 157, 56, 245, 188, 182, 218, 33, 16, 255, 243, 210, 205, 12, 19, 236, 95, 151, 68, 23, 196, 167, 126, 61, 100, 93, 25, 115, 96, 129, 79, 220, 34, 42, 144, 136, 70, 238, 184, 20, 222, 94, 11, 219, 224, 50, 58, 10, 73, 6, 36, 92, 194, 211, 172, 98, 145, 149, 228, 121, 231, 200, 55, 109, 141, 213, 78, 169, 108, 86, 244, 234, 101, 122, 174, 8, 186, 120, 37, 46, 28, 166, 180, 198, 232, 221, 116, 31, 75, 189, 139, 138, 112, 62, 181, 102, 72, 3, 246, 14, 97, 53, 87, 185, 134, 193, 29, 158, 225, 248, 152, 17, 105, 217, 142, 148, 155, 30, 135, 233, 206, 85, 40, 223, 140, 161, 137, 13, 191, 230, 66, 104, 65, 153, 45, 15, 176, 84, 187, 22]
def isbLit : List Nat := [82, 9, 106, 213, 48, 54, 165, 56, 191, 64, 163, 158, 129, 243, 215, 251, 124, 227, 57, 130, 155, 47, 255, 135, 52, 142, 67, 68, 196, 222, 233, 203, 84, 123, 148, 50, 166, 194, 35, 61, 238, 76, 149, 11, 66, 250, 195, 78, 8, 46, 161, 102, 40, 217, 36, 178, 118, 91, 162, 73, 109, 139, 209, 37, 114, 248, 246, 100, 134, 104, 152, 22, 212, 164, 92, 204, 93, 101, 182, 146, 108, 112, 72, 80, 253, 237, 185, 218, 94, 21, 70, 87, 167, 141, 157, 132, 144, 216, 171, 0, 140, 188, 211, 10, 247, 228, 88, 5, 184, 179, 69, 6, 208, 44, 30, 143, 202, 63, 15, 2, 193, 175, 189, 3, 1, 19, 138, 107, 58, 145, 17, 65, 79, 103, 220, 234, 151, 242, 207, 206, 240, 180, 230, 115, 150, 172, 116, 34, 231, 173, 53, 133, 226, 249, 55, 232, 28, 117, 223, 110, 71, 241, 26, 113, 29, 41, 197, 137, 111, 183, 98, 14, 170, 24, 190, 27, 252, 86, 62, 75, 198, 210, 121, 32, 154, 219, 192, 254, 120, 205, 90, 244, 31, 221, 168, 51, 136, 7, 199, 49, 177, 18, 16, 89, 39, 128, 236, 95, 96, 81, 127, 169, 25, 181, 74, 13, 45, 229, 122, 159, 147, 201, 156, 239, 160, 224, 59, 77, 174, 42, 245, 176, 200, 235, 187, 60, 131, 83, 153, 97, 23, 43, 4, 126, 186, 119, 214, 38, 225, 105, 20, 99, 85, 33, 12, 125]
set_option maxRecDepth 100000 in
theorem sList_lit : sList 256 = sbLit := by decide +kernel
theorem isb_sb : ∀ a : Fin 256, isbLit.getD (sbLit.getD a.val 0) 0 = a.val := by decide +kernel
theorem sbLit_get (b : Nat) (hb : b < 256) : sbLit.getD b 0 = sboxN b := by
  rw [← sList_lit]
  simp [sList, List.getElem?_map, List.getElem?_range hb]
/-- The substitution takes no two bytes to one. -/
theorem sbox_inj (a b : Nat) (ha : a < 256) (hb : b < 256) (h : sboxN a = sboxN b) : a = b := by
  have h1 := isb_sb ⟨a, ha⟩
  have h2 := isb_sb ⟨b, hb⟩
  dsimp only at h1 h2
  rw [sbLit_get a ha] at h1
  rw [sbLit_get b hb] at h2
  rw [← h1, ← h2, h]
end Go.Proofs.YtjnhlkaafnaooabGreatDoor

namespace Go.Proofs.YtjnhlkaafnaooabGreatDoor
/-- A byte of a block, as a number. -/
def byteAt (t : List UInt8) (i : Nat) : Nat := (t.getD i 0).toNat
theorem byteAt_lt (t : List UInt8) (i : Nat) : byteAt t i < 256 := (t.getD i 0).toNat_lt
theorem bytes_ext (t u : List UInt8) (h : t.length = u.length) (hb : ∀ i, i < t.length → byteAt t i = byteAt u i) : t = u := by
  apply List.ext_getElem h
  intro i h1 h2
  have := hb i h1
  unfold byteAt at this
  rw [List.getD_eq_getElem?_getD, List.getD_eq_getElem?_getD, List.getElem?_eq_getElem h1, List.getElem?_eq_getElem h2] at this
  exact UInt8.toNat_inj.1 this
/-- Each byte through the substitution. -/
def subL (t : List UInt8) : List UInt8 := t.map fun b => UInt8.ofNat (sboxN b.toNat)
theorem subL_len (t : List UInt8) : (subL t).length = t.length := by simp [subL]
theorem ofNat_inj8 (a b : Nat) (ha : a < 256) (hb : b < 256) (h : UInt8.ofNat a = UInt8.ofNat b) : a = b := by
  have := congrArg UInt8.toNat h
  simpa [UInt8.toNat_ofNat, Nat.mod_eq_of_lt ha, Nat.mod_eq_of_lt hb] using this
theorem subL_inj (t u : List UInt8) (h : subL t = subL u) : t = u := by
  have hf : ∀ a b : UInt8, UInt8.ofNat (sboxN a.toNat) = UInt8.ofNat (sboxN b.toNat) → a = b := fun a b e =>
    UInt8.toNat_inj.1 (sbox_inj _ _ a.toNat_lt b.toNat_lt (ofNat_inj8 _ _ (sboxN_lt _) (sboxN_lt _) e))
  exact List.map_inj_right (fun a b e => hf a b e) |>.1 h
/-- The rows, turned. -/
def rowsL (t : List UInt8) : List UInt8 := (List.range 16).map fun i => t.getD ((i + 4 * (i % 4)) % 16) 0
theorem rowsL_len (t : List UInt8) : (rowsL t).length = 16 := by simp [rowsL]
theorem rowsL_get (t : List UInt8) (i : Nat) (hi : i < 16) : byteAt (rowsL t) i = byteAt t ((i + 4 * (i % 4)) % 16) := by
  unfold byteAt rowsL
  rw [List.getD_eq_getElem?_getD, List.getElem?_map, List.getElem?_range hi]
  rfl
theorem rowsL_inj (t u : List UInt8) (ht : t.length = 16) (hu : u.length = 16) (h : rowsL t = rowsL u) : t = u := by
  refine bytes_ext t u (by omega) fun i hi => ?_
  have hj : (i + 12 * (i % 4)) % 16 < 16 := Nat.mod_lt _ (by decide)
  have h1 := rowsL_get t _ hj
  have h2 := rowsL_get u _ hj
  have e : ((i + 12 * (i % 4)) % 16 + 4 * ((i + 12 * (i % 4)) % 16 % 4)) % 16 = i := by omega
  rw [e] at h1 h2
  rw [← h1, ← h2, h]
/-- Each column times the matrix. -/
def colAt (t : List UInt8) (i : Nat) : Nat := mixA (byteAt t (i / 4 * 4 + i % 4)) (byteAt t (i / 4 * 4 + (i + 1) % 4)) (byteAt t (i / 4 * 4 + (i + 2) % 4)) (byteAt t (i / 4 * 4 + (i + 3) % 4))
def colL (t : List UInt8) : List UInt8 := (List.range 16).map fun i => UInt8.ofNat (colAt t i)
theorem colL_len (t : List UInt8) : (colL t).length = 16 := by simp [colL]
theorem mixA_lt (a b c d : Nat) : mixA a b c d < 256 := by
  unfold mixA
  exact Nat.xor_lt_two_pow (n := 8) (Nat.xor_lt_two_pow (n := 8) (Nat.xor_lt_two_pow (n := 8) (prodN_lt _ _ (by decide)) (prodN_lt _ _ (by decide))) (prodN_lt _ _ (by decide))) (prodN_lt _ _ (by decide))
theorem colL_get (t : List UInt8) (i : Nat) (hi : i < 16) : byteAt (colL t) i = colAt t i := by
  unfold byteAt colL
  rw [List.getD_eq_getElem?_getD, List.getElem?_map, List.getElem?_range hi]
  show (UInt8.ofNat (colAt t i)).toNat = _
  exact (UInt8.toNat_ofNat' ..).trans (Nat.mod_eq_of_lt (mixA_lt _ _ _ _))
theorem col_back (t : List UInt8) (i : Nat) :
    prodN 14 (colAt t i) ^^^ prodN 11 (colAt t (i / 4 * 4 + (i + 1) % 4)) ^^^ prodN 13 (colAt t (i / 4 * 4 + (i + 2) % 4)) ^^^ prodN 9 (colAt t (i / 4 * 4 + (i + 3) % 4)) = byteAt t i := by
  have h := unmix (byteAt t (i / 4 * 4 + i % 4)) (byteAt t (i / 4 * 4 + (i + 1) % 4)) (byteAt t (i / 4 * 4 + (i + 2) % 4)) (byteAt t (i / 4 * 4 + (i + 3) % 4)) (byteAt_lt _ _) (byteAt_lt _ _) (byteAt_lt _ _) (byteAt_lt _ _)
  have e0 : i / 4 * 4 + i % 4 = i := by omega
  have f1 : (i / 4 * 4 + (i + 1) % 4) / 4 = i / 4 := by omega
  have f2 : (i / 4 * 4 + (i + 2) % 4) / 4 = i / 4 := by omega
  have f3 : (i / 4 * 4 + (i + 3) % 4) / 4 = i / 4 := by omega
  have g1 : ∀ k, (i / 4 * 4 + (i + 1) % 4 + k) % 4 = (i + 1 + k) % 4 := fun k => by omega
  have g2 : ∀ k, (i / 4 * 4 + (i + 2) % 4 + k) % 4 = (i + 2 + k) % 4 := fun k => by omega
  have g3 : ∀ k, (i / 4 * 4 + (i + 3) % 4 + k) % 4 = (i + 3 + k) % 4 := fun k => by omega
  have p1 : (i / 4 * 4 + (i + 1) % 4) % 4 = (i + 1) % 4 := g1 0
  have p2 : (i / 4 * 4 + (i + 2) % 4) % 4 = (i + 2) % 4 := g2 0
  have p3 : (i / 4 * 4 + (i + 3) % 4) % 4 = (i + 3) % 4 := g3 0
  have q4 : (i + 4) % 4 = i % 4 := by omega
  have q5 : (i + 5) % 4 = (i + 1) % 4 := by omega
  have q6 : (i + 6) % 4 = (i + 2) % 4 := by omega
  have c1 : colAt t (i / 4 * 4 + (i + 1) % 4) = mixA (byteAt t (i / 4 * 4 + (i + 1) % 4)) (byteAt t (i / 4 * 4 + (i + 2) % 4)) (byteAt t (i / 4 * 4 + (i + 3) % 4)) (byteAt t (i / 4 * 4 + i % 4)) := by
    unfold colAt; rw [f1, p1, g1, g1, g1, Nat.add_assoc, Nat.add_assoc, Nat.add_assoc, q4]
  have c2 : colAt t (i / 4 * 4 + (i + 2) % 4) = mixA (byteAt t (i / 4 * 4 + (i + 2) % 4)) (byteAt t (i / 4 * 4 + (i + 3) % 4)) (byteAt t (i / 4 * 4 + i % 4)) (byteAt t (i / 4 * 4 + (i + 1) % 4)) := by
    unfold colAt; rw [f2, p2, g2, g2, g2, Nat.add_assoc, Nat.add_assoc, Nat.add_assoc, q4, q5]
  have c3 : colAt t (i / 4 * 4 + (i + 3) % 4) = mixA (byteAt t (i / 4 * 4 + (i + 3) % 4)) (byteAt t (i / 4 * 4 + i % 4)) (byteAt t (i / 4 * 4 + (i + 1) % 4)) (byteAt t (i / 4 * 4 + (i + 2) % 4)) := by
    unfold colAt; rw [f3, p3, g3, g3, g3, Nat.add_assoc, Nat.add_assoc, Nat.add_assoc, q4, q5, q6]
  rw [c1, c2, c3]
  unfold colAt
  rw [h, e0]
theorem colL_inj (t u : List UInt8) (ht : t.length = 16) (hu : u.length = 16) (h : colL t = colL u) : t = u := by
  refine bytes_ext t u (by omega) fun i hi => ?_
  have hc : ∀ j, j < 16 → colAt t j = colAt u j := fun j hj => by rw [← colL_get t j hj, ← colL_get u j hj, h]
  rw [← col_back t i, ← col_back u i, hc i (by omega), hc _ (by omega), hc _ (by omega), hc _ (by omega)]
theorem xorL_inj (k : List UInt8) : ∀ (t u : List UInt8), t.length = k.length → u.length = k.length → xorL t k = xorL u k → t = u := by
  induction k with
  | nil => intro t u ht hu _; simp at ht hu; rw [ht, hu]
  | cons c k ih =>
    intro t u ht hu h
    cases t with
    | nil => simp at ht
    | cons x t =>
      cases u with
      | nil => simp at hu
      | cons y u =>
        simp only [xorL, List.zipWith_cons_cons, List.cons.injEq] at h
        have h1 : x = y := by
          have := congrArg (· ^^^ c) h.1
          simpa [UInt8.xor_assoc] using this
        rw [h1, ih t u (by simpa using ht) (by simpa using hu) h.2]
/-- One block under round keys, behind r rounds. -/
def roundKey (w : List UInt8) (r : Nat) : List UInt8 := (w.drop (16 * r)).take 16
theorem roundKey_len (w : List UInt8) (r : Nat) (hw : w.length = 240) (hr : r ≤ 14) : (roundKey w r).length = 16 := by simp [roundKey, hw]; omega
def aesTo (w t : List UInt8) : Nat → List UInt8
  | 0 => xorL t (roundKey w 0)
  | r + 1 => xorL (if r + 1 < 14 then colL (rowsL (subL (aesTo w t r))) else rowsL (subL (aesTo w t r))) (roundKey w (r + 1))
def aesL (w t : List UInt8) : List UInt8 := aesTo w t 14
theorem inner_len (s : List UInt8) (r : Nat) : (if r + 1 < 14 then colL (rowsL (subL s)) else rowsL (subL s)).length = 16 := by
  split
  · exact colL_len _
  · exact rowsL_len _
theorem aesTo_len (w t : List UInt8) (r : Nat) (hw : w.length = 240) (ht : t.length = 16) (hr : r ≤ 14) : (aesTo w t r).length = 16 := by
  cases r with
  | zero => rw [aesTo, xorL_len _ _ (by rw [ht, roundKey_len w 0 hw (by omega)]), ht]
  | succ r => rw [aesTo, xorL_len _ _ (by rw [inner_len, roundKey_len w _ hw hr]), inner_len]
theorem aesTo_inj (w t u : List UInt8) (hw : w.length = 240) (ht : t.length = 16) (hu : u.length = 16) : ∀ r, r ≤ 14 → aesTo w t r = aesTo w u r → t = u := by
  intro r
  induction r with
  | zero =>
    intro _ h
    exact xorL_inj (roundKey w 0) t u (by rw [ht, roundKey_len w 0 hw (by omega)]) (by rw [hu, roundKey_len w 0 hw (by omega)]) h
  | succ r ih =>
    intro hr h
    refine ih (by omega) ?_
    rw [aesTo, aesTo] at h
    have h1 := xorL_inj (roundKey w (r + 1)) _ _ (by rw [inner_len, roundKey_len w _ hw hr]) (by rw [inner_len, roundKey_len w _ hw hr]) h
    have lt := aesTo_len w t r hw ht (by omega)
    have lu := aesTo_len w u r hw hu (by omega)
    have h2 : rowsL (subL (aesTo w t r)) = rowsL (subL (aesTo w u r)) := by
      by_cases h14 : r + 1 < 14
      · rw [if_pos h14, if_pos h14] at h1
        exact colL_inj _ _ (rowsL_len _) (rowsL_len _) h1
      · rw [if_neg h14, if_neg h14] at h1
        exact h1
    exact subL_inj _ _ (rowsL_inj _ _ (by rw [subL_len, lt]) (by rw [subL_len, lu]) h2)
/-- Under one key no two blocks become one. -/
theorem aesL_inj (w t u : List UInt8) (hw : w.length = 240) (ht : t.length = 16) (hu : u.length = 16) (h : aesL w t = aesL w u) : t = u := aesTo_inj w t u hw ht hu 14 (Nat.le_refl _) h
theorem aesL_len (w t : List UInt8) (hw : w.length = 240) (ht : t.length = 16) : (aesL w t).length = 16 := aesTo_len w t 14 hw ht (Nat.le_refl _)
end Go.Proofs.YtjnhlkaafnaooabGreatDoor

namespace Go.Proofs.YtjnhlkaafnaooabGreatDoor
/-- The second root of the field's x. -/
def gS : Nat := 50130884412459684338974012517024680228
def rtBit (k : Nat) : Nat := if k % 2 = 0 then shN gOne (k / 2) else shN gS (k / 2)
def rtTo (v : Nat) : Nat → Nat
  | 0 => 0
  | k + 1 => if v.testBit (127 - k) then rtTo v k ^^^ rtBit k else rtTo v k
def rt (v : Nat) : Nat := rtTo v 128
theorem rtTo_xor (x y k : Nat) : rtTo (x ^^^ y) k = rtTo x k ^^^ rtTo y k := by
  induction k with
  | zero => simp [rtTo]
  | succ k ih =>
    rw [rtTo, rtTo, rtTo, ih, Nat.testBit_xor]
    cases x.testBit (127 - k) <;> cases y.testBit (127 - k) <;> simp
    · rw [Nat.xor_assoc]
    · rw [Nat.xor_assoc, Nat.xor_comm (rtTo y k), ← Nat.xor_assoc]
    · rw [xor_swap]; simp
theorem rt_xor (x y : Nat) : rt (x ^^^ y) = rt x ^^^ rt y := rtTo_xor x y 128
theorem rtTo_zero (k : Nat) : rtTo 0 k = 0 := by
  induction k with
  | zero => rfl
  | succ k ih => rw [rtTo, ih]; simp
theorem sq_bit (i : Nat) : sq (shN gOne i) = shN (shN gOne i) i := by
  unfold sq
  rw [dot_shN, dot_one _ (shN_lt _ _ (by decide))]
set_option maxRecDepth 100000 in
theorem rt_bits : ∀ i, i < 128 → rt (shN (shN gOne i) i) = shN gOne i := by decide +kernel
/-- A number below 2^(n+1) that is not below 2^n. -/
theorem high_bit (n x : Nat) (h1 : 2 ^ n ≤ x) (h2 : x < 2 ^ (n + 1)) : ∃ y, y < 2 ^ n ∧ x = y ^^^ 2 ^ n := by
  refine ⟨x ^^^ 2 ^ n, ?_, by rw [Nat.xor_assoc, Nat.xor_self, Nat.xor_zero]⟩
  apply Nat.lt_pow_two_of_testBit
  intro i hi
  rw [Nat.testBit_xor, Nat.testBit_two_pow]
  by_cases e : i = n
  · subst e
    have hd : x / 2 ^ i = 1 := Nat.div_eq_of_lt_le (by omega) (by rw [Nat.pow_succ] at h2; omega)
    have ht : x.testBit i = decide (x / 2 ^ i % 2 = 1) := Nat.testBit_eq_decide_div_mod_eq
    rw [ht, hd]; simp
  · have : x.testBit i = false := Nat.testBit_lt_two_pow (Nat.lt_of_lt_of_le h2 (Nat.pow_le_pow_right (by decide) (by omega)))
    rw [this]; simp; omega
theorem rt_sq_to (n : Nat) (hn : n ≤ 128) : ∀ x, x < 2 ^ n → rt (sq x) = x := by
  induction n with
  | zero =>
    intro x hx
    obtain rfl : x = 0 := by simpa using hx
    unfold sq
    rw [dot_zero]; exact rtTo_zero 128
  | succ n ih =>
    intro x hx
    by_cases h : x < 2 ^ n
    · exact ih (by omega) x h
    · obtain ⟨y, hy, rfl⟩ := high_bit n x (by omega) hx
      have hy2 : y < 2 ^ 128 := Nat.lt_of_lt_of_le hy (Nat.pow_le_pow_right (by decide) (by omega))
      have hb : 2 ^ n < 2 ^ 128 := Nat.pow_lt_pow_right (by decide) (by omega)
      have hs := shN_one (127 - n) (by omega)
      have e : 127 - (127 - n) = n := by omega
      rw [e] at hs
      rw [sq_xor y (2 ^ n) hy2 hb, rt_xor, ih (by omega) y hy, ← hs, sq_bit, rt_bits _ (by omega)]
theorem sq_inj0 (x : Nat) (hx : x < 2 ^ 128) (h : sq x = 0) : x = 0 := by
  have := rt_sq_to 128 (by omega) x hx
  rw [h] at this
  rw [← this]; exact rtTo_zero 128
/-- Powers. -/
def gPow (h : Nat) : Nat → Nat
  | 0 => gOne
  | k + 1 => dotN (gPow h k) h
theorem gPow_lt (h k : Nat) (hh : h < 2 ^ 128) : gPow h k < 2 ^ 128 := by
  cases k with
  | zero => show gOne < _; decide
  | succ k => exact dot_lt _ _ hh
theorem gPow_add (h j k : Nat) (hh : h < 2 ^ 128) : gPow h (j + k) = dotN (gPow h j) (gPow h k) := by
  induction k with
  | zero => rw [Nat.add_zero]; exact (dot_one _ (gPow_lt h j hh)).symm
  | succ k ih =>
    show dotN (gPow h (j + k)) h = dotN (gPow h j) (dotN (gPow h k) h)
    rw [ih, dot_assoc _ _ _ (gPow_lt h k hh) hh]
theorem gPow_up (h k : Nat) (hh : h < 2 ^ 128) (h0 : gPow h k = 0) : gPow h (k + k) = 0 := by
  rw [gPow_add h k k hh, h0, dot_zero]
theorem gPow_double (h k : Nat) (hh : h < 2 ^ 128) (h0 : gPow h (k + k) = 0) : gPow h k = 0 :=
  sq_inj0 _ (gPow_lt h k hh) (by unfold sq; rw [← gPow_add h k k hh]; exact h0)
theorem gPow_ge (h j k : Nat) (hh : h < 2 ^ 128) (hk : k ≤ j) (h0 : gPow h k = 0) : gPow h j = 0 := by
  have e : j = (j - k) + k := by omega
  rw [e, gPow_add h _ _ hh, h0, dot_zero]
theorem gPow_two (h n : Nat) (hh : h < 2 ^ 128) (h0 : gPow h (2 ^ n) = 0) : h = 0 := by
  induction n with
  | zero =>
    have e : gPow h (2 ^ 0) = dotN gOne h := rfl
    rw [e, dot_comm gOne h (by decide) hh, dot_one h hh] at h0
    exact h0
  | succ n ih => exact ih (gPow_double h (2 ^ n) hh (by rw [Nat.pow_succ, Nat.mul_two] at h0; exact h0))
/-- No power of what is not 0 is 0. -/
theorem gPow_ne (h k : Nat) (hh : h < 2 ^ 128) (h0 : gPow h k = 0) : h = 0 :=
  gPow_two h k hh (gPow_ge h (2 ^ k) k hh (Nat.le_of_lt Nat.lt_two_pow_self) h0)
/-- A turned bit, times a power of what is not 0, is not 0. -/
theorem bit_pow_ne (h k i : Nat) (hh : h < 2 ^ 128) (h0 : dotN (shN gOne i) (gPow h k) = 0) : h = 0 := by
  have hb : shN gOne i < 2 ^ 128 := shN_lt _ _ (by decide)
  rw [dot_comm _ _ hb (gPow_lt h k hh), dot_shN, dot_one _ (gPow_lt h k hh)] at h0
  exact gPow_ne h k hh (shN_inj0 _ i (gPow_lt h k hh) h0)
end Go.Proofs.YtjnhlkaafnaooabGreatDoor

namespace Go.Proofs.YtjnhlkaafnaooabGreatDoor
/-- The hash of the tags, over blocks as numbers. -/
def ghN (h z : Nat) : List Nat → Nat
  | [] => z
  | b :: bs => ghN h (dotN (z ^^^ b) h) bs
theorem ghN_append (h z : Nat) (az bs : List Nat) : ghN h z (az ++ bs) = ghN h (ghN h z az) bs := by
  induction az generalizing z with
  | nil => rfl
  | cons a az ih => exact ih _
theorem ghN_lt (h z : Nat) (bs : List Nat) (hh : h < 2 ^ 128) (hz : z < 2 ^ 128) : ghN h z bs < 2 ^ 128 := by
  induction bs generalizing z with
  | nil => exact hz
  | cons b bs ih => exact ih _ (dot_lt _ _ hh)
theorem ghN_xor (h : Nat) (hh : h < 2 ^ 128) (bs : List Nat) : ∀ (z d : Nat), d < 2 ^ 128 → ghN h (z ^^^ d) bs = ghN h z bs ^^^ dotN d (gPow h bs.length) := by
  induction bs with
  | nil => intro z d hd; show z ^^^ d = z ^^^ dotN d gOne; rw [dot_one d hd]
  | cons b bs ih =>
    intro z d hd
    have e : (z ^^^ d) ^^^ b = (z ^^^ b) ^^^ d := by rw [Nat.xor_assoc, Nat.xor_comm d b, Nat.xor_assoc]
    show ghN h (dotN ((z ^^^ d) ^^^ b) h) bs = ghN h (dotN (z ^^^ b) h) bs ^^^ dotN d (dotN (gPow h bs.length) h)
    rw [e, dot_xor_left, ih _ _ (dot_lt _ _ hh), dot_assoc d h _ hh (gPow_lt h _ hh), dot_comm h (gPow h bs.length) hh (gPow_lt h _ hh)]
/-- A turned bit of one block turns the hash, unless the key's own block is 0. -/
theorem ghN_bent (h z b i : Nat) (az bs : List Nat) (hh : h < 2 ^ 128) (heq : ghN h z (az ++ (b ^^^ shN gOne i) :: bs) = ghN h z (az ++ b :: bs)) : h = 0 := by
  rw [ghN_append, ghN_append] at heq
  have hd : shN gOne i < 2 ^ 128 := shN_lt _ _ (by decide)
  have e : ghN h (ghN h z az) ((b ^^^ shN gOne i) :: bs) = ghN h (ghN h z az) (b :: bs) ^^^ dotN (shN gOne i) (gPow h (bs.length + 1)) := by
    show ghN h (dotN (ghN h z az ^^^ (b ^^^ shN gOne i)) h) bs = ghN h (dotN (ghN h z az ^^^ b) h) bs ^^^ dotN (shN gOne i) (dotN (gPow h bs.length) h)
    rw [← Nat.xor_assoc, dot_xor_left, ghN_xor h hh bs _ _ (dot_lt _ _ hh), dot_assoc _ h _ hh (gPow_lt h _ hh), dot_comm h (gPow h bs.length) hh (gPow_lt h _ hh)]
  rw [e] at heq
  have h0 : dotN (shN gOne i) (gPow h (bs.length + 1)) = 0 := by
    have := congrArg (ghN h (ghN h z az) (b :: bs) ^^^ ·) heq
    simpa [← Nat.xor_assoc] using this
  exact bit_pow_ne h _ i hh h0
end Go.Proofs.YtjnhlkaafnaooabGreatDoor

namespace Go.Proofs.YtjnhlkaafnaooabGreatDoor
/-- A text, cut or filled up with noughts. -/
def fillL (t : List UInt8) (n : Nat) : List UInt8 := t.take n ++ List.replicate (n - t.length) 0
theorem fillL_len (t : List UInt8) (n : Nat) : (fillL t n).length = n := by simp [fillL]; omega
theorem fillL_self (t : List UInt8) (n : Nat) (h : t.length = n) : fillL t n = t := by simp [fillL, ← h]
/-- The round constant behind q doublings. -/
def rcN : Nat → Nat
  | 0 => 1
  | q + 1 => prodN (rcN q) 2
theorem rcN_lt (q : Nat) : rcN q < 256 := by
  cases q with
  | zero => decide
  | succ q =>
    show prodN (rcN q) 2 < 256
    exact prodN_lt _ _ (rcN_lt q)
/-- What is added to the word eight words back, for the i-th word. -/
def wordBefore (w : List UInt8) (i : Nat) : List UInt8 := (w.drop (4 * i - 4)).take 4
def wordL (w : List UInt8) (i : Nat) : List UInt8 :=
  if i % 8 = 0 then xorL (subL ((wordBefore w i).drop 1 ++ (wordBefore w i).take 1)) [UInt8.ofNat (rcN (i / 8 - 1)), 0, 0, 0]
  else if i % 4 = 0 then subL (wordBefore w i) else wordBefore w i
def keysTo (key : List UInt8) : Nat → List UInt8
  | 0 => key
  | j + 1 => keysTo key j ++ xorL (wordL (keysTo key j) (j + 8)) (((keysTo key j).drop (4 * j)).take 4)
def keysL (key : List UInt8) : List UInt8 := keysTo key 52
theorem wordBefore_len (w : List UInt8) (i : Nat) (hw : w.length = 4 * i) (hi : 1 ≤ i) : (wordBefore w i).length = 4 := by simp [wordBefore, hw]; omega
theorem wordL_len (w : List UInt8) (i : Nat) (hw : w.length = 4 * i) (hi : 1 ≤ i) : (wordL w i).length = 4 := by
  have h := wordBefore_len w i hw hi
  unfold wordL
  split
  · rw [xorL_len _ _ (by rw [subL_len]; simp [h]), subL_len]; simp [h]
  · split
    · rw [subL_len, h]
    · exact h
theorem keysTo_len (key : List UInt8) (hk : key.length = 32) : ∀ j, (keysTo key j).length = 32 + 4 * j := by
  intro j
  induction j with
  | zero => simpa [keysTo] using hk
  | succ j ih =>
    have h1 := wordL_len (keysTo key j) (j + 8) (by omega) (by omega)
    rw [keysTo, List.length_append, xorL_len _ _ (by rw [h1]; simp [ih]), h1, ih]
    omega
theorem keysL_len (key : List UInt8) (hk : key.length = 32) : (keysL key).length = 240 := keysTo_len key hk 52
/-- A text's blocks as numbers, the last one filled up. -/
def blocksN (l : List UInt8) : List Nat :=
  match _h : l with
  | [] => []
  | _ :: _ => numL (fillL l 16) :: blocksN (l.drop 16)
termination_by l.length
decreasing_by subst _h; simp; omega
theorem blocksN_nil : blocksN [] = [] := by rw [blocksN]
theorem blocksN_ne (l : List UInt8) (h : l ≠ []) : blocksN l = numL (fillL l 16) :: blocksN (l.drop 16) := by
  cases l with
  | nil => exact absurd rfl h
  | cons a l => rw [blocksN]
/-- The stream of a nonce, from its n-th block on, added to a text. -/
def ctrL (w nonce : List UInt8) (n : Nat) (l : List UInt8) : List UInt8 :=
  match _h : l with
  | [] => []
  | _ :: _ => xorL (l.take 16) (aesL w (nonce ++ onesL n 4)) ++ ctrL w nonce (n + 1) (l.drop 16)
termination_by l.length
decreasing_by subst _h; simp; omega
theorem ctrL_nil (w nonce : List UInt8) (n : Nat) : ctrL w nonce n [] = [] := by rw [ctrL]
theorem ctrL_ne (w nonce : List UInt8) (n : Nat) (l : List UInt8) (h : l ≠ []) : ctrL w nonce n l = xorL (l.take 16) (aesL w (nonce ++ onesL n 4)) ++ ctrL w nonce (n + 1) (l.drop 16) := by
  cases l with
  | nil => exact absurd rfl h
  | cons a l => rw [ctrL]
/-- The hash's own key, and the hash of what goes with a text and of the text. -/
def hashKey (w : List UInt8) : Nat := numL (aesL w (List.replicate 16 0))
def lensN (a b : List UInt8) : Nat := 8 * a.length * 2 ^ 64 + 8 * b.length
def gHash (w a c : List UInt8) : Nat := ghN (hashKey w) 0 (blocksN a ++ blocksN c ++ [lensN a c])
def padN (w nonce : List UInt8) : Nat := numL (aesL w (nonce ++ onesL 1 4))
def tagL (w nonce a c : List UInt8) : List UInt8 := onesL (gHash w a c ^^^ padN w nonce) 16
theorem tagL_len (w nonce a c : List UInt8) : (tagL w nonce a c).length = 16 := onesL_len 16 _
end Go.Proofs.YtjnhlkaafnaooabGreatDoor

namespace Go.Proofs.YtjnhlkaafnaooabGreatDoor
theorem xor_low (v u x y : Nat) (hx : x < 256) (hy : y < 256) : (v * 256 + x) ^^^ (u * 256 + y) = (v ^^^ u) * 256 + (x ^^^ y) := by
  have hxy : x ^^^ y < 2 ^ 8 := Nat.xor_lt_two_pow hx hy
  apply Nat.eq_of_testBit_eq
  intro i
  have e : ∀ a b, b < 2 ^ 8 → (a * 256 + b).testBit i = if i < 8 then b.testBit i else a.testBit (i - 8) := fun a b hb => by
    rw [Nat.mul_comm]; exact Nat.testBit_two_pow_mul_add a hb i
  rw [Nat.testBit_xor, e v x hx, e u y hy, e _ _ hxy, Nat.testBit_xor, Nat.testBit_xor]
  split <;> rfl
theorem numL_xor_go : ∀ (a b : List UInt8) (v u : Nat), a.length = b.length → (xorL a b).foldl (fun v b => v * 256 + b.toNat) (v ^^^ u) = a.foldl (fun v b => v * 256 + b.toNat) v ^^^ b.foldl (fun v b => v * 256 + b.toNat) u
  | [], [], v, u, _ => rfl
  | x :: a, y :: b, v, u, h => by
    have ih := numL_xor_go a b (v * 256 + x.toNat) (u * 256 + y.toNat) (by simpa using h)
    simp only [xorL, List.zipWith_cons_cons, List.foldl_cons] at ih ⊢
    rw [← ih, xor_low _ _ _ _ x.toNat_lt y.toNat_lt, UInt8.toNat_xor]
  | [], _ :: _, _, _, h => by simp at h
  | _ :: _, [], _, _, h => by simp at h
theorem numL_xor (a b : List UInt8) (h : a.length = b.length) : numL (xorL a b) = numL a ^^^ numL b := by
  have := numL_xor_go a b 0 0 h
  simpa [numL] using this
theorem onesL_numL : ∀ (n : Nat) (l : List UInt8), l.length = n → onesL (numL l) n = l := by
  intro n
  induction n with
  | zero => intro l h; rw [List.length_eq_zero_iff.1 h]; rfl
  | succ n ih =>
    intro l h
    have hne : l ≠ [] := by intro e; rw [e] at h; simp at h
    have hl := List.dropLast_concat_getLast hne
    have hd : l.dropLast.length = n := by simp [h]
    generalize l.dropLast = m at hl hd
    generalize l.getLast hne = b at hl
    rw [← hl, numL_snoc]
    have h1 : (numL m * 256 + b.toNat) / 256 = numL m := by have := b.toNat_lt; omega
    have h2 : (numL m * 256 + b.toNat) % 256 = b.toNat := by have := b.toNat_lt; omega
    rw [onesL, h1, h2, ih m hd]
    simp
theorem numL_onesL : ∀ (n v : Nat), numL (onesL v n) = v % 256 ^ n := by
  intro n
  induction n with
  | zero => intro v; simp [onesL, numL, Nat.mod_one]
  | succ n ih =>
    intro v
    rw [onesL, numL_snoc, ih, Nat.pow_succ, Nat.mul_comm (256 ^ n) 256, Nat.mod_mul]
    simp; omega
theorem onesL_inj (n u v : Nat) (hu : u < 256 ^ n) (hv : v < 256 ^ n) (h : onesL u n = onesL v n) : u = v := by
  have := congrArg numL h
  rwa [numL_onesL, numL_onesL, Nat.mod_eq_of_lt hu, Nat.mod_eq_of_lt hv] at this
theorem numL_inj (a b : List UInt8) (hl : a.length = b.length) (h : numL a = numL b) : a = b := by
  rw [← onesL_numL _ a rfl, ← onesL_numL _ b rfl, h, hl]
theorem numL_append (a b : List UInt8) : numL (a ++ b) = numL a * 256 ^ b.length + numL b := by
  have go : ∀ (b : List UInt8) (v : Nat), b.foldl (fun v b => v * 256 + b.toNat) v = v * 256 ^ b.length + numL b := by
    intro b
    induction b with
    | nil => intro v; simp [numL]
    | cons x b ih =>
      intro v
      have h1 := ih (v * 256 + x.toNat)
      have h2 := ih (0 * 256 + x.toNat)
      unfold numL
      rw [List.foldl_cons, List.foldl_cons, h1, h2, List.length_cons, Nat.pow_succ, Nat.mul_comm (256 ^ b.length) 256, ← Nat.mul_assoc]
      generalize 256 ^ b.length = p
      rw [Nat.add_mul, Nat.zero_mul, Nat.zero_add]; omega
  unfold numL
  rw [List.foldl_append, go]
  rfl
theorem numL_zeros (n : Nat) : numL (List.replicate n 0) = 0 := by
  induction n with
  | zero => rfl
  | succ n ih => rw [List.replicate_succ', numL_snoc, ih]; rfl
/-- One byte of a text with one bit turned. -/
def bendL (l : List UInt8) (m : Nat) (c : UInt8) : List UInt8 := l.set m (l.getD m 0 ^^^ c)
theorem bendL_len (l : List UInt8) (m : Nat) (c : UInt8) : (bendL l m c).length = l.length := by simp [bendL]
def unitL (n m : Nat) (c : UInt8) : List UInt8 := List.replicate m 0 ++ c :: List.replicate (n - 1 - m) 0
theorem unitL_num (n m : Nat) (c : UInt8) (_h : m < n) : numL (unitL n m c) = c.toNat * 256 ^ (n - 1 - m) := by
  unfold unitL
  rw [numL_append, numL_zeros, Nat.zero_mul, Nat.zero_add, show c :: List.replicate (n - 1 - m) 0 = [c] ++ List.replicate (n - 1 - m) 0 from rfl, numL_append, numL_zeros, List.length_replicate]
  simp [numL]
theorem xorL_zeros : ∀ (l : List UInt8) (n : Nat), l.length = n → xorL l (List.replicate n 0) = l
  | [], n, h => by simp [xorL]
  | x :: l, 0, h => by simp at h
  | x :: l, n + 1, h => by
    have ih := xorL_zeros l n (by simpa using h)
    unfold xorL at ih ⊢
    rw [List.replicate_succ, List.zipWith_cons_cons, ih]
    simp
theorem bend_xor : ∀ (l : List UInt8) (n m : Nat) (c : UInt8), l.length = n → m < n → bendL l m c = xorL l (unitL n m c)
  | [], n, m, c, h, hm => by simp at h; omega
  | x :: l, n, 0, c, h, hm => by
    have h1 : n - 1 - 0 = l.length := by simp at h; omega
    unfold unitL xorL bendL
    rw [h1]
    simp only [List.replicate_zero, List.nil_append, List.zipWith_cons_cons, List.set_cons_zero]
    have := xorL_zeros l l.length rfl
    unfold xorL at this
    rw [this]; rfl
  | x :: l, n, m + 1, c, h, hm => by
    obtain ⟨k, rfl⟩ : ∃ k, n = k + 1 := ⟨n - 1, by simp at h; omega⟩
    have ih := bend_xor l k m c (by simpa using h) (by omega)
    have e : unitL (k + 1) (m + 1) c = 0 :: unitL k m c := by
      unfold unitL
      rw [List.replicate_succ, show k + 1 - 1 - (m + 1) = k - 1 - m by omega]; rfl
    rw [e]
    unfold xorL bendL at ih ⊢
    rw [List.zipWith_cons_cons, ← ih]
    simp
/-- A turned bit of a block. -/
theorem bend_block (l : List UInt8) (m b : Nat) (hl : l.length = 16) (hm : m < 16) (hb : b < 8) : numL (bendL l m (UInt8.ofNat (2 ^ b))) = numL l ^^^ shN gOne (8 * m + (7 - b)) := by
  have hu : (unitL 16 m (UInt8.ofNat (2 ^ b))).length = 16 := by simp [unitL]; omega
  rw [bend_xor l 16 m _ hl hm, numL_xor _ _ (by rw [hl, hu]), unitL_num 16 m _ hm, shN_one _ (by omega)]
  have h1 : 2 ^ b < 256 := by
    have : 2 ^ b < 2 ^ 8 := Nat.pow_lt_pow_right (by decide) hb
    exact this
  have h2 : (UInt8.ofNat (2 ^ b)).toNat = 2 ^ b := by rw [UInt8.toNat_ofNat']; exact Nat.mod_eq_of_lt h1
  rw [h2, show (256 : Nat) = 2 ^ 8 from rfl, ← Nat.pow_mul, ← Nat.pow_add]
  congr 2; omega
theorem bend_ne (l : List UInt8) (m b : Nat) (hm : m < l.length) (hb : b < 8) : bendL l m (UInt8.ofNat (2 ^ b)) ≠ l := by
  intro h
  have h1 := congrArg (fun t => t.getD m 0) h
  simp only [bendL, List.getD_eq_getElem?_getD, List.getElem?_set_self hm, Option.getD_some] at h1
  have h2 := congrArg (fun x => l[m]?.getD 0 ^^^ x) h1
  simp only [← UInt8.xor_assoc, UInt8.xor_self, UInt8.zero_xor] at h2
  have h3 : 2 ^ b < 256 := by
    have : 2 ^ b < 2 ^ 8 := Nat.pow_lt_pow_right (by decide) hb
    exact this
  have h4 := congrArg UInt8.toNat h2
  rw [UInt8.toNat_ofNat', Nat.mod_eq_of_lt h3] at h4
  have : 0 < 2 ^ b := Nat.two_pow_pos b
  simp at h4
/-- A turned bit of a text is one of one of its blocks. -/
theorem blocks_bent (b : Nat) (hb : b < 8) : ∀ (n : Nat) (l : List UInt8) (m : Nat), l.length ≤ n → m < l.length →
    ∃ (az bs : List Nat) (B i : Nat), blocksN l = az ++ B :: bs ∧ blocksN (bendL l m (UInt8.ofNat (2 ^ b))) = az ++ (B ^^^ shN gOne i) :: bs := by
  intro n
  induction n with
  | zero => intro l m h1 h2; omega
  | succ n ih =>
    intro l m h1 h2
    have hne : l ≠ [] := by intro e; rw [e] at h2; simp at h2
    have hne2 : bendL l m (UInt8.ofNat (2 ^ b)) ≠ [] := by
      intro e
      have := congrArg List.length e
      rw [bendL_len] at this; simp at this; exact hne this
    rw [blocksN_ne l hne, blocksN_ne _ hne2]
    by_cases hm : m < 16
    · refine ⟨[], blocksN (l.drop 16), numL (fillL l 16), 8 * m + (7 - b), rfl, ?_⟩
      have e1 : (bendL l m (UInt8.ofNat (2 ^ b))).drop 16 = l.drop 16 := by unfold bendL; rw [List.drop_set_of_lt hm]
      have e2 : fillL (bendL l m (UInt8.ofNat (2 ^ b))) 16 = bendL (fillL l 16) m (UInt8.ofNat (2 ^ b)) := by
        have hmt : m < (l.take 16).length := by simp; omega
        unfold fillL
        rw [bendL_len]
        unfold bendL
        rw [List.take_set, List.set_append_left _ _ hmt]
        congr 2
        rw [List.getD_eq_getElem?_getD, List.getD_eq_getElem?_getD, List.getElem?_append_left hmt, List.getElem?_take_of_lt hm]
      rw [e1, e2, bend_block _ m b (fillL_len l 16) hm hb]; rfl
    · obtain ⟨az, bs, B, i, g1, g2⟩ := ih (l.drop 16) (m - 16) (by simp; omega) (by simp; omega)
      refine ⟨numL (fillL l 16) :: az, bs, B, i, by rw [g1]; rfl, ?_⟩
      have e1 : (bendL l m (UInt8.ofNat (2 ^ b))).drop 16 = bendL (l.drop 16) (m - 16) (UInt8.ofNat (2 ^ b)) := by
        unfold bendL
        rw [List.drop_set, if_neg hm]
        congr 2
        rw [List.getD_eq_getElem?_getD, List.getD_eq_getElem?_getD, List.getElem?_drop, show 16 + (m - 16) = m by omega]
      have e2 : fillL (bendL l m (UInt8.ofNat (2 ^ b))) 16 = fillL l 16 := by
        unfold fillL
        rw [bendL_len]
        unfold bendL
        rw [List.take_set, List.set_eq_of_length_le (by simp; omega)]
      rw [e1, e2, g2]; rfl
end Go.Proofs.YtjnhlkaafnaooabGreatDoor

namespace Go.Proofs.YtjnhlkaafnaooabGreatDoor
/-- Two halves of 64 bits. -/
theorem half_xor (a b c d : Nat) (hb : b < 2 ^ 64) (hd : d < 2 ^ 64) : (a * 2 ^ 64 + b) ^^^ (c * 2 ^ 64 + d) = (a ^^^ c) * 2 ^ 64 + (b ^^^ d) := by
  have hbd : b ^^^ d < 2 ^ 64 := Nat.xor_lt_two_pow hb hd
  apply Nat.eq_of_testBit_eq
  intro i
  have e : ∀ a b, b < 2 ^ 64 → (a * 2 ^ 64 + b).testBit i = if i < 64 then b.testBit i else a.testBit (i - 64) := fun a b hb => by
    rw [Nat.mul_comm]; exact Nat.testBit_two_pow_mul_add a hb i
  rw [Nat.testBit_xor, e a b hb, e c d hd, e _ _ hbd, Nat.testBit_xor, Nat.testBit_xor]
  split <;> rfl
theorem xor_hi (x y : Nat) : (x ^^^ y) / 2 ^ 64 = x / 2 ^ 64 ^^^ y / 2 ^ 64 := by
  rw [← Nat.shiftRight_eq_div_pow, ← Nat.shiftRight_eq_div_pow, ← Nat.shiftRight_eq_div_pow, Nat.shiftRight_xor_distrib]
theorem xor_lo (x y : Nat) : (x ^^^ y) % 2 ^ 64 = x % 2 ^ 64 ^^^ y % 2 ^ 64 := Nat.xor_mod_two_pow
theorem or_join64 (a b : Nat) (i : Nat) (ha : a % 2 ^ i = 0) (hb : b < 2 ^ i) : a ||| b = a + b := by
  have h : a = 2 ^ i * (a / 2 ^ i) := by have := Nat.div_add_mod a (2 ^ i); omega
  rw [h, Nat.two_pow_add_eq_or_of_lt hb]
/-- The field's x, in halves. -/
theorem sh_hi (e : Nat) : sh e / 2 ^ 64 = if e % 2 ^ 64 % 2 = 1 then e / 2 ^ 64 / 2 ^^^ 225 * 2 ^ 56 else e / 2 ^ 64 / 2 := by
  have h1 : e % 2 ^ 64 % 2 = e % 2 := by omega
  have h2 : e / 2 / 2 ^ 64 = e / 2 ^ 64 / 2 := by omega
  rw [h1]
  unfold sh
  split
  · rw [xor_hi, h2]; rfl
  · exact h2
theorem sh_lo (e : Nat) : sh e % 2 ^ 64 = (e / 2 ^ 64 % 2) * 2 ^ 63 ||| e % 2 ^ 64 / 2 := by
  have h3 : (e / 2) % 2 ^ 64 = (e / 2 ^ 64 % 2) * 2 ^ 63 + e % 2 ^ 64 / 2 := by omega
  rw [or_join64 _ _ 63 (Nat.mul_mod_left _ _) (by omega), ← h3]
  unfold sh
  split
  · rw [xor_lo]
    have : ghR % 2 ^ 64 = 0 := by decide
    rw [this, Nat.xor_zero]
  · rfl
/-- An element moved to the left by k bits: its highest bit. -/
def leftN (x k : Nat) : Nat := x * 2 ^ k % 2 ^ 128
theorem left_zero (x : Nat) (h : x < 2 ^ 128) : leftN x 0 = x := by unfold leftN; rw [Nat.pow_zero, Nat.mul_one, Nat.mod_eq_of_lt h]
theorem left_lt (x k : Nat) : leftN x k < 2 ^ 128 := Nat.mod_lt _ (by decide)
theorem left_succ (x k : Nat) : leftN x (k + 1) = 2 * leftN x k % 2 ^ 128 := by
  unfold leftN
  rw [Nat.pow_succ, ← Nat.mul_assoc, Nat.mul_mod, Nat.mul_comm 2 (_ % _), Nat.mul_mod (x * 2 ^ k % 2 ^ 128) 2, Nat.mod_mod]
theorem left_bit (x k : Nat) (hk : k < 128) : leftN x k / 2 ^ 127 % 2 = if x.testBit (127 - k) then 1 else 0 := by
  have h1 : (leftN x k).testBit 127 = x.testBit (127 - k) := by
    unfold leftN
    rw [Nat.testBit_mod_two_pow, Nat.testBit_mul_two_pow]
    simp; omega
  have h2 : (leftN x k).testBit 127 = decide (leftN x k / 2 ^ 127 % 2 = 1) := Nat.testBit_eq_decide_div_mod_eq
  rw [← h1, h2]
  by_cases h : leftN x k / 2 ^ 127 % 2 = 1
  · simp [h]
  · have : leftN x k / 2 ^ 127 % 2 = 0 := by omega
    simp [this]
theorem left_hi (a : Nat) (_ha : a < 2 ^ 128) : (2 * a % 2 ^ 128) / 2 ^ 64 = (a / 2 ^ 64 * 2 % 2 ^ 64 ||| a % 2 ^ 64 / 2 ^ 63) := by
  have h3 : (2 * a % 2 ^ 128) / 2 ^ 64 = a / 2 ^ 64 * 2 % 2 ^ 64 + a % 2 ^ 64 / 2 ^ 63 := by omega
  rw [h3, or_join64 _ _ 1 (by omega) (by omega)]
theorem left_lo (a : Nat) : (2 * a % 2 ^ 128) % 2 ^ 64 = a % 2 ^ 64 * 2 % 2 ^ 64 := by omega
end Go.Proofs.YtjnhlkaafnaooabGreatDoor

namespace Go.Proofs.YtjnhlkaafnaooabGreatDoor
/-- An element as four words of 32 bits. -/
def w4 (e i : Nat) : Nat := e / 2 ^ (96 - 32 * i) % 2 ^ 32
def words4 (e : Nat) : List Nat := [w4 e 0, w4 e 1, w4 e 2, w4 e 3]
theorem w4_lt (e i : Nat) : w4 e i < 4294967296 := Nat.mod_lt _ (by decide)
theorem w4_xor (a b i : Nat) : w4 (a ^^^ b) i = w4 a i ^^^ w4 b i := by
  unfold w4
  rw [← Nat.shiftRight_eq_div_pow, ← Nat.shiftRight_eq_div_pow, ← Nat.shiftRight_eq_div_pow, Nat.shiftRight_xor_distrib, Nat.xor_mod_two_pow]
theorem w4_low (e : Nat) : w4 e 3 % 2 = e % 2 := by unfold w4; simp
theorem w4_ghR (i : Nat) (hi : i < 4) : w4 ghR i = if i = 0 then 225 * 2 ^ 24 else 0 := by
  have : i = 0 ∨ i = 1 ∨ i = 2 ∨ i = 3 := by omega
  rcases this with rfl | rfl | rfl | rfl <;> decide
theorem w4_half0 (e : Nat) (he : e < 2 ^ 128) : w4 (e / 2) 0 = w4 e 0 / 2 := by unfold w4; simp; omega
theorem w4_half (e i : Nat) (h1 : 1 ≤ i) (hi : i < 4) : w4 (e / 2) i = w4 e i / 2 ||| w4 e (i - 1) % 2 * 2147483648 := by
  have h : w4 (e / 2) i = w4 e (i - 1) % 2 * 2147483648 + w4 e i / 2 := by
    have : i = 1 ∨ i = 2 ∨ i = 3 := by omega
    unfold w4
    rcases this with rfl | rfl | rfl
    · simp; omega
    · simp; omega
    · simp; omega
  have hlt : w4 e i / 2 < 2 ^ 31 := by have := w4_lt e i; omega
  rw [h, Nat.or_comm, or_join64 _ _ 31 (by omega) hlt]
theorem w4_sh0 (e : Nat) (he : e < 2 ^ 128) : w4 (sh e) 0 = if w4 e 3 % 2 = 1 then w4 e 0 / 2 ^^^ 3774873600 else w4 e 0 / 2 := by
  rw [w4_low]
  unfold sh
  split
  · rw [w4_xor, w4_half0 e he, w4_ghR 0 (by decide)]; rfl
  · exact w4_half0 e he
theorem w4_sh (e i : Nat) (h1 : 1 ≤ i) (hi : i < 4) : w4 (sh e) i = w4 e i / 2 ||| w4 e (i - 1) % 2 * 2147483648 := by
  rw [← w4_half e i h1 hi]
  unfold sh
  split
  · rw [w4_xor, w4_ghR i hi, if_neg (by omega), Nat.xor_zero]
  · rfl
theorem w4_bit (e i : Nat) (hi : i < 128) : w4 e (i / 32) / 2 ^ (31 - i % 32) % 2 = if e.testBit (127 - i) then 1 else 0 := by
  have ht : e.testBit (127 - i) = decide (e / 2 ^ (127 - i) % 2 = 1) := Nat.testBit_eq_decide_div_mod_eq
  have h1 : w4 e (i / 32) / 2 ^ (31 - i % 32) % 2 = e / 2 ^ (127 - i) % 2 := by
    have t1 : (w4 e (i / 32)).testBit (31 - i % 32) = e.testBit (127 - i) := by
      unfold w4
      rw [Nat.testBit_mod_two_pow, Nat.testBit_div_two_pow, show 31 - i % 32 + (96 - 32 * (i / 32)) = 127 - i by omega]
      have : (31 - i % 32 < 32) := by omega
      simp [this]
    have t2 : (w4 e (i / 32)).testBit (31 - i % 32) = decide (w4 e (i / 32) / 2 ^ (31 - i % 32) % 2 = 1) := Nat.testBit_eq_decide_div_mod_eq
    rw [t2, ht] at t1
    have := decide_eq_decide.1 t1
    omega
  rw [h1, ht]
  rcases Nat.mod_two_eq_zero_or_one (e / 2 ^ (127 - i)) with h | h <;> simp [h]
theorem w4_num (t : List UInt8) (i : Nat) (ht : t.length = 16) (hi : i < 4) : w4 (numL t) i = numL ((t.drop (4 * i)).take 4) := by
  have e : t = t.take (4 * i) ++ ((t.drop (4 * i)).take 4 ++ (t.drop (4 * i)).drop 4) := by rw [List.take_append_drop, List.take_append_drop]
  have l1 : ((t.drop (4 * i)).take 4).length = 4 := by simp; omega
  have l2 : ((t.drop (4 * i)).drop 4).length = 12 - 4 * i := by simp; omega
  have hlt := numL_lt ((t.drop (4 * i)).take 4)
  have hlt2 := numL_lt ((t.drop (4 * i)).drop 4)
  rw [l1] at hlt
  rw [l2] at hlt2
  generalize t.take (4 * i) = A at e
  generalize (t.drop (4 * i)).take 4 = B at *
  generalize (t.drop (4 * i)).drop 4 = C at *
  rw [e, numL_append, numL_append, List.length_append, l1, l2]
  have hp : 2 ^ (96 - 32 * i) = 256 ^ (12 - 4 * i) := by rw [show (256 : Nat) = 2 ^ 8 from rfl, ← Nat.pow_mul]; congr 1; omega
  unfold w4
  rw [hp]
  have hpos : 0 < 256 ^ (12 - 4 * i) := Nat.pow_pos (by decide)
  have e2 : numL A * 256 ^ (4 + (12 - 4 * i)) + (numL B * 256 ^ (12 - 4 * i) + numL C) = numL C + 256 ^ (12 - 4 * i) * (numL A * 2 ^ 32 + numL B) := by
    rw [Nat.pow_add, show (256 : Nat) ^ 4 = 2 ^ 32 from rfl, Nat.mul_add, ← Nat.mul_assoc, Nat.mul_comm (256 ^ (12 - 4 * i)) (numL A * 2 ^ 32), Nat.mul_comm (256 ^ (12 - 4 * i)) (numL B)]
    omega
  rw [e2, Nat.add_mul_div_left _ _ hpos, Nat.div_eq_of_lt hlt2, Nat.zero_add]
  have : (256 : Nat) ^ 4 = 2 ^ 32 := rfl
  omega
theorem onesL_cut : ∀ (b a v : Nat), onesL v (a + b) = onesL (v / 256 ^ b) a ++ onesL v b := by
  intro b
  induction b with
  | zero => intro a v; simp [onesL]
  | succ b ih =>
    intro a v
    rw [show a + (b + 1) = (a + b) + 1 by omega, onesL, ih, onesL, Nat.div_div_eq_div_mul, Nat.pow_succ, Nat.mul_comm 256, List.append_assoc]
theorem onesL_mod : ∀ (n v : Nat), onesL (v % 256 ^ n) n = onesL v n := by
  intro n
  induction n with
  | zero => intro v; rfl
  | succ n ih =>
    intro v
    rw [onesL, onesL]
    have h1 : v % 256 ^ (n + 1) / 256 = v / 256 % 256 ^ n := by rw [Nat.pow_succ, Nat.mul_comm, Nat.mod_mul_right_div_self]
    have h2 : v % 256 ^ (n + 1) % 256 = v % 256 := by rw [Nat.pow_succ]; exact Nat.mod_mul_left_mod _ _ _
    rw [h1, h2, ih]
theorem ones_words (e : Nat) : onesL (w4 e 0) 4 ++ onesL (w4 e 1) 4 ++ onesL (w4 e 2) 4 ++ onesL (w4 e 3) 4 = onesL e 16 := by
  have c1 := onesL_cut 4 12 e
  have c2 := onesL_cut 4 8 (e / 256 ^ 4)
  have c3 := onesL_cut 4 4 (e / 256 ^ 4 / 256 ^ 4)
  rw [show 12 + 4 = 16 from rfl] at c1
  rw [show 8 + 4 = 12 from rfl] at c2
  rw [show 4 + 4 = 8 from rfl] at c3
  rw [c1, c2, c3]
  have m := onesL_mod 4
  have g : ∀ i, i < 4 → w4 e i = e / 2 ^ (96 - 32 * i) % 256 ^ 4 := fun i _ => rfl
  rw [g 0 (by decide), g 1 (by decide), g 2 (by decide), g 3 (by decide), m, m, m, m]
  simp [Nat.div_div_eq_div_mul]
theorem ones_halves (e : Nat) : onesL (e / 2 ^ 64) 8 ++ onesL (e % 2 ^ 64) 8 = onesL e 16 := by
  have c1 := onesL_cut 8 8 e
  rw [show 8 + 8 = 16 from rfl] at c1
  rw [c1, show (2 : Nat) ^ 64 = 256 ^ 8 from rfl, onesL_mod 8]
theorem num_halves (t : List UInt8) (ht : t.length = 16) : numL t / 2 ^ 64 = numL (t.take 8) ∧ numL t % 2 ^ 64 = numL (t.drop 8) := by
  have e : t = t.take 8 ++ t.drop 8 := by simp
  have l2 : (t.drop 8).length = 8 := by simp [ht]
  have hlt := numL_lt (t.drop 8)
  rw [l2] at hlt
  have hn : numL t = numL (t.take 8) * 256 ^ 8 + numL (t.drop 8) := by conv => lhs; rw [e]; rw [numL_append, l2]
  have : (256 : Nat) ^ 8 = 2 ^ 64 := rfl
  rw [this] at hn hlt
  omega
end Go.Proofs.YtjnhlkaafnaooabGreatDoor
