import Derived.Test.YtjnhlkaafnaooaaGcmP
namespace Go.Proofs.Ytjnhlkaafnaooaa
theorem xor_low (v u x y : Nat) (hx : x < 256) (hy : y < 256) : (v * 256 + x) ^^^ (u * 256 + y) = (v ^^^ u) * 256 + (x ^^^ y) := by
  have hxy : x ^^^ y < 2 ^ 8 := Nat.xor_lt_two_pow hx hy
  apply Nat.eq_of_testBit_eq
  intro i
  have e : ∀ a b, b < 2 ^ 8 → (a * 256 + b).testBit i = if i < 8 then b.testBit i else a.testBit (i - 8) := fun a b hb => by
    rw [Nat.mul_comm]; exact Nat.testBit_two_pow_mul_add a hb i
  rw [Nat.testBit_xor, e v x hx, e u y hy, e _ _ hxy, Nat.testBit_xor, Nat.testBit_xor]
  split <;> rfl
theorem numL_xor_go : ∀ (a b : List UInt8) (v u : Nat), a.length = b.length → (xorL a b).foldl (fun v b => v * 256 + b.toNat) (v ^^^ u) = a.foldl (fun v b => v * 256 + b.toNat) v ^^^ b.foldl (fun v b => v * 256 + b.toNat) u
  | [], [], v, u, _ => rfl
  | x :: a, y :: b, v, u, h => by
    have ih := numL_xor_go a b (v * 256 + x.toNat) (u * 256 + y.toNat) (by simpa using h)
    simp only [xorL, List.zipWith_cons_cons, List.foldl_cons] at ih ⊢
    rw [← ih, xor_low _ _ _ _ x.toNat_lt y.toNat_lt, UInt8.toNat_xor]
  | [], _ :: _, _, _, h => by simp at h
  | _ :: _, [], _, _, h => by simp at h
theorem numL_xor (a b : List UInt8) (h : a.length = b.length) : numL (xorL a b) = numL a ^^^ numL b := by
  have := numL_xor_go a b 0 0 h
  simpa [numL] using this
theorem onesL_numL : ∀ (n : Nat) (l : List UInt8), l.length = n → onesL (numL l) n = l := by
  intro n
  induction n with
  | zero => intro l h; rw [List.length_eq_zero_iff.1 h]; rfl
  | succ n ih =>
    intro l h
    have hne : l ≠ [] := by intro e; rw [e] at h; simp at h
    have hl := List.dropLast_concat_getLast hne
    have hd : l.dropLast.length = n := by simp [h]
    generalize l.dropLast = m at hl hd
    generalize l.getLast hne = b at hl
    rw [← hl, numL_snoc]
    have h1 : (numL m * 256 + b.toNat) / 256 = numL m := by have := b.toNat_lt; omega
    have h2 : (numL m * 256 + b.toNat) % 256 = b.toNat := by have := b.toNat_lt; omega
    rw [onesL, h1, h2, ih m hd]
    simp
theorem numL_onesL : ∀ (n v : Nat), numL (onesL v n) = v % 256 ^ n := by
  intro n
  induction n with
  | zero => intro v; simp [onesL, numL, Nat.mod_one]
  | succ n ih =>
    intro v
    rw [onesL, numL_snoc, ih, Nat.pow_succ, Nat.mul_comm (256 ^ n) 256, Nat.mod_mul]
    simp; omega
theorem onesL_inj (n u v : Nat) (hu : u < 256 ^ n) (hv : v < 256 ^ n) (h : onesL u n = onesL v n) : u = v := by
  have := congrArg numL h
  rwa [numL_onesL, numL_onesL, Nat.mod_eq_of_lt hu, Nat.mod_eq_of_lt hv] at this
theorem numL_inj (a b : List UInt8) (hl : a.length = b.length) (h : numL a = numL b) : a = b := by
  rw [← onesL_numL _ a rfl, ← onesL_numL _ b rfl, h, hl]
theorem numL_append (a b : List UInt8) : numL (a ++ b) = numL a * 256 ^ b.length + numL b := by
  have go : ∀ (b : List UInt8) (v : Nat), b.foldl (fun v b => v * 256 + b.toNat) v = v * 256 ^ b.length + numL b := by
    intro b
    induction b with
    | nil => intro v; simp [numL]
    | cons x b ih =>
      intro v
      have h1 := ih (v * 256 + x.toNat)
      have h2 := ih (0 * 256 + x.toNat)
      unfold numL
      rw [List.foldl_cons, List.foldl_cons, h1, h2, List.length_cons, Nat.pow_succ, Nat.mul_comm (256 ^ b.length) 256, ← Nat.mul_assoc]
      generalize 256 ^ b.length = p
      rw [Nat.add_mul, Nat.zero_mul, Nat.zero_add]; omega
  unfold numL
  rw [List.foldl_append, go]
  rfl
theorem numL_zeros (n : Nat) : numL (List.replicate n 0) = 0 := by
  induction n with
  | zero => rfl
  | succ n ih => rw [List.replicate_succ', numL_snoc, ih]; rfl
/-- One byte of a text with one bit turned. -/
def bendL (l : List UInt8) (m : Nat) (c : UInt8) : List UInt8 := l.set m (l.getD m 0 ^^^ c)
theorem bendL_len (l : List UInt8) (m : Nat) (c : UInt8) : (bendL l m c).length = l.length := by simp [bendL]
def unitL (n m : Nat) (c : UInt8) : List UInt8 := List.replicate m 0 ++ c :: List.replicate (n - 1 - m) 0
theorem unitL_num (n m : Nat) (c : UInt8) (_h : m < n) : numL (unitL n m c) = c.toNat * 256 ^ (n - 1 - m) := by
  unfold unitL
  rw [numL_append, numL_zeros, Nat.zero_mul, Nat.zero_add, show c :: List.replicate (n - 1 - m) 0 = [c] ++ List.replicate (n - 1 - m) 0 from rfl, numL_append, numL_zeros, List.length_replicate]
  simp [numL]
theorem xorL_zeros : ∀ (l : List UInt8) (n : Nat), l.length = n → xorL l (List.replicate n 0) = l
  | [], n, h => by simp [xorL]
  | x :: l, 0, h => by simp at h
  | x :: l, n + 1, h => by
    have ih := xorL_zeros l n (by simpa using h)
    unfold xorL at ih ⊢
    rw [List.replicate_succ, List.zipWith_cons_cons, ih]
    simp
theorem bend_xor : ∀ (l : List UInt8) (n m : Nat) (c : UInt8), l.length = n → m < n → bendL l m c = xorL l (unitL n m c)
  | [], n, m, c, h, hm => by simp at h; omega
  | x :: l, n, 0, c, h, hm => by
    have h1 : n - 1 - 0 = l.length := by simp at h; omega
    unfold unitL xorL bendL
    rw [h1]
    simp only [List.replicate_zero, List.nil_append, List.zipWith_cons_cons, List.set_cons_zero]
    have := xorL_zeros l l.length rfl
    unfold xorL at this
    rw [this]; rfl
  | x :: l, n, m + 1, c, h, hm => by
    obtain ⟨k, rfl⟩ : ∃ k, n = k + 1 := ⟨n - 1, by simp at h; omega⟩
    have ih := bend_xor l k m c (by simpa using h) (by omega)
    have e : unitL (k + 1) (m + 1) c = 0 :: unitL k m c := by
      unfold unitL
      rw [List.replicate_succ, show k + 1 - 1 - (m + 1) = k - 1 - m by omega]; rfl
    rw [e]
    unfold xorL bendL at ih ⊢
    rw [List.zipWith_cons_cons, ← ih]
    simp
/-- A turned bit of a block. -/
theorem bend_block (l : List UInt8) (m b : Nat) (hl : l.length = 16) (hm : m < 16) (hb : b < 8) : numL (bendL l m (UInt8.ofNat (2 ^ b))) = numL l ^^^ shN gOne (8 * m + (7 - b)) := by
  have hu : (unitL 16 m (UInt8.ofNat (2 ^ b))).length = 16 := by simp [unitL]; omega
  rw [bend_xor l 16 m _ hl hm, numL_xor _ _ (by rw [hl, hu]), unitL_num 16 m _ hm, shN_one _ (by omega)]
  have h1 : 2 ^ b < 256 := by
    have : 2 ^ b < 2 ^ 8 := Nat.pow_lt_pow_right (by decide) hb
    exact this
  have h2 : (UInt8.ofNat (2 ^ b)).toNat = 2 ^ b := by rw [UInt8.toNat_ofNat']; exact Nat.mod_eq_of_lt h1
  rw [h2, show (256 : Nat) = 2 ^ 8 from rfl, ← Nat.pow_mul, ← Nat.pow_add]
  congr 2; omega
theorem bend_ne (l : List UInt8) (m b : Nat) (hm : m < l.length) (hb : b < 8) : bendL l m (UInt8.ofNat (2 ^ b)) ≠ l := by
  intro h
  have h1 := congrArg (fun t => t.getD m 0) h
  simp only [bendL, List.getD_eq_getElem?_getD, List.getElem?_set_self hm, Option.getD_some] at h1
  have h2 := congrArg (fun x => l[m]?.getD 0 ^^^ x) h1
  simp only [← UInt8.xor_assoc, UInt8.xor_self, UInt8.zero_xor] at h2
  have h3 : 2 ^ b < 256 := by
    have : 2 ^ b < 2 ^ 8 := Nat.pow_lt_pow_right (by decide) hb
    exact this
  have h4 := congrArg UInt8.toNat h2
  rw [UInt8.toNat_ofNat', Nat.mod_eq_of_lt h3] at h4
  have : 0 < 2 ^ b := Nat.two_pow_pos b
  simp at h4
/-- A turned bit of a text is one of one of its blocks. -/
theorem blocks_bent (b : Nat) (hb : b < 8) : ∀ (n : Nat) (l : List UInt8) (m : Nat), l.length ≤ n → m < l.length →
    ∃ (az bs : List Nat) (B i : Nat), blocksN l = az ++ B :: bs ∧ blocksN (bendL l m (UInt8.ofNat (2 ^ b))) = az ++ (B ^^^ shN gOne i) :: bs := by
  intro n
  induction n with
  | zero => intro l m h1 h2; omega
  | succ n ih =>
    intro l m h1 h2
    have hne : l ≠ [] := by intro e; rw [e] at h2; simp at h2
    have hne2 : bendL l m (UInt8.ofNat (2 ^ b)) ≠ [] := by
      intro e
      have := congrArg List.length e
      rw [bendL_len] at this; simp at this; exact hne this
    rw [blocksN_ne l hne, blocksN_ne _ hne2]
    by_cases hm : m < 16
    · refine ⟨[], blocksN (l.drop 16), numL (fillL l 16), 8 * m + (7 - b), rfl, ?_⟩
      have e1 : (bendL l m (UInt8.ofNat (2 ^ b))).drop 16 = l.drop 16 := by unfold bendL; rw [List.drop_set_of_lt hm]
      have e2 : fillL (bendL l m (UInt8.ofNat (2 ^ b))) 16 = bendL (fillL l 16) m (UInt8.ofNat (2 ^ b)) := by
        have hmt : m < (l.take 16).length := by simp; omega
        unfold fillL
        rw [bendL_len]
        unfold bendL
        rw [List.take_set, List.set_append_left _ _ hmt]
        congr 2
        rw [List.getD_eq_getElem?_getD, List.getD_eq_getElem?_getD, List.getElem?_append_left hmt, List.getElem?_take_of_lt hm]
      rw [e1, e2, bend_block _ m b (fillL_len l 16) hm hb]; rfl
    · obtain ⟨az, bs, B, i, g1, g2⟩ := ih (l.drop 16) (m - 16) (by simp; omega) (by simp; omega)
      refine ⟨numL (fillL l 16) :: az, bs, B, i, by rw [g1]; rfl, ?_⟩
      have e1 : (bendL l m (UInt8.ofNat (2 ^ b))).drop 16 = bendL (l.drop 16) (m - 16) (UInt8.ofNat (2 ^ b)) := by
        unfold bendL
        rw [List.drop_set, if_neg hm]
        congr 2
        rw [List.getD_eq_getElem?_getD, List.getD_eq_getElem?_getD, List.getElem?_drop, show 16 + (m - 16) = m by omega]
      have e2 : fillL (bendL l m (UInt8.ofNat (2 ^ b))) 16 = fillL l 16 := by
        unfold fillL
        rw [bendL_len]
        unfold bendL
        rw [List.take_set, List.set_eq_of_length_le (by simp; omega)]
      rw [e1, e2, g2]; rfl
end Go.Proofs.Ytjnhlkaafnaooaa
