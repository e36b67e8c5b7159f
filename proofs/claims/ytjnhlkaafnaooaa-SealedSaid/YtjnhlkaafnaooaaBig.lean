import Derived.WalkKit
namespace Go.Proofs.Ytjnhlkaafnaooaa
/-- The number that digits to the base 2^16 are, the low one first. -/
def bval : List Nat → Nat
  | [] => 0
  | d :: r => d + 65536 * bval r

def B (k : Nat) : Nat := 65536 ^ k
theorem B_succ (k : Nat) : B (k + 1) = 65536 * B k := by unfold B; rw [Nat.pow_succ, Nat.mul_comm]
theorem B_zero : B 0 = 1 := rfl
theorem B_pos (k : Nat) : 0 < B k := Nat.pow_pos (by decide)
theorem B_add (a b : Nat) : B (a + b) = B a * B b := Nat.pow_add _ _ _

theorem bval_lt : ∀ (l : List Nat), (∀ d ∈ l, d < 65536) → bval l < B l.length
  | [], _ => by decide
  | d :: r, h => by
    have h1 := bval_lt r fun x hx => h x (List.mem_cons_of_mem _ hx)
    have h2 := h d (List.mem_cons_self)
    rw [List.length_cons, B_succ, bval]
    omega

theorem bval_set : ∀ (l : List Nat) (k x : Nat) (hk : k < l.length), bval (l.set k x) + l[k] * B k = bval l + x * B k
  | d :: r, 0, x, _ => by simp [bval, B_zero]; omega
  | d :: r, k + 1, x, hk => by
    have h := bval_set r k x (by simpa using hk)
    simp only [List.set_cons_succ, bval, List.getElem_cons_succ, B_succ]
    have e1 : r[k]'(by simpa using hk) * (65536 * B k) = 65536 * (r[k]'(by simpa using hk) * B k) := by rw [Nat.mul_left_comm]
    have e2 : x * (65536 * B k) = 65536 * (x * B k) := by rw [Nat.mul_left_comm]
    rw [e1, e2]
    omega

theorem bval_take_succ : ∀ (l : List Nat) (k : Nat) (hk : k < l.length), bval (l.take (k + 1)) = bval (l.take k) + l[k] * B k
  | d :: r, 0, _ => by simp [bval, B_zero]
  | d :: r, k + 1, hk => by
    have h := bval_take_succ r k (by simpa using hk)
    simp only [List.take_succ_cons, bval, List.getElem_cons_succ, B_succ]
    rw [h]
    have e1 : r[k]'(by simpa using hk) * (65536 * B k) = 65536 * (r[k]'(by simpa using hk) * B k) := by rw [Nat.mul_left_comm]
    rw [e1]
    omega

theorem bval_take_le (l : List Nat) : ∀ k, bval (l.take k) ≤ bval l := by
  induction l with
  | nil => intro k; simp
  | cons d r ih =>
    intro k
    cases k with
    | zero => simp [bval]
    | succ k => simp only [List.take_succ_cons, bval]; have := ih k; omega

theorem bval_ge (l : List Nat) : ∀ (k : Nat) (hk : k < l.length), l[k] * B k ≤ bval l := by
  intro k hk
  have h := bval_take_succ l k hk
  have h2 := bval_take_le l (k + 1)
  omega

theorem bval_replicate (n : Nat) : bval (List.replicate n 0) = 0 := by
  induction n with
  | zero => rfl
  | succ n ih => simp [List.replicate_succ, bval, ih]

/-- What stands in 'out' behind i whole rounds and j of the next. -/
def sumTo (a b : List Nat) (i j : Nat) : Nat := bval (a.take i) * bval b + a.getD i 0 * B i * bval (b.take j)

theorem sumTo_zero (a b : List Nat) : sumTo a b 0 0 = 0 := by simp [sumTo, bval]
theorem sumTo_j (a b : List Nat) (i j : Nat) (hj : j < b.length) : sumTo a b i (j + 1) = sumTo a b i j + a.getD i 0 * b[j] * B (i + j) := by
  unfold sumTo
  rw [bval_take_succ b j hj, Nat.mul_add, ← Nat.add_assoc]
  congr 1
  rw [B_add, Nat.mul_assoc, Nat.mul_assoc, Nat.mul_left_comm (B i), Nat.mul_left_comm]
theorem sumTo_i (a b : List Nat) (i : Nat) (hi : i < a.length) : sumTo a b i b.length = sumTo a b (i + 1) 0 := by
  unfold sumTo
  rw [List.take_of_length_le (Nat.le_refl b.length), bval_take_succ a i hi]
  simp [bval, List.getElem?_eq_getElem hi, Nat.add_mul]
theorem sumTo_end (a b : List Nat) : sumTo a b a.length 0 = bval a * bval b := by
  unfold sumTo
  rw [List.take_of_length_le (Nat.le_refl _)]
  simp [bval]
theorem sumTo_lt (a b : List Nat) (i j : Nat) (ha : ∀ d ∈ a, d < 65536) (hb : ∀ d ∈ b, d < 65536) : sumTo a b i j < B (a.length + b.length) := by
  have h1 : sumTo a b i j ≤ bval a * bval b := by
    by_cases hi : i < a.length
    · have e : sumTo a b i j ≤ bval (a.take i) * bval b + a.getD i 0 * B i * bval b := Nat.add_le_add_left (Nat.mul_le_mul_left _ (bval_take_le b j)) _
      have e2 : a.getD i 0 = a[i] := by simp [List.getElem?_eq_getElem hi]
      rw [e2, ← Nat.add_mul, ← bval_take_succ a i hi] at e
      exact Nat.le_trans e (Nat.mul_le_mul_right _ (bval_take_le a _))
    · unfold sumTo
      have e2 : a.getD i 0 = 0 := by simp [List.getElem?_eq_none (by omega : a.length ≤ i)]
      rw [e2]
      simp
      exact Nat.mul_le_mul_right _ (bval_take_le a _)
  have h2 := bval_lt a ha
  have h3 := bval_lt b hb
  rw [B_add]
  exact Nat.lt_of_le_of_lt h1 (Nat.mul_lt_mul'' h2 h3)

/-- All digits but the one at k are digits; that one is below 2^33. -/
def Carrying (l : List Nat) (k : Nat) : Prop := k < l.length ∧ (∀ i (h : i < l.length), i ≠ k → l[i] < 65536) ∧ ∀ h : k < l.length, l[k] < 8589934592

theorem carrying_done {l : List Nat} {k : Nat} (h : Carrying l k) (h2 : l.getD k 0 < 65536) : ∀ d ∈ l, d < 65536 := by
  obtain ⟨hk, h3, _⟩ := h
  intro d hd
  obtain ⟨i, hi, rfl⟩ := List.mem_iff_getElem.1 hd
  by_cases e : i = k
  · subst e; simpa [List.getElem?_eq_getElem hk] using h2
  · exact h3 i hi e

theorem carrying_room {l : List Nat} {k n : Nat} (h : Carrying l k) (h2 : 65536 ≤ l.getD k 0) (hl : l.length = n + 1) (hv : bval l < B n) : k + 1 < l.length := by
  obtain ⟨hk, _, _⟩ := h
  have h3 := bval_ge l k hk
  have e : l.getD k 0 = l[k] := by simp [List.getElem?_eq_getElem hk]
  rw [e] at h2
  by_cases hkn : k = n
  · subst hkn
    exfalso
    have := Nat.mul_le_mul_right (B k) h2
    have hp := B_pos k
    omega
  · omega

theorem carrying_start {l : List Nat} {p x : Nat} (hl : ∀ d ∈ l, d < 65536) (hp : p < l.length) (hx : x < 8589934592) : Carrying (l.set p x) p := by
  refine ⟨by simpa using hp, ?_, ?_⟩
  · intro i h hne
    rw [List.getElem_set_ne (by omega)]
    exact hl _ (List.getElem_mem _)
  · intro h
    simpa using hx

theorem carrying_step {l : List Nat} {k : Nat} (h : Carrying l k) (hk1 : k + 1 < l.length) :
    Carrying ((l.set (k + 1) (l.getD (k + 1) 0 + l.getD k 0 / 65536)).set k (l.getD k 0 % 65536)) (k + 1) ∧
    bval ((l.set (k + 1) (l.getD (k + 1) 0 + l.getD k 0 / 65536)).set k (l.getD k 0 % 65536)) = bval l := by
  obtain ⟨hk, h3, h4⟩ := h
  have e : l.getD k 0 = l[k] := by simp [List.getElem?_eq_getElem hk]
  have e' : l.getD (k + 1) 0 = l[k + 1] := by simp [List.getElem?_eq_getElem hk1]
  have hd := h3 (k + 1) hk1 (by omega)
  have hd' := h4 hk
  rw [e, e']
  constructor
  · refine ⟨by simpa using hk1, ?_, ?_⟩
    · intro i hi hne
      by_cases e2 : i = k
      · subst e2
        simp only [List.getElem_set_self]
        omega
      · rw [List.getElem_set_ne (by omega), List.getElem_set_ne (by omega)]
        exact h3 i (by simpa using hi) e2
    · intro hi
      rw [List.getElem_set_ne (by omega), List.getElem_set_self]
      omega
  · have s1 := bval_set l (k + 1) (l[k + 1] + l[k] / 65536) hk1
    have s2 := bval_set (l.set (k + 1) (l[k + 1] + l[k] / 65536)) k (l[k] % 65536) (by simpa using hk)
    rw [List.getElem_set_ne (by omega)] at s2
    rw [B_succ] at s1
    have hdm := Nat.div_add_mod l[k] 65536
    have e5 : l[k] * B k = (65536 * (l[k] / 65536)) * B k + l[k] % 65536 * B k := by rw [← Nat.add_mul, hdm]
    have e6 : (l[k + 1] + l[k] / 65536) * (65536 * B k) = l[k + 1] * (65536 * B k) + (65536 * (l[k] / 65536)) * B k := by
      rw [Nat.add_mul]
      congr 1
      rw [Nat.mul_comm 65536 (l[k] / 65536), Nat.mul_assoc]
    rw [e6] at s1
    omega

/-- a above b, both of digits: the first that differ from the top decide. -/
theorem bval_split : ∀ (l : List Nat) (k : Nat), k ≤ l.length → bval l = bval (l.take k) + B k * bval (l.drop k)
  | l, 0, _ => by simp [bval, B_zero]
  | d :: r, k + 1, h => by
    have := bval_split r k (by simpa using h)
    simp only [List.take_succ_cons, List.drop_succ_cons, bval, B_succ]
    rw [this, Nat.mul_add, Nat.mul_assoc]
    omega
theorem getD_take_drop (l : List Nat) (k : Nat) : bval (l.drop k) = l.getD k 0 + 65536 * bval (l.drop (k + 1)) := by
  by_cases hk : k < l.length
  · rw [List.drop_eq_getElem_cons hk, bval]
    simp [List.getElem?_eq_getElem hk]
  · simp [List.drop_eq_nil_of_le (by omega : l.length ≤ k), List.drop_eq_nil_of_le (by omega : l.length ≤ k + 1), List.getElem?_eq_none (by omega : l.length ≤ k), bval]
theorem bval_split' (l : List Nat) (k : Nat) : bval l = bval (l.take k) + B k * bval (l.drop k) := by
  by_cases hk : k ≤ l.length
  · exact bval_split l k hk
  · rw [List.take_of_length_le (by omega), List.drop_eq_nil_of_le (by omega)]; simp [bval]
theorem bval_take_lt (l : List Nat) (k : Nat) (h : ∀ d ∈ l, d < 65536) : bval (l.take k) < B k := by
  have h1 := bval_lt (l.take k) fun d hd => h d (List.mem_of_mem_take hd)
  rw [List.length_take] at h1
  have : B (min k l.length) ≤ B k := Nat.pow_le_pow_right (by decide) (Nat.min_le_left _ _)
  omega
/-- From k on they are the same: at k they part, or they go on being the same. -/
theorem above_part (a b : List Nat) (k : Nat) (ha : ∀ d ∈ a, d < 65536) (hb : ∀ d ∈ b, d < 65536) (h : bval (a.drop (k + 1)) = bval (b.drop (k + 1))) (hne : a.getD k 0 ≠ b.getD k 0) :
    decide (bval b < bval a) = decide (b.getD k 0 < a.getD k 0) := by
  have s1 := bval_split' a k
  have s2 := bval_split' b k
  have t1 := bval_take_lt a k ha
  have t2 := bval_take_lt b k hb
  rw [getD_take_drop a k] at s1
  rw [getD_take_drop b k, ← h] at s2
  generalize bval (a.drop (k + 1)) = R at s1 s2
  generalize bval (a.take k) = p at s1 t1
  generalize bval (b.take k) = q at s2 t2
  generalize a.getD k 0 = x at *
  generalize b.getD k 0 = y at *
  rw [Bool.eq_iff_iff, decide_eq_true_eq, decide_eq_true_eq, s1, s2]
  generalize 65536 * R = R'
  constructor
  · intro hlt
    rcases Nat.lt_or_ge y x with h1 | h1
    · exact h1
    · exfalso
      have h2 : x + 1 ≤ y := by omega
      have := Nat.mul_le_mul_left (B k) (show x + R' + 1 ≤ y + R' by omega)
      rw [Nat.mul_add _ (x + R')] at this
      omega
  · intro hlt
    have := Nat.mul_le_mul_left (B k) (show y + R' + 1 ≤ x + R' by omega)
    rw [Nat.mul_add _ (y + R')] at this
    omega
theorem above_same (a b : List Nat) (k : Nat) (h : bval (a.drop (k + 1)) = bval (b.drop (k + 1))) (he : a.getD k 0 = b.getD k 0) : bval (a.drop k) = bval (b.drop k) := by
  rw [getD_take_drop a k, getD_take_drop b k, h, he]
end Go.Proofs.Ytjnhlkaafnaooaa
