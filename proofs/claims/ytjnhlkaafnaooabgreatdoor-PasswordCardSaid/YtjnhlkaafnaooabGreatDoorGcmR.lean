import Derived.Test.YtjnhlkaafnaooabGreatDoorRmB
namespace Go.Proofs.YtjnhlkaafnaooabGreatDoor
theorem xorL_len_le (a b : List UInt8) (h : a.length ≤ b.length) : (xorL a b).length = a.length := by simp [xorL]; omega
theorem xorL_twice : ∀ (a b : List UInt8), a.length ≤ b.length → xorL (xorL a b) b = a
  | [], b, _ => by simp [xorL]
  | x :: a, [], h => by simp at h
  | x :: a, y :: b, h => by
    have ih := xorL_twice a b (by simpa using h)
    unfold xorL at ih ⊢
    rw [List.zipWith_cons_cons, List.zipWith_cons_cons, ih, UInt8.xor_assoc, UInt8.xor_self, UInt8.xor_zero]
theorem nonce_len (nonce : List UInt8) (n : Nat) (h : nonce.length = 12) : (nonce ++ onesL n 4).length = 16 := by simp [onesL_len, h]
theorem ctrL_facts (w nonce : List UInt8) (hw : w.length = 240) (hn : nonce.length = 12) : ∀ (k : Nat) (l : List UInt8) (n : Nat), l.length ≤ k → (ctrL w nonce n l).length = l.length ∧ ctrL w nonce n (ctrL w nonce n l) = l := by
  intro k
  induction k with
  | zero =>
    intro l n h
    have : l = [] := List.length_eq_zero_iff.1 (by omega)
    subst this
    rw [ctrL_nil, ctrL_nil]; exact ⟨rfl, rfl⟩
  | succ k ih =>
    intro l n h
    by_cases hl : l = []
    · subst hl; rw [ctrL_nil, ctrL_nil]; exact ⟨rfl, rfl⟩
    · obtain ⟨h1, h2⟩ := ih (l.drop 16) (n + 1) (by have : 0 < l.length := List.length_pos_iff.2 hl; simp; omega)
      have hA := aesL_len w (nonce ++ onesL n 4) hw (nonce_len nonce n hn)
      have hx : (xorL (l.take 16) (aesL w (nonce ++ onesL n 4))).length = (l.take 16).length := xorL_len_le _ _ (by rw [hA]; simp; omega)
      have hlen : (ctrL w nonce n l).length = l.length := by
        rw [ctrL_ne _ _ _ _ hl, List.length_append, hx, h1]; simp; omega
      have hne : ctrL w nonce n l ≠ [] := by
        intro e; rw [e] at hlen; exact hl (List.length_eq_zero_iff.1 hlen.symm)
      refine ⟨hlen, ?_⟩
      rw [ctrL_ne _ _ _ _ hne]
      have e := ctrL_ne w nonce n l hl
      by_cases h16 : 16 ≤ l.length
      · have hx16 : (xorL (l.take 16) (aesL w (nonce ++ onesL n 4))).length = 16 := by rw [hx]; simp; omega
        have t1 : (ctrL w nonce n l).take 16 = xorL (l.take 16) (aesL w (nonce ++ onesL n 4)) := by rw [e, List.take_left' hx16]
        have t2 : (ctrL w nonce n l).drop 16 = ctrL w nonce (n + 1) (l.drop 16) := by rw [e, List.drop_left' hx16]
        rw [t1, t2, xorL_twice _ _ (by rw [hA]; simp; omega), h2, List.take_append_drop]
      · have hd : l.drop 16 = [] := List.drop_eq_nil_of_le (by omega)
        have ht : l.take 16 = l := List.take_of_length_le (by omega)
        rw [hd, ctrL_nil, List.append_nil, ht] at e
        have t1 : (ctrL w nonce n l).take 16 = ctrL w nonce n l := List.take_of_length_le (by rw [hlen]; omega)
        have t2 : (ctrL w nonce n l).drop 16 = [] := List.drop_eq_nil_of_le (by rw [hlen]; omega)
        rw [t1, t2, ctrL_nil, List.append_nil, e, xorL_twice _ _ (by rw [hA]; omega)]
theorem ctrL_len (w nonce : List UInt8) (hw : w.length = 240) (hn : nonce.length = 12) (n : Nat) (l : List UInt8) : (ctrL w nonce n l).length = l.length := (ctrL_facts w nonce hw hn l.length l n (Nat.le_refl _)).1
theorem ctrL_twice (w nonce : List UInt8) (hw : w.length = 240) (hn : nonce.length = 12) (n : Nat) (l : List UInt8) : ctrL w nonce n (ctrL w nonce n l) = l := (ctrL_facts w nonce hw hn l.length l n (Nat.le_refl _)).2
theorem num16_lt (l : List UInt8) (h : l.length = 16) : numL l < 2 ^ 128 := by
  have := numL_lt l
  rw [h] at this
  exact this
theorem hashKey_lt (w : List UInt8) (hw : w.length = 240) : hashKey w < 2 ^ 128 := num16_lt _ (aesL_len w _ hw (by simp))
theorem padN_lt (w nonce : List UInt8) (hw : w.length = 240) (hn : nonce.length = 12) : padN w nonce < 2 ^ 128 := num16_lt _ (aesL_len w _ hw (nonce_len nonce 1 hn))
theorem gHash_lt (w a c : List UInt8) (hw : w.length = 240) : gHash w a c < 2 ^ 128 := ghN_lt _ _ _ (hashKey_lt w hw) (Nat.two_pow_pos _)
theorem tag_eq (w nonce nonce' a c a' c' : List UInt8) (hw : w.length = 240) (hn : nonce.length = 12) (hn' : nonce'.length = 12) (h : tagL w nonce a c = tagL w nonce' a' c') : gHash w a c ^^^ padN w nonce = gHash w a' c' ^^^ padN w nonce' :=
  onesL_inj 16 _ _ (Nat.xor_lt_two_pow (n := 128) (gHash_lt w a c hw) (padN_lt w nonce hw hn)) (Nat.xor_lt_two_pow (n := 128) (gHash_lt w a' c' hw) (padN_lt w nonce' hw hn')) h
theorem xor_cancel_right (a b c : Nat) (h : a ^^^ c = b ^^^ c) : a = b := by
  have := congrArg (· ^^^ c) h
  simpa [Nat.xor_assoc] using this
theorem xor_cancel_left (a b c : Nat) (h : c ^^^ a = c ^^^ b) : a = b := xor_cancel_right a b c (by rw [Nat.xor_comm a, Nat.xor_comm b, h])
theorem tag_bent_text (w nonce a c : List UInt8) (m b : Nat) (hw : w.length = 240) (hn : nonce.length = 12) (hm : m < c.length) (hb : b < 8) (h : tagL w nonce a (bendL c m (UInt8.ofNat (2 ^ b))) = tagL w nonce a c) : hashKey w = 0 := by
  have h1 := xor_cancel_right _ _ _ (tag_eq w nonce nonce _ _ _ _ hw hn hn h)
  obtain ⟨az, bs, B, i, g1, g2⟩ := blocks_bent b hb c.length c m (Nat.le_refl _) hm
  unfold gHash at h1
  have hl : lensN a (bendL c m (UInt8.ofNat (2 ^ b))) = lensN a c := by unfold lensN; rw [bendL_len]
  rw [hl, g1, g2] at h1
  refine ghN_bent (hashKey w) 0 B i (blocksN a ++ az) (bs ++ [lensN a c]) (hashKey_lt w hw) ?_
  simpa [List.append_assoc] using h1
theorem tag_bent_with (w nonce a c : List UInt8) (m b : Nat) (hw : w.length = 240) (hn : nonce.length = 12) (hm : m < a.length) (hb : b < 8) (h : tagL w nonce (bendL a m (UInt8.ofNat (2 ^ b))) c = tagL w nonce a c) : hashKey w = 0 := by
  have h1 := xor_cancel_right _ _ _ (tag_eq w nonce nonce _ _ _ _ hw hn hn h)
  obtain ⟨az, bs, B, i, g1, g2⟩ := blocks_bent b hb a.length a m (Nat.le_refl _) hm
  unfold gHash at h1
  have hl : lensN (bendL a m (UInt8.ofNat (2 ^ b))) c = lensN a c := by unfold lensN; rw [bendL_len]
  rw [hl, g1, g2] at h1
  refine ghN_bent (hashKey w) 0 B i az (bs ++ blocksN c ++ [lensN a c]) (hashKey_lt w hw) ?_
  simpa [List.append_assoc] using h1
theorem tag_bent_nonce (w nonce nonce' a c : List UInt8) (hw : w.length = 240) (hn : nonce.length = 12) (hn' : nonce'.length = 12) (h : tagL w nonce' a c = tagL w nonce a c) : nonce' = nonce := by
  have h1 := xor_cancel_left _ _ _ (tag_eq w nonce' nonce _ _ _ _ hw hn' hn h)
  unfold padN at h1
  have h2 := numL_inj _ _ (by rw [aesL_len w _ hw (nonce_len nonce' 1 hn'), aesL_len w _ hw (nonce_len nonce 1 hn)]) h1
  have h3 := aesL_inj w _ _ hw (nonce_len nonce' 1 hn') (nonce_len nonce 1 hn) h2
  exact List.append_cancel_right h3
/-- What a bent text is, its parts. -/
theorem bend_append_left (a b : List UInt8) (m : Nat) (c : UInt8) (h : m < a.length) : bendL (a ++ b) m c = bendL a m c ++ b := by
  unfold bendL
  rw [List.set_append_left _ _ h]
  congr 2
  rw [List.getD_eq_getElem?_getD, List.getD_eq_getElem?_getD, List.getElem?_append_left h]
theorem bend_append_right (a b : List UInt8) (m : Nat) (c : UInt8) (h : a.length ≤ m) : bendL (a ++ b) m c = a ++ bendL b (m - a.length) c := by
  unfold bendL
  rw [List.set_append_right _ _ h]
  congr 2
  rw [List.getD_eq_getElem?_getD, List.getD_eq_getElem?_getD, List.getElem?_append_right h]
/-- A sealed text, its nonce and what goes with it, one bit of it all turned: the tag is another. -/
theorem bent_all (w nonce a c : List UInt8) (n : Nat) (hw : w.length = 240) (hn : nonce.length = 12) (hlt : n < 8 * (c.length + 16 + 12 + a.length))
    (hH : hashKey w = 0 → ¬ (n < 8 * c.length ∨ 8 * (c.length + 16 + 12) ≤ n)) (x : List UInt8) (hx : x = bendL (c ++ tagL w nonce a c ++ nonce ++ a) (n / 8) (UInt8.ofNat (2 ^ (n % 8)))) :
    tagL w ((x.drop (c.length + 16)).take 12) (x.drop (c.length + 16 + 12)) (x.take c.length) ≠ (x.take (c.length + 16)).drop c.length := by
  have hb : n % 8 < 8 := Nat.mod_lt _ (by decide)
  have htl := tagL_len w nonce a c
  generalize hT : tagL w nonce a c = T at *
  have hcut : ∀ c' T' n' a' : List UInt8, c'.length = c.length → T'.length = 16 → n'.length = 12 → (c' ++ T' ++ n' ++ a').take c.length = c' ∧ ((c' ++ T' ++ n' ++ a').take (c.length + 16)).drop c.length = T' ∧ ((c' ++ T' ++ n' ++ a').drop (c.length + 16)).take 12 = n' ∧ (c' ++ T' ++ n' ++ a').drop (c.length + 16 + 12) = a' := by
    intro c' T' n' a' h1 h2 h3
    have e1 : (c' ++ T').length = c.length + 16 := by simp [h1, h2]
    have e2 : (c' ++ T' ++ n').length = c.length + 16 + 12 := by simp [h1, h2, h3]
    refine ⟨?_, ?_, ?_, ?_⟩
    · rw [List.append_assoc, List.append_assoc, List.take_left' h1]
    · rw [List.append_assoc (c' ++ T'), List.take_left' e1, List.drop_left' h1]
    · rw [List.append_assoc (c' ++ T'), List.drop_left' e1, List.take_left' h3]
    · rw [List.drop_left' e2]
  intro heq
  by_cases h1 : n / 8 < c.length
  · rw [List.append_assoc, List.append_assoc, bend_append_left _ _ _ _ h1, ← List.append_assoc, ← List.append_assoc] at hx
    obtain ⟨f1, f2, f3, f4⟩ := hcut (bendL c (n / 8) (UInt8.ofNat (2 ^ (n % 8)))) T nonce a (bendL_len _ _ _) htl hn
    rw [← hx] at f1 f2 f3 f4
    rw [f1, f2, f3, f4, ← hT] at heq
    exact hH (tag_bent_text w nonce a c _ _ hw hn h1 hb heq) (Or.inl (by omega))
  · by_cases h2 : n / 8 < c.length + 16
    · have e : bendL (c ++ T ++ nonce ++ a) (n / 8) (UInt8.ofNat (2 ^ (n % 8))) = c ++ bendL T (n / 8 - c.length) (UInt8.ofNat (2 ^ (n % 8))) ++ nonce ++ a := by
        rw [List.append_assoc (c ++ T), bend_append_left _ _ _ _ (by simp [htl]; omega), bend_append_right _ _ _ _ (by omega), List.append_assoc (c ++ _)]
      rw [e] at hx
      obtain ⟨f1, f2, f3, f4⟩ := hcut c (bendL T (n / 8 - c.length) (UInt8.ofNat (2 ^ (n % 8)))) nonce a rfl (by rw [bendL_len, htl]) hn
      rw [← hx] at f1 f2 f3 f4
      rw [f1, f2, f3, f4, hT] at heq
      exact bend_ne T _ _ (by omega) hb heq.symm
    · by_cases h3 : n / 8 < c.length + 16 + 12
      · have e : bendL (c ++ T ++ nonce ++ a) (n / 8) (UInt8.ofNat (2 ^ (n % 8))) = c ++ T ++ bendL nonce (n / 8 - (c ++ T).length) (UInt8.ofNat (2 ^ (n % 8))) ++ a := by
          rw [bend_append_left _ _ _ _ (by simp [htl, hn]; omega), bend_append_right _ _ _ _ (by simp [htl]; omega)]
        rw [e] at hx
        obtain ⟨f1, f2, f3, f4⟩ := hcut c T (bendL nonce (n / 8 - (c ++ T).length) (UInt8.ofNat (2 ^ (n % 8)))) a rfl htl (by rw [bendL_len, hn])
        rw [← hx] at f1 f2 f3 f4
        rw [f1, f2, f3, f4, ← hT] at heq
        exact bend_ne nonce _ _ (by simp [tagL_len, hn]; omega) hb (tag_bent_nonce w nonce _ a c hw hn (by rw [bendL_len, hn]) heq)
      · have e : bendL (c ++ T ++ nonce ++ a) (n / 8) (UInt8.ofNat (2 ^ (n % 8))) = c ++ T ++ nonce ++ bendL a (n / 8 - (c ++ T ++ nonce).length) (UInt8.ofNat (2 ^ (n % 8))) := by
          rw [bend_append_right _ _ _ _ (by simp [htl, hn]; omega)]
        rw [e] at hx
        obtain ⟨f1, f2, f3, f4⟩ := hcut c T nonce (bendL a (n / 8 - (c ++ T ++ nonce).length) (UInt8.ofNat (2 ^ (n % 8)))) rfl htl hn
        rw [← hx] at f1 f2 f3 f4
        rw [f1, f2, f3, f4, ← hT] at heq
        exact hH (tag_bent_with w nonce a c _ _ hw hn (by simp [tagL_len, hn]; omega) hb heq) (Or.inr (by omega))
end Go.Proofs.YtjnhlkaafnaooabGreatDoor
