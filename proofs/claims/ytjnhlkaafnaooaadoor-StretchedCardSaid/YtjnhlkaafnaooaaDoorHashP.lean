import Derived.Test.YtjnhlkaafnaooaaDoorSha
namespace Go.Proofs.YtjnhlkaafnaooaaDoor
/-- What is left in hand behind a text T. -/
structure Taken (st : St) (buf : List UInt8) (T : List UInt8) : Prop where
  st_ : st = takeIn startSt T (T.length / 64)
  len : buf.length = 64
  buf_ : buf.take (T.length % 64) = T.drop (64 * (T.length / 64))
theorem takeIn_append (s : St) (T t : List UInt8) : ∀ n, 64 * n ≤ T.length → takeIn s (T ++ t) n = takeIn s T n
  | 0, _ => rfl
  | n + 1, h => by
    have ih := takeIn_append s T t n (by omega)
    simp only [takeIn]
    rw [ih, List.drop_append_of_le_length (by omega), List.take_append_of_le_length (by simp; omega)]
theorem Taken.start : Taken startSt (List.replicate 64 0) [] := ⟨rfl, by simp, by simp⟩
theorem Taken.step {st : St} {buf T : List UInt8} (h : Taken st buf T) (c : UInt8) (hne : (T.length + 1) % 64 ≠ 0) : Taken st (buf.set (T.length % 64) c) (T ++ [c]) := by
  have hd : (T.length + 1) / 64 = T.length / 64 := by omega
  have hm : (T.length + 1) % 64 = T.length % 64 + 1 := by omega
  refine ⟨?_, by simp [h.len], ?_⟩
  · rw [List.length_append, List.length_singleton, hd, takeIn_append _ _ _ _ (by omega)]; exact h.st_
  · rw [List.length_append, List.length_singleton, hd, hm, List.drop_append_of_le_length (by omega), ← h.buf_]
    rw [List.take_succ_eq_append_getElem (by simp [h.len]; omega)]
    simp [List.take_set_of_le]
theorem Taken.full {st : St} {buf T : List UInt8} (h : Taken st buf T) (c : UInt8) (hz : (T.length + 1) % 64 = 0) : Taken (comp st (buf.set (T.length % 64) c)) (buf.set (T.length % 64) c) (T ++ [c]) := by
  have hd : (T.length + 1) / 64 = T.length / 64 + 1 := by omega
  have hm : T.length % 64 = 63 := by omega
  have hb : buf.set (T.length % 64) c = T.drop (64 * (T.length / 64)) ++ [c] := by
    rw [← h.buf_, hm]
    have hl := h.len
    apply List.ext_getElem
    · simp [hl]
    · intro i h1 h2
      by_cases e : i = 63
      · subst e; simp [hl]
      · have hi : i < 63 := by simp [hl] at h1; omega
        rw [List.getElem_set_ne (by omega), List.getElem_append_left (by simp [hl]; omega)]
        simp
  refine ⟨?_, by simp [h.len], ?_⟩
  · rw [List.length_append, List.length_singleton, hd, takeIn, takeIn_append _ _ _ _ (by omega), ← h.st_, hb]
    congr 1
    rw [List.drop_append_of_le_length (by omega), List.take_of_length_le]
    simp; omega
  · rw [List.length_append, List.length_singleton, hd, hz]
    simp
    omega
/-- The digest of all that was taken in, the padding behind it. -/
theorem Taken.digest {st : St} {buf T : List UInt8} (h : Taken st buf (T ++ padL T.length)) : digest st = shaL T := by
  rw [shaL, h.st_, List.length_append, padL_len, blocks_eq, Nat.mul_div_cancel_left _ (by decide)]
end Go.Proofs.YtjnhlkaafnaooaaDoor
