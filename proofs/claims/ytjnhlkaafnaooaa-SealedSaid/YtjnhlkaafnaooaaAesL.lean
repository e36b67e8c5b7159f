import Derived.Test.YtjnhlkaafnaooaaAesP
import Derived.Test.YtjnhlkaafnaooaaSbox
import Derived.Test.YtjnhlkaafnaooaaMacP
namespace Go.Proofs.Ytjnhlkaafnaooaa
/-- A byte of a block, as a number. -/
def byteAt (t : List UInt8) (i : Nat) : Nat := (t.getD i 0).toNat
theorem byteAt_lt (t : List UInt8) (i : Nat) : byteAt t i < 256 := (t.getD i 0).toNat_lt
theorem bytes_ext (t u : List UInt8) (h : t.length = u.length) (hb : ∀ i, i < t.length → byteAt t i = byteAt u i) : t = u := by
  apply List.ext_getElem h
  intro i h1 h2
  have := hb i h1
  unfold byteAt at this
  rw [List.getD_eq_getElem?_getD, List.getD_eq_getElem?_getD, List.getElem?_eq_getElem h1, List.getElem?_eq_getElem h2] at this
  exact UInt8.toNat_inj.1 this
/-- Each byte through the substitution. -/
def subL (t : List UInt8) : List UInt8 := t.map fun b => UInt8.ofNat (sboxN b.toNat)
theorem subL_len (t : List UInt8) : (subL t).length = t.length := by simp [subL]
theorem ofNat_inj8 (a b : Nat) (ha : a < 256) (hb : b < 256) (h : UInt8.ofNat a = UInt8.ofNat b) : a = b := by
  have := congrArg UInt8.toNat h
  simpa [UInt8.toNat_ofNat, Nat.mod_eq_of_lt ha, Nat.mod_eq_of_lt hb] using this
theorem subL_inj (t u : List UInt8) (h : subL t = subL u) : t = u := by
  have hf : ∀ a b : UInt8, UInt8.ofNat (sboxN a.toNat) = UInt8.ofNat (sboxN b.toNat) → a = b := fun a b e =>
    UInt8.toNat_inj.1 (sbox_inj _ _ a.toNat_lt b.toNat_lt (ofNat_inj8 _ _ (sboxN_lt _) (sboxN_lt _) e))
  exact List.map_inj_right (fun a b e => hf a b e) |>.1 h
/-- The rows, turned. -/
def rowsL (t : List UInt8) : List UInt8 := (List.range 16).map fun i => t.getD ((i + 4 * (i % 4)) % 16) 0
theorem rowsL_len (t : List UInt8) : (rowsL t).length = 16 := by simp [rowsL]
theorem rowsL_get (t : List UInt8) (i : Nat) (hi : i < 16) : byteAt (rowsL t) i = byteAt t ((i + 4 * (i % 4)) % 16) := by
  unfold byteAt rowsL
  rw [List.getD_eq_getElem?_getD, List.getElem?_map, List.getElem?_range hi]
  rfl
theorem rowsL_inj (t u : List UInt8) (ht : t.length = 16) (hu : u.length = 16) (h : rowsL t = rowsL u) : t = u := by
  refine bytes_ext t u (by omega) fun i hi => ?_
  have hj : (i + 12 * (i % 4)) % 16 < 16 := Nat.mod_lt _ (by decide)
  have h1 := rowsL_get t _ hj
  have h2 := rowsL_get u _ hj
  have e : ((i + 12 * (i % 4)) % 16 + 4 * ((i + 12 * (i % 4)) % 16 % 4)) % 16 = i := by omega
  rw [e] at h1 h2
  rw [← h1, ← h2, h]
/-- Each column times the matrix. -/
def colAt (t : List UInt8) (i : Nat) : Nat := mixA (byteAt t (i / 4 * 4 + i % 4)) (byteAt t (i / 4 * 4 + (i + 1) % 4)) (byteAt t (i / 4 * 4 + (i + 2) % 4)) (byteAt t (i / 4 * 4 + (i + 3) % 4))
def colL (t : List UInt8) : List UInt8 := (List.range 16).map fun i => UInt8.ofNat (colAt t i)
theorem colL_len (t : List UInt8) : (colL t).length = 16 := by simp [colL]
theorem mixA_lt (a b c d : Nat) : mixA a b c d < 256 := by
  unfold mixA
  exact Nat.xor_lt_two_pow (n := 8) (Nat.xor_lt_two_pow (n := 8) (Nat.xor_lt_two_pow (n := 8) (prodN_lt _ _ (by decide)) (prodN_lt _ _ (by decide))) (prodN_lt _ _ (by decide))) (prodN_lt _ _ (by decide))
theorem colL_get (t : List UInt8) (i : Nat) (hi : i < 16) : byteAt (colL t) i = colAt t i := by
  unfold byteAt colL
  rw [List.getD_eq_getElem?_getD, List.getElem?_map, List.getElem?_range hi]
  show (UInt8.ofNat (colAt t i)).toNat = _
  exact (UInt8.toNat_ofNat' ..).trans (Nat.mod_eq_of_lt (mixA_lt _ _ _ _))
theorem col_back (t : List UInt8) (i : Nat) :
    prodN 14 (colAt t i) ^^^ prodN 11 (colAt t (i / 4 * 4 + (i + 1) % 4)) ^^^ prodN 13 (colAt t (i / 4 * 4 + (i + 2) % 4)) ^^^ prodN 9 (colAt t (i / 4 * 4 + (i + 3) % 4)) = byteAt t i := by
  have h := unmix (byteAt t (i / 4 * 4 + i % 4)) (byteAt t (i / 4 * 4 + (i + 1) % 4)) (byteAt t (i / 4 * 4 + (i + 2) % 4)) (byteAt t (i / 4 * 4 + (i + 3) % 4)) (byteAt_lt _ _) (byteAt_lt _ _) (byteAt_lt _ _) (byteAt_lt _ _)
  have e0 : i / 4 * 4 + i % 4 = i := by omega
  have f1 : (i / 4 * 4 + (i + 1) % 4) / 4 = i / 4 := by omega
  have f2 : (i / 4 * 4 + (i + 2) % 4) / 4 = i / 4 := by omega
  have f3 : (i / 4 * 4 + (i + 3) % 4) / 4 = i / 4 := by omega
  have g1 : ∀ k, (i / 4 * 4 + (i + 1) % 4 + k) % 4 = (i + 1 + k) % 4 := fun k => by omega
  have g2 : ∀ k, (i / 4 * 4 + (i + 2) % 4 + k) % 4 = (i + 2 + k) % 4 := fun k => by omega
  have g3 : ∀ k, (i / 4 * 4 + (i + 3) % 4 + k) % 4 = (i + 3 + k) % 4 := fun k => by omega
  have p1 : (i / 4 * 4 + (i + 1) % 4) % 4 = (i + 1) % 4 := g1 0
  have p2 : (i / 4 * 4 + (i + 2) % 4) % 4 = (i + 2) % 4 := g2 0
  have p3 : (i / 4 * 4 + (i + 3) % 4) % 4 = (i + 3) % 4 := g3 0
  have q4 : (i + 4) % 4 = i % 4 := by omega
  have q5 : (i + 5) % 4 = (i + 1) % 4 := by omega
  have q6 : (i + 6) % 4 = (i + 2) % 4 := by omega
  have c1 : colAt t (i / 4 * 4 + (i + 1) % 4) = mixA (byteAt t (i / 4 * 4 + (i + 1) % 4)) (byteAt t (i / 4 * 4 + (i + 2) % 4)) (byteAt t (i / 4 * 4 + (i + 3) % 4)) (byteAt t (i / 4 * 4 + i % 4)) := by
    unfold colAt; rw [f1, p1, g1, g1, g1, Nat.add_assoc, Nat.add_assoc, Nat.add_assoc, q4]
  have c2 : colAt t (i / 4 * 4 + (i + 2) % 4) = mixA (byteAt t (i / 4 * 4 + (i + 2) % 4)) (byteAt t (i / 4 * 4 + (i + 3) % 4)) (byteAt t (i / 4 * 4 + i % 4)) (byteAt t (i / 4 * 4 + (i + 1) % 4)) := by
    unfold colAt; rw [f2, p2, g2, g2, g2, Nat.add_assoc, Nat.add_assoc, Nat.add_assoc, q4, q5]
  have c3 : colAt t (i / 4 * 4 + (i + 3) % 4) = mixA (byteAt t (i / 4 * 4 + (i + 3) % 4)) (byteAt t (i / 4 * 4 + i % 4)) (byteAt t (i / 4 * 4 + (i + 1) % 4)) (byteAt t (i / 4 * 4 + (i + 2) % 4)) := by
    unfold colAt; rw [f3, p3, g3, g3, g3, Nat.add_assoc, Nat.add_assoc, Nat.add_assoc, q4, q5, q6]
  rw [c1, c2, c3]
  unfold colAt
  rw [h, e0]
theorem colL_inj (t u : List UInt8) (ht : t.length = 16) (hu : u.length = 16) (h : colL t = colL u) : t = u := by
  refine bytes_ext t u (by omega) fun i hi => ?_
  have hc : ∀ j, j < 16 → colAt t j = colAt u j := fun j hj => by rw [← colL_get t j hj, ← colL_get u j hj, h]
  rw [← col_back t i, ← col_back u i, hc i (by omega), hc _ (by omega), hc _ (by omega), hc _ (by omega)]
theorem xorL_inj (k : List UInt8) : ∀ (t u : List UInt8), t.length = k.length → u.length = k.length → xorL t k = xorL u k → t = u := by
  induction k with
  | nil => intro t u ht hu _; simp at ht hu; rw [ht, hu]
  | cons c k ih =>
    intro t u ht hu h
    cases t with
    | nil => simp at ht
    | cons x t =>
      cases u with
      | nil => simp at hu
      | cons y u =>
        simp only [xorL, List.zipWith_cons_cons, List.cons.injEq] at h
        have h1 : x = y := by
          have := congrArg (· ^^^ c) h.1
          simpa [UInt8.xor_assoc] using this
        rw [h1, ih t u (by simpa using ht) (by simpa using hu) h.2]
/-- One block under round keys, behind r rounds. -/
def roundKey (w : List UInt8) (r : Nat) : List UInt8 := (w.drop (16 * r)).take 16
theorem roundKey_len (w : List UInt8) (r : Nat) (hw : w.length = 240) (hr : r ≤ 14) : (roundKey w r).length = 16 := by simp [roundKey, hw]; omega
def aesTo (w t : List UInt8) : Nat → List UInt8
  | 0 => xorL t (roundKey w 0)
  | r + 1 => xorL (if r + 1 < 14 then colL (rowsL (subL (aesTo w t r))) else rowsL (subL (aesTo w t r))) (roundKey w (r + 1))
def aesL (w t : List UInt8) : List UInt8 := aesTo w t 14
theorem inner_len (s : List UInt8) (r : Nat) : (if r + 1 < 14 then colL (rowsL (subL s)) else rowsL (subL s)).length = 16 := by
  split
  · exact colL_len _
  · exact rowsL_len _
theorem aesTo_len (w t : List UInt8) (r : Nat) (hw : w.length = 240) (ht : t.length = 16) (hr : r ≤ 14) : (aesTo w t r).length = 16 := by
  cases r with
  | zero => rw [aesTo, xorL_len _ _ (by rw [ht, roundKey_len w 0 hw (by omega)]), ht]
  | succ r => rw [aesTo, xorL_len _ _ (by rw [inner_len, roundKey_len w _ hw hr]), inner_len]
theorem aesTo_inj (w t u : List UInt8) (hw : w.length = 240) (ht : t.length = 16) (hu : u.length = 16) : ∀ r, r ≤ 14 → aesTo w t r = aesTo w u r → t = u := by
  intro r
  induction r with
  | zero =>
    intro _ h
    exact xorL_inj (roundKey w 0) t u (by rw [ht, roundKey_len w 0 hw (by omega)]) (by rw [hu, roundKey_len w 0 hw (by omega)]) h
  | succ r ih =>
    intro hr h
    refine ih (by omega) ?_
    rw [aesTo, aesTo] at h
    have h1 := xorL_inj (roundKey w (r + 1)) _ _ (by rw [inner_len, roundKey_len w _ hw hr]) (by rw [inner_len, roundKey_len w _ hw hr]) h
    have lt := aesTo_len w t r hw ht (by omega)
    have lu := aesTo_len w u r hw hu (by omega)
    have h2 : rowsL (subL (aesTo w t r)) = rowsL (subL (aesTo w u r)) := by
      by_cases h14 : r + 1 < 14
      · rw [if_pos h14, if_pos h14] at h1
        exact colL_inj _ _ (rowsL_len _) (rowsL_len _) h1
      · rw [if_neg h14, if_neg h14] at h1
        exact h1
    exact subL_inj _ _ (rowsL_inj _ _ (by rw [subL_len, lt]) (by rw [subL_len, lu]) h2)
/-- Under one key no two blocks become one. -/
theorem aesL_inj (w t u : List UInt8) (hw : w.length = 240) (ht : t.length = 16) (hu : u.length = 16) (h : aesL w t = aesL w u) : t = u := aesTo_inj w t u hw ht hu 14 (Nat.le_refl _) h
theorem aesL_len (w t : List UInt8) (hw : w.length = 240) (ht : t.length = 16) : (aesL w t).length = 16 := aesTo_len w t 14 hw ht (Nat.le_refl _)
end Go.Proofs.Ytjnhlkaafnaooaa
