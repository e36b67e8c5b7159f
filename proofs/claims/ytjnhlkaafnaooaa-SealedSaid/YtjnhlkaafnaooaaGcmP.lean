import Derived.Test.YtjnhlkaafnaooaaAesL
import Derived.Test.YtjnhlkaafnaooaaGhash
namespace Go.Proofs.Ytjnhlkaafnaooaa
/-- A text, cut or filled up with noughts. -/
def fillL (t : List UInt8) (n : Nat) : List UInt8 := t.take n ++ List.replicate (n - t.length) 0
theorem fillL_len (t : List UInt8) (n : Nat) : (fillL t n).length = n := by simp [fillL]; omega
theorem fillL_self (t : List UInt8) (n : Nat) (h : t.length = n) : fillL t n = t := by simp [fillL, ← h]
/-- The round constant behind q doublings. -/
def rcN : Nat → Nat
  | 0 => 1
  | q + 1 => prodN (rcN q) 2
theorem rcN_lt (q : Nat) : rcN q < 256 := by
  cases q with
  | zero => decide
  | succ q =>
    show prodN (rcN q) 2 < 256
    exact prodN_lt _ _ (rcN_lt q)
/-- What is added to the word eight words back, for the i-th word. -/
def wordBefore (w : List UInt8) (i : Nat) : List UInt8 := (w.drop (4 * i - 4)).take 4
def wordL (w : List UInt8) (i : Nat) : List UInt8 :=
  if i % 8 = 0 then xorL (subL ((wordBefore w i).drop 1 ++ (wordBefore w i).take 1)) [UInt8.ofNat (rcN (i / 8 - 1)), 0, 0, 0]
  else if i % 4 = 0 then subL (wordBefore w i) else wordBefore w i
def keysTo (key : List UInt8) : Nat → List UInt8
  | 0 => key
  | j + 1 => keysTo key j ++ xorL (wordL (keysTo key j) (j + 8)) (((keysTo key j).drop (4 * j)).take 4)
def keysL (key : List UInt8) : List UInt8 := keysTo key 52
theorem wordBefore_len (w : List UInt8) (i : Nat) (hw : w.length = 4 * i) (hi : 1 ≤ i) : (wordBefore w i).length = 4 := by simp [wordBefore, hw]; omega
theorem wordL_len (w : List UInt8) (i : Nat) (hw : w.length = 4 * i) (hi : 1 ≤ i) : (wordL w i).length = 4 := by
  have h := wordBefore_len w i hw hi
  unfold wordL
  split
  · rw [xorL_len _ _ (by rw [subL_len]; simp [h]), subL_len]; simp [h]
  · split
    · rw [subL_len, h]
    · exact h
theorem keysTo_len (key : List UInt8) (hk : key.length = 32) : ∀ j, (keysTo key j).length = 32 + 4 * j := by
  intro j
  induction j with
  | zero => simpa [keysTo] using hk
  | succ j ih =>
    have h1 := wordL_len (keysTo key j) (j + 8) (by omega) (by omega)
    rw [keysTo, List.length_append, xorL_len _ _ (by rw [h1]; simp [ih]), h1, ih]
    omega
theorem keysL_len (key : List UInt8) (hk : key.length = 32) : (keysL key).length = 240 := keysTo_len key hk 52
/-- A text's blocks as numbers, the last one filled up. -/
def blocksN (l : List UInt8) : List Nat :=
  match _h : l with
  | [] => []
  | _ :: _ => numL (fillL l 16) :: blocksN (l.drop 16)
termination_by l.length
decreasing_by subst _h; simp; omega
theorem blocksN_nil : blocksN [] = [] := by rw [blocksN]
theorem blocksN_ne (l : List UInt8) (h : l ≠ []) : blocksN l = numL (fillL l 16) :: blocksN (l.drop 16) := by
  cases l with
  | nil => exact absurd rfl h
  | cons a l => rw [blocksN]
/-- The stream of a nonce, from its n-th block on, added to a text. -/
def ctrL (w nonce : List UInt8) (n : Nat) (l : List UInt8) : List UInt8 :=
  match _h : l with
  | [] => []
  | _ :: _ => xorL (l.take 16) (aesL w (nonce ++ onesL n 4)) ++ ctrL w nonce (n + 1) (l.drop 16)
termination_by l.length
decreasing_by subst _h; simp; omega
theorem ctrL_nil (w nonce : List UInt8) (n : Nat) : ctrL w nonce n [] = [] := by rw [ctrL]
theorem ctrL_ne (w nonce : List UInt8) (n : Nat) (l : List UInt8) (h : l ≠ []) : ctrL w nonce n l = xorL (l.take 16) (aesL w (nonce ++ onesL n 4)) ++ ctrL w nonce (n + 1) (l.drop 16) := by
  cases l with
  | nil => exact absurd rfl h
  | cons a l => rw [ctrL]
/-- The hash's own key, and the hash of what goes with a text and of the text. -/
def hashKey (w : List UInt8) : Nat := numL (aesL w (List.replicate 16 0))
def lensN (a b : List UInt8) : Nat := 8 * a.length * 2 ^ 64 + 8 * b.length
def gHash (w a c : List UInt8) : Nat := ghN (hashKey w) 0 (blocksN a ++ blocksN c ++ [lensN a c])
def padN (w nonce : List UInt8) : Nat := numL (aesL w (nonce ++ onesL 1 4))
def tagL (w nonce a c : List UInt8) : List UInt8 := onesL (gHash w a c ^^^ padN w nonce) 16
theorem tagL_len (w nonce a c : List UInt8) : (tagL w nonce a c).length = 16 := onesL_len 16 _
end Go.Proofs.Ytjnhlkaafnaooaa
