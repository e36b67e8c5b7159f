import Derived.Test.YtjnhlkaafnaooaaDoorHashP
namespace Go.Proofs.YtjnhlkaafnaooaaDoor
/-- Two texts, added bit by bit. -/
def xorL (a b : List UInt8) : List UInt8 := List.zipWith (fun x y => x ^^^ y) a b
theorem xorL_len (a b : List UInt8) (h : a.length = b.length) : (xorL a b).length = a.length := by simp [xorL, h]
/-- A key of at most a block. -/
def shortL (key : List UInt8) : List UInt8 := if 64 < key.length then shaL key else key
theorem shortL_len (key : List UInt8) : (shortL key).length ≤ 64 := by
  unfold shortL; split
  · rw [shaL_len]; omega
  · omega
/-- The key, noughts behind it up to a block. -/
def blockL (key : List UInt8) : List UInt8 := shortL key ++ List.replicate (64 - (shortL key).length) 0
theorem blockL_len (key : List UInt8) : (blockL key).length = 64 := by
  have := shortL_len key
  simp [blockL]; omega
def padIn (key : List UInt8) : List UInt8 := xorL (blockL key) (List.replicate 64 54)
def padOut (key : List UInt8) : List UInt8 := xorL (blockL key) (List.replicate 64 92)
theorem padIn_len (key : List UInt8) : (padIn key).length = 64 := by unfold padIn; rw [xorL_len _ _ (by rw [blockL_len]; simp), blockL_len]
theorem padOut_len (key : List UInt8) : (padOut key).length = 64 := by unfold padOut; rw [xorL_len _ _ (by rw [blockL_len]; simp), blockL_len]
/-- A tag. -/
def macL (key t : List UInt8) : List UInt8 := shaL (padOut key ++ shaL (padIn key ++ t))
theorem macL_len (key t : List UInt8) : (macL key t).length = 32 := shaL_len _
/-- The r-th link of the chain of one block of a stretched key, and the links so far added. -/
def linkL (pass salt : List UInt8) (i : Nat) : Nat → List UInt8
  | 0 => macL pass (salt ++ onesL i 4)
  | r + 1 => macL pass (linkL pass salt i r)
def sumL (pass salt : List UInt8) (i : Nat) : Nat → List UInt8
  | 0 => linkL pass salt i 0
  | r + 1 => xorL (sumL pass salt i r) (linkL pass salt i (r + 1))
theorem linkL_len (pass salt : List UInt8) (i r : Nat) : (linkL pass salt i r).length = 32 := by cases r <;> exact macL_len _ _
theorem sumL_len (pass salt : List UInt8) (i r : Nat) : (sumL pass salt i r).length = 32 := by
  induction r with
  | zero => exact linkL_len _ _ _ _
  | succ r ih => show (xorL _ _).length = 32; rw [xorL_len _ _ (by rw [ih, linkL_len]), ih]
/-- The first m blocks of a stretched key. -/
def keyTo (pass salt : List UInt8) (r : Nat) : Nat → List UInt8
  | 0 => []
  | m + 1 => keyTo pass salt r m ++ sumL pass salt (m + 1) r
theorem keyTo_len (pass salt : List UInt8) (r m : Nat) : (keyTo pass salt r m).length = 32 * m := by
  induction m with
  | zero => rfl
  | succ m ih => rw [keyTo, List.length_append, ih, sumL_len]; omega
/-- How many turns behind the first a number of rounds asks for. -/
def turnsOf (rounds : Int) : Nat := (rounds - 1).toNat
def keyL (pass salt : List UInt8) (rounds : Int) (size : Nat) : List UInt8 := (keyTo pass salt (turnsOf rounds) ((size + 31) / 32)).take size
/-- Two texts of one length, the first k bytes added. -/
theorem xor_set (a b : List UInt8) (k n : Nat) (hn : a.length = n) (hab : b.length = n) (hk : k < n) :
    ((xorL (a.take k) (b.take k)).map UInt8.toNat ++ List.replicate (n - k) 0).set k (a[k].toNat ^^^ b[k].toNat) = (xorL (a.take (k + 1)) (b.take (k + 1))).map UInt8.toNat ++ List.replicate (n - (k + 1)) 0 := by
  have hl : ((xorL (a.take k) (b.take k)).map UInt8.toNat).length = k := by rw [List.length_map, xorL_len _ _ (by simp; omega)]; simp; omega
  have e1 : xorL (a.take (k + 1)) (b.take (k + 1)) = xorL (a.take k) (b.take k) ++ [a[k] ^^^ b[k]] := by
    rw [List.take_succ_eq_append_getElem (by omega : k < a.length), List.take_succ_eq_append_getElem (by omega : k < b.length)]
    unfold xorL
    rw [List.zipWith_append (by simp; omega)]
    rfl
  rw [e1, List.map_append, List.set_append_right k _ (by omega), hl, Nat.sub_self]
  have e2 : n - k = (n - (k + 1)) + 1 := by omega
  rw [e2, List.replicate_succ, List.set_cons_zero, List.append_assoc]
  simp
end Go.Proofs.YtjnhlkaafnaooaaDoor
