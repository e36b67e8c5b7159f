import Derived.Test.YtjnhlkaafnaooaaSealW
import Derived.Test.YtjnhlkaafnaooaaMacP
namespace Go.Proofs.Ytjnhlkaafnaooaa
open Go.RowKit
/- What a vault writes: plain lists of bytes. -/
def markL : List UInt8 := [83, 69, 65, 76]
def bodyL (salt : List UInt8) (v p : Nat) (d : List UInt8) : List UInt8 := markL ++ salt ++ onesL v 8 ++ onesL p 1 ++ fillL d 32
def slotL (tk salt : List UInt8) (v p : Nat) (d : List UInt8) : List UInt8 := fillL (bodyL salt v p d ++ macL tk (bodyL salt v p d)) 256
def nonceL (s n : Nat) : List UInt8 := onesL s 8 ++ onesL n 4
def pageL (rk : List UInt8) (s n p : Nat) (t : List UInt8) : List UInt8 := nonceL s n ++ sealL rk (nonceL s n) (onesL p 1) t
def stretchL (pass salt : List UInt8) : List UInt8 := keyL (onesL pass.length 1 ++ pass) salt 3 64
def tagsL (pass salt : List UInt8) : List UInt8 := (stretchL pass salt).take 32
def pagesL (pass salt : List UInt8) : List UInt8 := (stretchL pass salt).drop 32
/-- An entry, as it is written. -/
structure EntM where
  key : List UInt8
  value : List UInt8
  place : Nat
  digest : List UInt8
def entT (leaf : Bool) (e : EntM) : List UInt8 := onesL e.key.length 1 ++ e.key ++ (if leaf then onesL e.value.length 1 ++ e.value else onesL e.place 1 ++ e.digest)
def nodeT (leaf : Bool) (es : List EntM) : List UInt8 := fillL (onesL (if leaf then 1 else 2) 1 ++ onesL es.length 1 ++ es.flatMap (entT leaf)) 228
theorem slotL_len (tk salt : List UInt8) (v p : Nat) (d : List UInt8) : (slotL tk salt v p d).length = 256 := fillL_len _ _
theorem nonceL_len (s n : Nat) : (nonceL s n).length = 12 := by simp [nonceL, onesL_len]
theorem nodeT_len (leaf : Bool) (es : List EntM) : (nodeT leaf es).length = 228 := fillL_len _ _
theorem sealL_len (rk nonce a t : List UInt8) (hr : rk.length = 240) (hn : nonce.length = 12) : (sealL rk nonce a t).length = t.length + 16 := by
  unfold sealL
  rw [List.length_append, ctrL_len rk nonce hr hn, tagL_len]
theorem pageL_len (rk : List UInt8) (s n p : Nat) (t : List UInt8) (hr : rk.length = 240) : (pageL rk s n p t).length = t.length + 28 := by
  unfold pageL
  rw [List.length_append, nonceL_len, sealL_len rk _ _ t hr (nonceL_len s n)]
  omega
theorem onesL_succ (n j : Nat) : onesL n (j + 1) = UInt8.ofNat (n / 256 ^ j % 256) :: onesL n j := by
  have h := onesL_cut j 1 n
  rw [Nat.add_comm 1 j] at h
  rw [h]
  rfl
theorem fillL_grow (t : List UInt8) (n : Nat) (h : t.length ≤ n) : fillL t n = t ++ List.replicate (n - t.length) 0 := by
  unfold fillL
  rw [List.take_of_length_le h]
end Go.Proofs.Ytjnhlkaafnaooaa
