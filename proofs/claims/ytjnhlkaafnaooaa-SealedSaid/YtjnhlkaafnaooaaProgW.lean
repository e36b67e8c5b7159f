import Derived.Test.YtjnhlkaafnaooaaStepW
import Derived.Lib.AppendStr
import Derived.Deep.RegionHeld
namespace Go.Proofs.Ytjnhlkaafnaooaa
open Go.RowKit
theorem xor3_u32 (a b c : Nat) (ha : a < 4294967296) (hb : b < 4294967296) (hc : c < 4294967296) : bits .xor .u32 (bits .xor .u32 (a : Int) (b : Int)) (c : Int) = ((a ^^^ b ^^^ c : Nat) : Int) := by
  rw [u32_xor_nat a b ha hb, u32_xor_nat _ c (xor32 ha hb) hc]
theorem sig0_u32 (x : Nat) (hx : x < 4294967296) : bits .xor .u32 (bits .xor .u32 ((rotr x 7 : Nat) : Int) ((rotr x 18 : Nat) : Int)) ((x : Int) / 8) = ((sig0 x : Nat) : Int) := by
  rw [show (x : Int) / 8 = ((x / 8 : Nat) : Int) from by simp, xor3_u32 _ _ _ (rotr_lt x 7 hx (by decide) (by decide)) (rotr_lt x 18 hx (by decide) (by decide)) (by omega)]
  rfl
theorem sig1_u32 (x : Nat) (hx : x < 4294967296) : bits .xor .u32 (bits .xor .u32 ((rotr x 17 : Nat) : Int) ((rotr x 19 : Nat) : Int)) ((x : Int) / 1024) = ((sig1 x : Nat) : Int) := by
  rw [show (x : Int) / 1024 = ((x / 1024 : Nat) : Int) from by simp, xor3_u32 _ _ _ (rotr_lt x 17 hx (by decide) (by decide)) (rotr_lt x 19 hx (by decide) (by decide)) (by omega)]
  rfl
theorem onesL4 (x : Nat) (hx : x < 4294967296) : onesL x 4 = [x / 16777216, x / 65536 % 256, x / 256 % 256, x % 256].map UInt8.ofNat := by
  simp only [onesL, List.map_cons, List.map_nil, List.nil_append, List.cons_append, Nat.div_div_eq_div_mul]
  have h : x / 16777216 % 256 = x / 16777216 := by omega
  show [UInt8.ofNat (x / 16777216 % 256), _, _, _] = _
  rw [h]

theorem word_int (x0 x1 x2 x3 : Nat) (h0 : x0 < 256) (h1 : x1 < 256) (h2 : x2 < 256) (h3 : x3 < 256) :
    bits .or .u32 (bits .or .u32 (bits .or .u32 ((x0 : Int) * 16777216) ((x1 : Int) * 65536)) ((x2 : Int) * 256)) (x3 : Int) = ((x0 * 16777216 + x1 * 65536 + x2 * 256 + x3 : Nat) : Int) := by
  have e0 : (x0 : Int) * 16777216 = ((x0 * 16777216 : Nat) : Int) := by omega
  have e1 : (x1 : Int) * 65536 = ((x1 * 65536 : Nat) : Int) := by omega
  have e2 : (x2 : Int) * 256 = ((x2 * 256 : Nat) : Int) := by omega
  rw [e0, e1, e2, u32_or_nat _ _ (by omega) (by omega), or_join _ _ 24 (by omega) (by omega), u32_or_nat _ _ (by omega) (by omega), or_join _ _ 16 (by omega) (by omega), u32_or_nat _ _ (by omega) (by omega), or_join _ _ 8 (by omega) (by omega)]
theorem wordAt_bytes (b : List UInt8) (k : Nat) (h : 4 * k + 4 ≤ b.length) : wordAt b k = (nats b).getD (4 * k) 0 * 16777216 + (nats b).getD (4 * k + 1) 0 * 65536 + (nats b).getD (4 * k + 2) 0 * 256 + (nats b).getD (4 * k + 3) 0 := by
  have hd : ((b.drop (4 * k)).take 4) = [b[4 * k], b[4 * k + 1], b[4 * k + 2], b[4 * k + 3]] := by
    apply List.ext_getElem
    · simp; omega
    · intro i h1 h2
      simp only [List.getElem_take, List.getElem_drop]
      match i, h2 with
      | 0, _ => rfl
      | 1, _ => rfl
      | 2, _ => rfl
      | 3, _ => rfl
  have hg : ∀ i (hi : i < b.length), (nats b).getD i 0 = b[i].toNat := fun i hi => by simp [nats, List.getElem?_eq_getElem hi]
  unfold wordAt
  rw [hd, hg _ (by omega), hg _ (by omega), hg _ (by omega), hg _ (by omega)]
  simp only [numL, List.foldl_cons, List.foldl_nil]
  omega
theorem words_set (b : List UInt8) (k : Nat) (hk : k < 64) : (wordsTo b k ++ List.replicate (64 - k) 0).set k (wordAt b k) = wordsTo b (k + 1) ++ List.replicate (64 - (k + 1)) 0 := by
  have hl := wordsTo_len b k
  rw [List.set_append_right _ _ (by omega), hl, Nat.sub_self, show 64 - k = (64 - (k + 1)) + 1 from by omega, List.replicate_succ, List.set_cons_zero, wordsTo]
  simp
theorem sched_set (b : List UInt8) (n : Nat) (hn : n < 48) : (schedTo b n ++ List.replicate (48 - n) 0).set (n + 16) (nextW (schedTo b n) (n + 16)) = schedTo b (n + 1) ++ List.replicate (48 - (n + 1)) 0 := by
  have hl := schedTo_len b n
  rw [List.set_append_right _ _ (by omega), hl, Nat.sub_self, show 48 - n = (48 - (n + 1)) + 1 from by omega, List.replicate_succ, List.set_cons_zero, schedTo]
  simp
end Go.Proofs.Ytjnhlkaafnaooaa
