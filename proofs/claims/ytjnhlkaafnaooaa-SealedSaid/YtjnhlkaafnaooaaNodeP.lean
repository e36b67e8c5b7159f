import Derived.Test.YtjnhlkaafnaooaaVaultP
namespace Go.Proofs.Ytjnhlkaafnaooaa
open Go.RowKit
def leafOne (k s : List UInt8) : List UInt8 := nodeT true [⟨k, s, 0, []⟩]
theorem ones1 (n : Nat) : onesL n 1 = [UInt8.ofNat n] := by
  show [UInt8.ofNat (n % 256)] = _
  congr 1
  apply UInt8.toNat_inj.1
  simp
theorem leafOne_form (k s : List UInt8) (h : k.length + s.length ≤ 224) : leafOne k s = 1 :: 1 :: UInt8.ofNat k.length :: (k ++ (UInt8.ofNat s.length :: (s ++ List.replicate (224 - k.length - s.length) 0))) := by
  unfold leafOne nodeT
  simp only [List.flatMap_cons, List.flatMap_nil, List.append_nil, entT, ones1, if_true, List.length_cons, List.length_nil]
  rw [fillL_grow _ _ (by simp; omega)]
  have e : 228 - ([UInt8.ofNat 1] ++ [UInt8.ofNat (0 + 1)] ++ ([UInt8.ofNat k.length] ++ k ++ ([UInt8.ofNat s.length] ++ s))).length = 224 - k.length - s.length := by simp; omega
  rw [e]
  simp
theorem leafOne_len (k s : List UInt8) : (leafOne k s).length = 228 := nodeT_len _ _
theorem leafOne_0 (k s : List UInt8) (h : k.length + s.length ≤ 224) : (leafOne k s).getD 0 0 = 1 := by rw [leafOne_form k s h]; rfl
theorem leafOne_1 (k s : List UInt8) (h : k.length + s.length ≤ 224) : (leafOne k s).getD 1 0 = 1 := by rw [leafOne_form k s h]; rfl
theorem leafOne_2 (k s : List UInt8) (h : k.length + s.length ≤ 224) : ((leafOne k s).getD 2 0).toNat = k.length := by
  rw [leafOne_form k s h]
  show (UInt8.ofNat k.length).toNat = _
  simp; omega
theorem leafOne_k (k s : List UInt8) (h : k.length + s.length ≤ 224) : ((leafOne k s).drop 3).take k.length = k := by
  rw [leafOne_form k s h]
  simp
theorem leafOne_drop (k s : List UInt8) (h : k.length + s.length ≤ 224) : (leafOne k s).drop (3 + k.length) = UInt8.ofNat s.length :: (s ++ List.replicate (224 - k.length - s.length) 0) := by
  rw [leafOne_form k s h, Nat.add_comm 3]
  simp
theorem getD_drop (l : List UInt8) (n i : Nat) : l.getD (n + i) 0 = (l.drop n).getD i 0 := by simp
theorem leafOne_s (k s : List UInt8) (h : k.length + s.length ≤ 224) : ((leafOne k s).getD (3 + k.length) 0).toNat = s.length := by
  have := getD_drop (leafOne k s) (3 + k.length) 0
  rw [Nat.add_zero] at this
  rw [this, leafOne_drop k s h]
  show (UInt8.ofNat s.length).toNat = _
  simp; omega
theorem leafOne_v (k s : List UInt8) (h : k.length + s.length ≤ 224) : ((leafOne k s).drop (3 + k.length + 1)).take s.length = s := by
  rw [← List.drop_drop, leafOne_drop k s h]
  simp
theorem leafOne_z (k s : List UInt8) (h : k.length + s.length ≤ 224) (i : Nat) (hi : 3 + k.length + 1 + s.length ≤ i) : (leafOne k s).getD i 0 = 0 := by
  obtain ⟨j, rfl⟩ : ∃ j, i = (3 + k.length) + (1 + s.length + j) := ⟨i - (4 + k.length + s.length), by omega⟩
  rw [getD_drop, leafOne_drop k s h, Nat.add_assoc, Nat.add_comm 1, List.getD_cons_succ, getD_drop, List.drop_left]
  simp only [List.getD_eq_getElem?_getD, List.getElem?_replicate]
  split <;> rfl
end Go.Proofs.Ytjnhlkaafnaooaa
