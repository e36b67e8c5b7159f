import Derived.Test.YtjnhlkaafnaooabGreatDoorRmA
import Derived.Test.YtjnhlkaafnaooabGreatDoorAes2
namespace Go.Proofs.YtjnhlkaafnaooabGreatDoor
open Go.RowKit
theorem dbl_hi : ∀ x : Fin 256, 128 ≤ x.val → dbl x.val = (x.val * 2 % 256) ^^^ 27 := by decide +kernel
theorem dbl_low (x : Nat) (h : ¬ 128 ≤ x) : dbl x = x * 2 := by unfold dbl; rw [if_neg (by omega)]; omega
set_option maxHeartbeats 400000 in
theorem double_any (x : Nat) (w : World) (hx2 : x < 256) :
    Calls Tryz.prog 121 #[.int .u8 (x : Int)] w fun e w' => e = .returned (.int .u8 ((dbl x : Nat) : Int)) ∧ w' = w := by
  have hx : (x : Int) < 256 := by omega
  by_cases h : 128 ≤ x
  · have hi : (128 : Int) ≤ (x : Int) := by omega
    have e : bits .xor .u8 ((x : Int) * 2 % 256) 27 = ((dbl x : Nat) : Int) := by
      have h1 : (x : Int) * 2 % 256 = ((x * 2 % 256 : Nat) : Int) := by omega
      have h2 := u8_xor_nat (x * 2 % 256) 27 (by omega) (by decide)
      rw [h1]
      exact h2.trans (by rw [← dbl_hi ⟨x, hx2⟩ h])
    go_enter Tryz.func121, Tryz.ntmps121
    go_wp2
    go_ret
    exact ⟨ret_int rfl, rfl⟩
  · have hi : ¬ (128 : Int) ≤ (x : Int) := by omega
    have e := dbl_low x h
    go_enter Tryz.func121, Tryz.ntmps121
    go_wp2
    go_ret
    exact ⟨ret_int (by omega), rfl⟩
theorem rotB_int (x : Nat) (n : Int) (hx : x < 256) (hn : 1 ≤ n) (hn2 : n ≤ 7) : bits .or .u8 ((x : Int) * 2 ^ n.toNat % 256) ((x : Int) / 2 ^ (8 - n).toNat) = ((rotB x n.toNat : Nat) : Int) := by
  have e1 : (x : Int) / 2 ^ (8 - n.toNat) = ((x / 2 ^ (8 - n.toNat) : Nat) : Int) := by simp
  have e2 : (8 - n).toNat = 8 - n.toNat := by omega
  have e3 : (x : Int) * 2 ^ n.toNat % 256 = ((x * 2 ^ n.toNat % 256 : Nat) : Int) := by simp
  rw [e2, e1, e3, u8_or_nat _ _ (Nat.mod_lt _ (by decide)) (Nat.lt_of_le_of_lt (Nat.div_le_self _ _) hx)]
  rfl
set_option maxHeartbeats 400000 in
theorem turnLeft_any (x : Nat) (n : Int) (w : World) (hx2 : x < 256) (hn : 1 ≤ n) (hn2 : n ≤ 7) :
    Calls Tryz.prog 123 #[.int .u8 (x : Int), .int .u32 n] w fun e w' => e = .returned (.int .u8 ((rotB x n.toNat : Nat) : Int)) ∧ w' = w := by
  have hx : (x : Int) < 256 := by omega
  go_enter Tryz.func123, Tryz.ntmps123
  go_wp2
  go_ret
  exact ⟨ret_int (rotB_int x n hx2 hn hn2), rfl⟩
theorem turnLeft1 (x : Nat) (w : World) (hx : x < 256) : Calls Tryz.prog 123 #[.int .u8 (x : Int), .int .u32 1] w fun e w' => e = .returned (.int .u8 ((rotB x 1 : Nat) : Int)) ∧ w' = w := turnLeft_any x 1 w hx (by decide) (by decide)
theorem turnLeft2 (x : Nat) (w : World) (hx : x < 256) : Calls Tryz.prog 123 #[.int .u8 (x : Int), .int .u32 2] w fun e w' => e = .returned (.int .u8 ((rotB x 2 : Nat) : Int)) ∧ w' = w := turnLeft_any x 2 w hx (by decide) (by decide)
theorem turnLeft3 (x : Nat) (w : World) (hx : x < 256) : Calls Tryz.prog 123 #[.int .u8 (x : Int), .int .u32 3] w fun e w' => e = .returned (.int .u8 ((rotB x 3 : Nat) : Int)) ∧ w' = w := turnLeft_any x 3 w hx (by decide) (by decide)
theorem turnLeft4 (x : Nat) (w : World) (hx : x < 256) : Calls Tryz.prog 123 #[.int .u8 (x : Int), .int .u32 4] w fun e w' => e = .returned (.int .u8 ((rotB x 4 : Nat) : Int)) ∧ w' = w := turnLeft_any x 4 w hx (by decide) (by decide)
theorem shl_xor (x c : Nat) (hx : x < 256) : bits .xor .u8 (x : Int) ((x : Int) * (c : Int) % 256) = ((x ^^^ c * x % 256 : Nat) : Int) := by
  have h1 : (x : Int) * (c : Int) % 256 = ((c * x % 256 : Nat) : Int) := by rw [Int.mul_comm]; simp
  rw [h1, u8_xor_nat _ _ hx (Nat.mod_lt _ (by decide))]
set_option maxHeartbeats 400000 in
theorem third_any (x : Nat) (w : World) (hx2 : x < 256) :
    Calls Tryz.prog 122 #[.int .u8 (x : Int)] w fun e w' => e = .returned (.int .u8 ((thirdN x : Nat) : Int)) ∧ w' = w := by
  have hx : (x : Int) < 256 := by omega
  have e1 : bits .xor .u8 (x : Int) ((x : Int) * 2 % 256) = ((thirdA x : Nat) : Int) := shl_xor x 2 hx2
  have la : thirdA x < 256 := xor8 hx2 (Nat.mod_lt _ (by decide))
  have hN : thirdN x = thirdD (thirdC (thirdB (thirdA x))) := rfl
  rw [hN]
  clear hN
  generalize thirdA x = a at *
  have e2 : bits .xor .u8 (a : Int) ((a : Int) * 4 % 256) = ((thirdB a : Nat) : Int) := shl_xor a 4 la
  have lb : thirdB a < 256 := xor8 la (Nat.mod_lt _ (by decide))
  generalize thirdB a = b at *
  have e3 : bits .xor .u8 (b : Int) ((b : Int) * 16 % 256) = ((thirdC b : Nat) : Int) := shl_xor b 16 lb
  have lc : thirdC b < 256 := xor8 lb (Nat.mod_lt _ (by decide))
  generalize thirdC b = c at *
  have la' : (a : Int) < 256 := by omega
  have lb' : (b : Int) < 256 := by omega
  have lc' : (c : Int) < 256 := by omega
  have e4 := u8_xor_nat c 9 lc (by decide)
  have HC : thirdD c = if 128 ≤ c then c ^^^ 9 else c := rfl
  clear la lb
  by_cases h : 128 ≤ c
  · have hi : (128 : Int) ≤ (c : Int) := by omega
    rw [if_pos h] at HC
    rw [HC]
    have e5 : bits .xor .u8 (c : Int) 9 = ((c ^^^ 9 : Nat) : Int) := e4
    clear HC e4 h lc
    go_enter Tryz.func122, Tryz.ntmps122
    go_wp2
    go_ret
    exact ⟨ret_int rfl, rfl⟩
  · have hi : ¬ (128 : Int) ≤ (c : Int) := by omega
    rw [if_neg h] at HC
    rw [HC]
    clear HC e4 h lc
    go_enter Tryz.func122, Tryz.ntmps122
    go_wp2
    go_ret
    exact ⟨ret_int rfl, rfl⟩
end Go.Proofs.YtjnhlkaafnaooabGreatDoor
