import Derived.Test.YtjnhlkaafnaooaaDoorNumW
namespace Go.Proofs.YtjnhlkaafnaooaaDoor
open Go.RowKit
set_option maxHeartbeats 400000 in
theorem right_any (x : Nat) (n : Int) (w : World) (hx2 : x < 4294967296) (hn : 1 ≤ n) (hn2 : n ≤ 31) :
    Calls Tryd.prog 39 #[.int .i64 x, .int .i64 n] w fun e w' => e = .returned (.int .i64 (rotr x n.toNat : Nat)) ∧ ∃ n, w' = w.drewN n := by
  have hx : (x : Int) < 4294967296 := by omega
  go_enter Tryd.func39, Tryd.ntmps39
  go_wp2
  go_quiet (fail)
  go_wp2
  go_ret
  exact ⟨ret_int (right_int x n hx2 hn hn2), _, rfl⟩

theorem xor3_int (a b c : Nat) (ha : a < 4294967296) (hb : b < 4294967296) (hc : c < 4294967296) : bits .xor .i64 (bits .xor .i64 (a : Int) (b : Int)) (c : Int) = ((a ^^^ b ^^^ c : Nat) : Int) := by
  have h1 : a ^^^ b < 4294967296 := Nat.xor_lt_two_pow (n := 32) ha hb
  rw [i64_xor_nat a b (by omega) (by omega), i64_xor_nat _ c (by omega) (by omega)]

set_option maxHeartbeats 400000 in
theorem turns3_any (x : Nat) (a b c : Int) (w : World) (hx2 : x < 4294967296) (ha : 1 ≤ a) (ha2 : a ≤ 31) (hb : 1 ≤ b) (hb2 : b ≤ 31) (hc : 1 ≤ c) (hc2 : c ≤ 31) :
    Calls Tryd.prog 38 #[.int .i64 x, .int .i64 a, .int .i64 b, .int .i64 c] w fun e w' => e = .returned (.int .i64 (rotr x a.toNat ^^^ rotr x b.toNat ^^^ rotr x c.toNat : Nat)) ∧ ∃ n, w' = w.drewN n := by
  have r1 := rotr_lt x a.toNat hx2 (by omega) (by omega)
  have r2 := rotr_lt x b.toNat hx2 (by omega) (by omega)
  have r3 := rotr_lt x c.toNat hx2 (by omega) (by omega)
  have hx3 := hide (xor3_int _ _ _ r1 r2 r3)
  clear r1 r2 r3
  go_enter Tryd.func38, Tryd.ntmps38
  go_wp2_with fail
  refine (right_any x a _ hx2 ha ha2).mono ?_
  rintro e w' ⟨rfl, q1, rfl⟩
  go_wp2_with fail
  refine (right_any x b _ hx2 hb hb2).mono ?_
  rintro e w' ⟨rfl, q2, rfl⟩
  go_wp2_with fail
  refine (right_any x c _ hx2 hc hc2).mono ?_
  rintro e w' ⟨rfl, q3, rfl⟩
  go_wp2_with fail
  go_ret
  exact ⟨ret_int hx3.out, _, rfl⟩

set_option maxHeartbeats 400000 in
theorem turns2_any (x : Nat) (a b : Int) (w : World) (hx2 : x < 4294967296) (ha : 1 ≤ a) (ha2 : a ≤ 31) (hb : 1 ≤ b) (hb2 : b ≤ 31) :
    Calls Tryd.prog 38 #[.int .i64 x, .int .i64 a, .int .i64 b, .int .i64 (-1)] w fun e w' => e = .returned (.int .i64 (rotr x a.toNat ^^^ rotr x b.toNat : Nat)) ∧ ∃ n, w' = w.drewN n := by
  have r1 := rotr_lt x a.toNat hx2 (by omega) (by omega)
  have r2 := rotr_lt x b.toNat hx2 (by omega) (by omega)
  have hx3 := hide (i64_xor_nat _ _ (by omega : rotr x a.toNat < 9223372036854775808) (by omega : rotr x b.toNat < 9223372036854775808))
  clear r1 r2
  go_enter Tryd.func38, Tryd.ntmps38
  go_wp2_with fail
  refine (right_any x a _ hx2 ha ha2).mono ?_
  rintro e w' ⟨rfl, q1, rfl⟩
  go_wp2_with fail
  refine (right_any x b _ hx2 hb hb2).mono ?_
  rintro e w' ⟨rfl, q2, rfl⟩
  go_wp2_with fail
  go_ret
  exact ⟨ret_int hx3.out, _, rfl⟩

end Go.Proofs.YtjnhlkaafnaooaaDoor
