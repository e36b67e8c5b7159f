import Derived.Test.YthckkfgmeidgbaaDoorBase
import Derived.Test.YthckkfgmeidgbaaDoorWords
namespace Go.Proofs.YthckkfgmeidgbaaDoor
open Go.RowKit
set_option maxHeartbeats 400000 in
theorem right_any (x : Nat) (n : Int) (w : World) (hx2 : x < 4294967296) (hn : 1 ≤ n) (hn2 : n ≤ 31) :
    Calls Tryd.prog 39 #[.int .i64 x, .int .i64 n] w fun e w' => e = .returned (.int .i64 (rotr x n.toNat : Nat)) ∧ ∃ n, w' = w.drewN n := by
  have hx : (x : Int) < 4294967296 := by omega
  go_enter Tryd.func39, Tryd.ntmps39
  go_wp2
  go_quiet (fail)
  go_wp2
  go_ret
  exact ⟨ret_int (right_int x n hx2 hn hn2), _, rfl⟩

theorem xor3_int (a b c : Nat) (ha : a < 4294967296) (hb : b < 4294967296) (hc : c < 4294967296) : bits .xor .i64 (bits .xor .i64 (a : Int) (b : Int)) (c : Int) = ((a ^^^ b ^^^ c : Nat) : Int) := by
  have h1 : a ^^^ b < 4294967296 := Nat.xor_lt_two_pow (n := 32) ha hb
  rw [i64_xor_nat a b (by omega) (by omega), i64_xor_nat _ c (by omega) (by omega)]

set_option maxHeartbeats 400000 in
theorem turns3_any (x : Nat) (a b c : Int) (w : World) (hx2 : x < 4294967296) (ha : 1 ≤ a) (ha2 : a ≤ 31) (hb : 1 ≤ b) (hb2 : b ≤ 31) (hc : 1 ≤ c) (hc2 : c ≤ 31) :
    Calls Tryd.prog 38 #[.int .i64 x, .int .i64 a, .int .i64 b, .int .i64 c] w fun e w' => e = .returned (.int .i64 (rotr x a.toNat ^^^ rotr x b.toNat ^^^ rotr x c.toNat : Nat)) ∧ ∃ n, w' = w.drewN n := by
  have r1 := rotr_lt x a.toNat hx2 (by omega) (by omega)
  have r2 := rotr_lt x b.toNat hx2 (by omega) (by omega)
  have r3 := rotr_lt x c.toNat hx2 (by omega) (by omega)
  have hx3 := hide (xor3_int _ _ _ r1 r2 r3)
  clear r1 r2 r3
  go_enter Tryd.func38, Tryd.ntmps38
  go_wp2_with fail
  refine (right_any x a _ hx2 ha ha2).mono ?_
  rintro e w' ⟨rfl, q1, rfl⟩
  go_wp2_with fail
  refine (right_any x b _ hx2 hb hb2).mono ?_
  rintro e w' ⟨rfl, q2, rfl⟩
  go_wp2_with fail
  refine (right_any x c _ hx2 hc hc2).mono ?_
  rintro e w' ⟨rfl, q3, rfl⟩
  go_wp2_with fail
  go_ret
  exact ⟨ret_int hx3.out, _, rfl⟩

set_option maxHeartbeats 400000 in
theorem turns2_any (x : Nat) (a b : Int) (w : World) (hx2 : x < 4294967296) (ha : 1 ≤ a) (ha2 : a ≤ 31) (hb : 1 ≤ b) (hb2 : b ≤ 31) :
    Calls Tryd.prog 38 #[.int .i64 x, .int .i64 a, .int .i64 b, .int .i64 (-1)] w fun e w' => e = .returned (.int .i64 (rotr x a.toNat ^^^ rotr x b.toNat : Nat)) ∧ ∃ n, w' = w.drewN n := by
  have r1 := rotr_lt x a.toNat hx2 (by omega) (by omega)
  have r2 := rotr_lt x b.toNat hx2 (by omega) (by omega)
  have hx3 := hide (i64_xor_nat _ _ (by omega : rotr x a.toNat < 9223372036854775808) (by omega : rotr x b.toNat < 9223372036854775808))
  clear r1 r2
  go_enter Tryd.func38, Tryd.ntmps38
  go_wp2_with fail
  refine (right_any x a _ hx2 ha ha2).mono ?_
  rintro e w' ⟨rfl, q1, rfl⟩
  go_wp2_with fail
  refine (right_any x b _ hx2 hb hb2).mono ?_
  rintro e w' ⟨rfl, q2, rfl⟩
  go_wp2_with fail
  go_ret
  exact ⟨ret_int hx3.out, _, rfl⟩

theorem getElem_byte (s : ByteArray) (k : Nat) (h : k < s.size) : s.data.toList[k]'(by simpa using h) = s[k] := rfl

set_option maxRecDepth 100000 in
set_option maxHeartbeats 400000 in
theorem number_any (s : ByteArray) (w : World) (hs : s.size ≤ 4) :
    Calls Tryd.prog 37 #[.string s] w fun e w' => e = .returned (.int .i64 (numL s.data.toList : Nat)) ∧ w' = w := by
  go_enter Tryd.func37, Tryd.ntmps37
  go_wp2
  go_loop [3, 4] (fun v i => ∃ k : Nat, k ≤ s.size ∧ i = .int .i64 (k : Int) ∧ v = .int .i64 ((numL (s.data.toList.take k) : Nat) : Int)) (fun _ i => s.size - (intOf i).toNat)
  case atStart => exact ⟨0, by omega, rfl, rfl⟩
  case round =>
    obtain ⟨k, hk, rfl, rfl⟩ := hrel
    by_cases hlt : k < s.size
    · have hl := numL_lt (s.data.toList.take k)
      have hlen : (s.data.toList.take k).length ≤ 4 := by rw [List.length_take]; omega
      have hp : 256 ^ (s.data.toList.take k).length ≤ 256 ^ 4 := Nat.pow_le_pow_right (by decide) hlen
      have hsn : numL (s.data.toList.take (k + 1)) = numL (s.data.toList.take k) * 256 + s[k].toNat := by
        rw [List.take_succ_eq_append_getElem (by simpa using hlt), numL_snoc]; rfl
      have hvi : ((numL (s.data.toList.take k) : Nat) : Int) < 4294967296 := by omega
      have HS := hide hsn
      clear hsn hp hlen hl
      generalize numL (s.data.toList.take k) = V at *
      go_wp2
      go_round
      case rel => exact ⟨k + 1, by omega, by go_num, val_int (by rw [HS.out]; have := s[k].toNat_lt; unfold wrap64; omega)⟩
      case measure => simp [intOf]; omega
    · go_wp2
      go_ret
      exact ⟨ret_int (by rw [List.take_of_length_le (by simp; omega)]), rfl⟩

set_option maxRecDepth 100000 in
set_option maxHeartbeats 400000 in
theorem ones_any : ∀ (n : Nat) (v : Nat) (w : World), n ≤ 8 → v < 1099511627776 →
    Calls Tryd.prog 23 #[.int .i64 (v : Int), .int .i64 (n : Int)] w fun e w' => e = .returned (.string ⟨(onesL v n).toArray⟩) ∧ Below w.heap.size w w' := by
  intro n
  induction n with
  | zero =>
    intro v w hn hv
    have hvi : (v : Int) < 1099511627776 := by omega
    clear hv hn
    go_enter Tryd.func23, Tryd.ntmps23
    go_wp2
    go_ret
    exact ⟨rfl, Below.refl _ _⟩
  | succ n ih =>
    intro v w hn hv
    have hvi : (v : Int) < 1099511627776 := by omega
    have IH := hide (ih (v / 256))
    have HV := hide hv
    have eL := hide (show onesL v (n + 1) = onesL (v / 256) n ++ [UInt8.ofNat (v % 256)] from rfl)
    obtain ⟨N, hN⟩ : ∃ N, n + 1 = N := ⟨_, rfl⟩
    rw [hN] at eL ⊢
    have ht : ((N : Int) == 0) = false := by rw [beq_eq_false_iff_ne]; omega
    have h1 : 1 ≤ N := by omega
    have h8 : N ≤ 8 := by omega
    have HN := hide hN
    clear ih hv hn hN
    go_enter Tryd.func23, Tryd.ntmps23
    go_wp2_with fail
    have e1 : (v : Int) / 256 = ((v / 256 : Nat) : Int) := by simp
    have e2 : (N : Int) - 1 = (n : Int) := by have := HN.out; omega
    rw [e1, e2]
    refine (IH.out _ (by have := HN.out; omega) (by have := HV.out; omega)).mono ?_
    rintro e w1 ⟨rfl, hb1⟩
    have hn8 : n ≤ 8 := by have := HN.out; omega
    clear e1 e2 ht IH HN hvi
    have hrw : Row (w1.alloc (.cells #[.int .u8 ((v : Int) % 256)] 5)) w1.heap.size 5 .u8 [v % 256] := Row.new w1 _ _ [v % 256] _ rfl (fun i hi => by
      match i, hi with
      | 0, _ => simp)
    have hcv := conv_row (cap := 1) hrw
    have hadd := fun w => add_str (onesL (v / 256) n) [UInt8.ofNat (v % 256)] (by rw [onesL_len]; simp; omega) w
    simp only [List.map_cons, List.map_nil, List.length_cons, List.length_nil, Nat.zero_add] at hcv
    clear hrw
    go_wp2_with fail
    go_ret
    exact ⟨by rw [eL.out]; rfl, hb1.alloc hb1.size _⟩
end Go.Proofs.YthckkfgmeidgbaaDoor
