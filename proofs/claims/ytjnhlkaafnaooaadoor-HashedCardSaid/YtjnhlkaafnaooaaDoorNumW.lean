import Derived.Test.YtjnhlkaafnaooaaDoorBase
import Derived.Test.YtjnhlkaafnaooaaDoorWords
namespace Go.Proofs.YtjnhlkaafnaooaaDoor
open Go.RowKit
theorem getElem_byte (s : ByteArray) (k : Nat) (h : k < s.size) : s.data.toList[k]'(by simpa using h) = s[k] := rfl
set_option maxRecDepth 100000 in
set_option maxHeartbeats 400000 in
theorem number_any (s : ByteArray) (w : World) (hs : s.size ≤ 4) :
    Calls Tryd.prog 37 #[.string s] w fun e w' => e = .returned (.int .i64 (numL s.data.toList : Nat)) ∧ w' = w := by
  go_enter Tryd.func37, Tryd.ntmps37
  go_wp2
  go_loop [3, 4] (fun v i => ∃ k : Nat, k ≤ s.size ∧ i = .int .i64 (k : Int) ∧ v = .int .i64 ((numL (s.data.toList.take k) : Nat) : Int)) (fun _ i => s.size - (intOf i).toNat)
  case atStart => exact ⟨0, by omega, rfl, rfl⟩
  case round =>
    obtain ⟨k, hk, rfl, rfl⟩ := hrel
    by_cases hlt : k < s.size
    · have hl := numL_lt (s.data.toList.take k)
      have hlen : (s.data.toList.take k).length ≤ 4 := by rw [List.length_take]; omega
      have hp : 256 ^ (s.data.toList.take k).length ≤ 256 ^ 4 := Nat.pow_le_pow_right (by decide) hlen
      have hsn : numL (s.data.toList.take (k + 1)) = numL (s.data.toList.take k) * 256 + s[k].toNat := by
        rw [List.take_succ_eq_append_getElem (by simpa using hlt), numL_snoc]; rfl
      have hvi : ((numL (s.data.toList.take k) : Nat) : Int) < 4294967296 := by omega
      have HS := hide hsn
      clear hsn hp hlen hl
      generalize numL (s.data.toList.take k) = V at *
      go_wp2
      go_round
      case rel => exact ⟨k + 1, by omega, by go_num, val_int (by rw [HS.out]; have := s[k].toNat_lt; unfold wrap64; omega)⟩
      case measure => simp [intOf]; omega
    · go_wp2
      go_ret
      exact ⟨ret_int (by rw [List.take_of_length_le (by simp; omega)]), rfl⟩

set_option maxRecDepth 100000 in
set_option maxHeartbeats 400000 in
theorem ones_any : ∀ (n : Nat) (v : Nat) (w : World), n ≤ 8 → v < 1099511627776 →
    Calls Tryd.prog 23 #[.int .i64 (v : Int), .int .i64 (n : Int)] w fun e w' => e = .returned (.string ⟨(onesL v n).toArray⟩) ∧ Below w.heap.size w w' := by
  intro n
  induction n with
  | zero =>
    intro v w hn hv
    have hvi : (v : Int) < 1099511627776 := by omega
    clear hv hn
    go_enter Tryd.func23, Tryd.ntmps23
    go_wp2
    go_ret
    exact ⟨rfl, Below.refl _ _⟩
  | succ n ih =>
    intro v w hn hv
    have hvi : (v : Int) < 1099511627776 := by omega
    have IH := hide (ih (v / 256))
    have HV := hide hv
    have eL := hide (show onesL v (n + 1) = onesL (v / 256) n ++ [UInt8.ofNat (v % 256)] from rfl)
    obtain ⟨N, hN⟩ : ∃ N, n + 1 = N := ⟨_, rfl⟩
    rw [hN] at eL ⊢
    have ht : ((N : Int) == 0) = false := by rw [beq_eq_false_iff_ne]; omega
    have h1 : 1 ≤ N := by omega
    have h8 : N ≤ 8 := by omega
    have HN := hide hN
    clear ih hv hn hN
    go_enter Tryd.func23, Tryd.ntmps23
    go_wp2_with fail
    have e1 : (v : Int) / 256 = ((v / 256 : Nat) : Int) := by simp
    have e2 : (N : Int) - 1 = (n : Int) := by have := HN.out; omega
    rw [e1, e2]
    refine (IH.out _ (by have := HN.out; omega) (by have := HV.out; omega)).mono ?_
    rintro e w1 ⟨rfl, hb1⟩
    have hn8 : n ≤ 8 := by have := HN.out; omega
    clear e1 e2 ht IH HN hvi
    have hrw : Row (w1.alloc (.cells #[.int .u8 ((v : Int) % 256)] 5)) w1.heap.size 5 .u8 [v % 256] := Row.new w1 _ _ [v % 256] _ rfl (fun i hi => by
      match i, hi with
      | 0, _ => simp)
    have hcv := conv_row (cap := 1) hrw
    have hadd := fun w => add_str (onesL (v / 256) n) [UInt8.ofNat (v % 256)] (by rw [onesL_len]; simp; omega) w
    simp only [List.map_cons, List.map_nil, List.length_cons, List.length_nil, Nat.zero_add] at hcv
    clear hrw
    go_wp2_with fail
    go_ret
    exact ⟨by rw [eL.out]; rfl, hb1.alloc hb1.size _⟩
end Go.Proofs.YtjnhlkaafnaooaaDoor
