import Derived.Test.YtjnhlkaafnaooaaRows
import Derived.Test.YtjnhlkaafnaooaaField
import Derived.WalkKit
import Derived.WalkSpells
import Derived.WalkLawsBesides
import Derived.BigQuiet
import Derived.Deep.QuietTactic
namespace Go.Proofs.Ytjnhlkaafnaooaa
open Go.RowKit
theorem ret_int {k : IntKind} {a b : Int} (h : a = b) : Ending.returned (.int k a) = .returned (.int k b) := by rw [h]
theorem val_int {k : IntKind} {a b : Int} (h : a = b) : Value.int k a = .int k b := by rw [h]

set_option maxHeartbeats 400000 in
set_option maxRecDepth 100000 in
theorem product_any (a b : Nat) (w : World) (ha : a < 256) (hb : b < 256) :
    Calls Try.prog 30 #[.int .i64 a, .int .i64 b] w fun e w' => e = .returned (.int .i64 (prodN a b : Nat)) ∧ w' = w := by
  go_enter Try.func30, Try.ntmps30
  go_wp2
  go_loop [5, 6] (fun v i => ∃ k : Nat, k ≤ 8 ∧ i = .int .i64 (7 - (k : Int)) ∧ v = .int .i64 (prodTo a b k : Nat)) (fun _ i => (intOf i + 1).toNat)
  case atStart => exact ⟨0, by omega, rfl, rfl⟩
  case round =>
    obtain ⟨k, hk, rfl, rfl⟩ := hrel
    have hv := prodTo_lt a b k ha
    by_cases hlt : k < 8
    · have hvi : ((prodTo a b k : Nat) : Int) < 256 := by omega
      go_wp2
      all_goals
        go_round
        case rel => exact ⟨k + 1, by omega, val_int (by omega), val_int (by
          show _ = ((prodStep a b (prodTo a b k) k : Nat) : Int)
          first
            | (have h1 : (256 : Int) ≤ 2 * ((prodTo a b k : Nat) : Int) := by assumption
               have h2 : (bits .and .i64 ((b : Int) / 2 ^ (7 - k)) 1 == 1) = true := by assumption
               exact prod_tt _ a b k hv ha hb h1 h2)
            | (have h1 : (256 : Int) ≤ 2 * ((prodTo a b k : Nat) : Int) := by assumption
               have h2 : (bits .and .i64 ((b : Int) / 2 ^ (7 - k)) 1 == 1) = false := by assumption
               exact prod_tf _ a b k hv hb h1 h2)
            | (have h1 : 2 * ((prodTo a b k : Nat) : Int) < 256 := by assumption
               have h2 : (bits .and .i64 ((b : Int) / 2 ^ (7 - k)) 1 == 1) = true := by assumption
               exact prod_ft _ a b k hv ha hb h1 h2)
            | (have h1 : 2 * ((prodTo a b k : Nat) : Int) < 256 := by assumption
               have h2 : (bits .and .i64 ((b : Int) / 2 ^ (7 - k)) 1 == 1) = false := by assumption
               exact prod_ff _ a b k hb h1 h2))⟩
        case measure => simp [intOf]; omega
    · have : k = 8 := by omega
      subst this
      go_wp2
      go_ret
      exact ⟨rfl, rfl⟩
set_option maxRecDepth 100000 in
set_option maxHeartbeats 400000 in
theorem inverse_any (a : Nat) (w : World) (ha : a < 256) :
    Calls Try.prog 14 #[.int .i64 a] w fun e w' => e = .returned (.int .i64 (invN a : Nat)) ∧ w' = w := by
  go_enter Try.func14, Try.ntmps14
  go_wp2
  go_loop [3] (fun i => ∃ b : Nat, 1 ≤ b ∧ b ≤ 256 ∧ i = .int .i64 (b : Nat) ∧ Hid (invN a = invFrom a (256 - b) b)) (fun i => (256 - intOf i).toNat)
  case atStart => exact ⟨1, by omega, by omega, rfl, rfl⟩
  case round =>
    obtain ⟨b, hb1, hb2, rfl, hh⟩ := hrel
    by_cases hlt : b < 256
    · have hp := prodN_lt a b ha
      have e1 : 256 - b = 256 - (b + 1) + 1 := by omega
      by_cases h : prodN a b = 1
      · have hN : Hid (invN a = b) := by rw [hh.out, e1, invFrom_hit _ _ _ h]; rfl
        clear e1 hh
        have hb : (((prodN a b : Nat) : Int) == 1) = true := by rw [h]; rfl
        clear h
        go_wp2_with (go_at_call 30; refine (product_any a b _ ha hlt).mono ?_; rintro e w' ⟨rfl, rfl⟩)
        go_ret
        exact ⟨ret_int (by rw [hN.out]), rfl⟩
      · have hN : Hid (invN a = invFrom a (256 - (b + 1)) (b + 1)) := by rw [hh.out, e1, invFrom_miss _ _ _ h]; rfl
        clear e1 hh
        have hb : (((prodN a b : Nat) : Int) == 1) = false := by rw [beq_eq_false_iff_ne]; omega
        clear h
        go_wp2_with (go_at_call 30; refine (product_any a b _ ha hlt).mono ?_; rintro e w' ⟨rfl, rfl⟩)
        go_round
        case rel => exact ⟨b + 1, by omega, by omega, by go_num, hN⟩
        case measure => simp [intOf]; omega
    · have : b = 256 := by omega
      subst this
      go_wp2
      go_ret
      exact ⟨ret_int (by rw [hh.out]; rfl), rfl⟩
theorem ret_bool {a b : Bool} (h : a = b) : Ending.returned (.bool a) = .returned (.bool b) := by rw [h]

set_option maxRecDepth 100000 in
set_option maxHeartbeats 400000 in
theorem prime_any (n : Nat) (w : World) (hn : n < 1000) :
    Calls Try.prog 12 #[.int .i64 n] w fun e w' => e = .returned (.bool (primeN n)) ∧ w' = w := by
  go_enter Try.func12, Try.ntmps12
  go_wp2
  go_loop [3] (fun i => ∃ d : Nat, 2 ≤ d ∧ d ≤ n + 2 ∧ i = .int .i64 (d : Nat) ∧ Hid (primeN n = primeFrom n (n + 2 - d) d)) (fun i => (n + 3 - intOf i).toNat)
  case atStart => exact ⟨2, by omega, by omega, rfl, rfl⟩
  case round =>
    obtain ⟨d, hd1, hd2, rfl, hh⟩ := hrel
    have hdd : (d : Int) * (d : Int) = ((d * d : Nat) : Int) := by simp
    have hub : d * d ≤ 1002 * 1002 := Nat.mul_le_mul (by omega) (by omega)
    generalize hdv : d * d = D at hdd hub
    by_cases hlt : n < D
    · have hN : Hid (primeN n = true) := by rw [hh.out, primeFrom_end _ _ _ (by rw [hdv]; exact hlt)]; rfl
      clear hh hdv
      have hD : ¬ ((D : Int) ≤ (n : Int)) := by omega
      go_wp2
      go_ret
      exact ⟨ret_bool (by rw [hN.out]), rfl⟩
    · have hdn : d ≤ n := Nat.le_trans (Nat.le_mul_self d) (by omega)
      have e1 : n + 2 - d = n + 2 - (d + 1) + 1 := by omega
      have hD : (D : Int) ≤ (n : Int) := by omega
      by_cases h : n % d = 0
      · have hN : Hid (primeN n = false) := by rw [hh.out, e1, primeFrom_no _ _ _ (by rw [hdv]; exact hlt) h]; rfl
        clear hh hdv e1
        have hm : ((n : Int) % (d : Int) == 0) = true := by rw [beq_iff_eq]; omega
        clear h
        go_wp2
        go_ret
        exact ⟨ret_bool (by rw [hN.out]), rfl⟩
      · have hN : Hid (primeN n = primeFrom n (n + 2 - (d + 1)) (d + 1)) := by rw [hh.out, e1, primeFrom_on _ _ _ (by rw [hdv]; exact hlt) h]; rfl
        clear hh hdv e1
        have hm : ((n : Int) % (d : Int) == 0) = false := by rw [beq_eq_false_iff_ne]; omega
        clear h
        go_wp2
        go_round
        case rel => exact ⟨d + 1, by omega, by omega, by go_num, hN⟩
        case measure => simp [intOf]; omega
end Go.Proofs.Ytjnhlkaafnaooaa
