import Derived.Test.YtjnhlkaafnaooaaSealW
import Derived.Test.YtjnhlkaafnaooaaKeyW2
import Derived.Test.YtjnhlkaafnaooaaGcmW
namespace Go.Proofs.Ytjnhlkaafnaooaa
open Go.RowKit
set_option maxRecDepth 100000 in
set_option maxHeartbeats 400000 in
theorem pick_any (c : Int) (n : Nat) (w : World) (hc1 : -9223372036854775808 ≤ c) (hc2 : c ≤ 9223372036854775807) (hn0 : 0 < n) (hn : n ≤ 1000000) :
    Calls Try.prog 10 #[.int .i64 c, .int .i64 (n : Int)] w fun e w' => ∃ k : Nat, e = .returned (.int .i64 (k : Int)) ∧ k < n ∧ w' = w := by
  have hni : (0 : Int) < (n : Int) := by omega
  have hni2 : (n : Int) ≤ 1000000 := by omega
  by_cases h : c < 0
  · go_enter Try.func10, Try.ntmps10
    go_wp2_with fail
    have hk : (-(c + 1)) % (n : Int) < (n : Int) := Int.emod_lt_of_pos _ hni
    have hk0 : 0 ≤ (-(c + 1)) % (n : Int) := Int.emod_nonneg _ (by omega)
    have e : -((c + 1).tmod (n : Int)) = (((-(c + 1)) % (n : Int)).toNat : Int) := by
      rw [← Int.neg_tmod, Int.tmod_eq_emod_of_nonneg (by omega), Int.toNat_of_nonneg hk0]
    go_ret
    exact ⟨((-(c + 1)) % (n : Int)).toNat, ret_int e, by omega, rfl⟩
  · go_enter Try.func10, Try.ntmps10
    go_wp2_with fail
    have hk : c % (n : Int) < (n : Int) := Int.emod_lt_of_pos _ hni
    have hk0 : 0 ≤ c % (n : Int) := Int.emod_nonneg _ (by omega)
    go_ret
    exact ⟨(c % (n : Int)).toNat, ret_int (by rw [Int.toNat_of_nonneg hk0]), by omega, rfl⟩
theorem made_vals (n : Nat) : madeCells #[.int .u8 0] n = (vals .u8 (List.replicate n 0)).toArray := by
  apply Array.ext
  · simp [madeCells, vals]
  · intro i h1 h2
    simp [madeCells, vals, Nat.mod_one]
set_option maxRecDepth 100000 in
set_option maxHeartbeats 400000 in
theorem filled_any (t : List UInt8) (n : Nat) (w : World) (hn : n ≤ 1000) :
    Calls Try.prog 7 #[.string ⟨t.toArray⟩, .int .i64 (n : Int)] w fun e w' => e = .returned (.string ⟨(fillL t n).toArray⟩) ∧ Below w.heap.size w w' := by
  have hmk := make_u8 n hn
  have hni : (n : Int) ≤ 1000 := by omega
  have hcp : ∀ sT ty, (Builtin.copy_ #[34, sT] ty #[.slice (some ⟨w.heap.size, 0, none⟩) n n, .string ⟨t.toArray⟩]).run Try.prog (w.alloc (.cells (madeCells #[.int .u8 0] n) 5)) = .ok (goInt (t.take n).length) (w.alloc (.cells (bvals (fillL t n)).toArray 5)) := fun sT ty => by
    rw [made_vals]; exact copy_new t n w sT ty 5
  have hFl := fillL_len t n
  generalize fillL t n = F at *
  have hrow : Row (w.alloc (.cells (bvals F).toArray 5)) w.heap.size 5 .u8 (nats F) := Row.new w _ _ _ _ (by simp [bvals, nats]) (fun i hi => by rw [← vals_nats]; exact vals_get .u8 _ i hi)
  have hcv := conv_row (cap := n) hrow
  rw [nats_len, hFl, map_ofNat_nats] at hcv
  clear hrow hFl hn
  go_enter Try.func7, Try.ntmps7
  go_wp2_with fail
  go_ret
  exact ⟨rfl, (Below.refl _ _).alloc (Nat.le_refl _) _⟩
end Go.Proofs.Ytjnhlkaafnaooaa
