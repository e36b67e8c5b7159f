import Derived.Test.YtjnhlkaafnaooaaDoorShaW
import Derived.Test.YtjnhlkaafnaooaaDoorWriteW
import Derived.Test.YtjnhlkaafnaooaaDoorMacP
import Derived.Laws.BitsAllLaws
namespace Go.Proofs.YtjnhlkaafnaooaaDoor
open Go.RowKit
set_option maxRecDepth 100000 in
set_option maxHeartbeats 1000000 in
theorem again_any (c : UInt8) (n : Nat) (w : World) (hn : n ≤ 1000) :
    Calls Tryd.prog 29 #[.int .u8 (c.toNat : Int), .int .i64 (n : Int)] w fun e w' => e = .returned (.string ⟨(List.replicate n c).toArray⟩) ∧ Below w.heap.size w w' := by
  have hmk := make_u8 n hn
  have hni : (n : Int) ≤ 1000 := by omega
  clear hn
  go_enter Tryd.func29, Tryd.ntmps29
  go_wp2
  go_loopw [6] (fun i wr => ∃ k : Nat, k ≤ n ∧ i = .int .i64 (k : Int) ∧ Row wr w.heap.size 5 .u8 (List.replicate k c.toNat ++ List.replicate (n - k) 0) ∧ Below w.heap.size w wr) (fun i _ => n - (intOf i).toNat)
  case atStart => exact ⟨0, by omega, rfl, by simpa using Row.made w _ _ n, (Below.refl _ _).alloc (Nat.le_refl _) _⟩
  case round =>
    obtain ⟨k, hk, rfl, hrow, hbel⟩ := hrel
    by_cases hlt : k < n
    · have hki : (k : Int) < (n : Int) := by omega
      have hc := hrow.cell (i := k) (by simp; omega)
      have hf := hrow.frozen k
      have hset := hrow.set k c.toNat
      have e : (List.replicate k c.toNat ++ List.replicate (n - k) 0).set k c.toNat = List.replicate (k + 1) c.toNat ++ List.replicate (n - (k + 1)) 0 := by
        rw [List.set_append_right k _ (by simp), List.length_replicate, Nat.sub_self, show n - k = (n - (k + 1)) + 1 by omega, List.replicate_succ, List.set_cons_zero, List.replicate_succ', List.append_assoc]; rfl
      rw [e] at hset
      have hb2 : Below w.heap.size w (wr.setCell ⟨w.heap.size, k, none⟩ (.int .u8 (c.toNat : Int))) := hbel.setCell (Nat.le_refl _) _
      generalize (List.replicate k c.toNat ++ List.replicate (n - k) 0).getD k 0 = y at *
      have HS := hide (And.intro hset hb2)
      clear hset hb2 e hrow
      go_wp2
      go_roundw
      case rel => exact ⟨k + 1, by omega, by go_num, HS.out.1, HS.out.2⟩
      case measure => simp [intOf]; omega
    · have hkn : k = n := by omega
      subst hkn
      have hcv := conv_row (cap := k) hrow
      simp only [Nat.sub_self, List.replicate_zero, List.append_nil, List.length_replicate, List.map_replicate, UInt8.ofNat_toNat] at hcv
      clear hrow
      go_wp2
      go_ret
      exact ⟨rfl, hbel⟩

end Go.Proofs.YtjnhlkaafnaooaaDoor
