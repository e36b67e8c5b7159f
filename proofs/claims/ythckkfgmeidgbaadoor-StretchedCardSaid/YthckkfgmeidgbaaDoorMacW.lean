import Derived.Test.YthckkfgmeidgbaaDoorShaW
import Derived.Test.YthckkfgmeidgbaaDoorWriteW
import Derived.Test.YthckkfgmeidgbaaDoorMacP
import Derived.Laws.BitsAllLaws
namespace Go.Proofs.YthckkfgmeidgbaaDoor
open Go.RowKit
theorem map_toNat_ofNat (l : List UInt8) : (l.map UInt8.toNat).map UInt8.ofNat = l := by simp [Function.comp_def]

theorem make_u8 (n : Nat) (hn : n ≤ 1000) (w : World) : (Instr.makeSlice 52 (.int .i64 (n : Int)) (.int .i64 (n : Int))).run Tryd.prog w = .ok (.slice (some ⟨w.heap.size, 0, none⟩) n n) (w.alloc (.cells (madeCells #[.int .u8 0] n) 5)) :=
  run_make_row' (P := Tryd.prog) 52 5 (.int .u8 0) 1 Tryd.underlying52 info_u8 rfl .i64 .i64 n (by omega) (by omega) w

set_option maxRecDepth 100000 in
set_option maxHeartbeats 1000000 in
theorem noughts_any (n : Nat) (w : World) (hn : n ≤ 1000) :
    Calls Tryd.prog 28 #[.int .i64 (n : Int)] w fun e w' => e = .returned (.string ⟨(List.replicate n (0 : UInt8)).toArray⟩) ∧ Below w.heap.size w w' := by
  have hmk := make_u8 n hn
  have hcv := conv_row (cap := n) (Row.made w 5 .u8 n)
  rw [List.length_replicate, List.map_replicate] at hcv
  have hni : (n : Int) ≤ 1000 := by omega
  clear hn
  go_enter Tryd.func28, Tryd.ntmps28
  go_wp2
  go_ret
  exact ⟨rfl, (Below.refl _ _).alloc (Nat.le_refl _) _⟩

set_option maxRecDepth 100000 in
set_option maxHeartbeats 1000000 in
theorem again_any (c : UInt8) (n : Nat) (w : World) (hn : n ≤ 1000) :
    Calls Tryd.prog 29 #[.int .u8 (c.toNat : Int), .int .i64 (n : Int)] w fun e w' => e = .returned (.string ⟨(List.replicate n c).toArray⟩) ∧ Below w.heap.size w w' := by
  have hmk := make_u8 n hn
  have hni : (n : Int) ≤ 1000 := by omega
  clear hn
  go_enter Tryd.func29, Tryd.ntmps29
  go_wp2
  go_loopw [6] (fun i wr => ∃ k : Nat, k ≤ n ∧ i = .int .i64 (k : Int) ∧ Row wr w.heap.size 5 .u8 (List.replicate k c.toNat ++ List.replicate (n - k) 0) ∧ Below w.heap.size w wr) (fun i _ => n - (intOf i).toNat)
  case atStart => exact ⟨0, by omega, rfl, by simpa using Row.made w _ _ n, (Below.refl _ _).alloc (Nat.le_refl _) _⟩
  case round =>
    obtain ⟨k, hk, rfl, hrow, hbel⟩ := hrel
    by_cases hlt : k < n
    · have hki : (k : Int) < (n : Int) := by omega
      have hc := hrow.cell (i := k) (by simp; omega)
      have hf := hrow.frozen k
      have hset := hrow.set k c.toNat
      have e : (List.replicate k c.toNat ++ List.replicate (n - k) 0).set k c.toNat = List.replicate (k + 1) c.toNat ++ List.replicate (n - (k + 1)) 0 := by
        rw [List.set_append_right k _ (by simp), List.length_replicate, Nat.sub_self, show n - k = (n - (k + 1)) + 1 by omega, List.replicate_succ, List.set_cons_zero, List.replicate_succ', List.append_assoc]; rfl
      rw [e] at hset
      have hb2 : Below w.heap.size w (wr.setCell ⟨w.heap.size, k, none⟩ (.int .u8 (c.toNat : Int))) := hbel.setCell (Nat.le_refl _) _
      generalize (List.replicate k c.toNat ++ List.replicate (n - k) 0).getD k 0 = y at *
      have HS := hide (And.intro hset hb2)
      clear hset hb2 e hrow
      go_wp2
      go_roundw
      case rel => exact ⟨k + 1, by omega, by go_num, HS.out.1, HS.out.2⟩
      case measure => simp [intOf]; omega
    · have hkn : k = n := by omega
      subst hkn
      have hcv := conv_row (cap := k) hrow
      simp only [Nat.sub_self, List.replicate_zero, List.append_nil, List.length_replicate, List.map_replicate, UInt8.ofNat_toNat] at hcv
      clear hrow
      go_wp2
      go_ret
      exact ⟨rfl, hbel⟩

set_option maxRecDepth 100000 in
set_option maxHeartbeats 1000000 in
theorem mixed_any (a b : ByteArray) (w : World) (hn : a.size ≤ 1000) (hab : a.size = b.size) :
    Calls Tryd.prog 26 #[.string a, .string b] w fun e w' => e = .returned (.string ⟨(xorL a.data.toList b.data.toList).toArray⟩) ∧ Below w.heap.size w w' := by
  have hmk := make_u8 a.size hn
  have hni : (a.size : Int) ≤ 1000 := by omega
  have HAB := hide hab
  clear hn hab
  go_enter Tryd.func26, Tryd.ntmps26
  go_wp2
  go_loopw [6] (fun i wr => ∃ k : Nat, k ≤ a.size ∧ i = .int .i64 (k : Int) ∧ Row wr w.heap.size 5 .u8 ((xorL (a.data.toList.take k) (b.data.toList.take k)).map UInt8.toNat ++ List.replicate (a.size - k) 0) ∧ Below w.heap.size w wr) (fun i _ => a.size - (intOf i).toNat)
  case atStart => exact ⟨0, by omega, rfl, by simpa [xorL] using Row.made w _ _ a.size, (Below.refl _ _).alloc (Nat.le_refl _) _⟩
  case round =>
    obtain ⟨k, hk, rfl, hrow, hbel⟩ := hrel
    by_cases hlt : k < a.size
    · have hki : (k : Int) < (a.size : Int) := by omega
      have hltb : k < b.size := by have := HAB.out; omega
      have hl : ((xorL (a.data.toList.take k) (b.data.toList.take k)).map UInt8.toNat).length = k := by rw [List.length_map, xorL_len _ _ (by simp; have := HAB.out; omega)]; simp; omega
      have hc := hrow.cell (i := k) (by rw [List.length_append, hl]; simp; omega)
      have hf := hrow.frozen k
      have hset := hrow.set k (a[k].toNat ^^^ b[k].toNat)
      have e' : ((xorL (a.data.toList.take k) (b.data.toList.take k)).map UInt8.toNat ++ List.replicate (a.size - k) 0).set k (a[k].toNat ^^^ b[k].toNat) = (xorL (a.data.toList.take (k + 1)) (b.data.toList.take (k + 1))).map UInt8.toNat ++ List.replicate (a.size - (k + 1)) 0 :=
        xor_set a.data.toList b.data.toList k a.size (by simp) (by simp [HAB.out]) hlt
      rw [e'] at hset
      have hx := u8_xor_nat a[k].toNat b[k].toNat a[k].toNat_lt b[k].toNat_lt
      have hb2 : Below w.heap.size w (wr.setCell ⟨w.heap.size, k, none⟩ (.int .u8 ((a[k].toNat ^^^ b[k].toNat : Nat) : Int))) := hbel.setCell (Nat.le_refl _) _
      generalize ((xorL (a.data.toList.take k) (b.data.toList.take k)).map UInt8.toNat ++ List.replicate (a.size - k) 0).getD k 0 = y at *
      have HS := hide (And.intro hset hb2)
      clear hset hb2 e' hrow hl
      go_wp2_with fail
      go_region
      go_wp2_with fail
      go_roundw
      case rel => exact ⟨k + 1, by omega, by go_num, HS.out.1.drew, HS.out.2.drew⟩
      case measure => simp [intOf]; omega
    · have hkn : k = a.size := by omega
      subst hkn
      have hl : (xorL a.data.toList b.data.toList).length = a.size := by rw [xorL_len _ _ (by simpa using HAB.out)]; simp
      rw [List.take_of_length_le (by simp), List.take_of_length_le (by simp [HAB.out]), Nat.sub_self, List.replicate_zero, List.append_nil] at hrow
      have hcv := conv_row (cap := a.size) hrow
      rw [List.length_map, hl, map_toNat_ofNat] at hcv
      clear hrow hl
      go_wp2
      go_ret
      exact ⟨rfl, hbel⟩
end Go.Proofs.YthckkfgmeidgbaaDoor
