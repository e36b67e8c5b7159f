import Derived.Test.YtkhgkkkalanoiaaGreatDoorSumW
import Derived.Test.YtkhgkkkalanoiaaGreatDoorMacW
import Derived.Lib.BufferWrite
import Derived.Deep.WholeRow
namespace Go.Proofs.YtkhgkkkalanoiaaGreatDoor
open Go.RowKit
/-- A block, its first k bytes masked. -/
def maskTo (B : List UInt8) (c : UInt8) (k : Nat) : List UInt8 := (B.take k).map (fun x => x ^^^ c) ++ B.drop k
theorem maskTo_len (B : List UInt8) (c : UInt8) (k : Nat) : (maskTo B c k).length = B.length := by simp [maskTo]; omega
theorem maskTo_get (B : List UInt8) (c : UInt8) (k : Nat) (h : k < B.length) : (nats (maskTo B c k)).getD k 0 = B[k].toNat := by
  have hl : ((B.take k).map (fun x => x ^^^ c)).length = k := by simp; omega
  have e : (maskTo B c k)[k]? = some B[k] := by
    unfold maskTo
    rw [List.getElem?_append_right (by omega), hl, Nat.sub_self, List.getElem?_drop, Nat.add_zero, List.getElem?_eq_getElem h]
  simp [nats, e]
theorem maskTo_set (B : List UInt8) (c : UInt8) (k : Nat) (h : k < B.length) : (nats (maskTo B c k)).set k (B[k].toNat ^^^ c.toNat) = nats (maskTo B c (k + 1)) := by
  have hl : ((B.take k).map (fun x => x ^^^ c)).length = k := by simp; omega
  have e : (maskTo B c k).set k (B[k] ^^^ c) = maskTo B c (k + 1) := by
    unfold maskTo
    rw [List.set_append_right k _ (by omega), hl, Nat.sub_self, List.drop_eq_getElem_cons h, List.set_cons_zero, List.take_succ_eq_append_getElem h, List.map_append, List.append_assoc]
    rfl
  rw [← e]
  simp [nats, List.map_set]
theorem zip_rep (c : UInt8) : ∀ (B : List UInt8), B.map (fun x => x ^^^ c) = List.zipWith (fun x y => x ^^^ y) B (List.replicate B.length c)
  | [] => rfl
  | x :: B => by simp [List.replicate_succ, zip_rep c B]
theorem maskTo_all (B : List UInt8) (c : UInt8) (h : B.length = 64) : maskTo B c 64 = xorL B (List.replicate 64 c) := by
  unfold maskTo xorL
  rw [List.take_of_length_le (by omega), List.drop_eq_nil_of_le (by omega), List.append_nil, zip_rep, h]

theorem drop_noughts (m n : Nat) : (vals .u8 (List.replicate m 0)).drop n = vals .u8 (nats (List.replicate (m - n) 0)) := by simp [vals, nats]
theorem copy_block (K : List UInt8) (n : Nat) (hn : K.length = n) (h64 : n ≤ 64) (w : World) (sT ty t : TypeId) :
    (Builtin.copy_ #[83, sT] ty #[.slice (some ⟨w.heap.size, 0, none⟩) 64 64, .string ⟨K.toArray⟩]).run Tryz.prog (w.alloc (.cells (vals .u8 (List.replicate 64 0)).toArray t)) =
      .ok (goInt n) (w.alloc (.cells (vals .u8 (nats (K ++ List.replicate (64 - n) 0))).toArray t)) := by
  have hs : (ByteArray.mk K.toArray).size = n := by simpa [ByteArray.size] using hn
  have := Lib.run_copy_row_string (P := Tryz.prog) (w.alloc (.cells (vals .u8 (List.replicate 64 0)).toArray t)) 83 sT ty 5 w.heap.size 0 64 64 ⟨K.toArray⟩ (vals .u8 (List.replicate 64 0)).toArray t Tryz.underlying83 (by kernel_rfl) (heap_alloc_new w _) (by omega) (by rw [hs]; simp [vals]; omega)
  rw [this, hs, World.setRow_alloc_new]
  have e := drop_noughts 64 n
  have e2 : vals .u8 (nats (K ++ List.replicate (64 - n) 0)) = Lib.byteCells K ++ vals .u8 (nats (List.replicate (64 - n) 0)) := by
    simp [vals, nats, Lib.byteCells, Function.comp_def]
  rw [e2, ← e]
  simp only [Nat.zero_add, List.take_zero, List.nil_append]

set_option maxRecDepth 100000 in
set_option maxHeartbeats 1000000 in
theorem masked_any (K : List UInt8) (c : UInt8) (w : World) (hK : K.length ≤ 64) :
    Calls Tryz.prog 79 #[.string ⟨K.toArray⟩, .int .u8 (c.toNat : Int)] w fun e w' => e = .returned (.string ⟨(xorL (K ++ List.replicate (64 - K.length) 0) (List.replicate 64 c)).toArray⟩) ∧ Below w.heap.size w w' := by
  obtain ⟨n, hn⟩ : ∃ n, K.length = n := ⟨_, rfl⟩
  rw [hn] at hK ⊢
  have hcp := fun sT ty t => copy_block K n hn hK w sT ty t
  have hBl : (K ++ List.replicate (64 - n) 0).length = 64 := by simp [hn]; omega
  obtain ⟨B, hB⟩ : ∃ B, K ++ List.replicate (64 - n) 0 = B := ⟨_, rfl⟩
  rw [hB] at hcp hBl ⊢
  have hzv : ∀ w, (zeroValue 129).run Tryz.prog w = .ok (.agg (vals .u8 (List.replicate 64 0)).toArray) w := fun _ => by kernel_rfl
  obtain ⟨Z, hZ⟩ : ∃ x, (vals .u8 (List.replicate 64 0)).toArray = x := ⟨_, rfl⟩
  rw [hZ] at hzv hcp
  have hall := maskTo_all B c hBl
  rw [← hall]
  have HBL := hide hBl
  have hcl : (vals .u8 (nats B)).toArray.size = 64 := by simp [vals, nats, hBl]
  have hrow0 : Row (w.alloc (.cells (vals .u8 (nats B)).toArray 129)) w.heap.size 129 .u8 (nats (maskTo B c 0)) := by
    have e0 : maskTo B c 0 = B := by simp [maskTo]
    rw [e0]
    exact Row.new w _ _ _ _ (by simp [vals]) (fun i hi => vals_get _ _ i hi)
  obtain ⟨C, hC⟩ : ∃ C, (vals .u8 (nats B)).toArray = C := ⟨_, rfl⟩
  rw [hC] at hcp hrow0
  have HR := hide hrow0
  clear hZ hall hB hBl hn hC hcl hrow0 hK
  go_enter Tryz.func79, Tryz.ntmps79
  go_wp2_with fail
  go_loopw [6] (fun i wr => ∃ k : Nat, k ≤ 64 ∧ i = .int .i64 (k : Int) ∧ Row wr w.heap.size 129 .u8 (nats (maskTo B c k)) ∧ Below w.heap.size w wr) (fun i _ => (65 - intOf i).toNat)
  case atStart => exact ⟨0, by omega, rfl, HR.out, (Below.refl _ _).alloc (Nat.le_refl _) _⟩
  case round =>
    obtain ⟨k, hk, rfl, hrow, hbel⟩ := hrel
    by_cases hlt : k < 64
    · have hki : (k : Int) < 64 := by omega
      have hkB : k < B.length := by rw [HBL.out]; exact hlt
      have hc := hrow.cell (i := k) (by rw [nats_len, maskTo_len]; exact hkB)
      rw [maskTo_get B c k hkB] at hc
      have hf := hrow.frozen k
      have hset := hrow.set k (B[k].toNat ^^^ c.toNat)
      rw [maskTo_set B c k hkB] at hset
      have hx := u8_xor_nat B[k].toNat c.toNat B[k].toNat_lt c.toNat_lt
      have hb2 : Below w.heap.size w (wr.setCell ⟨w.heap.size, k, none⟩ (.int .u8 ((B[k].toNat ^^^ c.toNat : Nat) : Int))) := hbel.setCell (Nat.le_refl _) _
      have HS := hide (And.intro hset hb2)
      generalize B[k].toNat = y at *
      clear hset hb2 hrow
      go_wp2_with fail
      go_roundw
      case rel => exact ⟨k + 1, by omega, by go_num, HS.out.1, HS.out.2⟩
      case measure => simp [intOf]; omega
    · have hkn : k = 64 := by omega
      subst hkn
      have hcv := conv_row (cap := 64) hrow
      rw [nats_len, maskTo_len, HBL.out] at hcv
      have e : (nats (maskTo B c 64)).map UInt8.ofNat = maskTo B c 64 := map_toNat_ofNat _
      rw [e] at hcv
      clear hrow e
      obtain ⟨R, hR⟩ : ∃ R, maskTo B c 64 = R := ⟨_, rfl⟩
      rw [hR] at hcv
      have HRR := hide hR
      clear hR
      go_wp2_with fail
      go_ret
      exact ⟨by rw [HRR.out]; rfl, hbel⟩
end Go.Proofs.YtkhgkkkalanoiaaGreatDoor
