import Derived.Test.YtjnhlkaafnaooaaSumW
import Derived.Test.YtjnhlkaafnaooaaMacW
import Derived.Lib.BufferWrite
import Derived.Deep.WholeRow
namespace Go.Proofs.Ytjnhlkaafnaooaa
open Go.RowKit
/-- A block, its first k bytes masked. -/
def maskTo (B : List UInt8) (c : UInt8) (k : Nat) : List UInt8 := (B.take k).map (fun x => x ^^^ c) ++ B.drop k
theorem maskTo_len (B : List UInt8) (c : UInt8) (k : Nat) : (maskTo B c k).length = B.length := by simp [maskTo]; omega
theorem maskTo_get (B : List UInt8) (c : UInt8) (k : Nat) (h : k < B.length) : (nats (maskTo B c k)).getD k 0 = B[k].toNat := by
  have hl : ((B.take k).map (fun x => x ^^^ c)).length = k := by simp; omega
  have e : (maskTo B c k)[k]? = some B[k] := by
    unfold maskTo
    rw [List.getElem?_append_right (by omega), hl, Nat.sub_self, List.getElem?_drop, Nat.add_zero, List.getElem?_eq_getElem h]
  simp [nats, e]
theorem maskTo_set (B : List UInt8) (c : UInt8) (k : Nat) (h : k < B.length) : (nats (maskTo B c k)).set k (B[k].toNat ^^^ c.toNat) = nats (maskTo B c (k + 1)) := by
  have hl : ((B.take k).map (fun x => x ^^^ c)).length = k := by simp; omega
  have e : (maskTo B c k).set k (B[k] ^^^ c) = maskTo B c (k + 1) := by
    unfold maskTo
    rw [List.set_append_right k _ (by omega), hl, Nat.sub_self, List.drop_eq_getElem_cons h, List.set_cons_zero, List.take_succ_eq_append_getElem h, List.map_append, List.append_assoc]
    rfl
  rw [← e]
  simp [nats, List.map_set]
theorem zip_rep (c : UInt8) : ∀ (B : List UInt8), B.map (fun x => x ^^^ c) = List.zipWith (fun x y => x ^^^ y) B (List.replicate B.length c)
  | [] => rfl
  | x :: B => by simp [List.replicate_succ, zip_rep c B]
theorem maskTo_all (B : List UInt8) (c : UInt8) (h : B.length = 64) : maskTo B c 64 = xorL B (List.replicate 64 c) := by
  unfold maskTo xorL
  rw [List.take_of_length_le (by omega), List.drop_eq_nil_of_le (by omega), List.append_nil, zip_rep, h]

theorem drop_noughts (m n : Nat) : (vals .u8 (List.replicate m 0)).drop n = vals .u8 (nats (List.replicate (m - n) 0)) := by simp [vals, nats]
theorem copy_block (K : List UInt8) (n : Nat) (hn : K.length = n) (h64 : n ≤ 64) (w : World) (sT ty t : TypeId) :
    (Builtin.copy_ #[34, sT] ty #[.slice (some ⟨w.heap.size, 0, none⟩) 64 64, .string ⟨K.toArray⟩]).run Try.prog (w.alloc (.cells (vals .u8 (List.replicate 64 0)).toArray t)) =
      .ok (goInt n) (w.alloc (.cells (vals .u8 (nats (K ++ List.replicate (64 - n) 0))).toArray t)) := by
  have hs : (ByteArray.mk K.toArray).size = n := by simpa [ByteArray.size] using hn
  have := Lib.run_copy_row_string (P := Try.prog) (w.alloc (.cells (vals .u8 (List.replicate 64 0)).toArray t)) 34 sT ty 5 w.heap.size 0 64 64 ⟨K.toArray⟩ (vals .u8 (List.replicate 64 0)).toArray t Try.underlying34 (by kernel_rfl) (heap_alloc_new w _) (by omega) (by rw [hs]; simp [vals]; omega)
  rw [this, hs, World.setRow_alloc_new]
  have e := drop_noughts 64 n
  have e2 : vals .u8 (nats (K ++ List.replicate (64 - n) 0)) = Lib.byteCells K ++ vals .u8 (nats (List.replicate (64 - n) 0)) := by
    simp [vals, nats, Lib.byteCells, Function.comp_def]
  rw [e2, ← e]
  simp only [Nat.zero_add, List.take_zero, List.nil_append]

end Go.Proofs.Ytjnhlkaafnaooaa
