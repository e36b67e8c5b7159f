import Derived.Test.YtjnhlkaafnaooabGreatDoorBlofW
import Derived.Deep.RegionHeld3
import Derived.Lib.BufferWrite
import Derived.Deep.WholeRow
namespace Go.Proofs.YtjnhlkaafnaooabGreatDoor
open Go.RowKit
section
variable {P : Program} {ops : Array Oper} {Q : Exit → Act → World → Prop} {S : World → Prop} {md : Region.Mode} {fuel : Nat} {listed : Array Bool} {a : Act} {w : World} {i : Nat} {op : Oper} {rs : List Nat}
theorem readyH_load (hi' : ops[i]? = some op) (hw : Region.wanted op (yielded ops a.tmps) = true) (ty : TypeId) (x : Operand) (ho : op.op = .load ty x)
    (b o : Nat) (hx : a.eval x = .pointer (some ⟨b, o, none⟩)) (cs : List Value) (d : TypeDesc) (hc : w.rangeAt b o cs)
    (hu : P.underlying ty = some d) (hd : d.isRow = true) (hi : (P.info? ty).map (·.size) = some cs.length) (hS : S w)
    (h : wpAnyH P md ops Q S fuel (listed.setIfInBounds i true) (a.put op.dst (.agg cs.toArray)) w) (hs : AllReadyH P md ops Q S fuel listed a w rs) : AllReadyH P md ops Q S fuel listed a w (i :: rs) :=
  AllReadyH.cons hi' (fun K' hK => by rw [if_pos hw]; exact wp_load_mid ty x ho b o hx cs d hc hu hd hi (hK.out _ _ hS (fun _ => h))) hs
theorem readyH_store (hi' : ops[i]? = some op) (hw : Region.wanted op (yielded ops a.tmps) = true) (ty : TypeId) (x y : Operand) (ho : op.op = .store ty x y)
    (b o : Nat) (cells : Array Value) (hx : a.eval x = .pointer (some ⟨b, o, none⟩)) (hy : a.eval y = .agg cells)
    (ht : w.there b o cells.size) (hi : (P.info? ty).map (·.size) = some cells.size) (h1 : cells.all (·.oneCell') = true) (hS : S (w.setCells b o cells.toList))
    (h : wpAnyH P md ops Q S fuel (listed.setIfInBounds i true) (a.put op.dst undef) (w.setCells b o cells.toList)) (hs : AllReadyH P md ops Q S fuel listed a w rs) : AllReadyH P md ops Q S fuel listed a w (i :: rs) :=
  AllReadyH.cons hi' (fun K' hK => by rw [if_pos hw]; exact wp_store_mid ty x y ho b o cells hx hy ht hi h1 (hK.out _ _ hS (fun _ => h))) hs
theorem readyH_call (hi' : ops[i]? = some op) (hw : Region.wanted op (yielded ops a.tmps) = true) (f : FuncId) (args : Array Value) (hr : (execOp a.eval op).run P w = .ok (.enter f args) w)
    (hc : Calls P f args w fun e w'' => ∃ v, e = .returned v ∧ S w'' ∧ wpAnyH P md ops Q S fuel (listed.setIfInBounds i true) (a.put op.dst v) w'') (hs : AllReadyH P md ops Q S fuel listed a w rs) : AllReadyH P md ops Q S fuel listed a w (i :: rs) :=
  AllReadyH.cons hi' (fun K' hK => by
    rw [if_pos hw]
    unfold Oper.wp
    rw [hr, Oper.upon_enter]
    refine hc.mono ?_
    rintro e w'' ⟨v, rfl, hS, h⟩
    exact hK.out _ _ hS (fun _ => h)) hs
end
/-- Of a text that is longer than the place the beginning alone is copied. -/
theorem copy_cut (w : World) (dT sT ty elem : TypeId) (d : Option Addr) (dLen dCap : Nat) (K : List UInt8) (hu : Tryz.prog.underlying dT = some (.slice elem)) (hs : (Tryz.prog.info? elem).map (·.size) = some 1) (hle : dLen ≤ K.length) :
    (Builtin.copy_ #[dT, sT] ty #[.slice d dLen dCap, .string ⟨K.toArray⟩]).run Tryz.prog w = (Builtin.copy_ #[dT, sT] ty #[.slice d dLen dCap, .string ⟨(K.take dLen).toArray⟩]).run Tryz.prog w := by
  have h1 : Nat.min (ByteArray.mk K.toArray).size dLen = dLen := Nat.min_eq_right (by simpa [ByteArray.size] using hle)
  have h2 : Nat.min (ByteArray.mk (K.take dLen).toArray).size dLen = dLen := Nat.min_eq_right (by simp [ByteArray.size]; omega)
  cases hq : Tryz.prog.info? elem with
  | none => simp [hq] at hs
  | some i =>
    cases d <;> simp [Builtin.copy_, run_underlying hu, Builtin.lenOf, Builtin.firstCells, sizeOf, typeInfo, hq, h1, h2, List.take_take]
theorem drop_noughts (m n : Nat) : (vals .u8 (List.replicate m 0)).drop n = vals .u8 (nats (List.replicate (m - n) 0)) := by simp [vals, nats]
/-- 'copy(b[:], t)' into a new block of noughts. -/
theorem copy_le (K : List UInt8) (m c : Nat) (w : World) (sT ty t : TypeId) (hle : K.length ≤ c) (hc : c ≤ m) :
    (Builtin.copy_ #[52, sT] ty #[.slice (some ⟨w.heap.size, 0, none⟩) c m, .string ⟨K.toArray⟩]).run Tryz.prog (w.alloc (.cells (vals .u8 (List.replicate m 0)).toArray t)) =
      .ok (goInt K.length) (w.alloc (.cells (bvals (K ++ List.replicate (m - K.length) 0)).toArray t)) := by
  obtain ⟨n, hn⟩ : ∃ n, K.length = n := ⟨_, rfl⟩
  rw [hn] at hle ⊢
  have hs : (ByteArray.mk K.toArray).size = n := by simpa [ByteArray.size] using hn
  have := Lib.run_copy_row_string (P := Tryz.prog) (w.alloc (.cells (vals .u8 (List.replicate m 0)).toArray t)) 52 sT ty 5 w.heap.size 0 c m ⟨K.toArray⟩ (vals .u8 (List.replicate m 0)).toArray t Tryz.underlying52 (by kernel_rfl) (heap_alloc_new w _) (by omega) (by rw [hs]; simp [vals]; omega)
  rw [this, hs, World.setRow_alloc_new]
  have e := drop_noughts m n
  have e2 : bvals (K ++ List.replicate (m - n) 0) = Lib.byteCells K ++ vals .u8 (nats (List.replicate (m - n) 0)) := by
    simp [vals, nats, bvals, Lib.byteCells]
  rw [e2, ← e]
  simp only [Nat.zero_add, List.take_zero, List.nil_append]
theorem copy_new (K : List UInt8) (m : Nat) (w : World) (sT ty t : TypeId) :
    (Builtin.copy_ #[52, sT] ty #[.slice (some ⟨w.heap.size, 0, none⟩) m m, .string ⟨K.toArray⟩]).run Tryz.prog (w.alloc (.cells (vals .u8 (List.replicate m 0)).toArray t)) =
      .ok (goInt (K.take m).length) (w.alloc (.cells (bvals (fillL K m)).toArray t)) := by
  by_cases h : K.length ≤ m
  · have e : K.take m = K := List.take_of_length_le h
    unfold fillL
    rw [copy_le K m m w sT ty t h (Nat.le_refl _), e]
  · have e0 : m - K.length = 0 := by omega
    have e1 : m - (K.take m).length = 0 := by simp; omega
    unfold fillL
    rw [copy_cut _ _ _ _ 5 _ _ _ _ Tryz.underlying52 (by kernel_rfl) (by omega), copy_le (K.take m) m m w sT ty t (by simp; omega) (Nat.le_refl _), e0, e1]
end Go.Proofs.YtjnhlkaafnaooabGreatDoor
