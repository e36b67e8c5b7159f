import Derived.Test.YtjnhlkaafnaooabGreatDoorMixW
import Derived.Test.YtjnhlkaafnaooabGreatDoorWriteW
import Derived.Test.YtjnhlkaafnaooabGreatDoorRmA
namespace Go.Proofs.YtjnhlkaafnaooabGreatDoor
open Go.RowKit
def hcells (st : St) (buf : List UInt8) (n : Nat) : List Value := vals .u32 st.list ++ bvals buf ++ [.int .u64 (n : Int)]
/-- A Hash in memory. -/
structure HashAt (w : World) (b : Nat) (st : St) (buf : List UInt8) (n : Nat) : Prop where
  blk : w.heap[b]? = some (.cells (hcells st buf n).toArray 149 (0, 0))
  len : buf.length = 64

theorem wpList_build {P : Program} {ops : Array Oper} {rest : List Oper} {o : Oper} {a : Act} {w : World} {Q : Exit → Act → World → Prop} (hgd : o.guard = none) (t : TypeId) (parts : Array (Nat × Operand)) (ho : o.op = .build t parts) (v : Value) (ps : Array (Nat × Value)) (hp : (parts.map fun (i, x) => (i, a.eval x)) = ps)
    (hr : (Instr.build t ps).run P w = .ok v w) (h : wpList P ops Q rest (a.put o.dst v) w) : wpList P ops Q (o :: rest) a w := by
  refine wpList_plain hgd fun K hK => ?_
  unfold Oper.wp execOp
  simp only [ho, hp, Sem.run_bind, hr, Result.andThen_ok, Sem.run_pure]
  exact hK _ _ h
set_option maxRecDepth 100000 in
set_option maxHeartbeats 1000000 in
theorem start_any (w : World) (h0 : Cells w 0 .u32 hWords) :
    Calls Tryz.prog 70 #[] w fun e w' => e = .returned (.pointer (some ⟨w.heap.size, 0, none⟩)) ∧ HashAt w' w.heap.size startSt (List.replicate 64 0) 0 ∧ Below w.heap.size w w' := by
  have hra : w.rangeAt 0 0 (vals .u32 hWords) := by
    intro j v hv
    have := news_cells h0 j v hv
    rwa [Addr.add_mid] at this
  have hbu : ∀ w, (Instr.build 149 #[(0, .agg (vals .u32 hWords).toArray)]).run Tryz.prog w = .ok (.agg (hcells startSt (List.replicate 64 0) 0).toArray) w := fun _ => by kernel_rfl
  obtain ⟨HC, hHC⟩ : ∃ C, (hcells startSt (List.replicate 64 0) 0).toArray = C := ⟨_, rfl⟩
  rw [hHC] at hbu
  have hsz : HC.size = 73 := by rw [← hHC]; rfl
  have HHC := hide hHC
  have HBU := hide hbu
  clear hHC hbu
  have HI := hide (show (Tryz.prog.info? 145).map (·.size) = some (vals .u32 hWords).length from by kernel_rfl)
  have HRA := hide hra
  clear hra h0
  go_enter Tryz.func70, Tryz.ntmps70
  go_wp2_with (first | refine wpList_load_mid rfl 145 _ rfl 0 0 rfl (vals .u32 hWords) _ HRA.out Tryz.underlying145 rfl HI.out ?_ | refine wpList_build rfl 149 _ rfl (.agg HC) #[(0, .agg (vals .u32 hWords).toArray)] (by simp [Act.eval, Act.put]) (HBU.out _) ?_)
  go_ret
  refine ⟨rfl, ⟨?_, by simp⟩, (Below.refl _ _).alloc (Nat.le_refl _) _⟩
  rw [HHC.out]
  exact heap_alloc_new w _

theorem hcells_len (st : St) (buf : List UInt8) (n : Nat) (h : buf.length = 64) : (hcells st buf n).length = 73 := by simp [hcells, vals, bvals, St.list, h]
theorem HashAt.size {w : World} {b : Nat} {st : St} {buf : List UInt8} {n : Nat} (h : HashAt w b st buf n) : w.cell? ⟨b, 72, none⟩ = some (.int .u64 (n : Int)) := by
  rw [cell_of_row _ _ _ _ _ _ h.blk]
  have hl := h.len
  simp [hcells, vals, bvals, St.list, hl]
theorem HashAt.frozen {w : World} {b : Nat} {st : St} {buf : List UInt8} {n : Nat} (h : HashAt w b st buf n) (j : Nat) : w.frozen? ⟨b, j, none⟩ = false := frozen_of_row _ _ _ _ _ h.blk
theorem HashAt.byte {w : World} {b : Nat} {st : St} {buf : List UInt8} {n : Nat} (h : HashAt w b st buf n) (j : Nat) (hj : j < 64) : ∃ v, w.cell? ⟨b, 8 + j, none⟩ = some v := by
  rw [cell_of_row _ _ _ _ _ _ h.blk]
  have hl := hcells_len st buf n h.len
  exact ⟨(hcells st buf n)[8 + j]'(by omega), by simp [List.getElem?_eq_getElem (by omega : 8 + j < (hcells st buf n).length)]⟩
theorem HashAt.lt {w : World} {b : Nat} {st : St} {buf : List UInt8} {n : Nat} (h : HashAt w b st buf n) : b < w.heap.size := lt_of_block h.blk
theorem HashAt.setByte {w : World} {b : Nat} {st : St} {buf : List UInt8} {n : Nat} (h : HashAt w b st buf n) (j : Nat) (hj : j < 64) (c : UInt8) : HashAt (w.setCell ⟨b, 8 + j, none⟩ (.int .u8 (c.toNat : Int))) b st (buf.set j c) n := by
  refine ⟨?_, by simp [h.len]⟩
  rw [set_prim h.blk]
  congr 2
  have hl := h.len
  apply Array.ext'
  simp only [Array.toList_setIfInBounds, hcells]
  rw [List.append_assoc, List.append_assoc, List.set_append_right _ _ (by simp [vals, St.list]), List.set_append_left _ _ (by simp [vals, St.list, bvals, hl]; omega)]
  simp [vals, St.list, bvals, List.map_set]
theorem HashAt.setSize {w : World} {b : Nat} {st : St} {buf : List UInt8} {n : Nat} (h : HashAt w b st buf n) (m : Nat) : HashAt (w.setCell ⟨b, 72, none⟩ (.int .u64 (m : Int))) b st buf m := by
  refine ⟨?_, h.len⟩
  rw [set_prim h.blk]
  congr 2
  have hl := h.len
  apply Array.ext'
  simp only [Array.toList_setIfInBounds, hcells]
  rw [List.set_append_right _ _ (by simp [vals, St.list, bvals, hl])]
  simp [vals, St.list, bvals, hl]
theorem HashAt.words {w : World} {b : Nat} {st : St} {buf : List UInt8} {n : Nat} (h : HashAt w b st buf n) : w.rangeAt b 0 (vals .u32 st.list) := by
  intro j v hv
  rw [Nat.zero_add, cell_of_row _ _ _ _ _ _ h.blk]
  have hj := (List.getElem?_eq_some_iff.1 hv).1
  simp only [hcells, List.getElem?_toArray]
  rw [List.append_assoc, List.getElem?_append_left hj]
  exact hv
theorem HashAt.bytes {w : World} {b : Nat} {st : St} {buf : List UInt8} {n : Nat} (h : HashAt w b st buf n) : w.rangeAt b 8 (bvals buf) := by
  intro j v hv
  rw [cell_of_row _ _ _ _ _ _ h.blk]
  have hj := (List.getElem?_eq_some_iff.1 hv).1
  simp only [hcells, List.getElem?_toArray]
  rw [List.append_assoc, List.getElem?_append_right (by simp [vals, St.list]), List.getElem?_append_left (by simp [vals, St.list]; simpa using hj)]
  simpa [vals, St.list] using hv
theorem HashAt.there {w : World} {b : Nat} {st : St} {buf : List UInt8} {n : Nat} (h : HashAt w b st buf n) : w.there b 0 8 := by
  intro j hj
  refine ⟨?_, h.frozen _⟩
  have hl := hcells_len st buf n h.len
  rw [Nat.zero_add, cell_of_row _ _ _ _ _ _ h.blk]
  simp [List.getElem?_eq_getElem (by omega : j < (hcells st buf n).length)]
theorem HashAt.below {w w' : World} {b B : Nat} {st : St} {buf : List UInt8} {n : Nat} (h : HashAt w b st buf n) (hb : Below B w w') (hB : b < B) : HashAt w' b st buf n := ⟨(hb.block b hB).trans h.blk, h.len⟩
theorem HashAt.setWords {w : World} {b : Nat} {st : St} {buf : List UInt8} {n : Nat} (h : HashAt w b st buf n) (st' : St) : HashAt (w.setCells b 0 (vals .u32 st'.list)) b st' buf n := by
  refine ⟨?_, h.len⟩
  obtain ⟨c', h1, h2⟩ := setCells_same b _ (vals .u32 st'.list) 0 w _ h.blk
  have hl := hcells_len st buf n h.len
  have hl' := hcells_len st' buf n h.len
  have e : c' = (hcells st' buf n).toArray := by
    apply Array.ext'
    apply List.ext_getElem?
    intro i
    have hcell : (w.setCells b 0 (vals .u32 st'.list)).cell? ⟨b, i, none⟩ = c'[i]? := cell_of_row _ _ _ _ _ _ h1
    by_cases hi : i < 8
    · have hin := World.cell?_setCells_in b (vals .u32 st'.list) 0 w (fun k hk => by
        have := (h.there k (by simpa [vals, St.list] using hk)).1
        exact this) i (by simpa [vals, St.list] using hi)
      rw [Nat.zero_add] at hin
      rw [hcell] at hin
      simp only [Array.getElem?_toList, hin, hcells]
      rw [List.append_assoc, List.getElem?_append_left (by simpa [vals, St.list] using hi), List.getElem?_eq_getElem]
    · have hout := World.cell?_setCells_out b (vals .u32 st'.list) 0 w ⟨b, i, none⟩ (fun _ _ => by right; show 0 + (vals .u32 st'.list).length ≤ i; simp [vals, St.list]; omega)
      rw [hcell, cell_of_row _ _ _ _ _ _ h.blk] at hout
      simp only [Array.getElem?_toList, hout, hcells, List.getElem?_toArray]
      have key : ∀ x : St, (vals .u32 x.list ++ (bvals buf ++ [Value.int .u64 (n : Int)]))[i]? = (bvals buf ++ [Value.int .u64 (n : Int)])[i - 8]? := fun x => by
        rw [List.getElem?_append_right (by simp [vals, St.list]; omega)]
        simp [vals, St.list]
      rw [List.append_assoc, List.append_assoc, key st, key st']
  rw [h1, e]
end Go.Proofs.YtjnhlkaafnaooabGreatDoor
