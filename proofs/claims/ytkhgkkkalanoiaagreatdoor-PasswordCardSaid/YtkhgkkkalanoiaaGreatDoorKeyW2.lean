import Derived.Test.YtkhgkkkalanoiaaGreatDoorExpW
import Derived.Laws.Tables
namespace Go.Proofs.YtkhgkkkalanoiaaGreatDoor
open Go.RowKit
theorem foldl_set2 : ∀ (l : List Value) (cells : Array Value) (off k : Nat), off + k + l.length ≤ cells.size →
    ((l.zipIdx k).foldl (fun cs (p : Value × Nat) => cs.setIfInBounds (off + p.2) p.1) cells).toList = cells.toList.take (off + k) ++ l ++ cells.toList.drop (off + k + l.length)
  | [], cells, off, k, _ => by simp
  | x :: l, cells, off, k, h => by
    have hs : off + k < cells.toList.length := by simp at h ⊢; omega
    rw [List.zipIdx_cons, List.foldl_cons, foldl_set2 l _ off (k + 1) (by simp at h ⊢; omega)]
    simp only [Array.toList_setIfInBounds]
    have e1 : (cells.toList.set (off + k) x).take (off + (k + 1)) = cells.toList.take (off + k) ++ [x] := by
      rw [← Nat.add_assoc, List.take_succ_eq_append_getElem (by simpa using hs), List.getElem_set_self, List.take_set_of_le (Nat.le_refl _)]
    rw [e1, List.drop_set_of_lt (by omega)]
    have e2 : off + (k + 1) + l.length = off + k + (x :: l).length := by simp; omega
    rw [e2]
    simp
theorem fill_part2 (f : Nat → Option (Nat × Nat)) (cells : Array Value) (i off : Nat) (A : List Value) (rest : List (Nat × Value)) (hf : f i = some (off, A.length)) (hc : off + A.length ≤ cells.size) :
    Instr.fill f cells ((i, .agg A.toArray) :: rest) = Instr.fill f (cells.toList.take off ++ A ++ cells.toList.drop (off + A.length)).toArray rest := by
  have hcs : (Value.agg A.toArray).cells = A.toArray := rfl
  have hfold : (A.toArray.zipIdx.foldl (fun cs (p : Value × Nat) => cs.setIfInBounds (off + p.2) p.1) cells) = (cells.toList.take off ++ A ++ cells.toList.drop (off + A.length)).toArray := by
    apply Array.toList_inj.1
    have := foldl_set2 A cells off 0 (by omega)
    simp only [Nat.add_zero] at this
    rw [← Array.foldl_toList]
    simpa using this
  rw [Instr.fill, hf]
  simp only [hcs]
  rw [if_neg (by simp; omega)]
  exact congrArg (fun c => Instr.fill f c rest) hfold
theorem built_key (parts : List (Nat × Value)) : Tryz.prog.built 147 parts = Instr.fill (fun i => [(0, 256), (256, 240)][i]?) (vals .u8 (List.replicate 496 0)).toArray parts := by
  have h : Tryz.prog.built 147 = Instr.fill (fun i => [(0, 256), (256, 240)].toArray[i]?) (vals .u8 (List.replicate 496 0)).toArray := by kernel_rfl
  rw [h]
  congr 1
  funext i
  simp
theorem build_key (A B : List Value) (hA : A.length = 256) (hB : B.length = 240) (w : World) : (Instr.build 147 #[(0, .agg A.toArray), (1, .agg B.toArray)]).run Tryz.prog w = .ok (.agg (A ++ B).toArray) w := by
  refine run_build w _ _ _ ?_
  rw [built_key]
  have hz : (vals .u8 (List.replicate 496 0)).length = 496 := by rw [vals, List.length_map, List.length_replicate]
  obtain ⟨Z, hZ⟩ : ∃ Z, vals .u8 (List.replicate 496 0) = Z := ⟨_, rfl⟩
  rw [hZ] at hz ⊢
  show Instr.fill _ _ [(0, .agg A.toArray), (1, .agg B.toArray)] = _
  rw [fill_part2 _ _ 0 0 A _ (by rw [hA]; rfl) (by simp; omega), fill_part2 _ _ 1 256 B _ (by rw [hB]; rfl) (by simp; omega)]
  rw [Instr.fill]
  congr 2
  simp [hA, hB, hz]
section
variable {P : Program} {ops : Array Oper} {Q : Exit → Act → World → Prop} {S : World → Prop} {md : Region.Mode} {fuel : Nat} {listed : Array Bool} {a : Act} {w w' : World} {i : Nat} {op : Oper} {rs : List Nat}
theorem readyH_run (hi' : ops[i]? = some op) (hw : Region.wanted op (yielded ops a.tmps) = true) (v : Value) (hr : (execOp a.eval op).run P w = .ok (.value v) w') (hS : S w')
    (h : wpAnyH P md ops Q S fuel (listed.setIfInBounds i true) (a.put op.dst v) w') (hs : AllReadyH P md ops Q S fuel listed a w rs) : AllReadyH P md ops Q S fuel listed a w (i :: rs) :=
  AllReadyH.cons hi' (fun K' hK => by
    rw [if_pos hw]
    unfold Oper.wp
    rw [hr]
    exact hK.out _ _ hS (fun _ => h)) hs
theorem readyH_build (hi' : ops[i]? = some op) (hw : Region.wanted op (yielded ops a.tmps) = true) (t : TypeId) (parts : Array (Nat × Operand)) (ho : op.op = .build t parts) (v : Value) (ps : Array (Nat × Value)) (hp : (parts.map fun (i, x) => (i, a.eval x)) = ps)
    (hr : (Instr.build t ps).run P w = .ok v w) (hS : S w)
    (h : wpAnyH P md ops Q S fuel (listed.setIfInBounds i true) (a.put op.dst v) w) (hs : AllReadyH P md ops Q S fuel listed a w rs) : AllReadyH P md ops Q S fuel listed a w (i :: rs) :=
  AllReadyH.cons hi' (fun K' hK => by
    rw [if_pos hw]
    unfold Oper.wp execOp
    simp only [ho, hp, Sem.run_bind, hr, Result.andThen_ok, Sem.run_pure]
    exact hK.out _ _ hS (fun _ => h)) hs
end
set_option maxRecDepth 100000 in
set_option maxHeartbeats 400000 in
theorem gkeyed_any (key : List UInt8) (w : World) :
    Calls Tryz.prog 60 #[.string ⟨key.toArray⟩] w fun e w' => ∃ kb, e = .returned (.pointer (some ⟨kb, 0, none⟩)) ∧ KeyAt w' kb (keysL (fillL key 32)) ∧ w.heap.size ≤ kb ∧ Below w.heap.size w w' := by
  have hzv : ∀ w, (zeroValue 136).run Tryz.prog w = .ok (.agg (vals .u8 (List.replicate 32 0)).toArray) w := fun _ => by kernel_rfl
  have hcp : ∀ sT ty, (Builtin.copy_ #[83, sT] ty #[.slice (some ⟨w.heap.size, 0, none⟩) 32 32, .string ⟨key.toArray⟩]).run Tryz.prog (w.alloc (.cells (vals .u8 (List.replicate 32 0)).toArray 136)) = .ok (goInt (key.take 32).length) (w.alloc (.cells (bvals (fillL key 32)).toArray 136)) := fun sT ty => copy_new key 32 w sT ty 136
  obtain ⟨Z, hZ⟩ : ∃ x, (vals .u8 (List.replicate 32 0)).toArray = x := ⟨_, rfl⟩
  rw [hZ] at hzv hcp
  have hZs : Z.size = 32 := by rw [← hZ]; simp [vals]
  have hFl := fillL_len key 32
  have hkl := keysL_len (fillL key 32) hFl
  obtain ⟨F, hF⟩ : ∃ x, fillL key 32 = x := ⟨_, rfl⟩
  rw [hF] at hcp hFl hkl ⊢
  have hex := fun w => expand_any F w hFl
  obtain ⟨rk, hrk⟩ : ∃ x, keysL F = x := ⟨_, rfl⟩
  simp only [hrk] at hex
  rw [hrk] at hkl ⊢
  have HEX := hide hex
  have HFL := hide (And.intro hFl hkl)
  have hra : ∀ w1, Below (w.heap.size + 1) (w.alloc (.cells (bvals F).toArray 136)) w1 → w1.rangeAt w.heap.size 0 (bvals F) := fun w1 hb => range_block (c := (bvals F).toArray) ((hb.block w.heap.size (by omega)).trans (heap_alloc_new w _))
  have HRA := hide hra
  have HI32 := hide (show (Tryz.prog.info? 136).map (·.size) = some (bvals F).length by rw [bvals_len, hFl]; kernel_rfl)
  clear hrk hF hex hZ hkl hra
  go_enter Tryz.func60, Tryz.ntmps60
  go_wp2_with fail
  refine (makeBox_any _).mono ?_
  rintro e w1 ⟨rfl, hb1⟩
  have hb1' : Below (w.heap.size + 1) (w.alloc (.cells (bvals F).toArray 136)) w1 := by simpa using hb1
  have hrw := HRA.out w1 hb1'
  have hbel1 : Below w.heap.size w w1 := ((Below.refl _ _).alloc (Nat.le_refl _) _).trans (hb1'.mono (by omega))
  have HR1 := hide hrw
  have hsb : (vals .u8 sbLit).length = 256 := by rw [vals, List.length_map, sbLit_len]
  obtain ⟨SB, hSB⟩ : ∃ x, vals .u8 sbLit = x := ⟨_, rfl⟩
  have HSB := hide hSB
  have HEX2 : Hid (∀ w, Calls Tryz.prog 82 #[.agg SB.toArray, .agg (bvals F).toArray] w fun x w' => x = .returned (.agg (bvals rk).toArray) ∧ Below w.heap.size w w') := by rw [← hSB]; exact HEX.out
  rw [hSB] at hsb ⊢
  clear hSB HEX hb1 hb1' hrw hzv hcp HRA
  have hzb : ∀ w, (zeroValue 142).run Tryz.prog w = .ok (.agg (vals .u8 (List.replicate 256 0)).toArray) w := fun _ => by kernel_rfl
  obtain ⟨Z2, hZ2⟩ : ∃ x, (vals .u8 (List.replicate 256 0)).toArray = x := ⟨_, rfl⟩
  rw [hZ2] at hzb
  have hZ2s : Z2.size = 256 := by rw [← hZ2]; simp [vals]
  have hone : ∀ v ∈ SB, v.oneCell' = true := by rw [← HSB.out]; exact vals_one _ _
  have HI256 := hide (show (Tryz.prog.info? 142).map (·.size) = some SB.length by rw [hsb]; kernel_rfl)
  clear hZ2
  go_wp2_with (refine wpList_store_el rfl 142 _ _ rfl w1.heap.size 0 SB.toArray rfl rfl ?ht (by simpa using HI256.out) (all_oneCell_toArray hone) ?_)
  case ht =>
    have h := there_new w1 Z2 142
    rw [hZ2s] at h
    have e : SB.toArray.size = 256 := by simp [hsb]
    rw [e]; exact h
  intro w2 hw2
  have hb2 : Below w1.heap.size w1 w2 := by
    rw [hw2.out]
    exact ((Below.refl _ _).alloc (Nat.le_refl _) _).trans (below_setCells _ _ _ _ _ (Nat.le_refl _))
  have hrS : w2.rangeAt w1.heap.size 0 SB := by
    rw [hw2.out]
    have h := there_new w1 Z2 142
    rw [hZ2s] at h
    exact World.rangeAt_setCells_same _ w1.heap.size 0 SB (by rw [hsb]; exact h)
  have hgb : w1.heap.size < w2.heap.size := by
    rw [hw2.out, (setCells_block _ _ _ _).1]; simp
  have hNl : w.heap.size < w1.heap.size := by
    have := HR1.out 0
    rcases Nat.lt_or_ge w.heap.size w1.heap.size with g | g
    · exact g
    · exfalso
      have hv : (bvals F)[0]? = some ((bvals F)[0]'(by rw [bvals_len, hFl]; decide)) := List.getElem?_eq_getElem _
      have h2 := this _ hv
      have h3 : w1.cell? ⟨w.heap.size, 0 + 0, none⟩ = none := by
        unfold World.cell?
        simp [Array.getElem?_eq_none g]
      rw [h3] at h2; cases h2
  have hrF : w2.rangeAt w.heap.size 0 (bvals F) := by
    intro j v hv
    rw [World.cell?_of_block (w := w1) (hb2.block _ hNl)]
    exact HR1.out j v hv
  have hbel2 := hbel1.trans (hb2.mono hbel1.size)
  obtain ⟨gb, hgbq⟩ : ∃ g, w1.heap.size = g := ⟨_, rfl⟩
  rw [hgbq] at hrS hgb hNl ⊢
  have HSt := hide (And.intro hrS (And.intro hrF (And.intro hgb (And.intro hNl hbel2))))
  clear hw2 hb2 hrS hrF hgb hNl hbel2 hgbq hbel1 HR1
  go_wp2_with fail
  obtain ⟨rS, rF, hgb, hNl, hbel⟩ := HSt.out
  refine wp_region_held_drew (S := fun w' => w'.rangeAt gb 0 SB ∧ w'.rangeAt w.heap.size 0 (bvals F)) (by kernel_rfl) ⟨rS, rF⟩ ?_
  intro hS
  refine wpAnyH_take (i := 0) rfl (by kernel_rfl) (by kernel_rfl) (by kernel_rfl) (fun _ _ _ h => h) (yieldsIf_load_mid (by kernel_rfl) 142 _ rfl gb 0 (by kernel_rfl) SB _ (fun _ h => h.1) Tryz.underlying142 rfl HI256.out) hS ?_
  refine wpAnyH_take (i := 1) rfl (by kernel_rfl) (by kernel_rfl) (by kernel_rfl) (fun _ _ _ h => h) (yieldsIf_load_mid (by kernel_rfl) 142 _ rfl gb 0 (by kernel_rfl) SB _ (fun _ h => h.1) Tryz.underlying142 rfl HI256.out) hS ?_
  refine wpAnyH_take (i := 2) rfl (by kernel_rfl) (by kernel_rfl) (by kernel_rfl) (fun _ _ _ h => h) (yieldsIf_load_mid (by kernel_rfl) 136 _ rfl w.heap.size 0 (by kernel_rfl) (bvals F) _ (fun _ h => h.2) Tryz.underlying136 rfl HI32.out) hS ?_
  refine wpAnyH_ready (rs := [3]) (by kernel_rfl) (by simp) ?_
  refine readyH_call rfl (by kernel_rfl) 82 #[.agg SB.toArray, .agg (bvals F).toArray] (by kernel_rfl) ((HEX2.out w2.drew).mono ?_) AllReadyH.nil
  rintro e w3 ⟨rfl, hb3⟩
  have hgb' : gb < w2.drew.heap.size := hgb
  have hNl' : w.heap.size < w2.drew.heap.size := Nat.lt_trans hNl hgb
  have rS3 : w3.rangeAt gb 0 SB := fun j v hv => by rw [World.cell?_of_block (w := w2.drew) (hb3.block _ hgb')]; exact rS j v hv
  have rF3 : w3.rangeAt w.heap.size 0 (bvals F) := fun j v hv => by rw [World.cell?_of_block (w := w2.drew) (hb3.block _ hNl')]; exact rF j v hv
  have hbel3 := hbel.drew.trans (hb3.mono hbel.drew.size)
  refine ⟨_, rfl, ⟨rS3, rF3⟩, ?_⟩
  have hbrk : (bvals rk).length = 240 := by rw [bvals_len]; exact HFL.out.2
  refine wpAnyH_ready (rs := [4]) (by kernel_rfl) (by simp) ?_
  refine readyH_build rfl (by kernel_rfl) 147 _ rfl (.agg (SB ++ bvals rk).toArray) #[(0, .agg SB.toArray), (1, .agg (bvals rk).toArray)] (by kernel_rfl) (build_key SB (bvals rk) hsb hbrk _) ⟨rS3, rF3⟩ ?_ AllReadyH.nil
  have hC : (SB ++ bvals rk).length = 496 := by rw [List.length_append, hsb, hbrk]
  have hCe : SB ++ bvals rk = vals .u8 (sbLit ++ nats rk) := by rw [← HSB.out, ← vals_nats]; simp [vals]
  obtain ⟨C, hCC⟩ : ∃ C, (SB ++ bvals rk).toArray = C := ⟨_, rfl⟩
  rw [hCC]
  have hlt3 : gb < w3.heap.size := Nat.lt_of_lt_of_le hgb' hb3.size
  have hlt3' : w.heap.size < w3.heap.size := Nat.lt_of_lt_of_le hNl' hb3.size
  have rS4 : (w3.alloc (.cells C 147)).rangeAt gb 0 SB := fun j v hv => by rw [World.cell?_of_block (w := w3) (Below.heap_alloc w3 _ _ hlt3)]; exact rS3 j v hv
  have rF4 : (w3.alloc (.cells C 147)).rangeAt w.heap.size 0 (bvals F) := fun j v hv => by rw [World.cell?_of_block (w := w3) (Below.heap_alloc w3 _ _ hlt3')]; exact rF3 j v hv
  refine wpAnyH_ready (rs := [5]) (by kernel_rfl) (by simp) ?_
  refine readyH_run rfl (by kernel_rfl) (.pointer (some ⟨w3.heap.size, 0, none⟩)) (w' := w3.alloc (.cells C 147)) (by kernel_rfl) ⟨rS4, rF4⟩ ?_ AllReadyH.nil
  refine wpAnyH_ready (rs := [6]) (by kernel_rfl) (by simp) ?_
  refine readyH_run rfl (by kernel_rfl) (.pointer (some ⟨w3.heap.size, 0, none⟩)) (w' := w3.alloc (.cells C 147)) (by kernel_rfl) ⟨rS4, rF4⟩ ?_ AllReadyH.nil
  refine wpAnyH_done (by kernel_rfl) ?_ _
  have hblk : (w3.alloc (.cells C 147)).heap[w3.heap.size]? = some (.cells (vals .u8 (sbLit ++ nats rk)).toArray 147 (0, 0)) := by
    rw [← hCe, hCC]; exact heap_alloc_new w3 _
  have hkey : KeyAt (w3.alloc (.cells C 147)) w3.heap.size rk := ⟨Cells.of_block hblk, HFL.out.2⟩
  have HKY := hide (And.intro hkey (And.intro hbel3.size (hbel3.alloc hbel3.size (.cells C 147))))
  clear hkey hblk rS4 rF4 hS rS3 rF3 rS rF hb3 hbel hbel3
  go_wp2_with fail
  go_ret
  exact ⟨w3.heap.size, by kernel_rfl, HKY.out.1, HKY.out.2.1, HKY.out.2.2⟩
end Go.Proofs.YtkhgkkkalanoiaaGreatDoor
