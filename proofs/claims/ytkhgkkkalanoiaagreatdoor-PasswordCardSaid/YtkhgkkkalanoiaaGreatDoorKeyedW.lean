import Derived.Test.YtkhgkkkalanoiaaGreatDoorMaskW
import Derived.Laws.Tables
namespace Go.Proofs.YtkhgkkkalanoiaaGreatDoor
open Go.RowKit
def mcells (ist : St) (ibuf : List UInt8) (ost : St) (obuf : List UInt8) : List Value := hcells ist ibuf 64 ++ hcells ost obuf 64
/-- A MAC in memory: both its hashes have taken in a block. -/
structure MacAt (w : World) (b : Nat) (ist : St) (ibuf : List UInt8) (ost : St) (obuf : List UInt8) : Prop where
  blk : w.heap[b]? = some (.cells (mcells ist ibuf ost obuf).toArray 140 (0, 0))
  il : ibuf.length = 64
  ol : obuf.length = 64
theorem MacAt.below {w w' : World} {b B : Nat} {ist : St} {ibuf : List UInt8} {ost : St} {obuf : List UInt8} (h : MacAt w b ist ibuf ost obuf) (hb : Below B w w') (hB : b < B) : MacAt w' b ist ibuf ost obuf :=
  ⟨(hb.block b hB).trans h.blk, h.il, h.ol⟩
theorem foldl_set : ∀ (l : List Value) (cells : Array Value) (off k : Nat), off + k + l.length ≤ cells.size →
    ((l.zipIdx k).foldl (fun cs (p : Value × Nat) => cs.setIfInBounds (off + p.2) p.1) cells).toList = cells.toList.take (off + k) ++ l ++ cells.toList.drop (off + k + l.length)
  | [], cells, off, k, _ => by simp
  | x :: l, cells, off, k, h => by
    have hs : off + k < cells.toList.length := by simp at h ⊢; omega
    rw [List.zipIdx_cons, List.foldl_cons, foldl_set l _ off (k + 1) (by simp at h ⊢; omega)]
    simp only [Array.toList_setIfInBounds]
    have e1 : (cells.toList.set (off + k) x).take (off + (k + 1)) = cells.toList.take (off + k) ++ [x] := by
      rw [← Nat.add_assoc, List.take_succ_eq_append_getElem (by simpa using hs), List.getElem_set_self, List.take_set_of_le (Nat.le_refl _)]
    rw [e1, List.drop_set_of_lt (by omega)]
    have e2 : off + (k + 1) + l.length = off + k + (x :: l).length := by simp; omega
    rw [e2]
    simp
theorem fill_part (f : Nat → Option (Nat × Nat)) (cells : Array Value) (i off : Nat) (A : List Value) (rest : List (Nat × Value)) (hf : f i = some (off, A.length)) (hc : off + A.length ≤ cells.size) :
    Instr.fill f cells ((i, .agg A.toArray) :: rest) = Instr.fill f (cells.toList.take off ++ A ++ cells.toList.drop (off + A.length)).toArray rest := by
  have hcs : (Value.agg A.toArray).cells = A.toArray := rfl
  have hfold : (A.toArray.zipIdx.foldl (fun cs (p : Value × Nat) => cs.setIfInBounds (off + p.2) p.1) cells) = (cells.toList.take off ++ A ++ cells.toList.drop (off + A.length)).toArray := by
    apply Array.toList_inj.1
    have := foldl_set A cells off 0 (by omega)
    simp only [Nat.add_zero] at this
    rw [← Array.foldl_toList]
    simpa using this
  rw [Instr.fill, hf]
  simp only [hcs]
  rw [if_neg (by simp; omega)]
  exact congrArg (fun c => Instr.fill f c rest) hfold
theorem built_mac (parts : List (Nat × Value)) : Tryz.prog.built 140 parts = Instr.fill (fun i => [(0, 73), (73, 73)][i]?) (hcells zeroSt (List.replicate 64 0) 0 ++ hcells zeroSt (List.replicate 64 0) 0).toArray parts := by
  have h : Tryz.prog.built 140 = Instr.fill (fun i => [(0, 73), (73, 73)].toArray[i]?) (hcells zeroSt (List.replicate 64 0) 0 ++ hcells zeroSt (List.replicate 64 0) 0).toArray := by kernel_rfl
  rw [h]
  simp
theorem build_mac (A B : List Value) (hA : A.length = 73) (hB : B.length = 73) (w : World) : (Instr.build 140 #[(0, .agg A.toArray), (1, .agg B.toArray)]).run Tryz.prog w = .ok (.agg (A ++ B).toArray) w := by
  refine run_build w _ _ _ ?_
  rw [built_mac]
  have hz : (hcells zeroSt (List.replicate 64 0) 0 ++ hcells zeroSt (List.replicate 64 0) 0).length = 146 := by rw [List.length_append, hcells_len _ _ _ (by simp)]
  obtain ⟨Z, hZ⟩ : ∃ Z, hcells zeroSt (List.replicate 64 0) 0 ++ hcells zeroSt (List.replicate 64 0) 0 = Z := ⟨_, rfl⟩
  rw [hZ] at hz ⊢
  show Instr.fill _ _ [(0, .agg A.toArray), (1, .agg B.toArray)] = _
  rw [fill_part _ _ 0 0 A _ (by rw [hA]; rfl) (by simp; omega), fill_part _ _ 1 73 B _ (by rw [hB]; rfl) (by simp; omega)]
  rw [Instr.fill]
  congr 2
  simp [hA, hB, hz]
theorem HashAt.kept {w w' : World} {b c : Nat} {st : St} {buf : List UInt8} {n : Nat} (h : HashAt w b st buf n) (k : Kept c w w') (hne : b ≠ c) : HashAt w' b st buf n := ⟨(k.block b h.lt hne).trans h.blk, h.len⟩
section
variable {P : Program} {ops : Array Oper} {Q : Exit → Act → World → Prop} {md : Region.Mode} {fuel : Nat} {listed : Array Bool} {a : Act} {w w' : World} {i : Nat} {op : Oper} {rs : List Nat}
theorem allReady_run (hi' : ops[i]? = some op) (hw : Region.wanted op (yielded ops a.tmps) = true) (v : Value) (hr : (execOp a.eval op).run P w = .ok (.value v) w')
    (h : wpAny P md ops Q fuel (listed.setIfInBounds i true) (a.put op.dst v) w') (hs : AllReady P md ops Q fuel listed a w rs) : AllReady P md ops Q fuel listed a w (i :: rs) :=
  AllReady.cons hi' (fun K' hK => by
    rw [if_pos hw]
    unfold Oper.wp
    rw [hr, Oper.upon_value]
    exact hK _ _ h) hs
theorem allReady_build (hi' : ops[i]? = some op) (hw : Region.wanted op (yielded ops a.tmps) = true) (t : TypeId) (parts : Array (Nat × Operand)) (ho : op.op = .build t parts) (v : Value) (ps : Array (Nat × Value)) (hp : (parts.map fun (i, x) => (i, a.eval x)) = ps)
    (hr : (Instr.build t ps).run P w = .ok v w)
    (h : wpAny P md ops Q fuel (listed.setIfInBounds i true) (a.put op.dst v) w) (hs : AllReady P md ops Q fuel listed a w rs) : AllReady P md ops Q fuel listed a w (i :: rs) :=
  AllReady.cons hi' (fun K' hK => by
    rw [if_pos hw]
    unfold Oper.wp execOp
    simp only [ho, hp, Sem.run_bind, hr, Result.andThen_ok, Sem.run_pure]
    exact hK _ _ h) hs
end
theorem masked36 (K : List UInt8) (w : World) (hK : K.length ≤ 64) :
    Calls Tryz.prog 79 #[.string ⟨K.toArray⟩, .int .u8 54] w fun e w' => e = .returned (.string ⟨(xorL (K ++ List.replicate (64 - K.length) 0) (List.replicate 64 54)).toArray⟩) ∧ Below w.heap.size w w' := masked_any K 54 w hK
theorem masked5c (K : List UInt8) (w : World) (hK : K.length ≤ 64) :
    Calls Tryz.prog 79 #[.string ⟨K.toArray⟩, .int .u8 92] w fun e w' => e = .returned (.string ⟨(xorL (K ++ List.replicate (64 - K.length) 0) (List.replicate 64 92)).toArray⟩) ∧ Below w.heap.size w w' := masked_any K 92 w hK

set_option maxRecDepth 100000 in
set_option maxHeartbeats 4000000 in
theorem keyed_any (key : List UInt8) (w : World) (hk : Cells w 1 .u32 kWords) (h0 : Cells w 0 .u32 hWords) (hlen : key.length ≤ 65536) :
    Calls Tryz.prog 53 #[.string ⟨key.toArray⟩] w fun e w' => ∃ b ist ibuf ost obuf, e = .returned (.pointer (some ⟨b, 0, none⟩)) ∧ MacAt w' b ist ibuf ost obuf ∧ w.heap.size ≤ b ∧ b < w'.heap.size ∧
      Taken ist ibuf (padIn key) ∧ Taken ost obuf (padOut key) ∧ ist.ok ∧ ost.ok ∧ Below w.heap.size w w' := by
  obtain ⟨n, hn⟩ : ∃ n, key.length = n := ⟨_, rfl⟩
  have hni : (n : Int) ≤ 65536 := by omega
  have HN := hide hn
  have hsz : (ByteArray.mk key.toArray).size = n := by simpa [ByteArray.size] using hn
  have hof := of_any ⟨key.toArray⟩ w hk h0 (by rw [hsz]; omega)
  have HOF := hide hof
  have hsl := shortL_len key
  obtain ⟨K, hK⟩ : ∃ K, shortL key = K := ⟨_, rfl⟩
  rw [hK] at hsl
  have HK := hide hK
  have HSL := hide hsl
  have hpi : xorL (K ++ List.replicate (64 - K.length) 0) (List.replicate 64 54) = padIn key := by unfold padIn blockL; rw [hK]
  have hpo : xorL (K ++ List.replicate (64 - K.length) 0) (List.replicate 64 92) = padOut key := by unfold padOut blockL; rw [hK]
  have HM1 := hide (fun w => masked36 K w hsl)
  have HM2 := hide (fun w => masked5c K w hsl)
  rw [hpi] at HM1
  rw [hpo] at HM2
  have l1 := padIn_len key
  have l2 := padOut_len key
  obtain ⟨PI, hPI⟩ : ∃ x, padIn key = x := ⟨_, rfl⟩
  obtain ⟨PO, hPO⟩ : ∃ x, padOut key = x := ⟨_, rfl⟩
  rw [hPI] at l1 HM1 ⊢
  rw [hPO] at l2 HM2 ⊢
  have HL := hide (And.intro l1 l2)
  clear hof hsl hK hpi hpo l1 l2 hPI hPO hlen hn
  go_enter Tryz.func53, Tryz.ntmps53
  by_cases h : 64 < n
  case' pos =>
    have hd : decide ((64 : Int) < (n : Int)) = true := by simp; omega
    go_wp2_with fail
    refine HOF.out.mono ?_
    rintro e w1 ⟨rfl, hb1⟩
    have hk1 := hk.below hb1 hk.lt
    have h01 := h0.below hb1 h0.lt
    have hS : shaL (ByteArray.mk key.toArray).data.toList = K := by
      rw [← HK.out]
      unfold shortL
      rw [if_pos (by rw [HN.out]; exact h)]
    rw [hS]
    clear hS h hd hsz hni
  case' neg =>
    have hd : decide ((64 : Int) < (n : Int)) = false := by simp; omega
    have hS : key = K := by rw [← HK.out]; unfold shortL; rw [if_neg (by rw [HN.out]; exact h)]
    rw [hS] at hsz ⊢
    clear hni hS h
    have hb1 : Below w.heap.size w w := Below.refl _ _
    have hk1 := hk
    have h01 := h0
  all_goals
    clear HOF HN
    have hz1 := hb1.size
    have hkl := hk.lt
    go_wp2_with fail
    refine (start_any _ h01).mono ?_
    rintro e w2 ⟨rfl, hh2, hb2⟩
    have hb2' := hb1.trans (hb2.mono hz1)
    have hz2 := hh2.lt
    have hk2 := hk1.below hb2 hk1.lt
    have h02 := h01.below hb2 h01.lt
    try clear hd
    try clear hsz
    go_wp2_with fail
    refine (HM1.out _).mono ?_
    rintro e w3 ⟨rfl, hb3⟩
    have hb3' := hb2'.trans (hb3.mono (by omega))
    have hh3 := hh2.below hb3 hz2
    have hz3 := hh3.lt
    have hk3 := hk2.below hb3 hk2.lt
    have h03 := h02.below hb3 h02.lt
    clear hh2
    go_wp2_with fail
    have hwr := write_any _ startSt _ [] ⟨PI.toArray⟩ w3 hh3 Taken.start startSt_ok hk3 (by omega) (by simp [ByteArray.size, HL.out.1])
    refine hwr.mono ?_
    rintro e w4 ⟨rfl, st4, buf4, hh4, htk4, hok4, hkp4⟩
    have e4 : ([] : List UInt8).length + (ByteArray.mk PI.toArray).size = 64 := by simp [ByteArray.size, HL.out.1]
    rw [e4] at hh4
    have e5 : [] ++ (ByteArray.mk PI.toArray).data.toList = PI := by simp
    rw [e5] at htk4
    have hb4' := hkp4.below hb3' hz1 (by omega)
    have hk4 := hkp4.cells hk3 (by omega)
    have h04 := hkp4.cells h03 (by omega)
    have hz4 := hh4.lt
    clear hwr e4 e5 hh3 hkp4 hb1 hk1 h01 hb2 hb2' hk2 h02 hb3 hb3' hk3 h03
    go_wp2_with fail
    refine (start_any _ h04).mono ?_
    rintro e w5 ⟨rfl, hh5, hb5⟩
    have hb5' := hb4'.trans (hb5.mono (by omega))
    have hk5 := hk4.below hb5 hk4.lt
    have hi5 := hh4.below hb5 hz4
    have hz5 := hh5.lt
    clear hh4
    go_wp2_with fail
    refine (HM2.out _).mono ?_
    rintro e w6 ⟨rfl, hb6⟩
    have hb6' := hb5'.trans (hb6.mono (by omega))
    have hk6 := hk5.below hb6 hk5.lt
    have hi6 := hi5.below hb6 (by omega)
    have hh6 := hh5.below hb6 hz5
    have hz6 := hh6.lt
    clear hh5 hi5
    go_wp2_with fail
    have hwr := write_any _ startSt _ [] ⟨PO.toArray⟩ w6 hh6 Taken.start startSt_ok hk6 (by omega) (by simp [ByteArray.size, HL.out.2])
    refine hwr.mono ?_
    rintro e w7 ⟨rfl, st7, buf7, hh7, htk7, hok7, hkp7⟩
    have e4 : ([] : List UInt8).length + (ByteArray.mk PO.toArray).size = 64 := by simp [ByteArray.size, HL.out.2]
    rw [e4] at hh7
    have e5 : [] ++ (ByteArray.mk PO.toArray).data.toList = PO := by simp
    rw [e5] at htk7
    have hb7' := hkp7.below hb6' (by omega) (by omega)
    have hi7 := hi6.kept hkp7 (by omega)
    have hz7 := hh7.lt
    have hra1 := hi7.whole
    have hra2 := hh7.whole
    have hil := hi7.len
    have hol := hh7.len
    have hl1 := hcells_len st4 buf4 64 hil
    have hl2 := hcells_len st7 buf7 64 hol
    have hm : mcells st4 buf4 st7 buf7 = hcells st4 buf4 64 ++ hcells st7 buf7 64 := rfl
    obtain ⟨A, hA⟩ : ∃ A, hcells st4 buf4 64 = A := ⟨_, rfl⟩
    obtain ⟨B, hB⟩ : ∃ B, hcells st7 buf7 64 = B := ⟨_, rfl⟩
    rw [hA] at hra1 hl1 hm
    rw [hB] at hra2 hl2 hm
    have HI1 := hide (show (Tryz.prog.info? 132).map (·.size) = some A.length from by rw [hl1]; kernel_rfl)
    have HI2 := hide (show (Tryz.prog.info? 132).map (·.size) = some B.length from by rw [hl2]; kernel_rfl)
    have HBU := hide (build_mac A B hl1 hl2)
    obtain ⟨C, hC⟩ : ∃ C, (A ++ B).toArray = C := ⟨_, rfl⟩
    rw [hC] at HBU
    have HR1 := hide hra1
    have HR2 := hide hra2
    have hCs : C.size = 146 := by rw [← hC]; simp [hl1, hl2]
    have hMC : (mcells st4 buf4 st7 buf7).toArray = C := by rw [hm, hC]
    have HMC := hide (And.intro hMC (And.intro hil hol))
    clear hwr e4 e5 hh6 hi6 hi7 hh7 hkp7 hra1 hra2 hA hB hl1 hl2 hm hC hMC hil hol hb5 hb5' hb6 hb6' hk4 hk5 hk6 h04 hb4'
    go_wp2_with fail
    refine wp_region_any (by kernel_rfl) ?_
    first | refine wpAny_take (i := 0) (v := .pointer (some ⟨w1.heap.size, 0, none⟩)) rfl (by kernel_rfl) (by kernel_rfl) (by kernel_rfl) (fun _ _ _ h => h) (Or.inl ⟨by kernel_rfl, fun w => by kernel_rfl⟩) ?_ | refine wpAny_take (i := 0) (v := .pointer (some ⟨w.heap.size, 0, none⟩)) rfl (by kernel_rfl) (by kernel_rfl) (by kernel_rfl) (fun _ _ _ h => h) (Or.inl ⟨by kernel_rfl, fun w => by kernel_rfl⟩) ?_
    first | refine wpAny_take (i := 1) (v := .pointer (some ⟨w1.heap.size, 0, none⟩)) rfl (by kernel_rfl) (by kernel_rfl) (by kernel_rfl) (fun _ _ _ h => h) (Or.inl ⟨by kernel_rfl, fun w => by kernel_rfl⟩) ?_ | refine wpAny_take (i := 1) (v := .pointer (some ⟨w.heap.size, 0, none⟩)) rfl (by kernel_rfl) (by kernel_rfl) (by kernel_rfl) (fun _ _ _ h => h) (Or.inl ⟨by kernel_rfl, fun w => by kernel_rfl⟩) ?_
    refine wpAny_take (i := 3) (v := .pointer (some ⟨w4.heap.size, 0, none⟩)) rfl (by kernel_rfl) (by kernel_rfl) (by kernel_rfl) (fun _ _ _ h => h) (Or.inl ⟨by kernel_rfl, fun w => by kernel_rfl⟩) ?_
    refine wpAny_take (i := 4) (v := .pointer (some ⟨w4.heap.size, 0, none⟩)) rfl (by kernel_rfl) (by kernel_rfl) (by kernel_rfl) (fun _ _ _ h => h) (Or.inl ⟨by kernel_rfl, fun w => by kernel_rfl⟩) ?_
    refine wpAny_ready (rs := [2, 5]) (by kernel_rfl) (by simp) ?_
    refine allReady_load rfl (by kernel_rfl) 132 _ rfl _ 0 (by kernel_rfl) A _ HR1.out Tryz.underlying132 rfl HI1.out ?_ (allReady_load rfl (by kernel_rfl) 132 _ rfl _ 0 (by kernel_rfl) B _ HR2.out Tryz.underlying132 rfl HI2.out ?_ AllReady.nil)
    · refine wpAny_ready (rs := [5]) (by kernel_rfl) (by simp) ?_
      refine allReady_load rfl (by kernel_rfl) 132 _ rfl _ 0 (by kernel_rfl) B _ HR2.out Tryz.underlying132 rfl HI2.out ?_ AllReady.nil
      refine wpAny_ready (rs := [6]) (by kernel_rfl) (by simp) ?_
      refine allReady_build rfl (by kernel_rfl) 140 _ rfl (.agg C) #[(0, .agg A.toArray), (1, .agg B.toArray)] (by kernel_rfl) (HBU.out _) ?_ AllReady.nil
      refine wpAny_ready (rs := [7]) (by kernel_rfl) (by simp) ?_
      refine allReady_run rfl (by kernel_rfl) (.pointer (some ⟨w7.heap.size, 0, none⟩)) (w' := w7.drew.alloc (.cells C 140)) (by kernel_rfl) ?_ AllReady.nil
      refine wpAny_ready (rs := [8]) (by kernel_rfl) (by simp) ?_
      refine allReady_run rfl (by kernel_rfl) (.pointer (some ⟨w7.heap.size, 0, none⟩)) (w' := w7.drew.alloc (.cells C 140)) (by kernel_rfl) ?_ AllReady.nil
      refine wpAny_done (by kernel_rfl) ?_ _
      go_wp2_with fail
      go_ret
      exact ⟨w7.heap.size, st4, buf4, st7, buf7, by kernel_rfl, ⟨by rw [HMC.out.1]; exact heap_alloc_new w7.drew _, HMC.out.2.1, HMC.out.2.2⟩, by omega, by simp, htk4, htk7, hok4, hok7, (hb7'.drew).alloc (by show _ ≤ w7.heap.size; omega) _⟩
    · refine wpAny_ready (rs := [2]) (by kernel_rfl) (by simp) ?_
      refine allReady_load rfl (by kernel_rfl) 132 _ rfl _ 0 (by kernel_rfl) A _ HR1.out Tryz.underlying132 rfl HI1.out ?_ AllReady.nil
      refine wpAny_ready (rs := [6]) (by kernel_rfl) (by simp) ?_
      refine allReady_build rfl (by kernel_rfl) 140 _ rfl (.agg C) #[(0, .agg A.toArray), (1, .agg B.toArray)] (by kernel_rfl) (HBU.out _) ?_ AllReady.nil
      refine wpAny_ready (rs := [7]) (by kernel_rfl) (by simp) ?_
      refine allReady_run rfl (by kernel_rfl) (.pointer (some ⟨w7.heap.size, 0, none⟩)) (w' := w7.drew.alloc (.cells C 140)) (by kernel_rfl) ?_ AllReady.nil
      refine wpAny_ready (rs := [8]) (by kernel_rfl) (by simp) ?_
      refine allReady_run rfl (by kernel_rfl) (.pointer (some ⟨w7.heap.size, 0, none⟩)) (w' := w7.drew.alloc (.cells C 140)) (by kernel_rfl) ?_ AllReady.nil
      refine wpAny_done (by kernel_rfl) ?_ _
      go_wp2_with fail
      go_ret
      exact ⟨w7.heap.size, st4, buf4, st7, buf7, by kernel_rfl, ⟨by rw [HMC.out.1]; exact heap_alloc_new w7.drew _, HMC.out.2.1, HMC.out.2.2⟩, by omega, by simp, htk4, htk7, hok4, hok7, (hb7'.drew).alloc (by show _ ≤ w7.heap.size; omega) _⟩
end Go.Proofs.YtkhgkkkalanoiaaGreatDoor
