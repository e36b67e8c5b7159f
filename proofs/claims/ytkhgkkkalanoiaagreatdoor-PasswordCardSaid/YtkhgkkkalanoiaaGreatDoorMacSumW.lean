import Derived.Test.YtkhgkkkalanoiaaGreatDoorKeyedW
namespace Go.Proofs.YtkhgkkkalanoiaaGreatDoor
open Go.RowKit
theorem MacAt.lt {w : World} {b : Nat} {ist : St} {ibuf : List UInt8} {ost : St} {obuf : List UInt8} (h : MacAt w b ist ibuf ost obuf) : b < w.heap.size := by
  have := h.blk
  rcases Nat.lt_or_ge b w.heap.size with g | g
  · exact g
  · rw [Array.getElem?_eq_none g] at this; cases this
theorem MacAt.inner {w : World} {b : Nat} {ist : St} {ibuf : List UInt8} {ost : St} {obuf : List UInt8} (h : MacAt w b ist ibuf ost obuf) : w.rangeAt b 0 (hcells ist ibuf 64) := by
  intro j v hv
  rw [Nat.zero_add, cell_of_row _ _ _ _ _ _ h.blk]
  have hj : j < (hcells ist ibuf 64).length := by
    rcases Nat.lt_or_ge j (hcells ist ibuf 64).length with g | g
    · exact g
    · rw [List.getElem?_eq_none g] at hv; cases hv
  simpa [mcells, List.getElem?_append_left hj] using hv
theorem MacAt.outer {w : World} {b : Nat} {ist : St} {ibuf : List UInt8} {ost : St} {obuf : List UInt8} (h : MacAt w b ist ibuf ost obuf) : w.rangeAt b 73 (hcells ost obuf 64) := by
  intro j v hv
  rw [cell_of_row _ _ _ _ _ _ h.blk]
  have hl := hcells_len ist ibuf 64 h.il
  rw [List.getElem?_toArray, mcells, List.getElem?_append_right (by omega), hl]
  simpa using hv
/-- A copy of a Hash in a new box. -/
theorem boxed {w : World} {Z : Array Value} {st : St} {buf : List UInt8} {n : Nat} {A : List Value} (hZ : Z.size = 73) (hA : hcells st buf n = A) (hbl : buf.length = 64) :
    HashAt ((w.alloc (.cells Z 132)).setCells w.heap.size 0 A) w.heap.size st buf n ∧ Below w.heap.size w ((w.alloc (.cells Z 132)).setCells w.heap.size 0 A) ∧ ((w.alloc (.cells Z 132)).setCells w.heap.size 0 A).heap.size = w.heap.size + 1 := by
  have hl : A.length = 73 := by rw [← hA]; exact hcells_len st buf n hbl
  refine ⟨⟨?_, hbl⟩, ((Below.refl _ _).alloc (Nat.le_refl _) _).trans (below_setCells _ _ _ _ _ (Nat.le_refl _)), by rw [(setCells_block _ _ _ _).1]; simp⟩
  rw [hA]; exact setCells_all w 132 Z A (by rw [hZ, hl])

set_option maxRecDepth 100000 in
set_option maxHeartbeats 2000000 in
theorem macSum_any (b : Nat) (ist ost : St) (ibuf obuf key t : List UInt8) (w : World) (hm : MacAt w b ist ibuf ost obuf) (hti : Taken ist ibuf (padIn key)) (hto : Taken ost obuf (padOut key)) (hoki : ist.ok) (hoko : ost.ok)
    (hk : Cells w 1 .u32 kWords) (ht : t.length ≤ 70000) :
    Calls Tryz.prog 54 #[.pointer (some ⟨b, 0, none⟩), .string ⟨t.toArray⟩] w fun e w' => e = .returned (.string ⟨(macL key t).toArray⟩) ∧ Below w.heap.size w w' := by
  have hzv : ∀ w, (zeroValue 132).run Tryz.prog w = .ok (.agg (hcells zeroSt (List.replicate 64 0) 0).toArray) w := fun _ => by kernel_rfl
  obtain ⟨Z, hZ⟩ : ∃ x, (hcells zeroSt (List.replicate 64 0) 0).toArray = x := ⟨_, rfl⟩
  rw [hZ] at hzv
  have hZs : Z.size = 73 := by rw [← hZ]; rfl
  have hra1 := hm.inner
  have hil := hm.il
  have hol := hm.ol
  have hl1 := hcells_len ist ibuf 64 hil
  have hl2 := hcells_len ost obuf 64 hol
  have ho1 := hcells_one ist ibuf 64
  have ho2 := hcells_one ost obuf 64
  have hblt := hm.lt
  have hM : shaL (padOut key ++ shaL (padIn key ++ t)) = macL key t := rfl
  have l1 := padIn_len key
  have l2 := padOut_len key
  obtain ⟨M, hMM⟩ : ∃ M, macL key t = M := ⟨_, rfl⟩
  rw [hMM] at hM ⊢
  obtain ⟨PI, hPI⟩ : ∃ x, padIn key = x := ⟨_, rfl⟩
  obtain ⟨PO, hPO⟩ : ∃ x, padOut key = x := ⟨_, rfl⟩
  rw [hPI] at l1 hM hti
  rw [hPO] at l2 hM hto
  obtain ⟨A, hA⟩ : ∃ A, hcells ist ibuf 64 = A := ⟨_, rfl⟩
  obtain ⟨B, hB⟩ : ∃ B, hcells ost obuf 64 = B := ⟨_, rfl⟩
  rw [hA] at hra1 hl1 ho1
  rw [hB] at hl2 ho2
  have HI1 := hide (show (Tryz.prog.info? 132).map (·.size) = some A.length from by rw [hl1]; kernel_rfl)
  have HI2 := hide (show (Tryz.prog.info? 132).map (·.size) = some B.length from by rw [hl2]; kernel_rfl)
  have HI1' := hide (show (Tryz.prog.info? 132).map (·.size) = some A.toArray.size from by rw [List.size_toArray, hl1]; kernel_rfl)
  have HI2' := hide (show (Tryz.prog.info? 132).map (·.size) = some B.toArray.size from by rw [List.size_toArray, hl2]; kernel_rfl)
  have HL := hide (And.intro l1 (And.intro l2 (And.intro hl1 hl2)))
  have HAB := hide (And.intro hA hB)
  have HR1 := hide hra1
  have HM := hide hM
  have HT := hide ht
  obtain ⟨hx1, hx2, hx3⟩ := boxed (w := w) hZs hA hil
  have HX := hide (And.intro hx1 (And.intro hx2 hx3))
  have hkl := hk.lt
  clear hZ hra1 hl1 hl2 l1 l2 hM hMM hPI hPO hA hB hx1 hx2 hx3 ht
  go_enter Tryz.func54, Tryz.ntmps54
  go_wp2_with (first | refine wpList_load_mid rfl 132 _ rfl b 0 rfl A _ HR1.out Tryz.underlying132 rfl HI1.out ?_ | refine wpList_store_mid rfl 132 _ _ rfl w.heap.size 0 A.toArray rfl rfl ?c1 HI1'.out (all_oneCell_toArray ho1) ?_)
  case c1 =>
    have e : A.toArray.size = Z.size := by rw [hZs]; simpa using HL.out.2.2.1
    rw [e]
    exact there_new w _ _
  obtain ⟨hh1, hb1, hs1⟩ := HX.out
  have hm1 := hm.below hb1 hblt
  have hk1 := hk.below hb1 hkl
  generalize hW1 : (w.alloc (.cells Z 132)).setCells w.heap.size 0 A = w1 at *
  clear hW1 HX HR1
  have e64 : PI.length = 64 := HL.out.1
  rw [← e64] at hh1
  have hwr := write_any w.heap.size ist ibuf PI ⟨t.toArray⟩ w1 hh1 hti hoki hk1 (by omega) (by rw [e64]; have := HT.out; simp [ByteArray.size]; omega)
  refine hwr.mono ?_
  rintro e w2 ⟨rfl, st2, buf2, hh2, htk2, hok2, hkp2⟩
  have hk2 := hkp2.cells hk1 (by omega)
  have hm2 : MacAt w2 b ist ibuf ost obuf := ⟨(hkp2.block b hm1.lt (by omega)).trans hm1.blk, hil, hol⟩
  have hb2' := hkp2.below hb1 (Nat.le_refl _) (by omega)
  have e2 : PI ++ (ByteArray.mk t.toArray).data.toList = PI ++ t := by simp
  have e3 : PI.length + (ByteArray.mk t.toArray).size = (PI ++ t).length := by simp [ByteArray.size]
  rw [e2] at htk2
  rw [e3] at hh2
  have hz2 := hh2.lt
  have hlt : (PI ++ t).length ≤ 900000 := by rw [List.length_append, e64]; have := HT.out; omega
  obtain ⟨PT, hPT⟩ : ∃ x, PI ++ t = x := ⟨_, rfl⟩
  rw [hPT] at htk2 hh2 hlt HM
  have HLT := hide hlt
  clear hwr e2 e3 e64 hPT hlt hh1 hkp2 hm hm1 hk hk1 hti
  go_wp2_with fail
  refine (sum_any w.heap.size st2 buf2 PT w2 hh2 htk2 hok2 hk2 HLT.out).mono ?_
  rintro e w3 ⟨rfl, hb3⟩
  have hk3 := hk2.below hb3 hk2.lt
  have hm3 := hm2.below hb3 hm2.lt
  have hb3' := hb2'.trans (hb3.mono (by omega))
  have hz3 := hb3'.size
  have hra2 := hm3.outer
  rw [HAB.out.2] at hra2
  have HR2 := hide hra2
  have hbl3 := hm3.lt
  obtain ⟨D, hD⟩ : ∃ D, shaL PT = D := ⟨_, rfl⟩
  have hDl : D.length = 32 := by rw [← hD, shaL_len]
  rw [hD] at HM ⊢
  have HDL := hide hDl
  have HX := hide (boxed (w := w3) hZs HAB.out.2 hol)
  have hkl3 := hk3.lt
  clear hh2 htk2 hok2 hk2 hm2 hb2' hra2 hD hDl HI1 HI1' ho1 hb3 hb1
  go_wp2_with (first | refine wpList_load_mid rfl 132 _ rfl b 73 rfl B _ HR2.out Tryz.underlying132 rfl HI2.out ?_ | refine wpList_store_mid rfl 132 _ _ rfl w3.heap.size 0 B.toArray rfl rfl ?c1 HI2'.out (all_oneCell_toArray ho2) ?_)
  case c1 =>
    have e : B.toArray.size = Z.size := by rw [hZs]; simpa using HL.out.2.2.2
    rw [e]
    exact there_new w3 _ _
  obtain ⟨hh4, hb4, hs4⟩ := HX.out
  have hk4 := hk3.below hb4 hkl3
  generalize hW4 : (w3.alloc (.cells Z 132)).setCells w3.heap.size 0 B = w4 at *
  clear hW4 HX HR2
  have e64 : PO.length = 64 := HL.out.2.1
  rw [← e64] at hh4
  have hwr := write_any w3.heap.size ost obuf PO ⟨D.toArray⟩ w4 hh4 hto hoko hk4 (by omega) (by rw [e64]; have := HDL.out; simp [ByteArray.size]; omega)
  refine hwr.mono ?_
  rintro e w5 ⟨rfl, st5, buf5, hh5, htk5, hok5, hkp5⟩
  have hk5 := hkp5.cells hk4 (by omega)
  have hb5' := hkp5.below (hb3'.trans (hb4.mono hz3)) hz3 (by omega)
  have e2 : PO ++ (ByteArray.mk D.toArray).data.toList = PO ++ D := by simp
  have e3 : PO.length + (ByteArray.mk D.toArray).size = (PO ++ D).length := by simp [ByteArray.size]
  rw [e2] at htk5
  rw [e3] at hh5
  have hz5 := hh5.lt
  have hlt : (PO ++ D).length ≤ 900000 := by rw [List.length_append, e64, HDL.out]; decide
  obtain ⟨PD, hPD⟩ : ∃ x, PO ++ D = x := ⟨_, rfl⟩
  rw [hPD] at htk5 hh5 hlt HM
  have HLT2 := hide hlt
  clear hwr e2 e3 e64 hPD hlt hh4 hkp5
  go_wp2_with fail
  refine (sum_any w3.heap.size st5 buf5 PD w5 hh5 htk5 hok5 hk5 HLT2.out).mono ?_
  rintro e w6 ⟨rfl, hb6⟩
  rw [HM.out]
  go_wp2_with fail
  go_ret
  exact ⟨rfl, hb5'.trans (hb6.mono (by omega))⟩
end Go.Proofs.YtkhgkkkalanoiaaGreatDoor
