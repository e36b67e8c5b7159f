import Derived.Test.YtkhgkkkalanoiaaGreatDoorHashW
namespace Go.Proofs.YtkhgkkkalanoiaaGreatDoor
open Go.RowKit
def zeroSt : St := ⟨0, 0, 0, 0, 0, 0, 0, 0⟩
theorem HashAt.whole {w : World} {b : Nat} {st : St} {buf : List UInt8} {n : Nat} (h : HashAt w b st buf n) : w.rangeAt b 0 (hcells st buf n) := by
  intro j v hv
  rw [Nat.zero_add, cell_of_row _ _ _ _ _ _ h.blk]
  simpa using hv
theorem hcells_one (st : St) (buf : List UInt8) (n : Nat) : ∀ v ∈ hcells st buf n, v.oneCell' = true := by
  intro v hv
  simp only [hcells, List.mem_append, List.mem_singleton] at hv
  rcases hv with (hv | hv) | hv
  · exact vals_one _ _ v hv
  · rw [← vals_nats] at hv; exact vals_one _ _ v hv
  · subst hv; rfl
set_option maxRecDepth 100000 in
set_option maxHeartbeats 2000000 in
theorem sum_any (b : Nat) (st : St) (buf : List UInt8) (T : List UInt8) (w : World) (hh : HashAt w b st buf T.length) (htk : Taken st buf T) (hok : st.ok) (hk : Cells w 1 .u32 kWords) (hlen : T.length ≤ 900000) :
    Calls Tryz.prog 51 #[.pointer (some ⟨b, 0, none⟩)] w fun e w' => e = .returned (.string ⟨(shaL T).toArray⟩) ∧ Below w.heap.size w w' := by
  obtain ⟨n, hn⟩ : ∃ n, T.length = n := ⟨_, rfl⟩
  have hni : (n : Int) ≤ 900000 := by omega
  rw [hn] at hh
  have HN := hide hn
  have hl73 := hcells_len st buf n hh.len
  have hone := hcells_one st buf n
  have hra := hh.whole
  have cs := hh.size
  have hblt := hh.lt
  obtain ⟨HCL, hHC⟩ : ∃ x, hcells st buf n = x := ⟨_, rfl⟩
  have HH := hide hh
  rw [hHC] at hl73 hone hra
  have HI := hide (show (Tryz.prog.info? 132).map (·.size) = some HCL.length from by rw [hl73]; kernel_rfl)
  have HI' := hide (show (Tryz.prog.info? 132).map (·.size) = some HCL.toArray.size from by rw [List.size_toArray, hl73]; kernel_rfl)
  have HRA := hide hra
  have HL := hide hl73
  have HHC := hide hHC
  have hzv : ∀ w, (zeroValue 132).run Tryz.prog w = .ok (.agg (hcells zeroSt (List.replicate 64 0) 0).toArray) w := fun _ => by kernel_rfl
  obtain ⟨Z, hZ⟩ : ∃ x, (hcells zeroSt (List.replicate 64 0) 0).toArray = x := ⟨_, rfl⟩
  rw [hZ] at hzv
  have hZs : Z.size = 73 := by rw [← hZ]; rfl
  clear hn hra hl73 hHC hh hlen hZ
  have hblk := setCells_all w 132 Z HCL (by rw [hZs, HL.out])
  have hb2 : Below w.heap.size w ((w.alloc (.cells Z 132)).setCells w.heap.size 0 HCL) := ((Below.refl _ _).alloc (Nat.le_refl _) _).trans (below_setCells _ _ _ _ _ (Nat.le_refl _))
  have hc2 : ((w.alloc (.cells Z 132)).setCells w.heap.size 0 HCL).cell? ⟨b, 72, none⟩ = some (.int .u64 (n : Int)) := (hb2.cell (p := ⟨b, 72, none⟩) hblt).trans cs
  have HBLK := hide hblk
  have HB2 := hide hb2
  clear hblk hb2 cs
  go_enter Tryz.func51, Tryz.ntmps51
  go_wp2_with (first | refine wpList_load_mid rfl 132 _ rfl b 0 rfl HCL _ HRA.out Tryz.underlying132 rfl HI.out ?_ | refine wpList_store_mid rfl 132 _ _ rfl w.heap.size 0 HCL.toArray rfl rfl ?c1 HI'.out (all_oneCell_toArray hone) ?_)
  case c1 =>
    have e : HCL.toArray.size = Z.size := by rw [hZs]; simpa using HL.out
    rw [e]
    exact there_new w _ _
  refine (padding_any n _ (by omega)).mono ?_
  rintro e w3 ⟨rfl, hb3⟩
  have hpl := padL_len n
  obtain ⟨Pd, hPd⟩ : ∃ x, padL n = x := ⟨_, rfl⟩
  have hH2 : HashAt ((w.alloc (.cells Z 132)).setCells w.heap.size 0 HCL) w.heap.size st buf T.length := ⟨by rw [HN.out, HHC.out]; exact HBLK.out, HH.out.len⟩
  have hNs : ((w.alloc (.cells Z 132)).setCells w.heap.size 0 HCL).heap.size = w.heap.size + 1 := by rw [(setCells_block _ _ _ _).1]; simp
  have hH3 := hH2.below hb3 (by rw [hNs]; omega)
  have hk3 := (hk.below HB2.out hk.lt).below hb3 (by rw [hNs]; have := hk.lt; omega)
  have hbel3 : Below w.heap.size w w3 := HB2.out.trans (hb3.mono (by rw [hNs]; omega))
  have hz3 := hH3.lt
  have hkl := hk.lt
  rw [hPd] at hpl ⊢
  have hps : (ByteArray.mk Pd.toArray).size = padZ n + 9 := by simpa [ByteArray.size] using hpl
  have hzl := padZ_lt n
  have HPD := hide hPd
  have hwr := write_any w.heap.size st buf T ⟨Pd.toArray⟩ w3 hH3 htk hok hk3 (by omega) (by rw [hps, HN.out]; omega)
  have HWR := hide hwr
  clear hwr hH2 hH3 hb3 hPd hpl hps hNs hc2
  go_wp2_with fail
  refine HWR.out.mono ?_
  rintro e w4 ⟨rfl, st4, buf4, hh4, htk4, hok4, hkp4⟩
  have hrw := hh4.words
  have HI8 := hide (show (Tryz.prog.info? 128).map (·.size) = some (vals .u32 st4.list).length from by kernel_rfl)
  have hdg : digest st4 = shaL T := by
    have h1 : Pd = padL T.length := by rw [HN.out, HPD.out]
    rw [h1] at htk4
    exact Taken.digest htk4
  have HDG := hide hdg
  have HRW := hide hrw
  have hbel4 := hkp4.below hbel3 (Nat.le_refl _) (by omega)
  have hz4 := hh4.lt
  clear hdg hrw hkp4 HWR hh4 htk4
  go_wp2_with (refine wpList_load_mid rfl 128 _ rfl w.heap.size 0 rfl (vals .u32 st4.list) _ HRW.out Tryz.underlying128 rfl HI8.out ?_)
  refine (wordsText_any st4 _ hok4).mono ?_
  rintro e w5 ⟨rfl, hb5⟩
  go_wp2_with fail
  go_ret
  exact ⟨by rw [HDG.out]; rfl, hbel4.trans (hb5.mono (by omega))⟩

set_option maxRecDepth 100000 in
set_option maxHeartbeats 2000000 in
theorem of_any (s : ByteArray) (w : World) (hk : Cells w 1 .u32 kWords) (h0 : Cells w 0 .u32 hWords) (hlen : s.size ≤ 900000) :
    Calls Tryz.prog 28 #[.string s] w fun e w' => e = .returned (.string ⟨(shaL s.data.toList).toArray⟩) ∧ Below w.heap.size w w' := by
  have hkl := hk.lt
  go_enter Tryz.func28, Tryz.ntmps28
  go_wp2_with fail
  refine (start_any _ h0).mono ?_
  rintro e w1 ⟨rfl, hh1, hb1⟩
  have hz1 := hh1.lt
  have hk1 := hk.below hb1 hk.lt
  go_wp2_with fail
  refine (write_any w.heap.size startSt _ [] s w1 hh1 Taken.start startSt_ok hk1 (by omega) (by simpa using (by omega : s.size ≤ 1000000))).mono ?_
  rintro e w2 ⟨rfl, st2, buf2, hh2, htk2, hok2, hkp2⟩
  rw [List.nil_append] at htk2
  have hk2 := hkp2.cells hk1 (by omega)
  have hz2 := hh2.lt
  have hbel2 := hkp2.below hb1 (Nat.le_refl _) (by omega)
  have hl : ([] : List UInt8).length + s.size = s.data.toList.length := by simp
  rw [hl] at hh2
  clear hl hh1 hkp2
  go_wp2_with fail
  refine (sum_any w.heap.size st2 buf2 s.data.toList w2 hh2 htk2 hok2 hk2 (by simpa using hlen)).mono ?_
  rintro e w3 ⟨rfl, hb3⟩
  go_wp2_with fail
  go_ret
  exact ⟨rfl, hbel2.trans (hb3.mono (by omega))⟩
end Go.Proofs.YtkhgkkkalanoiaaGreatDoor
