import Derived.Test.YtjnhlkaafnaooabGreatDoorCtrW
namespace Go.Proofs.YtjnhlkaafnaooabGreatDoor
open Go.RowKit
/-- A new variable, and an element stored into it. -/
theorem new_el {w w3 : World} {x : Nat} (h : Hid (w3 = (w.alloc (.cells #[.int .u64 0, .int .u64 0] 204)).setCells w.heap.size 0 (elA x).toList)) : El w3 w.heap.size x ∧ Below w.heap.size w w3 ∧ w.heap.size < w3.heap.size := by
  have h0 : El (w.alloc (.cells #[.int .u64 0, .int .u64 0] 204)) w.heap.size 0 := heap_alloc_new w _
  have h1 := h0.store x
  rw [← h.out] at h1
  refine ⟨h1, ?_, h1.lt⟩
  rw [h.out]
  exact ((Below.refl _ _).alloc (Nat.le_refl _) _).trans (below_setCells _ _ _ _ _ (Nat.le_refl _))
theorem new_there (w : World) : (w.alloc (.cells #[.int .u64 0, .int .u64 0] 204)).there w.heap.size 0 2 := El.there (e := 0) (heap_alloc_new w _)
set_option maxRecDepth 100000 in
set_option maxHeartbeats 400000 in
theorem tag_any (kb : Nat) (rk nonce a c : List UInt8) (w : World) (hk : KeyAt w kb rk) (ha : a.length ≤ 4096) (hc : c.length ≤ 4096) :
    Calls Tryz.prog 145 #[.pointer (some ⟨kb, 0, none⟩), .string ⟨nonce.toArray⟩, .string ⟨a.toArray⟩, .string ⟨c.toArray⟩] w fun x w' => x = .returned (.string ⟨(tagL rk (fillL nonce 12) a c).toArray⟩) ∧ Below w.heap.size w w' := by
  have hzv : ∀ w, (zeroValue 206).run Tryz.prog w = .ok (.agg (bvals (List.replicate 16 0)).toArray) w := fun _ => by kernel_rfl
  have hrl := hk.len
  have hklt := hk.lt
  have hZl : (List.replicate 16 (0 : UInt8)).length = 16 := by simp
  have HKD := hide (show numL (aesL rk (List.replicate 16 0)) = hashKey rk from rfl)
  have hHl := aesL_len rk (List.replicate 16 0) hrl (by simp)
  obtain ⟨Z, hZ⟩ : ∃ x, List.replicate 16 (0 : UInt8) = x := ⟨_, rfl⟩
  rw [hZ] at hzv hZl HKD hHl
  clear hZ
  go_enter Tryz.func145, Tryz.ntmps145
  go_wp2_with fail
  refine (encrypt_any kb rk Z w hk hZl).mono ?_
  rintro e w1 ⟨rfl, hb1⟩
  generalize aesL rk Z = E0 at *
  go_wp2_with fail
  refine (elementOf_any E0 w1 hHl).mono ?_
  rintro e w2 ⟨rfl, hb2⟩
  rw [HKD.out]
  have hb2' := hb1.trans (hb2.mono hb1.size)
  have hHlt := hashKey_lt rk hrl
  have HHL := hide hHlt
  clear HKD hb1 hb2 hHlt hHl
  obtain ⟨H, hH⟩ : ∃ H, hashKey rk = H := ⟨_, rfl⟩
  have HH := hide hH
  rw [hH] at HHL ⊢
  clear hH
  go_wp2_with (refine wpList_store_el rfl 204 _ _ rfl w2.heap.size 0 (elA H) rfl rfl (new_there w2) (infoElA' _) (elA_one _) ?_)
  intro w3 hw3
  obtain ⟨eh3, hb3, gl3⟩ := new_el hw3
  have hbw3 := hb2'.trans (hb3.mono hb2'.size)
  have hNg := hb2'.size
  obtain ⟨gh, hgh⟩ : ∃ g, w2.heap.size = g := ⟨_, rfl⟩
  rw [hgh] at eh3 gl3 hNg ⊢
  have HR3 := hide eh3.range
  clear hw3 hb3 hgh hb2'
  go_wp2_with (refine wpList_load_mid rfl 204 _ rfl gh 0 rfl (elA H).toList _ HR3.out Tryz.underlying204 rfl (infoElA _) ?_)
  have HAC := hide (And.intro ha hc)
  refine (absorb_any 0 H a w3 (by decide) HHL.out (by have := HAC.out.1; omega)).mono ?_
  rintro e w4 ⟨rfl, hb4⟩
  have hY1 : ghN H 0 (blocksN a) < 2 ^ 128 := ghN_lt _ _ _ HHL.out (by decide)
  have HY1 := hide hY1
  have eh4 := eh3.below hb4 gl3
  have hbw4 := hbw3.trans (hb4.mono hbw3.size)
  have hg4 := eh4.lt
  clear ha hc hY1 eh3 HR3 gl3 hb4 hbw3
  obtain ⟨Y1, hYY1⟩ : ∃ y, ghN H 0 (blocksN a) = y := ⟨_, rfl⟩
  have HYY1 := hide hYY1
  rw [hYY1] at HY1 ⊢
  clear hYY1
  go_wp2_with (refine wpList_store_el rfl 204 _ _ rfl w4.heap.size 0 (elA Y1) rfl rfl (new_there w4) (infoElA' _) (elA_one _) ?_)
  intro w5 hw5
  obtain ⟨ey5, hb5, gl5⟩ := new_el hw5
  have eh5 := eh4.below hb5 hg4
  have hbw5 := hbw4.trans (hb5.mono hbw4.size)
  have hNy := hbw4.size
  obtain ⟨gy, hgy⟩ : ∃ g, w4.heap.size = g := ⟨_, rfl⟩
  rw [hgy] at ey5 gl5 hNy hg4 ⊢
  have HRy := hide ey5.range
  have HRh := hide eh5.range
  clear hw5 hb5 hgy hbw4 eh4
  go_wp2_with (first | refine wpList_load_mid rfl 204 _ rfl gy 0 rfl (elA Y1).toList _ HRy.out Tryz.underlying204 rfl (infoElA _) ?_ | refine wpList_load_mid rfl 204 _ rfl gh 0 rfl (elA H).toList _ HRh.out Tryz.underlying204 rfl (infoElA _) ?_)
  refine (absorb_any Y1 H c w5 HY1.out HHL.out (by have := HAC.out.2; omega)).mono ?_
  rintro e w6 ⟨rfl, hb6⟩
  have hY2 : ghN H Y1 (blocksN c) < 2 ^ 128 := ghN_lt _ _ _ HHL.out HY1.out
  have HY2 := hide hY2
  have ey6 := ey5.below hb6 gl5
  have eh6 := eh5.below hb6 (by omega)
  have hbw6 := hbw5.trans (hb6.mono hbw5.size)
  obtain ⟨Y2, hYY2⟩ : ∃ y, ghN H Y1 (blocksN c) = y := ⟨_, rfl⟩
  have HYY2 := hide hYY2
  rw [hYY2] at HY2 ⊢
  have HTy := hide ey6.there
  clear hY2 hYY2 ey5 eh5 HRy HRh gl5 hb6 hbw5
  go_wp2_with (refine wpList_store_el rfl 204 _ _ rfl gy 0 (elA Y2) rfl rfl HTy.out (infoElA' _) (elA_one _) ?_)
  intro w7 hw7
  have ey7 := ey6.store Y2
  have eh7 := eh6.other (elA Y2).toList (show gh ≠ gy by omega)
  have hbw7 := hbw6.trans (below_setCells w6 w.heap.size gy 0 (elA Y2).toList (by omega))
  rw [← hw7.out] at ey7 eh7 hbw7
  have hgy7 := ey7.lt
  clear hw7 ey6 eh6 hbw6 HTy
  have hsa : (ByteArray.mk a.toArray).size = a.length := by simp [ByteArray.size]
  have hsc : (ByteArray.mk c.toArray).size = c.length := by simp [ByteArray.size]
  have hla := HAC.out.1
  have hlc := HAC.out.2
  have HLN := hide (show lensN a c = 8 * a.length * 2 ^ 64 + 8 * c.length from rfl)
  obtain ⟨la, hlla⟩ : ∃ n, a.length = n := ⟨_, rfl⟩
  obtain ⟨lc, hllc⟩ : ∃ n, c.length = n := ⟨_, rfl⟩
  rw [hlla] at hsa hla HLN
  rw [hllc] at hsc hlc HLN
  have hlai : (la : Int) ≤ 4096 := by omega
  have hlci : (lc : Int) ≤ 4096 := by omega
  have helA : elA (lensN a c) = #[.int .u64 ((la : Int) * 8), .int .u64 ((lc : Int) * 8)] := by
    rw [HLN.out]
    unfold elA
    have e1 : (8 * la * 2 ^ 64 + 8 * lc) / 2 ^ 64 = la * 8 := by omega
    have e2 : (8 * la * 2 ^ 64 + 8 * lc) % 2 ^ 64 = lc * 8 := by omega
    rw [e1, e2]; simp
  have hel8 : El (w7.alloc (.cells #[.int .u64 ((la : Int) * 8), .int .u64 ((lc : Int) * 8)] 204)) w7.heap.size (lensN a c) := by
    rw [← helA]; exact heap_alloc_new w7 _
  have hb8 : Below w7.heap.size w7 (w7.alloc (.cells #[.int .u64 ((la : Int) * 8), .int .u64 ((lc : Int) * 8)] 204)) := (Below.refl _ _).alloc (Nat.le_refl _) _
  have hLl : lensN a c < 2 ^ 128 := by rw [HLN.out]; omega
  have HLL := hide hLl
  have HE8 := hide (And.intro hel8 hb8)
  clear hlla hllc hla hlc helA hel8 hb8 hLl
  go_wp2_with fail
  obtain ⟨el8, hb8⟩ := HE8.out
  have ey8 := ey7.below hb8 hgy7
  have eh8 := eh7.below hb8 eh7.lt
  have hbw8 := hbw7.trans (hb8.mono hbw7.size)
  have hgl := hgy7
  obtain ⟨gl, hgl'⟩ : ∃ g, w7.heap.size = g := ⟨_, rfl⟩
  generalize w7.alloc (.cells #[.int .u64 ((la : Int) * 8), .int .u64 ((lc : Int) * 8)] 204) = w8 at *
  rw [hgl'] at el8 hgl ⊢
  clear HE8 hb8 ey7 eh7 hbw7 hgl' hsa hsc hlai hlci
  obtain ⟨L, hL⟩ : ∃ l, lensN a c = l := ⟨_, rfl⟩
  rw [hL] at el8 HLL HLN
  have HLD := hide hL
  clear hL
  have ey8d : El w8.drew gy Y2 := ey8
  have eh8d : El w8.drew gh H := eh8
  have el8d : El w8.drew gl L := el8
  refine wp_region_held_drew (S := fun w' => El w' gh H ∧ El w' gl L) (by kernel_rfl) ⟨eh8d, el8d⟩ ?_
  intro hS
  refine wpAnyH_take (i := 1) rfl (by kernel_rfl) (by kernel_rfl) (by kernel_rfl) (fun _ _ _ h => h) (yieldsIf_load_mid (by kernel_rfl) 204 _ rfl gl 0 (by kernel_rfl) (elA L).toList _ (fun _ h => h.2.range) Tryz.underlying204 rfl (infoElA L)) hS ?_
  refine wpAnyH_take (i := 3) rfl (by kernel_rfl) (by kernel_rfl) (by kernel_rfl) (fun _ _ _ h => h) (yieldsIf_load_mid (by kernel_rfl) 204 _ rfl gh 0 (by kernel_rfl) (elA H).toList _ (fun _ h => h.1.range) Tryz.underlying204 rfl (infoElA H)) hS ?_
  refine wpAnyH_ready (rs := [0]) (by kernel_rfl) (by simp) ?_
  refine readyH_load rfl (by kernel_rfl) 204 _ rfl gy 0 (by kernel_rfl) (elA Y2).toList _ ey8d.range Tryz.underlying204 rfl (infoElA Y2) hS ?_ AllReadyH.nil
  refine wpAnyH_ready (rs := [2]) (by kernel_rfl) (by simp) ?_
  refine readyH_call rfl (by kernel_rfl) 153 #[.agg (elA Y2), .agg (elA L)] (by kernel_rfl) ((plus_any Y2 L w8.drew HY2.out HLL.out).mono ?_) AllReadyH.nil
  rintro e w9 ⟨rfl, hb9⟩
  have ey9 := ey8d.below hb9 ey8d.lt
  have eh9 := eh8d.below hb9 eh8d.lt
  have el9 := el8d.below hb9 el8d.lt
  have hbw9 := hbw8.drew.trans (hb9.mono hbw8.drew.size)
  refine ⟨_, rfl, ⟨eh9, el9⟩, ?_⟩
  have hxl : Y2 ^^^ L < 2 ^ 128 := Nat.xor_lt_two_pow HY2.out HLL.out
  refine wpAnyH_ready (rs := [4]) (by kernel_rfl) (by simp) ?_
  refine readyH_call rfl (by kernel_rfl) 152 #[.agg (elA (Y2 ^^^ L)), .agg (elA H)] (by kernel_rfl) ((gtimes_any (Y2 ^^^ L) H w9 hxl HHL.out).mono ?_) AllReadyH.nil
  rintro e w10 ⟨rfl, hb10⟩
  have ey10 := ey9.below hb10 ey9.lt
  have eh10 := eh9.below hb10 eh9.lt
  have el10 := el9.below hb10 el9.lt
  have hbw10 := hbw9.trans (hb10.mono hbw9.size)
  refine ⟨_, rfl, ⟨eh10, el10⟩, ?_⟩
  have ey11 := ey10.store (dotN (Y2 ^^^ L) H)
  have eh11 := eh10.other (elA (dotN (Y2 ^^^ L) H)).toList (show gh ≠ gy by omega)
  have el11 := el10.other (elA (dotN (Y2 ^^^ L) H)).toList (show gl ≠ gy by omega)
  have hbw11 := hbw10.trans (below_setCells w10 w.heap.size gy 0 (elA (dotN (Y2 ^^^ L) H)).toList (by omega))
  refine wpAnyH_ready (rs := [5]) (by kernel_rfl) (by simp) ?_
  refine readyH_store rfl (by kernel_rfl) 204 _ _ rfl gy 0 (elA (dotN (Y2 ^^^ L) H)) (by kernel_rfl) (by kernel_rfl) ey10.there (infoElA' _) (elA_one _) ⟨eh11, el11⟩ ?_ AllReadyH.nil
  refine wpAnyH_done (by kernel_rfl) ?_ _
  have hk11 := hk.below hbw11 hklt
  have hY3 : dotN (Y2 ^^^ L) H < 2 ^ 128 := dot_lt _ _ HHL.out
  have hGH : gHash rk a c = dotN (Y2 ^^^ L) H := by
    unfold gHash
    rw [HH.out, ghN_append, ghN_append, HYY1.out, HYY2.out, HLD.out]
    rfl
  have HGH := hide hGH
  have HY3 := hide hY3
  clear ey8 eh8 hbw8 ey8d eh8d el8d hS hb9 ey9 eh9 el9 hbw9 hxl hb10 ey10 eh10 el10 hbw10 eh11 el11 hY3 hGH HLL HLD HLN HYY1 HYY2 HY1 HY2 el8
  generalize w10.setCells gy 0 (elA (dotN (Y2 ^^^ L) H)).toList = w11 at *
  obtain ⟨Y3, hY3⟩ : ∃ y, dotN (Y2 ^^^ L) H = y := ⟨_, rfl⟩
  rw [hY3] at ey11 HGH HY3
  clear hY3
  have hcl : (fillL nonce 12 ++ onesL 1 4).length = 16 := by simp [fillL_len, onesL_len]
  have hal := aesL_len rk _ hrl hcl
  have HCL := hide hcl
  have HAL := hide hal
  have HPL := hide (num16_lt _ hal)
  have HTL := hide (show Y3 ^^^ numL (aesL rk (fillL nonce 12 ++ onesL 1 4)) = gHash rk a c ^^^ padN rk (fillL nonce 12) by rw [HGH.out]; rfl)
  clear hcl hal
  have ey11d : El w11.drew gy Y3 := ey11
  have hk11d : KeyAt w11.drew kb rk := ⟨⟨hk11.cells.lt, hk11.cells.at_⟩, hk11.len⟩
  have hbw11d := hbw11.drew
  go_wp2_with fail
  have hGT : gHash rk a c ^^^ padN rk (fillL nonce 12) < 2 ^ 128 := by rw [← HTL.out]; exact Nat.xor_lt_two_pow HY3.out HPL.out
  have HGT := hide hGT
  clear hGT
  refine wp_region_held_drew (S := fun _ => True) (by kernel_rfl) trivial ?_
  intro hS
  refine wpAnyH_take (i := 1) rfl (by kernel_rfl) (by kernel_rfl) (by kernel_rfl) (fun _ _ _ h => h) (Yields.yieldsIf (v := .pointer (some ⟨kb, 0, none⟩)) (Or.inl ⟨by kernel_rfl, fun w => by kernel_rfl⟩)) hS ?_
  refine wpAnyH_take (i := 2) rfl (by kernel_rfl) (by kernel_rfl) (by kernel_rfl) (fun _ _ _ h => h) (Yields.yieldsIf (v := .string ⟨nonce.toArray⟩) (Or.inl ⟨by kernel_rfl, fun w => by kernel_rfl⟩)) hS ?_
  refine wpAnyH_ready (rs := [0, 3]) (by kernel_rfl) (by simp) ?_
  refine readyH_load rfl (by kernel_rfl) 204 _ rfl gy 0 (by kernel_rfl) (elA Y3).toList _ ey11d.range Tryz.underlying204 rfl (infoElA Y3) trivial ?_ (readyH_call rfl (by kernel_rfl) 154 #[.string ⟨nonce.toArray⟩, .int .u32 1] (by kernel_rfl) ((counterBlock_any nonce 1 w11.drew (by decide)).mono ?_) (AllReadyH.nil))
  · refine wpAnyH_ready (rs := [3]) (by kernel_rfl) (by simp) ?_
    refine readyH_call rfl (by kernel_rfl) 154 #[.string ⟨nonce.toArray⟩, .int .u32 1] (by kernel_rfl) ((counterBlock_any nonce 1 w11.drew (by decide)).mono ?_) (AllReadyH.nil)
    rintro e w12 ⟨rfl, hb12⟩
    have ey12 := ey11d.below hb12 ey11d.lt
    have hk12 := hk11d.below hb12 hk11d.lt
    have hbw12 := hbw11d.trans (hb12.mono hbw11d.size)
    refine ⟨_, rfl, trivial, ?_⟩
    refine wpAnyH_ready (rs := [4]) (by kernel_rfl) (by simp) ?_
    refine readyH_call rfl (by kernel_rfl) 150 #[.pointer (some ⟨kb, 0, none⟩), .agg (bvals (fillL nonce 12 ++ onesL 1 4)).toArray] (by kernel_rfl) ((encrypt_any kb rk (fillL nonce 12 ++ onesL 1 4) w12 hk12 HCL.out).mono ?_) (AllReadyH.nil)
    rintro e w13 ⟨rfl, hb13⟩
    have ey13 := ey12.below hb13 ey12.lt
    have hk13 := hk12.below hb13 hk12.lt
    have hbw13 := hbw12.trans (hb13.mono hbw12.size)
    refine ⟨_, rfl, trivial, ?_⟩
    refine wpAnyH_ready (rs := [5]) (by kernel_rfl) (by simp) ?_
    refine readyH_call rfl (by kernel_rfl) 149 #[.agg (bvals (aesL rk (fillL nonce 12 ++ onesL 1 4))).toArray] (by kernel_rfl) ((elementOf_any (aesL rk (fillL nonce 12 ++ onesL 1 4)) w13 HAL.out).mono ?_) (AllReadyH.nil)
    rintro e w14 ⟨rfl, hb14⟩
    have ey14 := ey13.below hb14 ey13.lt
    have hk14 := hk13.below hb14 hk13.lt
    have hbw14 := hbw13.trans (hb14.mono hbw13.size)
    refine ⟨_, rfl, trivial, ?_⟩
    refine wpAnyH_ready (rs := [6]) (by kernel_rfl) (by simp) ?_
    refine readyH_call rfl (by kernel_rfl) 153 #[.agg (elA Y3), .agg (elA (numL (aesL rk (fillL nonce 12 ++ onesL 1 4))))] (by kernel_rfl) ((plus_any Y3 (numL (aesL rk (fillL nonce 12 ++ onesL 1 4))) w14 HY3.out HPL.out).mono ?_) AllReadyH.nil
    rintro e w15 ⟨rfl, hbx⟩
    have eyx := ey14.below hbx ey14.lt
    have hbwx := hbw14.trans (hbx.mono hbw14.size)
    refine ⟨_, rfl, trivial, ?_⟩
    refine wpAnyH_ready (rs := [7]) (by kernel_rfl) (by simp) ?_
    refine readyH_store rfl (by kernel_rfl) 204 _ _ rfl gy 0 (elA (Y3 ^^^ numL (aesL rk (fillL nonce 12 ++ onesL 1 4)))) (by kernel_rfl) (by kernel_rfl) eyx.there (infoElA' _) (elA_one _) trivial ?_ AllReadyH.nil
    refine wpAnyH_done (by kernel_rfl) ?_ _
    have eyf := eyx.store (Y3 ^^^ numL (aesL rk (fillL nonce 12 ++ onesL 1 4)))
    have hbf := hbwx.trans (below_setCells w15 w.heap.size gy 0 (elA (Y3 ^^^ numL (aesL rk (fillL nonce 12 ++ onesL 1 4)))).toList (by omega))
    rw [HTL.out] at eyf hbf ⊢
    obtain ⟨wf, hwf⟩ : ∃ x, w15.setCells gy 0 (elA (gHash rk a c ^^^ padN rk (fillL nonce 12))).toList = x := ⟨_, rfl⟩
    rw [hwf] at eyf hbf ⊢
    have HRf := hide eyf.range
    clear hwf eyx hbwx hbx
    obtain ⟨G, hG⟩ : ∃ x, gHash rk a c ^^^ padN rk (fillL nonce 12) = x := ⟨_, rfl⟩
    have HGG := hide (show tagL rk (fillL nonce 12) a c = onesL G 16 by rw [← hG]; rfl)
    rw [hG] at eyf HRf HGT
    clear hG
    go_wp2_with (refine wpList_load_mid rfl 204 _ rfl gy 0 (by kernel_rfl) (elA G).toList _ ?hc Tryz.underlying204 rfl (infoElA _) ?_)
    case hc => exact HRf.out
    refine (blockOf_any G wf HGT.out).mono ?_
    rintro e wg ⟨rfl, hbg⟩
    have hbwg := hbf.trans (hbg.mono hbf.size)
    obtain ⟨V, hV⟩ : ∃ x, onesL G 16 = x := ⟨_, rfl⟩
    have hVl : V.length = 16 := by rw [← hV]; exact onesL_len 16 G
    rw [hV] at HGG ⊢
    clear hV hbg hbf eyf HRf
    go_wp2_with (refine wpList_store_el rfl 206 _ _ rfl wg.heap.size 0 (bvals V).toArray (by kernel_rfl) (by kernel_rfl) ?ht (info16' V hVl) (bvals_one' V) ?_)
    case ht =>
      have h := there_new wg (bvals Z).toArray 206
      have e1 : (bvals Z).toArray.size = (bvals V).toArray.size := by simp [bvals, hZl, hVl]
      rw [e1] at h
      exact h
    intro wh hwh
    have hrow0 : Row (wg.alloc (.cells (bvals Z).toArray 206)) wg.heap.size 206 .u8 (nats Z) := Row.new wg _ _ _ _ (by simp [bvals, nats]) (fun i hi => by rw [← vals_nats]; exact vals_get .u8 _ i hi)
    have hrow1 := hrow0.setAll (nats V) (by rw [nats_len, nats_len, hVl, hZl])
    rw [vals_nats] at hrow1
    have hbh := hbwg.trans ((((Below.refl wg.heap.size wg).alloc (Nat.le_refl _) (.cells (bvals Z).toArray 206)).trans (below_setCells _ _ _ 0 (bvals V) (Nat.le_refl _))).mono hbwg.size)
    have hwh' : wh = (wg.alloc (.cells (bvals Z).toArray 206)).setCells wg.heap.size 0 (bvals V) := hwh.out
    rw [← hwh'] at hrow1 hbh
    have hcv := conv_row (cap := 16) hrow1
    rw [nats_len, hVl, map_ofNat_nats] at hcv
    clear hwh hwh' hrow0 hrow1 hbwg
    go_wp2_with fail
    go_ret
    exact ⟨by rw [HGG.out]; rfl, hbh⟩
  · rintro e w16 ⟨rfl, hb16⟩
    have ey16 := ey11d.below hb16 ey11d.lt
    have hk16 := hk11d.below hb16 hk11d.lt
    have hbw16 := hbw11d.trans (hb16.mono hbw11d.size)
    refine ⟨_, rfl, trivial, ?_⟩
    refine wpAnyH_ready (rs := [0, 4]) (by kernel_rfl) (by simp) ?_
    refine readyH_load rfl (by kernel_rfl) 204 _ rfl gy 0 (by kernel_rfl) (elA Y3).toList _ ey16.range Tryz.underlying204 rfl (infoElA Y3) trivial ?_ (readyH_call rfl (by kernel_rfl) 150 #[.pointer (some ⟨kb, 0, none⟩), .agg (bvals (fillL nonce 12 ++ onesL 1 4)).toArray] (by kernel_rfl) ((encrypt_any kb rk (fillL nonce 12 ++ onesL 1 4) w16 hk16 HCL.out).mono ?_) (AllReadyH.nil))
    · refine wpAnyH_ready (rs := [4]) (by kernel_rfl) (by simp) ?_
      refine readyH_call rfl (by kernel_rfl) 150 #[.pointer (some ⟨kb, 0, none⟩), .agg (bvals (fillL nonce 12 ++ onesL 1 4)).toArray] (by kernel_rfl) ((encrypt_any kb rk (fillL nonce 12 ++ onesL 1 4) w16 hk16 HCL.out).mono ?_) (AllReadyH.nil)
      rintro e w17 ⟨rfl, hb17⟩
      have ey17 := ey16.below hb17 ey16.lt
      have hk17 := hk16.below hb17 hk16.lt
      have hbw17 := hbw16.trans (hb17.mono hbw16.size)
      refine ⟨_, rfl, trivial, ?_⟩
      refine wpAnyH_ready (rs := [5]) (by kernel_rfl) (by simp) ?_
      refine readyH_call rfl (by kernel_rfl) 149 #[.agg (bvals (aesL rk (fillL nonce 12 ++ onesL 1 4))).toArray] (by kernel_rfl) ((elementOf_any (aesL rk (fillL nonce 12 ++ onesL 1 4)) w17 HAL.out).mono ?_) (AllReadyH.nil)
      rintro e w18 ⟨rfl, hb18⟩
      have ey18 := ey17.below hb18 ey17.lt
      have hk18 := hk17.below hb18 hk17.lt
      have hbw18 := hbw17.trans (hb18.mono hbw17.size)
      refine ⟨_, rfl, trivial, ?_⟩
      refine wpAnyH_ready (rs := [6]) (by kernel_rfl) (by simp) ?_
      refine readyH_call rfl (by kernel_rfl) 153 #[.agg (elA Y3), .agg (elA (numL (aesL rk (fillL nonce 12 ++ onesL 1 4))))] (by kernel_rfl) ((plus_any Y3 (numL (aesL rk (fillL nonce 12 ++ onesL 1 4))) w18 HY3.out HPL.out).mono ?_) AllReadyH.nil
      rintro e w19 ⟨rfl, hbx⟩
      have eyx := ey18.below hbx ey18.lt
      have hbwx := hbw18.trans (hbx.mono hbw18.size)
      refine ⟨_, rfl, trivial, ?_⟩
      refine wpAnyH_ready (rs := [7]) (by kernel_rfl) (by simp) ?_
      refine readyH_store rfl (by kernel_rfl) 204 _ _ rfl gy 0 (elA (Y3 ^^^ numL (aesL rk (fillL nonce 12 ++ onesL 1 4)))) (by kernel_rfl) (by kernel_rfl) eyx.there (infoElA' _) (elA_one _) trivial ?_ AllReadyH.nil
      refine wpAnyH_done (by kernel_rfl) ?_ _
      have eyf := eyx.store (Y3 ^^^ numL (aesL rk (fillL nonce 12 ++ onesL 1 4)))
      have hbf := hbwx.trans (below_setCells w19 w.heap.size gy 0 (elA (Y3 ^^^ numL (aesL rk (fillL nonce 12 ++ onesL 1 4)))).toList (by omega))
      rw [HTL.out] at eyf hbf ⊢
      obtain ⟨wf, hwf⟩ : ∃ x, w19.setCells gy 0 (elA (gHash rk a c ^^^ padN rk (fillL nonce 12))).toList = x := ⟨_, rfl⟩
      rw [hwf] at eyf hbf ⊢
      have HRf := hide eyf.range
      clear hwf eyx hbwx hbx
      obtain ⟨G, hG⟩ : ∃ x, gHash rk a c ^^^ padN rk (fillL nonce 12) = x := ⟨_, rfl⟩
      have HGG := hide (show tagL rk (fillL nonce 12) a c = onesL G 16 by rw [← hG]; rfl)
      rw [hG] at eyf HRf HGT
      clear hG
      go_wp2_with (refine wpList_load_mid rfl 204 _ rfl gy 0 (by kernel_rfl) (elA G).toList _ ?hc Tryz.underlying204 rfl (infoElA _) ?_)
      case hc => exact HRf.out
      refine (blockOf_any G wf HGT.out).mono ?_
      rintro e wg ⟨rfl, hbg⟩
      have hbwg := hbf.trans (hbg.mono hbf.size)
      obtain ⟨V, hV⟩ : ∃ x, onesL G 16 = x := ⟨_, rfl⟩
      have hVl : V.length = 16 := by rw [← hV]; exact onesL_len 16 G
      rw [hV] at HGG ⊢
      clear hV hbg hbf eyf HRf
      go_wp2_with (refine wpList_store_el rfl 206 _ _ rfl wg.heap.size 0 (bvals V).toArray (by kernel_rfl) (by kernel_rfl) ?ht (info16' V hVl) (bvals_one' V) ?_)
      case ht =>
        have h := there_new wg (bvals Z).toArray 206
        have e1 : (bvals Z).toArray.size = (bvals V).toArray.size := by simp [bvals, hZl, hVl]
        rw [e1] at h
        exact h
      intro wh hwh
      have hrow0 : Row (wg.alloc (.cells (bvals Z).toArray 206)) wg.heap.size 206 .u8 (nats Z) := Row.new wg _ _ _ _ (by simp [bvals, nats]) (fun i hi => by rw [← vals_nats]; exact vals_get .u8 _ i hi)
      have hrow1 := hrow0.setAll (nats V) (by rw [nats_len, nats_len, hVl, hZl])
      rw [vals_nats] at hrow1
      have hbh := hbwg.trans ((((Below.refl wg.heap.size wg).alloc (Nat.le_refl _) (.cells (bvals Z).toArray 206)).trans (below_setCells _ _ _ 0 (bvals V) (Nat.le_refl _))).mono hbwg.size)
      have hwh' : wh = (wg.alloc (.cells (bvals Z).toArray 206)).setCells wg.heap.size 0 (bvals V) := hwh.out
      rw [← hwh'] at hrow1 hbh
      have hcv := conv_row (cap := 16) hrow1
      rw [nats_len, hVl, map_ofNat_nats] at hcv
      clear hwh hwh' hrow0 hrow1 hbwg
      go_wp2_with fail
      go_ret
      exact ⟨by rw [HGG.out]; rfl, hbh⟩
    · rintro e w20 ⟨rfl, hb20⟩
      have ey20 := ey16.below hb20 ey16.lt
      have hk20 := hk16.below hb20 hk16.lt
      have hbw20 := hbw16.trans (hb20.mono hbw16.size)
      refine ⟨_, rfl, trivial, ?_⟩
      refine wpAnyH_ready (rs := [0, 5]) (by kernel_rfl) (by simp) ?_
      refine readyH_load rfl (by kernel_rfl) 204 _ rfl gy 0 (by kernel_rfl) (elA Y3).toList _ ey20.range Tryz.underlying204 rfl (infoElA Y3) trivial ?_ (readyH_call rfl (by kernel_rfl) 149 #[.agg (bvals (aesL rk (fillL nonce 12 ++ onesL 1 4))).toArray] (by kernel_rfl) ((elementOf_any (aesL rk (fillL nonce 12 ++ onesL 1 4)) w20 HAL.out).mono ?_) (AllReadyH.nil))
      · refine wpAnyH_ready (rs := [5]) (by kernel_rfl) (by simp) ?_
        refine readyH_call rfl (by kernel_rfl) 149 #[.agg (bvals (aesL rk (fillL nonce 12 ++ onesL 1 4))).toArray] (by kernel_rfl) ((elementOf_any (aesL rk (fillL nonce 12 ++ onesL 1 4)) w20 HAL.out).mono ?_) (AllReadyH.nil)
        rintro e w21 ⟨rfl, hb21⟩
        have ey21 := ey20.below hb21 ey20.lt
        have hk21 := hk20.below hb21 hk20.lt
        have hbw21 := hbw20.trans (hb21.mono hbw20.size)
        refine ⟨_, rfl, trivial, ?_⟩
        refine wpAnyH_ready (rs := [6]) (by kernel_rfl) (by simp) ?_
        refine readyH_call rfl (by kernel_rfl) 153 #[.agg (elA Y3), .agg (elA (numL (aesL rk (fillL nonce 12 ++ onesL 1 4))))] (by kernel_rfl) ((plus_any Y3 (numL (aesL rk (fillL nonce 12 ++ onesL 1 4))) w21 HY3.out HPL.out).mono ?_) AllReadyH.nil
        rintro e w22 ⟨rfl, hbx⟩
        have eyx := ey21.below hbx ey21.lt
        have hbwx := hbw21.trans (hbx.mono hbw21.size)
        refine ⟨_, rfl, trivial, ?_⟩
        refine wpAnyH_ready (rs := [7]) (by kernel_rfl) (by simp) ?_
        refine readyH_store rfl (by kernel_rfl) 204 _ _ rfl gy 0 (elA (Y3 ^^^ numL (aesL rk (fillL nonce 12 ++ onesL 1 4)))) (by kernel_rfl) (by kernel_rfl) eyx.there (infoElA' _) (elA_one _) trivial ?_ AllReadyH.nil
        refine wpAnyH_done (by kernel_rfl) ?_ _
        have eyf := eyx.store (Y3 ^^^ numL (aesL rk (fillL nonce 12 ++ onesL 1 4)))
        have hbf := hbwx.trans (below_setCells w22 w.heap.size gy 0 (elA (Y3 ^^^ numL (aesL rk (fillL nonce 12 ++ onesL 1 4)))).toList (by omega))
        rw [HTL.out] at eyf hbf ⊢
        obtain ⟨wf, hwf⟩ : ∃ x, w22.setCells gy 0 (elA (gHash rk a c ^^^ padN rk (fillL nonce 12))).toList = x := ⟨_, rfl⟩
        rw [hwf] at eyf hbf ⊢
        have HRf := hide eyf.range
        clear hwf eyx hbwx hbx
        obtain ⟨G, hG⟩ : ∃ x, gHash rk a c ^^^ padN rk (fillL nonce 12) = x := ⟨_, rfl⟩
        have HGG := hide (show tagL rk (fillL nonce 12) a c = onesL G 16 by rw [← hG]; rfl)
        rw [hG] at eyf HRf HGT
        clear hG
        go_wp2_with (refine wpList_load_mid rfl 204 _ rfl gy 0 (by kernel_rfl) (elA G).toList _ ?hc Tryz.underlying204 rfl (infoElA _) ?_)
        case hc => exact HRf.out
        refine (blockOf_any G wf HGT.out).mono ?_
        rintro e wg ⟨rfl, hbg⟩
        have hbwg := hbf.trans (hbg.mono hbf.size)
        obtain ⟨V, hV⟩ : ∃ x, onesL G 16 = x := ⟨_, rfl⟩
        have hVl : V.length = 16 := by rw [← hV]; exact onesL_len 16 G
        rw [hV] at HGG ⊢
        clear hV hbg hbf eyf HRf
        go_wp2_with (refine wpList_store_el rfl 206 _ _ rfl wg.heap.size 0 (bvals V).toArray (by kernel_rfl) (by kernel_rfl) ?ht (info16' V hVl) (bvals_one' V) ?_)
        case ht =>
          have h := there_new wg (bvals Z).toArray 206
          have e1 : (bvals Z).toArray.size = (bvals V).toArray.size := by simp [bvals, hZl, hVl]
          rw [e1] at h
          exact h
        intro wh hwh
        have hrow0 : Row (wg.alloc (.cells (bvals Z).toArray 206)) wg.heap.size 206 .u8 (nats Z) := Row.new wg _ _ _ _ (by simp [bvals, nats]) (fun i hi => by rw [← vals_nats]; exact vals_get .u8 _ i hi)
        have hrow1 := hrow0.setAll (nats V) (by rw [nats_len, nats_len, hVl, hZl])
        rw [vals_nats] at hrow1
        have hbh := hbwg.trans ((((Below.refl wg.heap.size wg).alloc (Nat.le_refl _) (.cells (bvals Z).toArray 206)).trans (below_setCells _ _ _ 0 (bvals V) (Nat.le_refl _))).mono hbwg.size)
        have hwh' : wh = (wg.alloc (.cells (bvals Z).toArray 206)).setCells wg.heap.size 0 (bvals V) := hwh.out
        rw [← hwh'] at hrow1 hbh
        have hcv := conv_row (cap := 16) hrow1
        rw [nats_len, hVl, map_ofNat_nats] at hcv
        clear hwh hwh' hrow0 hrow1 hbwg
        go_wp2_with fail
        go_ret
        exact ⟨by rw [HGG.out]; rfl, hbh⟩
      · rintro e w23 ⟨rfl, hb23⟩
        have ey23 := ey20.below hb23 ey20.lt
        have hk23 := hk20.below hb23 hk20.lt
        have hbw23 := hbw20.trans (hb23.mono hbw20.size)
        refine ⟨_, rfl, trivial, ?_⟩
        refine wpAnyH_ready (rs := [0]) (by kernel_rfl) (by simp) ?_
        refine readyH_load rfl (by kernel_rfl) 204 _ rfl gy 0 (by kernel_rfl) (elA Y3).toList _ ey23.range Tryz.underlying204 rfl (infoElA Y3) trivial ?_ (AllReadyH.nil)
        refine wpAnyH_ready (rs := [6]) (by kernel_rfl) (by simp) ?_
        refine readyH_call rfl (by kernel_rfl) 153 #[.agg (elA Y3), .agg (elA (numL (aesL rk (fillL nonce 12 ++ onesL 1 4))))] (by kernel_rfl) ((plus_any Y3 (numL (aesL rk (fillL nonce 12 ++ onesL 1 4))) w23 HY3.out HPL.out).mono ?_) AllReadyH.nil
        rintro e w24 ⟨rfl, hbx⟩
        have eyx := ey23.below hbx ey23.lt
        have hbwx := hbw23.trans (hbx.mono hbw23.size)
        refine ⟨_, rfl, trivial, ?_⟩
        refine wpAnyH_ready (rs := [7]) (by kernel_rfl) (by simp) ?_
        refine readyH_store rfl (by kernel_rfl) 204 _ _ rfl gy 0 (elA (Y3 ^^^ numL (aesL rk (fillL nonce 12 ++ onesL 1 4)))) (by kernel_rfl) (by kernel_rfl) eyx.there (infoElA' _) (elA_one _) trivial ?_ AllReadyH.nil
        refine wpAnyH_done (by kernel_rfl) ?_ _
        have eyf := eyx.store (Y3 ^^^ numL (aesL rk (fillL nonce 12 ++ onesL 1 4)))
        have hbf := hbwx.trans (below_setCells w24 w.heap.size gy 0 (elA (Y3 ^^^ numL (aesL rk (fillL nonce 12 ++ onesL 1 4)))).toList (by omega))
        rw [HTL.out] at eyf hbf ⊢
        obtain ⟨wf, hwf⟩ : ∃ x, w24.setCells gy 0 (elA (gHash rk a c ^^^ padN rk (fillL nonce 12))).toList = x := ⟨_, rfl⟩
        rw [hwf] at eyf hbf ⊢
        have HRf := hide eyf.range
        clear hwf eyx hbwx hbx
        obtain ⟨G, hG⟩ : ∃ x, gHash rk a c ^^^ padN rk (fillL nonce 12) = x := ⟨_, rfl⟩
        have HGG := hide (show tagL rk (fillL nonce 12) a c = onesL G 16 by rw [← hG]; rfl)
        rw [hG] at eyf HRf HGT
        clear hG
        go_wp2_with (refine wpList_load_mid rfl 204 _ rfl gy 0 (by kernel_rfl) (elA G).toList _ ?hc Tryz.underlying204 rfl (infoElA _) ?_)
        case hc => exact HRf.out
        refine (blockOf_any G wf HGT.out).mono ?_
        rintro e wg ⟨rfl, hbg⟩
        have hbwg := hbf.trans (hbg.mono hbf.size)
        obtain ⟨V, hV⟩ : ∃ x, onesL G 16 = x := ⟨_, rfl⟩
        have hVl : V.length = 16 := by rw [← hV]; exact onesL_len 16 G
        rw [hV] at HGG ⊢
        clear hV hbg hbf eyf HRf
        go_wp2_with (refine wpList_store_el rfl 206 _ _ rfl wg.heap.size 0 (bvals V).toArray (by kernel_rfl) (by kernel_rfl) ?ht (info16' V hVl) (bvals_one' V) ?_)
        case ht =>
          have h := there_new wg (bvals Z).toArray 206
          have e1 : (bvals Z).toArray.size = (bvals V).toArray.size := by simp [bvals, hZl, hVl]
          rw [e1] at h
          exact h
        intro wh hwh
        have hrow0 : Row (wg.alloc (.cells (bvals Z).toArray 206)) wg.heap.size 206 .u8 (nats Z) := Row.new wg _ _ _ _ (by simp [bvals, nats]) (fun i hi => by rw [← vals_nats]; exact vals_get .u8 _ i hi)
        have hrow1 := hrow0.setAll (nats V) (by rw [nats_len, nats_len, hVl, hZl])
        rw [vals_nats] at hrow1
        have hbh := hbwg.trans ((((Below.refl wg.heap.size wg).alloc (Nat.le_refl _) (.cells (bvals Z).toArray 206)).trans (below_setCells _ _ _ 0 (bvals V) (Nat.le_refl _))).mono hbwg.size)
        have hwh' : wh = (wg.alloc (.cells (bvals Z).toArray 206)).setCells wg.heap.size 0 (bvals V) := hwh.out
        rw [← hwh'] at hrow1 hbh
        have hcv := conv_row (cap := 16) hrow1
        rw [nats_len, hVl, map_ofNat_nats] at hcv
        clear hwh hwh' hrow0 hrow1 hbwg
        go_wp2_with fail
        go_ret
        exact ⟨by rw [HGG.out]; rfl, hbh⟩
end Go.Proofs.YtjnhlkaafnaooabGreatDoor
