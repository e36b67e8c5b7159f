import Derived.Test.YtjnhlkaafnaooabGreatDoorHeldW
import Derived.Test.YtjnhlkaafnaooabGreatDoorGcmR
namespace Go.Proofs.YtjnhlkaafnaooabGreatDoor
open Go.RowKit
/-- In mid-absorbing. -/
structure AM (w : World) (y h : Nat) (wr : World) : Prop where
  hy : El wr w.heap.size y
  hh : El wr (w.heap.size + 1) h
  hr : El wr (w.heap.size + 1 + 1) 0
  bel : Below w.heap.size w wr
theorem AM.start (w : World) (y h : Nat) : AM w y h (((w.alloc (.cells (elA y) 204)).alloc (.cells (elA h) 204)).alloc (.cells #[.int .u64 0, .int .u64 0] 204)) := by
  refine ⟨?_, heap_old1 w _ _ _, heap_new2 w _ _ _, below3 w _ _ _⟩
  unfold El
  rw [Below.heap_alloc _ _ _ (by simp; omega), Below.heap_alloc _ _ _ (by simp)]
  exact heap_alloc_new w _
theorem AM.lt {w : World} {y h : Nat} {wr : World} (m : AM w y h wr) : w.heap.size + 1 + 1 < wr.heap.size := m.hr.lt
theorem AM.below {w : World} {y h : Nat} {wr wr' : World} (m : AM w y h wr) (hb : Below wr.heap.size wr wr') : AM w y h wr' := by
  have hl := m.lt
  exact ⟨m.hy.below hb (by omega), m.hh.below hb (by omega), m.hr.below hb hl, m.bel.trans (hb.mono (by omega))⟩
theorem AM.setY {w : World} {y h : Nat} {wr : World} (m : AM w y h wr) (x : Nat) : AM w x h (wr.setCells w.heap.size 0 (elA x).toList) :=
  ⟨m.hy.store x, m.hh.other _ (by omega), m.hr.other _ (by omega), m.bel.trans (below_setCells _ _ _ _ _ (Nat.le_refl _))⟩
set_option maxRecDepth 100000 in
set_option maxHeartbeats 400000 in
theorem absorb_any (y h : Nat) (t : List UInt8) (w : World) (hy : y < 2 ^ 128) (hh : h < 2 ^ 128) (ht : t.length ≤ 5000) :
    Calls Tryz.prog 151 #[.agg (elA y), .agg (elA h), .string ⟨t.toArray⟩] w fun x w' => x = .returned (.agg (elA (ghN h y (blocksN t)))) ∧ Below w.heap.size w w' := by
  have hzv : ∀ w, (zeroValue 206).run Tryz.prog w = .ok (.agg (vals .u8 (List.replicate 16 0)).toArray) w := fun _ => by kernel_rfl
  have hcpy := copy_new
  have hst := AM.start w y h
  have hsz : (ByteArray.mk t.toArray).size = t.length := by simp [ByteArray.size]
  have hsa : (elA y).size = 2 := rfl
  have hsb : (elA h).size = 2 := rfl
  obtain ⟨n, hn⟩ : ∃ n, t.length = n := ⟨_, rfl⟩
  have hni : (n : Int) ≤ 5000 := by omega
  rw [hn] at hsz
  have HN := hide hn
  have HYH := hide (And.intro hy hh)
  have HST := hide hst
  have HCP := hide hcpy
  clear hn hst hy hh ht hcpy
  generalize hA : elA y = A at *
  generalize hB : elA h = B at *
  clear hA hB
  go_enter Tryz.func151, Tryz.ntmps151
  go_wp2_with fail
  go_loopw [7] (fun i wr => ∃ k z : Nat, 16 * k < n + 16 ∧ i = .int .i64 ((16 * k : Nat) : Int) ∧ z < 2 ^ 128 ∧ ghN h y (blocksN t) = ghN h z (blocksN (t.drop (16 * k))) ∧ AM w z h wr) (fun i _ => (5017 - intOf i).toNat)
  case atStart => exact ⟨0, y, by omega, rfl, HYH.out.1, rfl, HST.out⟩
  case round =>
    clear HST hsa hsb
    obtain ⟨k, z, hk, rfl, hz, hg, hr⟩ := hrel
    by_cases hlt : 16 * k < n
    · have hki : ((16 * k : Nat) : Int) < (n : Int) := by omega
      have HK := hide (And.intro hk hlt)
      obtain ⟨m, hm⟩ : ∃ m, 16 * k = m := ⟨_, rfl⟩
      rw [hm] at hki hg ⊢
      have HM := hide hm
      have HG := hide hg
      have HR := hide hr
      have HZ := hide hz
      clear hm hg hr hk hlt hz
      have hmn : m ≤ n := by omega
      obtain ⟨Z, hZ⟩ : ∃ x, (vals .u8 (List.replicate 16 0)).toArray = x := ⟨_, rfl⟩
      rw [hZ] at hzv
      have hex : (ByteArray.mk t.toArray).extract m n = ⟨(t.drop m).toArray⟩ := by
        rw [ByteArray.extract_mk, List.take_of_length_le (by simp; have := HN.out; omega)]
      have hcp : ∀ sT ty, (Builtin.copy_ #[52, sT] ty #[.slice (some ⟨wr.heap.size, 0, none⟩) 16 16, .string ⟨(t.drop m).toArray⟩]).run Tryz.prog (wr.alloc (.cells Z 206)).drew = .ok (goInt ((t.drop m).take 16).length) (wr.alloc (.cells (bvals (fillL (t.drop m) 16)).toArray 206)).drew := fun sT ty => by
        rw [← hZ]; exact HCP.out (t.drop m) 16 wr.drew sT ty 206
      have hZs : Z.size = 16 := by rw [← hZ]; simp [vals]
      have hFl := fillL_len (t.drop m) 16
      have hne : t.drop m ≠ [] := by
        intro e
        have := congrArg List.length e
        simp [HN.out] at this
        omega
      have hgn : ghN h z (blocksN (t.drop m)) = ghN h (dotN (z ^^^ numL (fillL (t.drop m) 16)) h) (blocksN (t.drop (m + 16))) := by
        rw [blocksN_ne _ hne, List.drop_drop]; rfl
      have HGN := hide hgn
      clear hgn hne
      obtain ⟨F, hF⟩ : ∃ x, fillL (t.drop m) 16 = x := ⟨_, rfl⟩
      rw [hF] at hcp hFl HGN
      have HF := hide hF
      have hszd : (ByteArray.mk (t.drop m).toArray).size = n - m := by simp [ByteArray.size, HN.out]
      generalize (((t.drop m).take 16).length) = q at *
      obtain ⟨T', hT'⟩ : ∃ x, t.drop m = x := ⟨_, rfl⟩
      rw [hT'] at hcp hex hszd HGN HF
      rw [hT'] at HG
      have hb0 : Below wr.heap.size wr (wr.alloc (.cells (bvals F).toArray 206)).drew := ((Below.refl _ _).alloc (Nat.le_refl _) _).drew
      have hrF : (wr.alloc (.cells (bvals F).toArray 206)).drew.rangeAt wr.heap.size 0 (bvals F) := range_block (c := (bvals F).toArray) (heap_alloc_new wr _)
      have hgl : wr.heap.size < (wr.alloc (.cells (bvals F).toArray 206)).drew.heap.size := by show _ < (wr.alloc _).heap.size; simp
      have hm0 := HR.out.below hb0
      have HW0 := hide (And.intro hm0 (And.intro hrF hgl))
      have HGL := hide HR.out.lt
      clear hF hZ hT' hb0 hm0 hrF hgl HR
      go_wp2_with fail
      go_region
      obtain ⟨g, hgg⟩ : ∃ g, wr.heap.size = g := ⟨_, rfl⟩
      generalize hw0 : (wr.alloc (.cells (bvals F).toArray 206)).drew = w0 at *
      rw [hgg] at HW0 HGL ⊢
      clear hcp hex hszd hw0 hgg
      go_wp2_with fail
      obtain ⟨m0, rF, glt⟩ := HW0.out
      have HNL := hide (num16_lt F hFl)
      have HRF : Hid (∀ w' : World, Below w0.drew.heap.size w0.drew w' → w'.rangeAt g 0 (bvals F)) := fun w' hb => by
        intro j v hv
        rw [World.cell?_of_block (w := w0.drew) (hb.block g glt)]
        exact rF j v hv
      have HRS : Hid (∀ w' : World, w'.rangeAt g 0 (bvals F) → ∀ vs, (w'.setCells w.heap.size 0 vs).rangeAt g 0 (bvals F)) := fun w' hr vs => by
        intro j v hv
        have := HGL.out
        rw [World.cell?_of_block (w := w') ((setCells_block w.heap.size vs 0 w').2.2.2.2 g (by omega))]
        exact hr j v hv
      have hIF := info16 F hFl
      have m0d : AM w z h w0.drew := ⟨m0.hy, m0.hh, m0.hr, m0.bel.drew⟩
      refine wp_region_held_drew (S := fun w' => w'.rangeAt (w.heap.size + 1) 0 (elA h).toList ∧ w'.rangeAt g 0 (bvals F)) (by kernel_rfl) ⟨m0d.hh.range, rF⟩ ?_
      intro hS
      refine wpAnyH_take (i := 1) rfl (by kernel_rfl) (by kernel_rfl) (by kernel_rfl) (fun _ _ _ h => h) (yieldsIf_load_mid (by kernel_rfl) 206 _ rfl g 0 (by kernel_rfl) (bvals F) _ (fun _ h => h.2) Tryz.underlying206 rfl hIF) hS ?_
      refine wpAnyH_take (i := 4) rfl (by kernel_rfl) (by kernel_rfl) (by kernel_rfl) (fun _ _ _ h => h) (yieldsIf_load_mid (by kernel_rfl) 204 _ rfl (w.heap.size + 1) 0 (by kernel_rfl) (elA h).toList _ (fun _ h => h.1) Tryz.underlying204 rfl (infoElA h)) hS ?_
      refine wpAnyH_ready (rs := [0, 2]) (by kernel_rfl) (by simp) ?_
      refine readyH_load rfl (by kernel_rfl) 204 _ rfl w.heap.size 0 (by kernel_rfl) (elA z).toList _ m0d.hy.range Tryz.underlying204 rfl (infoElA z) hS ?_
        (readyH_call rfl (by kernel_rfl) 149 #[.agg (bvals F).toArray] (by kernel_rfl) ((elementOf_any F w0.drew hFl).mono ?_) AllReadyH.nil)
      · refine wpAnyH_ready (rs := [2]) (by kernel_rfl) (by simp) ?_
        refine readyH_call rfl (by kernel_rfl) 149 #[.agg (bvals F).toArray] (by kernel_rfl) ((elementOf_any F w0.drew hFl).mono ?_) AllReadyH.nil
        rintro e w1 ⟨rfl, hbF⟩
        have m1 := m0d.below hbF
        refine ⟨_, rfl, ⟨m1.hh.range, HRF.out w1 hbF⟩, ?_⟩
        refine wpAnyH_ready (rs := [3]) (by kernel_rfl) (by simp) ?_
        refine readyH_call rfl (by kernel_rfl) 153 #[.agg (elA z), .agg (elA (numL F))] (by kernel_rfl) ((plus_any z (numL F) w1 HZ.out HNL.out).mono ?_) AllReadyH.nil
        rintro e w2 ⟨rfl, hb2⟩
        have m2 := m1.below hb2
        have f2 := HRF.out w2 (hbF.trans (hb2.mono hbF.size))
        refine ⟨_, rfl, ⟨m2.hh.range, f2⟩, ?_⟩
        refine wpAnyH_ready (rs := [5]) (by kernel_rfl) (by simp) ?_
        have hxl : z ^^^ numL F < 2 ^ 128 := Nat.xor_lt_two_pow HZ.out HNL.out
        refine readyH_call rfl (by kernel_rfl) 152 #[.agg (elA (z ^^^ numL F)), .agg (elA h)] (by kernel_rfl) ((gtimes_any (z ^^^ numL F) h w2 hxl HYH.out.2).mono ?_) AllReadyH.nil
        rintro e w3 ⟨rfl, hb3⟩
        have m3 := m2.below hb3
        have hbF3 := (hbF.trans (hb2.mono hbF.size)).trans (hb3.mono (hbF.trans (hb2.mono hbF.size)).size)
        have f3 := HRF.out w3 hbF3
        refine ⟨_, rfl, ⟨m3.hh.range, f3⟩, ?_⟩
        have m4 := m3.setY (dotN (z ^^^ numL F) h)
        have f4 := HRS.out w3 f3 (elA (dotN (z ^^^ numL F) h)).toList
        refine wpAnyH_ready (rs := [6]) (by kernel_rfl) (by simp) ?_
        refine readyH_store rfl (by kernel_rfl) 204 _ _ rfl w.heap.size 0 (elA (dotN (z ^^^ numL F) h)) (by kernel_rfl) (by kernel_rfl) m3.hy.there (infoElA' _) (elA_one _) ⟨m4.hh.range, f4⟩ ?_ AllReadyH.nil
        refine wpAnyH_done (by kernel_rfl) ?_ _
        have HM4 := hide m4
        clear m1 m2 m3 m4 f2 f3 f4 hb2 hb3 hbF hbF3 hxl HRF HRS
        generalize w3.setCells w.heap.size 0 (elA (dotN (z ^^^ numL F) h)).toList = w4 at *
        go_wp2_with fail
        go_roundw
        case rel => exact ⟨k + 1, dotN (z ^^^ numL F) h, by have := HK.out; omega, val_int (by have := HM.out; omega), dot_lt _ _ HYH.out.2, by rw [show 16 * (k + 1) = m + 16 by have := HM.out; omega, ← HGN.out]; exact HG.out, HM4.out⟩
        case measure => have := HM.out; have := HK.out; simp [intOf]; omega
      · rintro e w1 ⟨rfl, hbF⟩
        have m1 := m0d.below hbF
        refine ⟨_, rfl, ⟨m1.hh.range, HRF.out w1 hbF⟩, ?_⟩
        refine wpAnyH_ready (rs := [0]) (by kernel_rfl) (by simp) ?_
        refine readyH_load rfl (by kernel_rfl) 204 _ rfl w.heap.size 0 (by kernel_rfl) (elA z).toList _ m1.hy.range Tryz.underlying204 rfl (infoElA z) ⟨m1.hh.range, HRF.out w1 hbF⟩ ?_ AllReadyH.nil
        refine wpAnyH_ready (rs := [3]) (by kernel_rfl) (by simp) ?_
        refine readyH_call rfl (by kernel_rfl) 153 #[.agg (elA z), .agg (elA (numL F))] (by kernel_rfl) ((plus_any z (numL F) w1 HZ.out HNL.out).mono ?_) AllReadyH.nil
        rintro e w2 ⟨rfl, hb2⟩
        have m2 := m1.below hb2
        have f2 := HRF.out w2 (hbF.trans (hb2.mono hbF.size))
        refine ⟨_, rfl, ⟨m2.hh.range, f2⟩, ?_⟩
        refine wpAnyH_ready (rs := [5]) (by kernel_rfl) (by simp) ?_
        have hxl : z ^^^ numL F < 2 ^ 128 := Nat.xor_lt_two_pow HZ.out HNL.out
        refine readyH_call rfl (by kernel_rfl) 152 #[.agg (elA (z ^^^ numL F)), .agg (elA h)] (by kernel_rfl) ((gtimes_any (z ^^^ numL F) h w2 hxl HYH.out.2).mono ?_) AllReadyH.nil
        rintro e w3 ⟨rfl, hb3⟩
        have m3 := m2.below hb3
        have hbF3 := (hbF.trans (hb2.mono hbF.size)).trans (hb3.mono (hbF.trans (hb2.mono hbF.size)).size)
        have f3 := HRF.out w3 hbF3
        refine ⟨_, rfl, ⟨m3.hh.range, f3⟩, ?_⟩
        have m4 := m3.setY (dotN (z ^^^ numL F) h)
        have f4 := HRS.out w3 f3 (elA (dotN (z ^^^ numL F) h)).toList
        refine wpAnyH_ready (rs := [6]) (by kernel_rfl) (by simp) ?_
        refine readyH_store rfl (by kernel_rfl) 204 _ _ rfl w.heap.size 0 (elA (dotN (z ^^^ numL F) h)) (by kernel_rfl) (by kernel_rfl) m3.hy.there (infoElA' _) (elA_one _) ⟨m4.hh.range, f4⟩ ?_ AllReadyH.nil
        refine wpAnyH_done (by kernel_rfl) ?_ _
        have HM4 := hide m4
        clear m1 m2 m3 m4 f2 f3 f4 hb2 hb3 hbF hbF3 hxl HRF HRS
        generalize w3.setCells w.heap.size 0 (elA (dotN (z ^^^ numL F) h)).toList = w4 at *
        go_wp2_with fail
        go_roundw
        case rel => exact ⟨k + 1, dotN (z ^^^ numL F) h, by have := HK.out; omega, val_int (by have := HM.out; omega), dot_lt _ _ HYH.out.2, by rw [show 16 * (k + 1) = m + 16 by have := HM.out; omega, ← HGN.out]; exact HG.out, HM4.out⟩
        case measure => have := HM.out; have := HK.out; simp [intOf]; omega
    · have hd : t.drop (16 * k) = [] := List.drop_eq_nil_of_le (by have := HN.out; omega)
      rw [hd, blocksN_nil] at hg
      have hg' : ghN h y (blocksN t) = z := hg
      have HRZ := hide hr.hy.range
      have HTR := hide hr.hr.there
      have hb1 : Below w.heap.size w (wr.setCells (w.heap.size + 1 + 1) 0 (elA z).toList) := hr.bel.trans (below_setCells _ _ _ _ _ (by omega))
      have hfin := hr.hr.store z
      have hki : ¬ (((16 * k : Nat) : Int) < (n : Int)) := by omega
      have HG' := hide hg'
      obtain ⟨m, hm⟩ : ∃ m, 16 * k = m := ⟨_, rfl⟩
      rw [hm] at hki ⊢
      clear hd hg hg' hr hlt hk hm hzv
      go_wp2_with (first | refine wpList_load_mid rfl 204 _ rfl w.heap.size 0 rfl (elA z).toList _ HRZ.out Tryz.underlying204 rfl (infoElA _) ?_ | refine wpList_store_mid rfl 204 _ _ rfl (w.heap.size + 1 + 1) 0 (elA z) rfl rfl HTR.out (infoElA' _) (elA_one _) ?_)
      exact bodyPost_ret (results_el Tryz.results151 _ _ _ _ _ rfl hfin) rfl ⟨by rw [HG'.out]; rfl, hb1⟩
end Go.Proofs.YtjnhlkaafnaooabGreatDoor
