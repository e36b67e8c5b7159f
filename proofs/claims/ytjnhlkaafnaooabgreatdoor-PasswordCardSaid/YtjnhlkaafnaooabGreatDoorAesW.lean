import Derived.Test.YtjnhlkaafnaooabGreatDoorMixcW
namespace Go.Proofs.YtjnhlkaafnaooabGreatDoor
open Go.RowKit
theorem Row.setAll {w : World} {b : Nat} {t : TypeId} {k : IntKind} {xs : List Nat} (h : Row w b t k xs) (ys : List Nat) (hl : ys.length = xs.length) : Row (w.setCells b 0 (vals k ys)) b t k ys := by
  obtain ⟨c, h1, h2, h3⟩ := h
  obtain ⟨c', g1, g2⟩ := setCells_same b t (vals k ys) 0 w c h1
  refine ⟨c', g1, by rw [g2, h2, hl], fun i hi => ?_⟩
  have := World.cell?_setCells_in b (vals k ys) 0 w (fun j hj => by
    rw [Nat.zero_add, cell_of_row _ _ _ _ _ _ h1, h3 j (by rw [← hl]; simpa [vals] using hj)]; rfl) i (by simpa [vals] using hi)
  rw [Nat.zero_add, cell_of_row _ _ _ _ _ _ g1] at this
  rw [this]
  simp [vals, List.getElem?_eq_getElem hi]
theorem there_lt {w : World} {b o n : Nat} (h : w.there b o n) (hn : 0 < n) : b < w.heap.size := by
  obtain ⟨h1, _⟩ := h 0 hn
  rcases Nat.lt_or_ge b w.heap.size with g | g
  · exact g
  · have : w.cell? ⟨b, o + 0, none⟩ = none := by
      unfold World.cell?
      simp [Array.getElem?_eq_none g]
    rw [this] at h1; cases h1
theorem PR.lt {w : World} {t : TypeId} {n : Nat} {xs : List Nat} {wr : World} (h : PR w t n xs wr) (hn : 0 < n) : w.heap.size + 1 < wr.heap.size := there_lt h.res hn
theorem PR.below {w : World} {t : TypeId} {n : Nat} {xs : List Nat} {wr wr' : World} (h : PR w t n xs wr) (hn : 0 < n) (hb : Below wr.heap.size wr wr') : PR w t n xs wr' := by
  have hl := h.lt hn
  exact ⟨h.row.below hb (by omega), there_below h.res hb hl, h.len, h.bel.trans (hb.mono (by omega))⟩
theorem PR.setAll {w : World} {t : TypeId} {n : Nat} {xs : List Nat} {wr : World} (h : PR w t n xs wr) (ys : List Nat) (hl : ys.length = n) : PR w t n ys (wr.setCells w.heap.size 0 (vals .u8 ys)) := by
  obtain ⟨h1, h2, h3, h4, h5⟩ := setCells_block w.heap.size (vals .u8 ys) 0 wr
  refine ⟨h.row.setAll ys (by rw [hl, h.len]), ?_, hl, h.bel.trans (below_setCells _ _ _ _ _ (Nat.le_refl _))⟩
  intro j hj
  obtain ⟨g1, g2⟩ := h.res j hj
  have e := h5 (w.heap.size + 1) (by omega)
  exact ⟨by rw [World.cell?_of_block e]; exact g1, by rw [World.frozen?_of_block e]; exact g2⟩
theorem PR.there {w : World} {t : TypeId} {n : Nat} {xs : List Nat} {wr : World} (h : PR w t n xs wr) : wr.there w.heap.size 0 n := by
  intro j hj
  rw [Nat.zero_add, h.cell j hj]
  exact ⟨rfl, h.row.frozen j⟩
theorem bvals_one (l : List UInt8) : ∀ v ∈ bvals l, v.oneCell' = true := by rw [← vals_nats]; exact vals_one _ _
theorem bvals_one' (l : List UInt8) : (bvals l).toArray.all (·.oneCell') = true := all_oneCell_toArray (bvals_one l)
theorem info16 (l : List UInt8) (h : l.length = 16) : (Tryz.prog.info? 206).map (·.size) = some (bvals l).length := by rw [bvals_len, h]; kernel_rfl
theorem info16' (l : List UInt8) (h : l.length = 16) : (Tryz.prog.info? 206).map (·.size) = some (bvals l).toArray.size := by rw [List.size_toArray, bvals_len, h]; kernel_rfl
theorem PR.range {w : World} {t : TypeId} {n : Nat} {B : List UInt8} {wr : World} (h : PR w t n (nats B) wr) : wr.rangeAt w.heap.size 0 (bvals B) := by
  have := row_range h.row
  rwa [vals_nats] at this
set_option maxRecDepth 100000 in
set_option maxHeartbeats 2000000 in
theorem encrypt_any (kb : Nat) (rk T : List UInt8) (w : World) (hk : KeyAt w kb rk) (hT : T.length = 16) :
    Calls Tryz.prog 150 #[.pointer (some ⟨kb, 0, none⟩), .agg (bvals T).toArray] w fun e w' => e = .returned (.agg (bvals (aesL rk T)).toArray) ∧ Below w.heap.size w w' := by
  have hzv : ∀ w, (zeroValue 206).run Tryz.prog w = .ok (.agg (vals .u8 (List.replicate 16 0)).toArray) w := fun _ => by kernel_rfl
  obtain ⟨Z, hZ⟩ : ∃ x, (vals .u8 (List.replicate 16 0)).toArray = x := ⟨_, rfl⟩
  rw [hZ] at hzv
  have hZs : Z.size = 16 := by rw [← hZ]; simp [vals]
  have hst := PR.start w 206 16 (bvals T).toArray Z (nats T) (by rw [vals_nats]) hZs (by rw [nats_len, hT])
  have hklt := hk.lt
  have hrange := hst.range
  have HI := hide (info16 T hT)
  have hk1 := hk.below hst.bel hklt
  have HST := hide hst
  have HT := hide hT
  have HRA := hide hrange
  clear hst hZ hT hrange
  go_enter Tryz.func150, Tryz.ntmps150
  go_wp2_with (refine wpList_load_mid rfl 206 _ rfl w.heap.size 0 rfl (bvals T) _ HRA.out Tryz.underlying206 rfl HI.out ?_)
  have h0 := addRound_any kb rk T 0 _ hk1 HT.out (by decide)
  refine h0.mono ?_
  rintro e w1 ⟨rfl, hb1⟩
  have hp1 := HST.out.below (by decide) hb1
  have hS0 : xorL T (roundKey rk 0) = aesTo rk T 0 := rfl
  rw [hS0]
  have hlen : ∀ r, r ≤ 14 → (aesTo rk T r).length = 16 := fun r hr => aesTo_len rk T r hk.len HT.out hr
  have hl0 := hlen 0 (by decide)
  have hth1 := hp1.there
  have hset1 := hp1.setAll (nats (aesTo rk T 0)) (by rw [nats_len, hl0])
  rw [vals_nats] at hset1
  have HI1 := hide (info16' _ hl0)
  have HLEN := hide hlen
  have HP1 := hide hset1
  clear hS0 hb1 hp1 h0 HST HRA HI hset1 hzv
  obtain ⟨S0, hS0⟩ : ∃ S, aesTo rk T 0 = S := ⟨_, rfl⟩
  have HS0 := hide hS0
  rw [hS0] at hl0 HI1 HP1 ⊢
  have hsz : (bvals S0).toArray.size = 16 := by simp [bvals, hl0]
  clear hS0 hlen
  go_wp2_with (refine wpList_store_mid rfl 206 _ _ rfl w.heap.size 0 (bvals S0).toArray rfl rfl (by rw [hsz]; exact hth1) HI1.out (bvals_one' S0) ?_)
  go_loopw [5] (fun i wr => ∃ r : Nat, r < 14 ∧ i = .int .i64 ((r + 1 : Nat) : Int) ∧ PR w 206 16 (nats (aesTo rk T r)) wr) (fun i _ => (15 - intOf i).toNat)
  case atStart => exact ⟨0, by omega, rfl, by rw [HS0.out]; exact HP1.out⟩
  case round =>
    clear HP1 HI1 hth1 hsz HS0 hl0
    obtain ⟨r, hr14, rfl, hr⟩ := hrel
    obtain ⟨S, hS⟩ : ∃ S, aesTo rk T r = S := ⟨_, rfl⟩
    have hl := HLEN.out r (by omega)
    rw [hS] at hr hl
    have HRA := hide hr.range
    have HI := hide (info16 S hl)
    have hkr := hk.below hr.bel hklt
    have HR := hide hr
    have HSS := hide hS
    have hlsub : (subL S).length = 16 := by rw [subL_len, hl]
    by_cases hlt : r + 1 < 14
    · have hri : ((r + 1 : Nat) : Int) < 14 := by omega
      have e1 : aesTo rk T (r + 1) = xorL (colL (rowsL (subL S))) (roundKey rk (r + 1)) := by rw [aesTo, if_pos hlt, hS]
      have HE1 := hide e1
      have HRR := hide (And.intro hr14 hlt)
      obtain ⟨q, hq⟩ : ∃ q, r + 1 = q := ⟨_, rfl⟩
      rw [hq] at hri ⊢
      have HQ := hide hq
      clear hr hS e1 hr14 hlt hq
      go_wp2_with (refine wpList_load_mid rfl 206 _ rfl w.heap.size 0 rfl (bvals S) _ HRA.out Tryz.underlying206 rfl HI.out ?_)
      refine (substitute_any kb rk S _ hkr hl).mono ?_
      rintro e w2 ⟨rfl, hb2⟩
      have hp2 := HR.out.below (by decide) hb2
      have hp3 := hp2.setAll (nats (subL S)) (by rw [nats_len, hlsub])
      rw [vals_nats] at hp3
      have hth2 := hp2.there
      have HI2 := hide (info16' _ hlsub)
      have HI3 := hide (info16 _ hlsub)
      have hsz2 : (bvals (subL S)).toArray.size = 16 := by simp [bvals, hlsub]
      have HRA3 := hide hp3.range
      have HP3 := hide hp3
      have hk3 := hk.below hp3.bel hklt
      clear HR HRA HI hb2 hp2 hp3
      generalize subL S = S2 at *
      go_wp2_with (first | refine wpList_store_mid rfl 206 _ _ rfl w.heap.size 0 (bvals S2).toArray rfl rfl (by rw [hsz2]; exact hth2) HI2.out (bvals_one' S2) ?_ | refine wpList_load_mid rfl 206 _ rfl w.heap.size 0 rfl (bvals S2) _ HRA3.out Tryz.underlying206 rfl HI3.out ?_)
      refine (shiftRows_any S2 _ hlsub).mono ?_
      rintro e w4 ⟨rfl, hb4⟩
      have hp4 := HP3.out.below (by decide) hb4
      have hk4 := hk.below hp4.bel hklt
      have hl4 := rowsL_len S2
      have HP4 := hide hp4
      clear HP3 HI2 HI3 HRA3 hb4 hp4 hth2 hsz2
      generalize rowsL S2 = S4 at *
      go_wp2_with fail
      refine (mixColumns_any S4 _ hl4).mono ?_
      rintro e w5 ⟨rfl, hb5⟩
      have hp5 := HP4.out.below (by decide) hb5
      have hl5 := colL_len S4
      have hk5 := hk.below hp5.bel hklt
      have hp6 := hp5.setAll (nats (colL S4)) (by rw [nats_len, hl5])
      rw [vals_nats] at hp6
      have hth5 := hp5.there
      have HI5 := hide (info16' _ hl5)
      have HI6 := hide (info16 _ hl5)
      have hsz5 : (bvals (colL S4)).toArray.size = 16 := by simp [bvals, hl5]
      have HRA6 := hide hp6.range
      have HP6 := hide hp6
      have hk6 := hk.below hp6.bel hklt
      clear HP4 hb5 hp5 hp6
      generalize colL S4 = S5 at *
      go_wp2_with (first | refine wpList_store_mid rfl 206 _ _ rfl w.heap.size 0 (bvals S5).toArray rfl rfl (by rw [hsz5]; exact hth5) HI5.out (bvals_one' S5) ?_ | refine wpList_load_mid rfl 206 _ rfl w.heap.size 0 rfl (bvals S5) _ HRA6.out Tryz.underlying206 rfl HI6.out ?_)
      refine (addRound_any kb rk S5 q _ hk6 hl5 (by have := HRR.out; have := HQ.out; omega)).mono ?_
      rintro e w7 ⟨rfl, hb7⟩
      have hp7 := HP6.out.below (by decide) hb7
      have e8 : xorL S5 (roundKey rk q) = aesTo rk T (r + 1) := by rw [HE1.out, HQ.out]
      have hl7 := HLEN.out (r + 1) (by have := HRR.out; omega)
      rw [e8]
      have hp8 := hp7.setAll (nats (aesTo rk T (r + 1))) (by rw [nats_len, hl7])
      rw [vals_nats] at hp8
      have hth7 := hp7.there
      have HI7 := hide (info16' _ hl7)
      have hsz7 : (bvals (aesTo rk T (r + 1))).toArray.size = 16 := by simp [bvals, hl7]
      have HP8 := hide hp8
      clear HP6 HRA6 HI5 HI6 hth5 hsz5 hb7 hp7 hp8 e8 HE1
      obtain ⟨S7, hS7⟩ : ∃ X, aesTo rk T (r + 1) = X := ⟨_, rfl⟩
      rw [hS7] at hl7 HI7 hsz7 HP8 ⊢
      have HS7 := hide hS7
      clear hS7
      go_wp2_with (first | refine wpList_store_mid rfl 206 _ _ rfl w.heap.size 0 (bvals S7).toArray rfl rfl (by rw [hsz7]; exact hth7) HI7.out (bvals_one' S7) ?_)
      go_roundw
      case rel => exact ⟨r + 1, HRR.out.2, by have := HQ.out; exact val_int (by omega), by rw [HS7.out]; exact HP8.out⟩
      case measure => simp [intOf]; omega
    · have hr13 : r = 13 := by omega
      subst hr13
      have e1 : aesL rk T = xorL (rowsL (subL S)) (roundKey rk 14) := by
        show aesTo rk T (13 + 1) = _
        rw [aesTo, if_neg (by decide), hS]
      have hlA := HLEN.out 14 (by decide)
      have e2 : aesTo rk T 14 = aesL rk T := rfl
      rw [e2] at hlA
      have HE1 := hide e1
      simp only [show ((13 + 1 : Nat) : Int) = 14 from rfl]
      clear hr hS e1 e2 hr14 hlt HSS
      go_wp2_with (refine wpList_load_mid rfl 206 _ rfl w.heap.size 0 rfl (bvals S) _ HRA.out Tryz.underlying206 rfl HI.out ?_)
      refine (substitute_any kb rk S _ hkr hl).mono ?_
      rintro e w2 ⟨rfl, hb2⟩
      have hp2 := HR.out.below (by decide) hb2
      have HP2 := hide hp2
      clear HR HRA HI hb2 hp2
      generalize subL S = S2 at *
      go_wp2_with fail
      refine (shiftRows_any S2 _ hlsub).mono ?_
      rintro e w4 ⟨rfl, hb4⟩
      have hp4 := HP2.out.below (by decide) hb4
      have hl5 := rowsL_len S2
      have hp6 := hp4.setAll (nats (rowsL S2)) (by rw [nats_len, hl5])
      rw [vals_nats] at hp6
      have hth5 := hp4.there
      have HI5 := hide (info16' _ hl5)
      have HI6 := hide (info16 _ hl5)
      have hsz5 : (bvals (rowsL S2)).toArray.size = 16 := by simp [bvals, hl5]
      have HRA6 := hide hp6.range
      have HP6 := hide hp6
      have hk6 := hk.below hp6.bel hklt
      clear HP2 hb4 hp4 hp6
      generalize rowsL S2 = S5 at *
      go_wp2_with (first | refine wpList_store_mid rfl 206 _ _ rfl w.heap.size 0 (bvals S5).toArray rfl rfl (by rw [hsz5]; exact hth5) HI5.out (bvals_one' S5) ?_ | refine wpList_load_mid rfl 206 _ rfl w.heap.size 0 rfl (bvals S5) _ HRA6.out Tryz.underlying206 rfl HI6.out ?_)
      refine (addRound_any kb rk S5 14 _ hk6 hl5 (by decide)).mono ?_
      rintro e w7 ⟨rfl, hb7⟩
      have hp7 := HP6.out.below (by decide) hb7
      rw [← HE1.out]
      have hvl : (bvals (aesL rk T)).length = 16 := by rw [bvals_len]; exact hlA
      have hone := bvals_one (aesL rk T)
      have hth := hp7.res
      have hb := hp7.bel
      generalize hV : bvals (aesL rk T) = V at *
      have HIV := hide (show (Tryz.prog.info? 206).map (·.size) = some V.length from by rw [hvl]; kernel_rfl)
      have hb1 : Below w.heap.size w (w7.setCells (w.heap.size + 1) 0 V) := hb.trans (below_setCells w7 w.heap.size _ 0 V (by omega))
      have hrr := World.rangeAt_setCells_same w7 (w.heap.size + 1) 0 V (by rw [hvl]; exact hth)
      have HV := hide hvl
      clear hvl HP6 HRA6 HI5 HI6 hth5 hsz5 hb7 hp7
      go_wp2_with (refine wpList_store_mid rfl 206 _ _ rfl (w.heap.size + 1) 0 V.toArray rfl rfl (by simpa [HV.out] using hth) (by simpa using HIV.out) (all_oneCell_toArray hone) ?_)
      exact bodyPost_ret (v := .agg V.toArray) (results_cell_mid Tryz.results150 _ _ (w.heap.size + 1) 0 V _ rfl hrr Tryz.underlying206 rfl HIV.out) rfl ⟨by rw [hV], hb1⟩
end Go.Proofs.YtjnhlkaafnaooabGreatDoor
