import Derived.Test.YtjnhlkaafnaooaaDoorMacW
namespace Go.Proofs.YtjnhlkaafnaooaaDoor
open Go.RowKit
theorem again36 (w : World) : Calls Tryd.prog 29 #[.int .u8 54, .int .i64 64] w fun e w' => e = .returned (.string ⟨(List.replicate 64 (54 : UInt8)).toArray⟩) ∧ Below w.heap.size w w' := again_any 54 64 w (by decide)
theorem again5c (w : World) : Calls Tryd.prog 29 #[.int .u8 92, .int .i64 64] w fun e w' => e = .returned (.string ⟨(List.replicate 64 (92 : UInt8)).toArray⟩) ∧ Below w.heap.size w w' := again_any 92 64 w (by decide)
theorem mixed_list (a b : List UInt8) (w : World) (hn : a.length ≤ 1000) (hab : a.length = b.length) :
    Calls Tryd.prog 26 #[.string ⟨a.toArray⟩, .string ⟨b.toArray⟩] w fun e w' => e = .returned (.string ⟨(xorL a b).toArray⟩) ∧ Below w.heap.size w w' := by
  simpa using mixed_any ⟨a.toArray⟩ ⟨b.toArray⟩ w (by simpa [ByteArray.size] using hn) (by simpa [ByteArray.size] using hab)

set_option maxRecDepth 100000 in
set_option maxHeartbeats 4000000 in
theorem refMac_any (pb gh ch gk ck gs cs : Nat) (key t : List UInt8) (w : World) (hp : PrimIn w pb gh ch gk ck gs cs) (hk : key.length ≤ 65536) (ht : t.length ≤ 70000) :
    Calls Tryd.prog 16 #[.pointer (some ⟨pb, 0, none⟩), .string ⟨key.toArray⟩, .string ⟨t.toArray⟩] w fun e w' => e = .returned (.string ⟨(macL key t).toArray⟩) ∧ Below w.heap.size w w' := by
  obtain ⟨n, hn⟩ : ∃ n, key.length = n := ⟨_, rfl⟩
  have hni : (n : Int) ≤ 65536 := by omega
  have HT := hide ht
  have HN := hide hn
  have hsz : (ByteArray.mk key.toArray).size = n := by simpa [ByteArray.size] using hn
  have hbig : Calls Tryd.prog 10 #[.pointer (some ⟨pb, 0, none⟩), .string ⟨key.toArray⟩] w fun e w' => e = .returned (.string ⟨(shaL key).toArray⟩) ∧ Below w.heap.size w w' := refSha_any pb gh ch gk ck gs cs key w hp (by omega)
  have HBIG := hide hbig
  have hsl := shortL_len key
  have HSL := hide hsl
  clear hk ht hbig hsl hn
  go_enter Tryd.func16, Tryd.ntmps16
  obtain ⟨M, hM⟩ : ∃ M, macL key t = M := ⟨_, rfl⟩
  obtain ⟨K, hK⟩ : ∃ K, shortL key = K := ⟨_, rfl⟩
  obtain ⟨m, hm⟩ : ∃ m, K.length = m := ⟨_, rfl⟩
  have hm64 : m ≤ 64 := by rw [← hm, ← hK]; exact HSL.out
  have hszK : (ByteArray.mk K.toArray).size = m := by simpa [ByteArray.size] using hm
  rw [hM]
  have HM := hide hM
  have HK := hide hK
  have Hm := hide hm
  by_cases h : 64 < n
  case' pos =>
    have hd : decide ((64 : Int) < (n : Int)) = true := by simp; omega
    clear hM hK hm
    go_wp2_with fail
    refine HBIG.out.mono ?_
    rintro e w1 ⟨rfl, hb1⟩
    have hp1 := hp.below hb1
    have hS : shaL key = K := by rw [← HK.out]; unfold shortL; rw [if_pos (by rw [HN.out]; exact h)]
    rw [hS]
    clear hS h hd hsz hni
  case' neg =>
    have hS : key = K := by rw [← HK.out]; unfold shortL; rw [if_neg (by rw [HN.out]; exact h)]
    have hmn : n = m := by rw [← HN.out, hS, hm]
    have hd : decide ((64 : Int) < (m : Int)) = false := by simp; omega
    rw [hS]
    clear hM hK hm hsz hni hS h hmn
    have hb1 : Below w.heap.size w w := Below.refl _ _
    have hp1 := hp
  all_goals
    clear HBIG
    have a1 := fun w => add_str K (List.replicate (64 - m) 0) (by rw [Hm.out]; simp; omega) w
    have hB : K ++ List.replicate (64 - m) 0 = blockL key := by unfold blockL; rw [HK.out, Hm.out]
    rw [hB] at a1
    have hBl := blockL_len key
    obtain ⟨B, hBB⟩ : ∃ B, blockL key = B := ⟨_, rfl⟩
    rw [hBB] at a1 hBl
    have HBB := hide hBB
    have HBL := hide hBl
    have hsub : (64 : Int) - (m : Int) = ((64 - m : Nat) : Int) := by omega
    have hz1 := hb1.size
    clear hB hBB hBl
    go_wp2_with fail
    try rw [hsub]
    refine (noughts_any (64 - m) _ (by omega)).mono ?_
    rintro e w2 ⟨rfl, hb2⟩
    have hp2 := hp1.below hb2
    have hb2' := hb1.trans (hb2.mono hz1)
    have hz2 := hb2'.size
    generalize List.replicate (64 - m) (0 : UInt8) = Z at *
    clear hsub
    go_wp2_with fail
    refine (again36 _).mono ?_
    rintro e w3 ⟨rfl, hb3⟩
    have hp3 := hp2.below hb3
    have hb3' := hb2'.trans (hb3.mono hz2)
    have hz3 := hb3'.size
    obtain ⟨X, hX⟩ : ∃ X, List.replicate 64 (54 : UInt8) = X := ⟨_, rfl⟩
    rw [hX]
    have hXl : X.length = 64 := by rw [← hX, List.length_replicate]
    have HX := hide (And.intro hX hXl)
    clear hX hXl
    go_wp2_with fail
    refine (again5c _).mono ?_
    rintro e w4 ⟨rfl, hb4⟩
    have hp4 := hp3.below hb4
    have hb4' := hb3'.trans (hb4.mono hz3)
    have hz4 := hb4'.size
    obtain ⟨Y, hY⟩ : ∃ Y, List.replicate 64 (92 : UInt8) = Y := ⟨_, rfl⟩
    rw [hY]
    have hYl : Y.length = 64 := by rw [← hY, List.length_replicate]
    have HY := hide (And.intro hY hYl)
    clear hY hYl
    go_wp2_with fail
    refine (mixed_list B X _ (by rw [HBL.out]; decide) (by rw [HBL.out, HX.out.2])).mono ?_
    rintro e w5 ⟨rfl, hb5⟩
    have hp5 := hp4.below hb5
    have hb5' := hb4'.trans (hb5.mono hz4)
    have hz5 := hb5'.size
    have hPi : xorL B X = padIn key := by unfold padIn; rw [HBB.out, HX.out.1]
    rw [hPi]
    clear hPi
    go_wp2_with fail
    refine (mixed_list B Y _ (by rw [HBL.out]; decide) (by rw [HBL.out, HY.out.2])).mono ?_
    rintro e w6 ⟨rfl, hb6⟩
    have hp6 := hp5.below hb6
    have hb6' := hb5'.trans (hb6.mono hz5)
    have hz6 := hb6'.size
    have hPo : xorL B Y = padOut key := by unfold padOut; rw [HBB.out, HY.out.1]
    rw [hPo]
    have l1 := padIn_len key
    have l2 := padOut_len key
    have hMM : shaL (padOut key ++ shaL (padIn key ++ t)) = M := HM.out
    generalize padIn key = PI at *
    generalize padOut key = PO at *
    have a2 := fun w => add_str PI t (by rw [l1]; have := HT.out; omega) w
    have a3 := fun w => add_str PO (shaL (PI ++ t)) (by rw [l2, shaL_len]; decide) w
    have HL := hide (And.intro l1 l2)
    have HMM := hide hMM
    clear hPo l1 l2 hMM a1
    obtain ⟨PT, hPT⟩ : ∃ PT, PI ++ t = PT := ⟨_, rfl⟩
    rw [hPT] at a2 a3 HMM
    have hPTl : PT.length ≤ 1000000 := by rw [← hPT, List.length_append, HL.out.1]; have := HT.out; omega
    have HPTL := hide hPTl
    clear hPT hPTl
    go_wp2_with fail
    refine (refSha_any pb gh ch gk ck gs cs PT _ hp6 HPTL.out).mono ?_
    rintro e w7 ⟨rfl, hb7⟩
    have hp7 := hp6.below hb7
    have hb7' := hb6'.trans (hb7.mono hz6)
    have hz7 := hb7'.size
    obtain ⟨D, hD⟩ : ∃ D, shaL PT = D := ⟨_, rfl⟩
    have hDl : D.length = 32 := by rw [← hD, shaL_len]
    rw [hD] at a3 HMM ⊢
    have HDL := hide hDl
    clear a2 hD hDl
    obtain ⟨PD, hPD⟩ : ∃ PD, PO ++ D = PD := ⟨_, rfl⟩
    rw [hPD] at a3 HMM
    have hPDl : PD.length ≤ 1000000 := by rw [← hPD, List.length_append, HL.out.2, HDL.out]; decide
    have HPDL := hide hPDl
    clear hPD hPDl
    go_wp2_with fail
    refine (refSha_any pb gh ch gk ck gs cs PD _ hp7 HPDL.out).mono ?_
    rintro e w8 ⟨rfl, hb8⟩
    rw [HMM.out]
    go_wp2_with fail
    go_ret
    exact ⟨rfl, hb7'.trans (hb8.mono hz7)⟩

set_option maxRecDepth 100000 in
set_option maxHeartbeats 4000000 in
theorem refKey_any (pb gh ch gk ck gs cs : Nat) (pass salt : List UInt8) (rounds : Int) (size : Nat) (w : World) (hp : PrimIn w pb gh ch gk ck gs cs) (hk : pass.length ≤ 65536) (hsl : salt.length ≤ 65536) (hr : -1 ≤ rounds ∧ rounds ≤ 8) (hs : 1 ≤ size ∧ size ≤ 200) :
    Calls Tryd.prog 13 #[.pointer (some ⟨pb, 0, none⟩), .string ⟨pass.toArray⟩, .string ⟨salt.toArray⟩, .int .i64 rounds, .int .i64 (size : Int)] w fun e w' => e = .returned (.string ⟨(keyL pass salt rounds size).toArray⟩) ∧ Below w.heap.size w w' := by
  obtain ⟨hr1, hr2⟩ := hr
  obtain ⟨hs1, hs2⟩ := hs
  have hsi : (size : Int) ≤ 200 := by omega
  have HK := hide hk
  have HSL := hide hsl
  clear hk hsl
  go_enter Tryd.func13, Tryd.ntmps13
  go_wp2_with fail
  obtain ⟨T, hT⟩ : ∃ T, turnsOf rounds = T := ⟨_, rfl⟩
  have hTr : ∀ j : Nat, j < T ↔ (j : Int) + 2 ≤ rounds := fun j => by rw [← hT]; unfold turnsOf; omega
  have HTR := hide hTr
  have HTD := hide hT
  clear hT hTr
  go_loopw [11, 12, 13, 14, 15, 16] (fun o i _ _ _ _ wr => ∃ m : Nat, m ≤ (size + 31) / 32 ∧ i = .int .i64 ((m + 1 : Nat) : Int) ∧ o = .string ⟨(keyTo pass salt T m).toArray⟩ ∧ Below w.heap.size w wr) (fun _ i _ _ _ _ _ => (10 - intOf i).toNat)
  case atStart => exact ⟨0, by omega, rfl, rfl, Below.refl _ _⟩
  case round =>
    obtain ⟨m, hm, rfl, rfl, hbel⟩ := hrel
    have hlen := keyTo_len pass salt T m
    have hnext : keyTo pass salt T (m + 1) = keyTo pass salt T m ++ sumL pass salt (m + 1) T := rfl
    obtain ⟨O, hO⟩ : ∃ O, keyTo pass salt T m = O := ⟨_, rfl⟩
    rw [hO] at hlen hnext ⊢
    have hsz : (ByteArray.mk O.toArray).size = 32 * m := by simpa [ByteArray.size] using hlen
    have hszO := hbel.size
    have hpw := hp.below (hbel.mono (Nat.le_refl _))
    obtain ⟨q, hq⟩ : ∃ q, 32 * m = q := ⟨_, rfl⟩
    obtain ⟨i1, hi1⟩ : ∃ i1, m + 1 = i1 := ⟨_, rfl⟩
    rw [hq] at hsz hlen
    rw [hi1] at hnext ⊢
    have HNX := hide hnext
    have HOL := hide hlen
    have HO := hide hO
    clear hnext hlen hO
    by_cases hlt : q < size
    · have hqi : (q : Int) < (size : Int) := by omega
      have hi8 : i1 ≤ 8 := by omega
      have hi8i : (i1 : Int) ≤ 8 := by omega
      have hq2 : (q : Int) ≤ 200 := by omega
      have a1 := fun w => add_str salt (onesL i1 4) (by rw [onesL_len]; have := HSL.out; omega) w
      go_wp2_with fail
      refine (ones4 i1 _ (by omega)).mono ?_
      rintro e w1 ⟨rfl, hb1⟩
      have hz1 := hb1.size
      have hp1 := hpw.below hb1
      have hb1' := hbel.trans (hb1.mono hszO)
      have hl0 : (salt ++ onesL i1 4).length ≤ 70000 := by rw [List.length_append, onesL_len]; have := HSL.out; omega
      have hu0 : macL pass (salt ++ onesL i1 4) = linkL pass salt i1 0 := rfl
      have hf0 : sumL pass salt i1 0 = linkL pass salt i1 0 := rfl
      obtain ⟨SN, hSN⟩ : ∃ SN, salt ++ onesL i1 4 = SN := ⟨_, rfl⟩
      rw [hSN] at a1 hl0 hu0
      generalize onesL i1 4 = ON at *
      have HL0 := hide hl0
      have HU0 := hide hu0
      have HF0 := hide hf0
      have HSN := hide hSN
      clear hl0 hu0 hf0 hSN
      go_wp2_with fail
      refine (refMac_any pb gh ch gk ck gs cs pass SN _ hp1 HK.out HL0.out).mono ?_
      rintro e w2 ⟨rfl, hb2⟩
      rw [HU0.out]
      have hp2 := hp1.below hb2
      have hz2 := hb2.size
      have hb2' := hb1'.trans (hb2.mono (by omega))
      clear a1
      go_wp2_with fail
      go_loopw [14, 15, 16] (fun u f r wr => ∃ j : Nat, j ≤ T ∧ r = .int .i64 ((j : Int) + 2) ∧ u = .string ⟨(linkL pass salt i1 j).toArray⟩ ∧ f = .string ⟨(sumL pass salt i1 j).toArray⟩ ∧ Below w2.heap.size w2 wr) (fun _ _ r _ => (20 - intOf r).toNat)
      case atStart => exact ⟨0, by omega, rfl, rfl, by rw [HF0.out], Below.refl _ _⟩
      case round =>
        obtain ⟨j, hj, rfl, rfl, rfl, hbj⟩ := hrel
        have hpj := hp2.below hbj
        have hzj := hbj.size
        have hlu := linkL_len pass salt i1 j
        have hlu1 := linkL_len pass salt i1 (j + 1)
        have hlf := sumL_len pass salt i1 j
        have hfn : xorL (sumL pass salt i1 j) (linkL pass salt i1 (j + 1)) = sumL pass salt i1 (j + 1) := rfl
        have hun : macL pass (linkL pass salt i1 j) = linkL pass salt i1 (j + 1) := rfl
        by_cases hjt : j < T
        · have hji := (HTR.out j).1 hjt
          have hd : decide ((j : Int) + 2 ≤ rounds) = true := by simpa using hji
          have hj8 : (j : Int) ≤ 6 := by omega
          obtain ⟨U, hU⟩ : ∃ U, linkL pass salt i1 j = U := ⟨_, rfl⟩
          obtain ⟨F, hF⟩ : ∃ F, sumL pass salt i1 j = F := ⟨_, rfl⟩
          obtain ⟨U1, hU1⟩ : ∃ U1, linkL pass salt i1 (j + 1) = U1 := ⟨_, rfl⟩
          obtain ⟨F1, hF1⟩ : ∃ F1, sumL pass salt i1 (j + 1) = F1 := ⟨_, rfl⟩
          rw [hU, hF]
          rw [hU] at hlu hun
          rw [hU1] at hlu1 hun hfn
          rw [hF] at hlf hfn
          rw [hF1] at hfn
          have HE := hide (And.intro hU1 hF1)
          have HLL := hide (And.intro hlu (And.intro hlu1 hlf))
          have HUN := hide (And.intro hun hfn)
          clear hU hF hU1 hF1 hlu hlu1 hlf hun hfn hji
          go_wp2_with fail
          refine (refMac_any pb gh ch gk ck gs cs pass U _ hpj HK.out (by rw [HLL.out.1]; decide)).mono ?_
          rintro e w3 ⟨rfl, hb3⟩
          rw [HUN.out.1]
          have hz3 := hb3.size
          have hb3' := hbj.trans (hb3.mono hzj)
          go_wp2_with fail
          refine (mixed_list F U1 _ (by rw [HLL.out.2.2]; decide) (by rw [HLL.out.2.1, HLL.out.2.2])).mono ?_
          rintro e w4 ⟨rfl, hb4⟩
          rw [HUN.out.2]
          have hb4' := hb3'.trans (hb4.mono (by omega))
          go_wp2_with fail
          go_roundw
          case rel => first
            | exact ⟨j + 1, by omega, by go_num, by rw [HE.out.1], by rw [HE.out.2], hb4'⟩
            | ((repeat apply Exists.intro); exact ⟨⟨j + 1, by omega, by go_num, by rw [HE.out.1], by rw [HE.out.2], hb4'⟩, rfl⟩)
          case measure => simp [intOf]; omega
        · have hjT : j = T := by omega
          subst hjT
          have hd : decide ((j : Int) + 2 ≤ rounds) = false := by
            have := HTR.out j
            simp only [Nat.lt_irrefl, false_iff] at this
            simpa using this
          have hj8 : (j : Int) ≤ 8 := by
            have := HTD.out; unfold turnsOf at this; omega
          have a2 := fun w => add_str O (sumL pass salt i1 j) (by rw [HOL.out, hlf]; omega) w
          rw [← HNX.out] at a2
          have HB := hide (hb2'.trans (hbj.mono (by omega)))
          clear hlu hlu1 hfn hun
          generalize linkL pass salt i1 j = U at *
          generalize sumL pass salt i1 j = F at *
          go_wp2_with fail
          go_roundw
          case rel => first
            | exact ⟨m + 1, by omega, by rw [hi1]; go_num, by rw [hi1], HB.out⟩
            | ((repeat apply Exists.intro); exact ⟨⟨m + 1, by omega, by rw [hi1]; go_num, by rw [hi1], HB.out⟩, rfl⟩)
          case measure => simp [intOf]; omega
    · have hqs : ¬ (q : Int) < (size : Int) := by omega
      have hm2 : m = (size + 31) / 32 := by omega
      have hq2 : (q : Int) ≤ 300 := by omega
      have hsq : (size : Int) ≤ (q : Int) := by omega
      have hfin : (ByteArray.mk O.toArray).extract 0 size = ⟨(keyL pass salt rounds size).toArray⟩ := by
        apply ByteArray.ext
        apply Array.toList_inj.1
        rw [extract_list]
        unfold keyL
        rw [HTD.out, ← hm2, HO.out]
        simp
      have HF := hide hfin
      clear hfin hm2 hm
      go_wp2_with fail
      go_ret
      exact ⟨by rw [← HF.out]; rfl, hbel⟩
end Go.Proofs.YtjnhlkaafnaooaaDoor
