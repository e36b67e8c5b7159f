import Derived.Test.YtjnhlkaafnaooaaLawW
import Derived.Deep.RegionWith
namespace Go.Proofs.Ytjnhlkaafnaooaa
open Go.RowKit
theorem KeyAt.drew {w : World} {kb : Nat} {rk : List UInt8} (h : KeyAt w kb rk) : KeyAt w.drew kb rk := ⟨⟨h.cells.lt, h.cells.at_⟩, h.len⟩
theorem PS.of_consts {w : World} {gh ch gk ck gs cs : Nat} {w' : World} (h : CI w hWords kWords (sList 256) (some ⟨gh, 0, none⟩) 8 ch (some ⟨gk, 0, none⟩) 64 ck (some ⟨gs, 0, none⟩) 256 cs w') : PS w' w.heap.size gs cs :=
  ⟨h.lt, h.c2, Cells.of_own (by rw [sList_len]; exact h.os)⟩
set_option maxRecDepth 100000 in
set_option maxHeartbeats 2000000 in
theorem sealed_any (key nonce a t : List UInt8) (bend : Int) (w : World) (hb1 : -9223372036854775808 ≤ bend) (hb2 : bend ≤ 9223372036854775807) (hk : key.length ≤ 65536) (hn : nonce.length ≤ 65536) (ha : a.length ≤ 4096) (ht : t.length ≤ 4096) :
    Calls Try.prog 3 #[.string ⟨key.toArray⟩, .string ⟨nonce.toArray⟩, .string ⟨a.toArray⟩, .string ⟨t.toArray⟩, .int .i64 bend] w fun e w' => e = .returned (.bool true) ∧ Below w.heap.size w w' := by
  obtain ⟨lk, hlk⟩ : ∃ n, key.length = n := ⟨_, rfl⟩
  obtain ⟨ln, hln⟩ : ∃ n, nonce.length = n := ⟨_, rfl⟩
  obtain ⟨la, hla⟩ : ∃ n, a.length = n := ⟨_, rfl⟩
  obtain ⟨lt, hlt⟩ : ∃ n, t.length = n := ⟨_, rfl⟩
  have s1 : (ByteArray.mk key.toArray).size = lk := by simp [ByteArray.size, hlk]
  have s2 : (ByteArray.mk nonce.toArray).size = ln := by simp [ByteArray.size, hln]
  have s3 : (ByteArray.mk a.toArray).size = la := by simp [ByteArray.size, hla]
  have s4 : (ByteArray.mk t.toArray).size = lt := by simp [ByteArray.size, hlt]
  have i1 : (lk : Int) ≤ 65536 := by omega
  have i2 : (ln : Int) ≤ 65536 := by omega
  have i3 : (la : Int) ≤ 4096 := by omega
  have i4 : (lt : Int) ≤ 4096 := by omega
  have HL := hide (And.intro hla (And.intro hlt (And.intro ha (And.intro ht (And.intro hb1 hb2)))))
  clear hk hn ha ht hlk hln hla hlt hb1 hb2
  go_enter Try.func3, Try.ntmps3
  go_wp2_with fail
  refine (constants_any w).mono ?_
  rintro e w1 ⟨rfl, gh, ch, gk, ck, gs, cs, hci⟩
  have hp1 := PS.of_consts hci
  have hbel1 := hci.bel
  obtain ⟨pb, hpb⟩ : ∃ p, w.heap.size = p := ⟨_, rfl⟩
  rw [hpb] at hp1 ⊢
  have hpw : w.heap.size ≤ pb := by omega
  clear hci
  have hK32 := fillL_len key 32
  have hN12 := fillL_len nonce 12
  have hkey := fun w => gkeyed_any key w
  have hrkl := keysL_len (fillL key 32) hK32
  have hgA := fun w hp => gcm_any pb gs cs (fillL key 32) (fillL nonce 12) a t false w hp hK32 hN12 HL.out.2.2.1 HL.out.2.2.2.1
  have hgB := fun c w hp (hc : c.length ≤ 4096) => gcm_any pb gs cs (fillL key 32) (fillL nonce 12) a c true w hp hK32 hN12 HL.out.2.2.1 hc
  have hci := fun w hp => cipher_any pb gs cs (fillL key 32) (List.replicate 16 0) w hp hK32 (by simp)
  have hfk := fun w => filled_any key 32 w (by decide)
  have hfn := fun w => filled_any nonce 12 w (by decide)
  generalize fillL key 32 = K32 at *
  obtain ⟨rk, hrk⟩ : ∃ x, keysL K32 = x := ⟨_, rfl⟩
  simp only [hrk] at hkey hrkl hgA hgB hci
  obtain ⟨N, hN⟩ : ∃ x, fillL nonce 12 = x := ⟨_, rfl⟩
  simp only [hN] at hgA hgB hfn hN12
  have HKEY := hide hkey
  have HGA := hide hgA
  have HGB := hide hgB
  have HCI := hide hci
  have HFK := hide hfk
  have HFN := hide hfn
  have HRK := hide (And.intro hrkl hN12)
  have HSE := hide (fun kb w hk => seal_any kb rk nonce a t w hk HL.out.2.2.1 HL.out.2.2.2.1)
  rw [hN] at HSE
  clear hkey hgA hgB hci hfk hfn hrk hN hpb hK32 hrkl hN12
  go_wp2_with fail
  refine (HKEY.out w1).mono ?_
  rintro e w2 ⟨kb, rfl, hk2, hkb, hb2⟩
  have hbel2 := hbel1.trans (hb2.mono hbel1.size)
  have hp2 := hp1.below hb2 (Nat.le_refl _)
  clear hb2 hbel1 hp1 HKEY
  go_wp2_with fail
  refine (HSE.out kb w2 hk2).mono ?_
  rintro e w3 ⟨rfl, hb3⟩
  have hbel3 := hbel2.trans (hb3.mono hbel2.size)
  have hp3 := hp2.below hb3 (Nat.le_refl _)
  have hk3 := hk2.below hb3 hk2.lt
  clear hb3 hbel2 hp2 HSE hk2
  have hCl := ctrL_len rk N HRK.out.1 HRK.out.2 2 t
  rw [HL.out.2.1] at hCl
  have hTl := tagL_len rk N a (ctrL rk N 2 t)
  have hSe : sealL rk N a t = ctrL rk N 2 t ++ tagL rk N a (ctrL rk N 2 t) := rfl
  have HTW := hide (ctrL_twice rk N HRK.out.1 HRK.out.2 2 t)
  rw [hSe]
  obtain ⟨C, hC⟩ : ∃ x, ctrL rk N 2 t = x := ⟨_, rfl⟩
  rw [hC] at hCl hTl HTW ⊢
  obtain ⟨T, hT⟩ : ∃ x, tagL rk N a C = x := ⟨_, rfl⟩
  rw [hT] at hTl ⊢
  have HCT := hide (And.intro hC (And.intro hT (And.intro hCl hTl)))
  clear hSe hC hT
  obtain ⟨A, hA⟩ : ∃ x, C ++ T = x := ⟨_, rfl⟩
  have hAl : A.length = lt + 16 := by rw [← hA, List.length_append, hCl, hTl]
  have HA := hide (And.intro hA hAl)
  rw [hA]
  clear hA hCl hTl
  go_wp2_with fail
  refine (HFK.out w3).mono ?_
  rintro e w4 ⟨rfl, hb4⟩
  have hbel4 := hbel3.trans (hb4.mono hbel3.size)
  have hp4 := hp3.below hb4 (Nat.le_refl _)
  have hk4 := hk3.below hb4 hk3.lt
  clear hb4 hbel3 hp3 hk3 HFK
  go_wp2_with fail
  refine (HFN.out w4).mono ?_
  rintro e w5 ⟨rfl, hb5⟩
  have hbel5 := hbel4.trans (hb5.mono hbel4.size)
  have hp5 := hp4.below hb5 (Nat.le_refl _)
  have hk5 := hk4.below hb5 hk4.lt
  clear hb5 hbel4 hp4 hk4 HFN
  go_wp2_with fail
  refine (HGA.out w5 hp5).mono ?_
  rintro e w6 ⟨rfl, hb6⟩
  have hbel6 := hbel5.trans (hb6.mono hbel5.size)
  have hp6 := hp5.below hb6 (Nat.le_refl _)
  have hk6 := hk5.below hb6 hk5.lt
  clear hb6 hbel5 hp5 hk5 HGA
  obtain ⟨hC, hT, hCl, hTl⟩ := HCT.out
  rw [if_neg (by decide), hC, hT]
  have hOp := open_any kb rk N a C T w6 hk6 HL.out.2.2.1 (by rw [hCl]; exact HL.out.2.1 ▸ HL.out.2.2.2.1) hTl
  rw [fillL_self N 12 HRK.out.2, hT, if_pos rfl, HTW.out, HA.out.1] at hOp
  have HOP := hide hOp
  clear hOp hC hT hCl hTl
  go_wp2_with fail
  refine HOP.out.mono ?_
  rintro e w7 ⟨rfl, hb7⟩
  have hbel7 := hbel6.trans (hb7.mono hbel6.size)
  have hp7 := hp6.below hb7 (Nat.le_refl _)
  have hk7 := hk6.below hb7 hk6.lt
  clear hb7 hbel6 hp6 hk6 HOP
  have hadd := fun w => add_str C T (by rw [HCT.out.2.2.1, HCT.out.2.2.2]; omega) w
  rw [HA.out.1] at hadd
  obtain ⟨L, hL⟩ : ∃ L, lt + 16 = L := ⟨_, rfl⟩
  have sA : (ByteArray.mk A.toArray).size = L := by simp [ByteArray.size, HA.out.2, hL]
  have hgb := fun w hp => HGB.out C w hp (by rw [HCT.out.2.2.1]; omega)
  rw [HTW.out] at hgb
  have HGB2 := hide hgb
  clear hgb HGB
  go_wp2_with fail
  refine (HGB2.out w7 hp7).mono ?_
  rintro e w8 ⟨rfl, hb8⟩
  have hbel8 := hbel7.trans (hb8.mono hbel7.size)
  have hp8 := hp7.below hb8 (Nat.le_refl _)
  have hk8 := hk7.below hb8 hk7.lt
  clear hb8 hbel7 hp7 hk7 HGB2
  rw [if_pos True.intro, HCT.out.2.1]
  have HPK := hide (fun (x : Int) (hx : x = ((8 * (lt + 16 + 12 + la) : Nat) : Int)) w => hx ▸ pick_any bend (8 * (lt + 16 + 12 + la)) w HL.out.2.2.2.2.1 HL.out.2.2.2.2.2 (by omega) (by omega))
  have HFZ := hide (fun w => filled_any [] 16 w (by decide))
  rw [show fillL [] 16 = List.replicate 16 0 by rfl] at HFZ
  go_wp2_with fail
  refine (HPK.out _ (by omega) w8).mono ?_
  rintro e w8b ⟨n, rfl, hnlt, rfl⟩
  go_wp2_with fail
  refine (HFZ.out w8b).mono ?_
  rintro e w9 ⟨rfl, hb9⟩
  have hbel9 := hbel8.trans (hb9.mono hbel8.size)
  have hp9 := hp8.below hb9 (Nat.le_refl _)
  have hk9 := hk8.below hb9 hk8.lt
  clear hb9 hbel8 hp8 hk8 HPK HFZ
  obtain ⟨Z, hZ⟩ : ∃ x, List.replicate 16 (0 : UInt8) = x := ⟨_, rfl⟩
  obtain ⟨HK, hHK⟩ : ∃ x, aesL rk Z = x := ⟨_, rfl⟩
  rw [hZ, hHK] at HCI
  rw [hZ]
  have hn8 : (n : Int) < 8 * ((lt : Int) + 16 + 12 + la) := by omega
  have HZ := hide (And.intro hZ hHK)
  clear hZ hHK hnlt
  go_wp2_with fail
  refine (HCI.out w9 hp9).mono ?_
  rintro e w10 ⟨rfl, hb10⟩
  have hbel10 := hbel9.trans (hb10.mono hbel9.size)
  have hp10 := hp9.below hb10 (Nat.le_refl _)
  have hk10 := hk9.below hb10 hk9.lt
  clear hb10 hbel9 hp9 hk9 HCI
  clear hadd hp10
  have hadd1 := fun w => add_str A N (by rw [HA.out.2, HRK.out.2]; omega) w
  have hadd2 := fun w => add_str (A ++ N) a (by rw [List.length_append, HA.out.2, HRK.out.2, HL.out.1]; omega) w
  obtain ⟨X, hX⟩ : ∃ x, A ++ N ++ a = x := ⟨_, rfl⟩
  obtain ⟨m, hm⟩ : ∃ m, lt + 16 + 12 + la = m := ⟨_, rfl⟩
  have hXl : X.length = m := by rw [← hX, List.length_append, List.length_append, HA.out.2, HRK.out.2, HL.out.1, hm]
  rw [hX] at hadd2
  have hcs := conv_str w10 X m hXl
  obtain ⟨hbr, hbb⟩ := BR.bytes w10 X
  generalize Lib.bytesWorld w10 5 ⟨X.toArray⟩ = w11 at *
  generalize grownCap w10 m 0 5 = cap at *
  generalize A ++ N = AN at hadd1 hadd2
  obtain ⟨q, hq⟩ : ∃ q, n / 8 = q := ⟨_, rfl⟩
  obtain ⟨r, hr⟩ : ∃ r, n % 8 = r := ⟨_, rfl⟩
  have hqm : q < m := by omega
  have hq1 : (n : Int).tdiv 8 = (q : Int) := by rw [Int.tdiv_eq_ediv_of_nonneg (by omega)]; omega
  have hr1 : (n : Int).tmod 8 = (r : Int) := by rw [Int.tmod_eq_emod_of_nonneg (by omega)]; omega
  have hq2 : (n : Int) / 8 = (q : Int) := by omega
  have hr2 : (n : Int) % 8 = (r : Int) := by omega
  have hr8 : (r : Int) < 8 := by omega
  have hqi : (q : Int) < (m : Int) := by omega
  have hmi : (m : Int) ≤ 8220 := by omega
  have hq3 : IntKind.i64.wrap (q : Int) = (q : Int) := wrap_i64_nat _ (by omega)
  have hr3 : IntKind.i64.wrap (r : Int) = (r : Int) := wrap_i64_nat _ (by omega)
  have hc := hbr.cell q (by rw [hXl]; exact hqm)
  have hf := hbr.frz q (by rw [hXl]; exact hqm)
  have HBR := hide (And.intro hbr hbb)
  have HX := hide (And.intro hX (And.intro hXl (And.intro hm (And.intro hq (And.intro hr (And.intro hqm hn8))))))
  obtain ⟨v, hv⟩ : ∃ v, X.getD q 0 = v := ⟨_, rfl⟩
  have HV := hide hv
  rw [hv] at hc
  have hvl := UInt8.toNat_lt v
  clear hbr hbb hX hXl hm hq hr hqm hv hn8
  obtain ⟨u, hu⟩ : ∃ u, v ^^^ UInt8.ofNat (2 ^ r) = u := ⟨_, rfl⟩
  have hr8n : r < 8 := by omega
  have h2r : 2 ^ r < 256 := Nat.pow_lt_pow_right (by decide : 1 < 2) hr8n
  have hx : bits BinOp.xor IntKind.u8 ((v.toNat : Nat) : Int) ((2 : Int) ^ r % 256) = ((u.toNat : Nat) : Int) := by
    rw [show ((2 : Int) ^ r % 256) = ((2 ^ r : Nat) : Int) by rw [show (2 : Int) ^ r = ((2 ^ r : Nat) : Int) by simp]; generalize 2 ^ r = e at h2r ⊢; omega, u8_xor_nat _ _ hvl h2r, ← hu, UInt8.toNat_xor, UInt8.toNat_ofNat_of_lt' h2r]
  have hset := HBR.out.1.set q u (by rw [HX.out.2.1]; exact HX.out.2.2.2.2.2.1)
  obtain ⟨Y, hY⟩ : ∃ y, X.set q u = y := ⟨_, rfl⟩
  rw [hY] at hset
  have hYl : Y.length = m := by rw [← hY, List.length_set, HX.out.2.1]
  have hcv := hset.conv (cap := cap) hYl
  have hb12 : Below w10.heap.size w10 (w11.setCell ⟨w10.heap.size, q, none⟩ (.int .u8 ((u.toNat : Nat) : Int))) := HBR.out.2.setCell (Nat.le_refl _) _
  have hbel12 := (hbel10.trans (hb12.mono hbel10.size)).drew
  have hk12 := (hk10.below hb12 hk10.lt).drew
  clear hb12
  have hYb : Y = bendL (C ++ tagL rk N a C ++ N ++ a) (n / 8) (UInt8.ofNat (2 ^ (n % 8))) := by
    rw [HCT.out.2.1, HA.out.1, HX.out.1, HX.out.2.2.2.1, HX.out.2.2.2.2.1, ← hY, ← hu, ← HV.out]; rfl
  have HBE := hide (fun hH => bent_all rk N a C n HRK.out.1 HRK.out.2 (by rw [HCT.out.2.2.1, HL.out.1]; have := HX.out.2.2.2.2.2.2; omega) hH Y hYb)
  rw [HCT.out.2.2.1] at HBE
  obtain ⟨M, hM⟩ : ∃ M, L + 12 = M := ⟨_, rfl⟩
  have hMm : M ≤ m := by have := HX.out.2.2.1; omega
  have sY : (ByteArray.mk Y.toArray).size = m := by simp [ByteArray.size, hYl]
  have x1 : (ByteArray.mk Y.toArray).extract L M = ⟨((Y.drop L).take 12).toArray⟩ := by
    rw [ByteArray.extract_mk, show M - L = 12 by omega]
  have x2 : (ByteArray.mk Y.toArray).extract M m = ⟨(Y.drop M).toArray⟩ := by
    rw [ByteArray.extract_mk, List.take_of_length_le (by rw [List.length_drop]; omega)]
  have x3 : (ByteArray.mk Y.toArray).extract 0 L = ⟨(Y.take L).toArray⟩ := by
    rw [ByteArray.extract_mk, List.drop_zero, Nat.sub_zero]
  have x4 : (ByteArray.mk A.toArray).extract 0 15 = ⟨(A.take 15).toArray⟩ := by
    rw [ByteArray.extract_mk, List.drop_zero, Nat.sub_zero]
  have hsp : Y.take lt ++ (Y.take L).drop lt = Y.take L := by
    have h := List.take_append_drop lt (Y.take L)
    rwa [List.take_take, Nat.min_eq_left (by omega)] at h
  have HO2 := hide (fun w hk => open_any kb rk ((Y.drop L).take 12) (Y.drop M) (Y.take lt) ((Y.take L).drop lt) w hk (by rw [List.length_drop]; have := HX.out.2.2.1; omega) (by rw [List.length_take]; omega) (by rw [List.length_drop, List.length_take]; omega))
  rw [hsp, fillL_self _ 12 (by rw [List.length_take, List.length_drop]; omega)] at HO2
  have HO3 := hide (fun w => open_short kb N a (A.take 15) w (by rw [List.length_take]; omega))
  rw [hL, hM] at HBE
  generalize (Y.drop L).take 12 = Y1 at *
  generalize Y.drop M = Y2 at *
  generalize Y.take L = Y3 at *
  have hMi : (L : Int) + 12 = (M : Int) := by omega
  have hMmi : (M : Int) ≤ (m : Int) := by omega
  have hLMi : (L : Int) ≤ (M : Int) := by omega
  have hLM : L ≤ M := by omega
  have hLmi : (L : Int) ≤ (m : Int) := by omega
  have hLm : L ≤ m := by omega
  have hMw : IntKind.i64.wrap (M : Int) = (M : Int) := wrap_i64_nat _ (by omega)
  have hL15 : (15 : Int) ≤ (L : Int) := by omega
  have hLX := hide (And.intro hL hM)
  clear hM hL
  clear hsp hYb hY hYl hu hvl HV hset hr8n h2r
  by_cases hz : HK = Z
  · by_cases h1 : n < 8 * lt
    · have h1i : (n : Int) < 8 * (lt : Int) := by omega
      clear hbel12 hk12 hcv HO2 HO3 HBE hadd1 hadd2 hcs hc hf hx
      go_wp2_with fail
      go_ret
      exact ⟨rfl, hbel10⟩
    · have h1i : ¬ (n : Int) < 8 * (lt : Int) := by omega
      by_cases h2 : 8 * M ≤ n
      · have h2i : 8 * (M : Int) ≤ (n : Int) := by omega
        clear hbel12 hk12 hcv HO2 HO3 HBE hadd1 hadd2 hcs hc hf hx
        go_wp2_with fail
        go_ret
        exact ⟨rfl, hbel10⟩
      · have h2i : ¬ 8 * (M : Int) ≤ (n : Int) := by omega
        have hne := HBE.out (fun _ => by omega)
        rw [if_neg hne] at HO2
        clear HBE hne h1 h2
        go_wp2_with fail
        go_region_with (go_at_call 9; refine (HO2.out _ hk12).mono ?_; rintro e w13 ⟨rfl, hb13⟩)
        have hbel13 := hbel12.trans (hb13.mono hbel12.size)
        clear hb13 hbel12 hk12 HO2
        go_wp2_with fail
        refine (HO3.out w13).mono ?_
        rintro e w14 ⟨rfl, hb14⟩
        have hbel14 := hbel13.trans (hb14.mono hbel13.size)
        clear hb14 hbel13 HO3
        go_wp2_with fail
        go_ret
        exact ⟨rfl, hbel14⟩
  · have hH : hashKey rk = 0 → ¬ (n < 8 * lt ∨ 8 * M ≤ n) := by
      intro h0
      exfalso
      apply hz
      have h3 : numL HK = 0 := by rw [← HZ.out.2, ← HZ.out.1]; exact h0
      have h4 : HK.length = 16 := by rw [← HZ.out.2, ← HZ.out.1]; exact aesL_len rk _ HRK.out.1 (by simp)
      refine numL_inj HK Z ?_ ?_
      · rw [h4, ← HZ.out.1]; simp
      · rw [h3, ← HZ.out.1, numL_zeros]
    have hne := HBE.out hH
    rw [if_neg hne] at HO2
    clear HBE hne hH
    go_wp2_with fail
    go_region_with (go_at_call 9; refine (HO2.out _ hk12).mono ?_; rintro e w13 ⟨rfl, hb13⟩)
    have hbel13 := hbel12.trans (hb13.mono hbel12.size)
    clear hb13 hbel12 hk12 HO2
    go_wp2_with fail
    refine (HO3.out w13).mono ?_
    rintro e w14 ⟨rfl, hb14⟩
    have hbel14 := hbel13.trans (hb14.mono hbel13.size)
    clear hb14 hbel13 HO3
    go_wp2_with fail
    go_ret
    exact ⟨rfl, hbel14⟩
end Go.Proofs.Ytjnhlkaafnaooaa
