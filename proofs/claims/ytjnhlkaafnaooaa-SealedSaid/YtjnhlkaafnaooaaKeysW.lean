import Derived.Test.YtjnhlkaafnaooaaAesRW
namespace Go.Proofs.Ytjnhlkaafnaooaa
open Go.RowKit
theorem refOnes4 (v : Nat) (w : World) (h : v < 1099511627776) : Calls Try.prog 20 #[.int .i64 (v : Int), .int .i64 4] w fun e w' => e = .returned (.string ⟨(onesL v 4).toArray⟩) ∧ Below w.heap.size w w' := ones_any 4 v w (by decide) h
theorem refOnes8 (v : Nat) (w : World) (h : v < 1099511627776) : Calls Try.prog 20 #[.int .i64 (v : Int), .int .i64 8] w fun e w' => e = .returned (.string ⟨(onesL v 8).toArray⟩) ∧ Below w.heap.size w w' := ones_any 8 v w (by decide) h
theorem rc_next0 (j : Nat) (h : j % 8 = 0) : prodN (rcN ((j + 7) / 8)) 2 = rcN ((j + 1 + 7) / 8) := by
  have e : (j + 1 + 7) / 8 = (j + 7) / 8 + 1 := by omega
  rw [e]; rfl
theorem rc_same0 (j : Nat) (h : j % 8 ≠ 0) : rcN ((j + 7) / 8) = rcN ((j + 1 + 7) / 8) := by
  have e : (j + 1 + 7) / 8 = (j + 7) / 8 := by omega
  rw [e]
set_option maxRecDepth 100000 in
set_option maxHeartbeats 1000000 in
theorem refKeys_any (pb gs cs : Nat) (key : List UInt8) (w : World) (hp : PS w pb gs cs) (hk : key.length = 32) :
    Calls Try.prog 19 #[.pointer (some ⟨pb, 0, none⟩), .string ⟨key.toArray⟩] w fun e w' => e = .returned (.string ⟨(keysL key).toArray⟩) ∧ Below w.heap.size w w' := by
  have HK := hide hk
  clear hk
  go_enter Try.func19, Try.ntmps19
  go_wp2_with fail
  go_loopw [5, 6, 7, 8] (fun wv rv iv _ wr => ∃ j : Nat, j ≤ 52 ∧ wv = .string ⟨(keysTo key j).toArray⟩ ∧ rv = .int .i64 ((rcN ((j + 7) / 8) : Nat) : Int) ∧ iv = .int .i64 ((j + 8 : Nat) : Int) ∧ Below w.heap.size w wr) (fun _ _ iv _ _ => (61 - intOf iv).toNat)
  case atStart => exact ⟨0, by omega, rfl, rfl, rfl, Below.refl _ _⟩
  case round =>
    obtain ⟨j, hj52, rfl, rfl, rfl, hbel⟩ := hrel
    have hl := keysTo_len key HK.out j
    have hps := hp.below hbel (Nat.le_refl _)
    by_cases hlt : j < 52
    · have hstep : keysTo key (j + 1) = keysTo key j ++ xorL (wordL (keysTo key j) (j + 8)) (((keysTo key j).drop (4 * j)).take 4) := rfl
      have hwl := wordL_len (keysTo key j) (j + 8) (by omega) (by omega)
      have hbl := wordBefore_len (keysTo key j) (j + 8) (by omega) (by omega)
      have hwd : wordL (keysTo key j) (j + 8) = if (j + 8) % 8 = 0 then xorL (subL ((wordBefore (keysTo key j) (j + 8)).drop 1 ++ (wordBefore (keysTo key j) (j + 8)).take 1)) [UInt8.ofNat (rcN ((j + 8) / 8 - 1)), 0, 0, 0] else if (j + 8) % 4 = 0 then subL (wordBefore (keysTo key j) (j + 8)) else wordBefore (keysTo key j) (j + 8) := rfl
      have hex1 : (ByteArray.mk (keysTo key j).toArray).extract (4 * j + 28) (4 * j + 32) = ⟨(wordBefore (keysTo key j) (j + 8)).toArray⟩ := by
        rw [ByteArray.extract_mk, show 4 * j + 32 - (4 * j + 28) = 4 from by omega]
        unfold wordBefore
        rw [show 4 * (j + 8) - 4 = 4 * j + 28 by omega]
      have hex2 : (ByteArray.mk (keysTo key j).toArray).extract (4 * j) (4 * j + 4) = ⟨(((keysTo key j).drop (4 * j)).take 4).toArray⟩ := by
        rw [ByteArray.extract_mk, show 4 * j + 4 - 4 * j = 4 from by omega]
      have hol : (((keysTo key j).drop (4 * j)).take 4).length = 4 := by simp [hl]
      have hsz : (ByteArray.mk (keysTo key j).toArray).size = 32 + 4 * j := by simp [ByteArray.size, hl]
      have HSTEP := hide hstep
      have HJ := hide (And.intro hlt hl)
      generalize ((keysTo key j).drop (4 * j)).take 4 = O4 at *
      generalize wordL (keysTo key j) (j + 8) = WL at *
      generalize wordBefore (keysTo key j) (j + 8) = B4 at *
      obtain ⟨K, hK⟩ : ∃ K, keysTo key j = K := ⟨_, rfl⟩
      rw [hK] at hex1 hex2 hsz HSTEP hl ⊢
      have hmk := rcN_lt ((j + 7) / 8)
      have HRN := hide (fun h => rc_next0 j h)
      have HRS := hide (fun h => rc_same0 j h)
      have hrce : (j + 8) % 8 = 0 → (j + 8) / 8 - 1 = (j + 7) / 8 := fun _ => by omega
      have HRE := hide hrce
      obtain ⟨i, hi⟩ : ∃ i, j + 8 = i := ⟨_, rfl⟩
      have HI := hide hi
      obtain ⟨m1, hm1⟩ : ∃ m, 4 * j + 28 = m := ⟨_, rfl⟩
      obtain ⟨m2, hm2⟩ : ∃ m, 4 * j + 32 = m := ⟨_, rfl⟩
      obtain ⟨m4, hm4⟩ : ∃ m, 4 * j + 4 = m := ⟨_, rfl⟩
      obtain ⟨m3, hm3⟩ : ∃ m, 4 * j = m := ⟨_, rfl⟩
      rw [hm1, hm2] at hex1
      rw [hm4, hm3] at hex2
      rw [show 32 + 4 * j = m2 by omega] at hsz
      rw [hi]
      have HWD := hide hwd
      have i1 : 4 * (i : Int) = (m2 : Int) := by omega
      have i2 : (m2 : Int) - 4 = (m1 : Int) := by omega
      have i3 : (m2 : Int) - 32 = (m3 : Int) := by omega
      have i4 : (m2 : Int) - 28 = (m4 : Int) := by omega
      have y1 : IntKind.i64.wrap (4 * (i : Int)) = (m2 : Int) := by rw [i1]; exact wrap_i64_nat _ (by omega)
      have y3 : IntKind.i64.wrap ((m2 : Int) - 32) = (m3 : Int) := by rw [i3]; exact wrap_i64_nat _ (by omega)
      have y4 : IntKind.i64.wrap ((m2 : Int) - 28) = (m4 : Int) := by rw [i4]; exact wrap_i64_nat _ (by omega)
      have l1 : (i : Int) < 60 := by omega
      have l2 : (m2 : Int) ≤ 236 := by omega
      have o1 : m1 ≤ m2 := by omega
      have o2 : m3 ≤ m4 := by omega
      have o3 : m4 ≤ m2 := by omega
      have o1i : (m1 : Int) ≤ (m2 : Int) := by omega
      have o2i : (m3 : Int) ≤ (m4 : Int) := by omega
      have o3i : (m4 : Int) ≤ (m2 : Int) := by omega
      have hsB : (ByteArray.mk B4.toArray).size = 4 := by simp [ByteArray.size, hbl]
      have HMI := hide (show i % 8 = j % 8 ∧ i % 4 = j % 4 by omega)
      generalize hmkq : rcN ((j + 7) / 8) = mk at *
      have HMK := hide hmkq
      clear hmkq hK hm1 hm2 hm3 hm4 hwd hi hlt hj52 hrce hstep
      by_cases h8 : j % 8 = 0
      · have t1 : ((i : Int) % 8 == 0) = true := by have := HMI.out; simp; omega
        have t2 : ((i : Int) % 4 == 0) = true := by have := HMI.out; simp; omega
        have hR : (ByteArray.mk B4.toArray).extract 1 4 = ⟨(B4.drop 1).toArray⟩ := by
          rw [ByteArray.extract_mk, List.take_of_length_le (by rw [List.length_drop, hbl]; decide)]
        have hT : (ByteArray.mk B4.toArray).extract 0 1 = ⟨(B4.take 1).toArray⟩ := by
          rw [ByteArray.extract_mk]; rfl
        have hd1 : (B4.drop 1).length = 3 := by rw [List.length_drop, hbl]
        have hd2 : (B4.take 1).length = 1 := by rw [List.length_take, hbl]; rfl
        have aR := fun w => add_str (B4.drop 1) (B4.take 1) (by rw [hd1, hd2]; decide) w
        have hrl4 : (B4.drop 1 ++ B4.take 1).length = 4 := by rw [List.length_append, hd1, hd2]
        have hW := HWD.out
        rw [if_pos (by have := HMI.out; have := HI.out; omega), HRE.out (by have := HMI.out; have := HI.out; omega), HMK.out] at hW
        have HW := hide hW
        clear hW
        have hsd1 : (ByteArray.mk (B4.drop 1).toArray).size = 3 := by simp [ByteArray.size, hbl]
        have hsd2 : (ByteArray.mk (B4.take 1).toArray).size = 1 := by simp [ByteArray.size, hbl]
        generalize B4.drop 1 ++ B4.take 1 = R4 at *
        generalize B4.drop 1 = D3 at *
        generalize B4.take 1 = D1 at *
        go_wp2_with fail
        go_region
        go_wp2_with fail
        refine (swap_any pb gs cs R4 _ (hps.below (Below.refl _ _).drew (Nat.le_refl _)) (by omega)).mono ?_
        rintro e wA ⟨rfl, hbA⟩
        have hbelA := hbel.drew.trans (hbA.mono hbel.drew.size)
        have hsl : (subL R4).length = 4 := by rw [subL_len, hrl4]
        generalize subL R4 = T4 at *
        have hmki : (mk : Int) < 256 := by omega
        have hrw : Row (wA.alloc (.cells #[.int .u8 (mk : Int), .int .u8 0, .int .u8 0, .int .u8 0] 5)) wA.heap.size 5 .u8 [mk, 0, 0, 0] := Row.new wA _ _ _ _ rfl (fun i hi => by
          match i, hi with
          | 0, _ => rfl
          | 1, _ => rfl
          | 2, _ => rfl
          | 3, _ => rfl)
        have hcv := conv_row (cap := 4) hrw
        have hcv' : (convert 34 9 (.slice (some ⟨wA.heap.size, 0, none⟩) 4 4)).run Try.prog (wA.alloc (.cells #[.int .u8 (mk : Int), .int .u8 0, .int .u8 0, .int .u8 0] 5)) = .ok (.string ⟨[UInt8.ofNat mk, 0, 0, 0].toArray⟩) (wA.alloc (.cells #[.int .u8 (mk : Int), .int .u8 0, .int .u8 0, .int .u8 0] 5)) := hcv
        obtain ⟨M4, hM4⟩ : ∃ x, [UInt8.ofNat mk, 0, 0, 0] = x := ⟨_, rfl⟩
        have hMl : M4.length = 4 := by rw [← hM4]; rfl
        rw [hM4] at hcv' HW
        have hbelA2 := hbelA.alloc hbelA.size (.cells #[.int .u8 (mk : Int), .int .u8 0, .int .u8 0, .int .u8 0] 5)
        clear hbA hR hT aR hrw hcv hM4
        go_wp2_with fail
        refine (mixedL T4 M4 _ (by omega) (by omega)).mono ?_
        rintro e wC ⟨rfl, hbC⟩
        have hbelC := hbelA2.trans (hbC.mono hbelA2.size)
        rw [← HW.out]
        clear hbC hbelA hbelA2 hcv'
        go_wp2_with fail
        refine (product_any mk 2 _ hmk (by decide)).mono ?_
        rintro e wD ⟨rfl, rfl⟩
        go_wp2_with fail
        refine (mixedL WL O4 _ (by omega) (by omega)).mono ?_
        rintro e wB ⟨rfl, hbB⟩
        have hbelB := hbelC.trans (hbB.mono hbelC.size)
        have hxl : (xorL WL O4).length = 4 := by rw [xorL_len _ _ (by rw [hwl, hol]), hwl]
        have a2 := fun w => add_str K (xorL WL O4) (by rw [hl, hxl]; have := HJ.out; omega) w
        rw [← HSTEP.out] at a2
        obtain ⟨K2, hK2⟩ : ∃ X, keysTo key (j + 1) = X := ⟨_, rfl⟩
        have HK2 := hide hK2
        rw [hK2] at a2
        generalize xorL WL O4 = XW at *
        clear hK2 hbB hxl HSTEP HWD
        go_wp2_with fail
        go_roundw
        case rel => first
          | exact ⟨j + 1, by have := HJ.out; omega, by rw [HK2.out], by rw [← HRN.out h8], val_int (by have := HI.out; omega), hbelB⟩
          | ((repeat apply Exists.intro); exact ⟨⟨j + 1, by have := HJ.out; omega, by rw [HK2.out], by rw [← HRN.out h8], val_int (by have := HI.out; omega), hbelB⟩, rfl⟩)
        case measure => have := HJ.out; have := HI.out; simp [intOf]; omega
      · by_cases h4 : j % 8 = 4
        · have t1 : ((i : Int) % 8 == 0) = false := by have := HMI.out; simp; omega
          have t2 : ((i : Int) % 4 == 0) = true := by have := HMI.out; simp; omega
          go_wp2_with fail
          refine (swap_any pb gs cs B4 _ hps (by omega)).mono ?_
          rintro e wA ⟨rfl, hbA⟩
          have hbelA := hbel.trans (hbA.mono hbel.size)
          have HWX := hide (show xorL (subL B4) O4 = xorL WL O4 by rw [HWD.out, if_neg (by have := HMI.out; have := HI.out; omega), if_pos (by have := HMI.out; have := HI.out; omega)])
          have hsl : (subL B4).length = 4 := by rw [subL_len, hbl]
          generalize subL B4 = T4 at *
          clear hbA
          go_wp2_with fail
          refine (mixedL T4 O4 _ (by omega) (by omega)).mono ?_
          rintro e wB ⟨rfl, hbB⟩
          have hbelB := hbelA.trans (hbB.mono hbelA.size)
          rw [HWX.out]
          have hxl : (xorL WL O4).length = 4 := by rw [xorL_len _ _ (by rw [hwl, hol]), hwl]
          have a2 := fun w => add_str K (xorL WL O4) (by rw [hl, hxl]; have := HJ.out; omega) w
          rw [← HSTEP.out] at a2
          obtain ⟨K2, hK2⟩ : ∃ X, keysTo key (j + 1) = X := ⟨_, rfl⟩
          have HK2 := hide hK2
          rw [hK2] at a2
          generalize xorL WL O4 = XW at *
          clear hK2 hbB hxl HSTEP HWX HWD
          go_wp2_with fail
          go_roundw
          case rel => first
            | exact ⟨j + 1, by have := HJ.out; omega, by rw [HK2.out], by rw [← HRS.out h8], val_int (by have := HI.out; omega), hbelB⟩
            | ((repeat apply Exists.intro); exact ⟨⟨j + 1, by have := HJ.out; omega, by rw [HK2.out], by rw [← HRS.out h8], val_int (by have := HI.out; omega), hbelB⟩, rfl⟩)
          case measure => have := HJ.out; have := HI.out; simp [intOf]; omega
        · have t1 : ((i : Int) % 8 == 0) = false := by have := HMI.out; simp; omega
          have t2 : ((i : Int) % 4 == 0) = false := by have := HMI.out; simp; omega
          go_wp2_with fail
          have HWX := hide (show xorL B4 O4 = xorL WL O4 by rw [HWD.out, if_neg (by have := HMI.out; have := HI.out; omega), if_neg (by have := HMI.out; have := HI.out; omega)])
          refine (mixedL B4 O4 _ (by omega) (by omega)).mono ?_
          rintro e wB ⟨rfl, hbB⟩
          have hbelB := hbel.trans (hbB.mono hbel.size)
          rw [HWX.out]
          have hxl : (xorL WL O4).length = 4 := by rw [xorL_len _ _ (by rw [hwl, hol]), hwl]
          have a2 := fun w => add_str K (xorL WL O4) (by rw [hl, hxl]; have := HJ.out; omega) w
          rw [← HSTEP.out] at a2
          obtain ⟨K2, hK2⟩ : ∃ X, keysTo key (j + 1) = X := ⟨_, rfl⟩
          have HK2 := hide hK2
          rw [hK2] at a2
          generalize xorL WL O4 = XW at *
          clear hK2 hbB hxl HSTEP HWX HWD
          go_wp2_with fail
          go_roundw
          case rel => first
            | exact ⟨j + 1, by have := HJ.out; omega, by rw [HK2.out], by rw [← HRS.out h8], val_int (by have := HI.out; omega), hbelB⟩
            | ((repeat apply Exists.intro); exact ⟨⟨j + 1, by have := HJ.out; omega, by rw [HK2.out], by rw [← HRS.out h8], val_int (by have := HI.out; omega), hbelB⟩, rfl⟩)
          case measure => have := HJ.out; have := HI.out; simp [intOf]; omega
    · have hj : j = 52 := by omega
      subst hj
      have e1 : keysTo key 52 = keysL key := rfl
      rw [e1]
      simp only [show ((52 + 8 : Nat) : Int) = 60 from rfl]
      clear hl hps hlt hj52 e1
      go_wp2_with fail
      go_ret
      exact ⟨rfl, hbel⟩
end Go.Proofs.Ytjnhlkaafnaooaa
