import Derived.Test.YtjnhlkaafnaooaaKeysW
import Derived.Test.YtjnhlkaafnaooaaDot2W
namespace Go.Proofs.Ytjnhlkaafnaooaa
open Go.RowKit
set_option maxRecDepth 100000 in
set_option maxHeartbeats 400000 in
theorem cipher_any (pb gs cs : Nat) (key t : List UInt8) (w : World) (hp : PS w pb gs cs) (hk : key.length = 32) (ht : t.length = 16) :
    Calls Try.prog 11 #[.pointer (some ⟨pb, 0, none⟩), .string ⟨key.toArray⟩, .string ⟨t.toArray⟩] w fun e w' => e = .returned (.string ⟨(aesL (keysL key) t).toArray⟩) ∧ Below w.heap.size w w' := by
  have hkl := keysL_len key hk
  have hka := refKeys_any pb gs cs key w hp hk
  obtain ⟨rk, hrk⟩ : ∃ x, keysL key = x := ⟨_, rfl⟩
  rw [hrk] at hkl hka ⊢
  clear hrk
  go_enter Try.func11, Try.ntmps11
  go_wp2_with fail
  refine hka.mono ?_
  rintro e w1 ⟨rfl, hb1⟩
  have hp1 := hp.below hb1 (Nat.le_refl _)
  go_wp2_with fail
  refine (refAes_any pb gs cs rk t w1 hp1 hkl ht).mono ?_
  rintro e w2 ⟨rfl, hb2⟩
  go_wp2_with fail
  go_ret
  exact ⟨rfl, hb1.trans (hb2.mono hb1.size)⟩
theorem ctr_drop16 (rk nonce : List UInt8) (hw : rk.length = 240) (hn : nonce.length = 12) (n : Nat) (t : List UInt8) : (ctrL rk nonce n t).drop 16 = ctrL rk nonce (n + 1) (t.drop 16) := by
  by_cases hne : t = []
  · subst hne; rw [ctrL_nil]; simp [ctrL_nil]
  · have hA := aesL_len rk (nonce ++ onesL n 4) hw (nonce_len nonce n hn)
    have hx : (xorL (t.take 16) (aesL rk (nonce ++ onesL n 4))).length = (t.take 16).length := xorL_len_le _ _ (by rw [hA]; simp; omega)
    rw [ctrL_ne _ _ _ _ hne]
    by_cases h16 : 16 ≤ t.length
    · rw [List.drop_left' (by rw [hx]; simp; omega)]
    · rw [show t.drop 16 = [] from List.drop_eq_nil_of_le (by omega), ctrL_nil, List.append_nil, List.drop_eq_nil_of_le (by rw [hx]; simp; omega)]
theorem ctr_take16 (rk nonce : List UInt8) (hw : rk.length = 240) (hn : nonce.length = 12) (n : Nat) (t : List UInt8) : (ctrL rk nonce n t).take 16 = xorL (t.take 16) (aesL rk (nonce ++ onesL n 4)) := by
  by_cases hne : t = []
  · subst hne; rw [ctrL_nil]; simp [xorL]
  · have hA := aesL_len rk (nonce ++ onesL n 4) hw (nonce_len nonce n hn)
    have hx : (xorL (t.take 16) (aesL rk (nonce ++ onesL n 4))).length = (t.take 16).length := xorL_len_le _ _ (by rw [hA]; simp; omega)
    rw [ctrL_ne _ _ _ _ hne]
    by_cases h16 : 16 ≤ t.length
    · rw [List.take_left' (by rw [hx]; simp; omega)]
    · rw [show t.drop 16 = [] from List.drop_eq_nil_of_le (by omega), ctrL_nil, List.append_nil, List.take_of_length_le (by rw [hx]; simp; omega)]
theorem ctr_drop (rk nonce : List UInt8) (hw : rk.length = 240) (hn : nonce.length = 12) : ∀ (k n : Nat) (t : List UInt8), (ctrL rk nonce n t).drop (16 * k) = ctrL rk nonce (n + k) (t.drop (16 * k)) := by
  intro k
  induction k with
  | zero => intro n t; simp
  | succ k ih =>
    intro n t
    rw [show 16 * (k + 1) = 16 + 16 * k by omega, ← List.drop_drop, ← List.drop_drop, ctr_drop16 rk nonce hw hn, ih, show n + 1 + k = n + (k + 1) by omega]
theorem ex_chunk (t : List UInt8) (n k : Nat) (hn : t.length = n) (to : Nat) (hto : to = min (16 * k + 16) n) : (ByteArray.mk t.toArray).extract (16 * k) to = ⟨((t.drop (16 * k)).take 16).toArray⟩ := by
  have h1 : (t.drop (16 * k)).take (to - 16 * k) = (t.drop (16 * k)).take 16 := by
    by_cases h : 16 * k + 16 ≤ n
    · rw [hto, Nat.min_eq_left h, show 16 * k + 16 - 16 * k = 16 by omega]
    · rw [hto, Nat.min_eq_right (by omega), List.take_of_length_le (i := n - 16 * k) (by rw [List.length_drop, hn]; omega), List.take_of_length_le (i := 16) (by rw [List.length_drop, hn]; omega)]
  rw [ByteArray.extract_mk, h1]
theorem ctr_chunk (rk nonce : List UInt8) (hw : rk.length = 240) (hn : nonce.length = 12) (k n : Nat) (t : List UInt8) : (ctrL rk nonce n t).take (16 * (k + 1)) = (ctrL rk nonce n t).take (16 * k) ++ xorL ((t.drop (16 * k)).take 16) (aesL rk (nonce ++ onesL (n + k) 4)) := by
  rw [show 16 * (k + 1) = 16 * k + 16 by omega, List.take_add, ctr_drop rk nonce hw hn, ctr_take16 rk nonce hw hn]
/-- The reference's hash over a text of whole blocks. -/
theorem ghN_chunk (h z : Nat) (l : List UInt8) (hl : 16 ≤ l.length) : ghN h z (blocksN l) = ghN h (dotN (z ^^^ numL (l.take 16)) h) (blocksN (l.drop 16)) := by
  have hne : l ≠ [] := by intro e; subst e; simp at hl
  rw [blocksN_ne l hne]
  have : fillL l 16 = l.take 16 := by
    unfold fillL
    rw [show 16 - l.length = 0 by omega]; simp
  rw [this]; rfl
theorem blocks_append : ∀ (n : Nat) (a b : List UInt8), a.length ≤ n → a.length % 16 = 0 → blocksN (a ++ b) = blocksN a ++ blocksN b := by
  intro n
  induction n with
  | zero =>
    intro a b h _
    have : a = [] := List.length_eq_zero_iff.1 (by omega)
    subst this
    rw [blocksN_nil]; rfl
  | succ n ih =>
    intro a b h hm
    by_cases hne : a = []
    · subst hne; rw [blocksN_nil]; rfl
    · have hpos : 0 < a.length := List.length_pos_iff.2 hne
      have h16 : 16 ≤ a.length := by omega
      have hne2 : a ++ b ≠ [] := by intro e; exact hne (List.append_eq_nil_iff.1 e).1
      rw [blocksN_ne _ hne2, blocksN_ne _ hne]
      have e1 : fillL (a ++ b) 16 = fillL a 16 := by
        unfold fillL
        rw [List.take_append_of_le_length h16, show 16 - (a ++ b).length = 0 by simp; omega, show 16 - a.length = 0 by omega]
      rw [e1, List.drop_append_of_le_length h16, ih (a.drop 16) b (by simp; omega) (by simp; omega)]
      rfl
theorem all_blocks (a c : List UInt8) (ha : a.length ≤ 4096) (hc : c.length ≤ 4096) : blocksN (wholeL a ++ wholeL c ++ onesL (8 * a.length) 8 ++ onesL (8 * c.length) 8) = blocksN a ++ blocksN c ++ [lensN a c] := by
  have h1 : ∀ x y : Nat, x < 2 ^ 64 → y < 2 ^ 64 → blocksN (onesL x 8 ++ onesL y 8) = [x * 2 ^ 64 + y] := by
    intro x y hx hy
    have hl : (onesL x 8 ++ onesL y 8).length = 16 := by simp [onesL_len]
    have hne : onesL x 8 ++ onesL y 8 ≠ [] := by intro e; rw [e] at hl; simp at hl
    rw [blocksN_ne _ hne, fillL_self _ _ hl, List.drop_eq_nil_of_le (by rw [hl]; exact Nat.le_refl _), blocksN_nil, numL_append, onesL_len, numL_onesL, numL_onesL, Nat.mod_eq_of_lt (a := x) hx, Nat.mod_eq_of_lt (a := y) hy]
  rw [List.append_assoc, List.append_assoc, blocks_append _ _ _ (Nat.le_refl _) (wholeL_len a), blocks_append _ _ _ (Nat.le_refl _) (wholeL_len c), wholeL_blocks _ _ (Nat.le_refl _), wholeL_blocks _ _ (Nat.le_refl _), h1 _ _ (by omega) (by omega), List.append_assoc]
  simp only [lensN]
set_option maxRecDepth 100000 in
set_option maxHeartbeats 2000000 in
theorem gcm_any (pb gs cs : Nat) (key nonce a t : List UInt8) (sealed : Bool) (w : World) (hp : PS w pb gs cs) (hk : key.length = 32) (hn : nonce.length = 12) (ha : a.length ≤ 4096) (ht : t.length ≤ 4096) :
    Calls Try.prog 8 #[.pointer (some ⟨pb, 0, none⟩), .string ⟨key.toArray⟩, .string ⟨nonce.toArray⟩, .string ⟨a.toArray⟩, .string ⟨t.toArray⟩, .bool sealed] w fun e w' =>
      e = .returned (.tuple #[.string ⟨(ctrL (keysL key) nonce 2 t).toArray⟩, .string ⟨(tagL (keysL key) nonce a (if sealed then t else ctrL (keysL key) nonce 2 t)).toArray⟩]) ∧ Below w.heap.size w w' := by
  have hkl := keysL_len key hk
  have hka := refKeys_any pb gs cs key w hp hk
  obtain ⟨rk, hrk⟩ : ∃ x, keysL key = x := ⟨_, rfl⟩
  rw [hrk] at hkl hka ⊢
  clear hrk
  have hCl := ctrL_len rk nonce hkl hn 2 t
  have HCH := hide (fun k => ctr_chunk rk nonce hkl hn k 2 t)
  obtain ⟨C, hC⟩ : ∃ C, ctrL rk nonce 2 t = C := ⟨_, rfl⟩
  rw [hC] at hCl HCH ⊢
  clear hC
  have HKA := hide hka
  clear hka
  go_enter Try.func8, Try.ntmps8
  go_wp2_with fail
  refine HKA.out.mono ?_
  rintro e w1 ⟨rfl, hb1⟩
  have hp1 := hp.below hb1 (Nat.le_refl _)
  clear HKA
  obtain ⟨n, hnt⟩ : ∃ n, t.length = n := ⟨_, rfl⟩
  rw [hnt] at hCl
  have hni : (n : Int) ≤ 4096 := by omega
  have hst : (ByteArray.mk t.toArray).size = n := by simp [ByteArray.size, hnt]
  have HN := hide (And.intro hnt (And.intro hCl (And.intro hn (And.intro ha ht))))
  clear hnt hCl ht ha
  go_wp2_with fail
  go_loopw [15, 16, 17, 18, 19] (fun o iv _ _ _ wr => ∃ k : Nat, 16 * k < n + 16 ∧ o = .string ⟨(C.take (16 * k)).toArray⟩ ∧ iv = .int .i64 ((16 * k : Nat) : Int) ∧ Below w.heap.size w wr) (fun _ iv _ _ _ _ => (5017 - intOf iv).toNat)
  case atStart => exact ⟨0, by omega, by simp, rfl, hb1⟩
  case round =>
    clear hp1 hb1
    obtain ⟨k, hk16, rfl, rfl, hbel⟩ := hrel
    have hps := hp.below hbel (Nat.le_refl _)
    by_cases hlt : 16 * k < n
    · have hki : ((16 * k : Nat) : Int) < (n : Int) := by omega
      have hnx := HCH.out k
      have hcl : (nonce ++ onesL (2 + k) 4).length = 16 := nonce_len nonce _ HN.out.2.2.1
      have hAl := aesL_len rk _ hkl hcl
      have hadd := fun w => add_str nonce (onesL (2 + k) 4) (by rw [HN.out.2.2.1, onesL_len]; decide) w
      have hT4 : ((t.drop (16 * k)).take 16).length ≤ 16 := by simp; omega
      have hex := ex_chunk t n k HN.out.1
      have hxl : (xorL ((t.drop (16 * k)).take 16) (aesL rk (nonce ++ onesL (2 + k) 4))).length ≤ 16 := by rw [xorL_len_le _ _ (by rw [hAl]; exact hT4)]; exact hT4
      have hadd2 := fun w => add_str (C.take (16 * k)) (xorL ((t.drop (16 * k)).take 16) (aesL rk (nonce ++ onesL (2 + k) 4))) (by have h1 := List.length_take_le (16 * k) C; omega) w
      rw [← hnx] at hadd2
      have HK := hide (And.intro hk16 hlt)
      have HX := hide (And.intro hcl (And.intro hAl hT4))
      have HA2 := hide hadd2
      have HA1 := hide hadd
      have HEX := hide hex
      obtain ⟨C2, hC2⟩ : ∃ X, C.take (16 * (k + 1)) = X := ⟨_, rfl⟩
      rw [hC2] at HA2
      have HC2 := hide hC2
      generalize (t.drop (16 * k)).take 16 = T4 at *
      generalize C.take (16 * k) = C1 at *
      obtain ⟨m, hm⟩ : ∃ m, 16 * k = m := ⟨_, rfl⟩
      have HM := hide hm
      rw [hm] at hki HEX ⊢
      have d1 : (m : Int) / 16 = (k : Int) := by omega
      have d2 : (2 : Int) + (k : Int) = ((2 + k : Nat) : Int) := by omega
      have d3 : ((m : Int)).tdiv 16 = (k : Int) := by rw [Int.tdiv_eq_ediv_of_nonneg (by omega)]; omega
      have hqb : 2 + k < 1099511627776 := by omega
      obtain ⟨q, hq⟩ : ∃ q, 2 + k = q := ⟨_, rfl⟩
      rw [hq] at d2 hqb HX HA1 HA2
      clear hnx hcl hAl hadd hT4 hex hxl hadd2 hC2 hm hq hk16 hlt
      go_wp2_with fail
      refine (refOnes4 q _ hqb).mono ?_
      rintro e w3 ⟨rfl, hb3⟩
      have hbel3 := hbel.trans (hb3.mono hbel.size)
      have hp3 := hp.below hbel3 (Nat.le_refl _)
      have a1 := HA1.out
      have hNl := HX.out.1
      generalize hON : onesL q 4 = O4 at *
      obtain ⟨NO, hNO⟩ : ∃ x, nonce ++ O4 = x := ⟨_, rfl⟩
      rw [hNO] at a1 hNl HX HA2
      clear hb3 hbel hON hNO HA1 hps
      go_wp2_with fail
      refine (refAes_any pb gs cs rk NO _ hp3 hkl hNl).mono ?_
      rintro e w4 ⟨rfl, hb4⟩
      have hbel4 := hbel3.trans (hb4.mono hbel3.size)
      have hSl := HX.out.2.1
      generalize aesL rk NO = S at *
      clear hb4 hbel3 a1 hp3 d1 d2 d3 hqb hki HCH
      by_cases hto : m + 16 ≤ n
      · have hx := HEX.out (m + 16) (Nat.min_eq_left hto).symm
        have ht1 : ¬ ((n : Int) < (m : Int) + 16) := by omega
        obtain ⟨m2, hm2⟩ : ∃ x, m + 16 = x := ⟨_, rfl⟩
        rw [hm2] at hx hto
        have ht2 : (m : Int) + 16 = (m2 : Int) := by omega
        rw [ht2] at ht1
        have ht3 : (m : Int) ≤ (m2 : Int) := by omega
        have ht4 : (m2 : Int) ≤ (n : Int) := by omega
        have ht5 : m ≤ m2 := by omega
        have HB4 := hide hbel4
        have ht10 : m2 ≤ n := hto
        have HSL := hide hSl
        clear hm2 hbel4 hp hkl hSl hNl HEX
        go_wp2_with fail
        refine (mixedL T4 S _ (by have := HX.out.2.2; omega) (by have := HX.out.2.2; have := HSL.out; omega)).mono ?_
        rintro e w5 ⟨rfl, hb5⟩
        have hbel5 := HB4.out.trans (hb5.mono HB4.out.size)
        have a3 := HA2.out
        generalize xorL T4 S = XX at *
        clear hb5 HB4 HA2
        go_wp2_with fail
        go_roundw
        case rel => first
          | exact ⟨k + 1, by have := HK.out; have := HM.out; omega, by rw [HC2.out], val_int (by have := HM.out; omega), hbel5⟩
          | ((repeat apply Exists.intro); exact ⟨⟨k + 1, by have := HK.out; have := HM.out; omega, by rw [HC2.out], val_int (by have := HM.out; omega), hbel5⟩, rfl⟩)
        case measure => have := HK.out; have := HM.out; simp [intOf]; omega
      · have hx := HEX.out n (Nat.min_eq_right (by omega)).symm
        have ht1 : (n : Int) < (m : Int) + 16 := by omega
        have ht5 : m ≤ n := by have := HK.out; have := HM.out; omega
        have ht6 : (m : Int) ≤ (n : Int) := by omega
        have HB4 := hide hbel4
        have HSL := hide hSl
        clear hbel4 hp hkl hSl hNl HEX hto
        go_wp2_with fail
        refine (mixedL T4 S _ (by have := HX.out.2.2; omega) (by have := HX.out.2.2; have := HSL.out; omega)).mono ?_
        rintro e w5 ⟨rfl, hb5⟩
        have hbel5 := HB4.out.trans (hb5.mono HB4.out.size)
        have a3 := HA2.out
        generalize xorL T4 S = XX at *
        clear hb5 HB4 HA2
        go_wp2_with fail
        go_roundw
        case rel => first
          | exact ⟨k + 1, by have := HK.out; have := HM.out; omega, by rw [HC2.out], val_int (by have := HM.out; omega), hbel5⟩
          | ((repeat apply Exists.intro); exact ⟨⟨k + 1, by have := HK.out; have := HM.out; omega, by rw [HC2.out], val_int (by have := HM.out; omega), hbel5⟩, rfl⟩)
        case measure => have := HK.out; have := HM.out; simp [intOf]; omega
    · have hd : C.take (16 * k) = C := List.take_of_length_le (by rw [HN.out.2.1]; omega)
      have hki : ¬ (((16 * k : Nat) : Int) < (n : Int)) := by omega
      rw [hd]
      obtain ⟨m, hm⟩ : ∃ m, 16 * k = m := ⟨_, rfl⟩
      rw [hm] at hki ⊢
      clear hd hm hlt hk16 HCH
      cases sealed
      · have hlen : C.length = n := HN.out.2.1
        have hcl : C.length ≤ 4096 := by omega
        have hsc : (ByteArray.mk C.toArray).size = n := by simp [ByteArray.size]; omega
        obtain ⟨la, hla⟩ : ∃ x, a.length = x := ⟨_, rfl⟩
        have hsa : (ByteArray.mk a.toArray).size = la := by simp [ByteArray.size, hla]
        have hlai : (la : Int) ≤ 4096 := by have := HN.out.2.2.2.1; omega
        have HALL := hide (all_blocks a C HN.out.2.2.2.1 hcl)
        have hwl1 := wholeL_len a
        have hwl2 := wholeL_len C
        have hwb1 : (wholeL a).length ≤ 5000 := by have := HN.out.2.2.2.1; simp [wholeL]; omega
        have hwb2 : (wholeL C).length ≤ 5000 := by simp [wholeL]; omega
        have HCL := hide (And.intro hcl (And.intro hwl1 (And.intro hwl2 (And.intro hwb1 hwb2))))
        have HLA := hide hla
        clear hcl hwl1 hwl2 hwb1 hwb2 hla
        go_wp2_with fail
        refine (noughts_any 16 _ (by decide)).mono ?_
        rintro e w2 ⟨rfl, hb2⟩
        have hbel2 := hbel.trans (hb2.mono hbel.size)
        have hp2 := hp.below hbel2 (Nat.le_refl _)
        have hZl : (List.replicate 16 (0 : UInt8)).length = 16 := by simp
        have hHk := aesL_len rk (List.replicate 16 0) hkl hZl
        have HHK := hide (show numL (aesL rk (List.replicate 16 0)) = hashKey rk from rfl)
        generalize hZZ : List.replicate 16 (0 : UInt8) = Z at *
        clear hb2 hbel hps
        go_wp2_with fail
        refine (refAes_any pb gs cs rk Z _ hp2 hkl hZl).mono ?_
        rintro e w3 ⟨rfl, hb3⟩
        have hbel3 := hbel2.trans (hb3.mono hbel2.size)
        generalize aesL rk Z = H at *
        clear hb3 hbel2 hp2
        go_wp2_with fail
        refine (whole_any a _ HN.out.2.2.2.1).mono ?_
        rintro e w4 ⟨rfl, hb4⟩
        have hbel4 := hbel3.trans (hb4.mono hbel3.size)
        generalize wholeL a = A1 at *
        clear hb4 hbel3
        go_wp2_with fail
        refine (whole_any C _ HCL.out.1).mono ?_
        rintro e w5 ⟨rfl, hb5⟩
        have hbel5 := hbel4.trans (hb5.mono hbel4.size)
        generalize wholeL C = B1 at *
        clear hb5 hbel4
        have HE := hide (show (8 : Int) * (la : Int) = ((8 * la : Nat) : Int) ∧ (8 : Int) * (n : Int) = ((8 * n : Nat) : Int) by omega)
        go_wp2_with fail
        rw [HE.out.1]
        refine (refOnes8 (8 * la) _ (by omega)).mono ?_
        rintro e w6 ⟨rfl, hb6⟩
        have hbel6 := hbel5.trans (hb6.mono hbel5.size)
        clear hb6 hbel5
        go_wp2_with fail
        rw [HE.out.2]
        refine (refOnes8 (8 * n) _ (by omega)).mono ?_
        rintro e w7 ⟨rfl, hb7⟩
        have hbel7 := hbel6.trans (hb7.mono hbel6.size)
        have ho1 := onesL_len 8 (8 * la)
        have ho2 := onesL_len 8 (8 * n)
        have HAL2 : Hid (blocksN (A1 ++ B1 ++ onesL (8 * la) 8 ++ onesL (8 * n) 8) = blocksN a ++ blocksN C ++ [lensN a C]) := by
          have h := HALL.out
          rw [HLA.out, show C.length = n by have := hsc; simp [ByteArray.size] at this; exact this] at h
          exact h
        generalize onesL (8 * la) 8 = O1 at *
        generalize onesL (8 * n) 8 = O2 at *
        have hll := HCL.out
        have a1 := fun w => add_str A1 B1 (by omega) w
        have a2 := fun w => add_str (A1 ++ B1) O1 (by rw [List.length_append]; omega) w
        have a3 := fun w => add_str (A1 ++ B1 ++ O1) O2 (by rw [List.length_append, List.length_append]; omega) w
        have hAllL : (A1 ++ B1 ++ O1 ++ O2).length % 16 = 0 ∧ (A1 ++ B1 ++ O1 ++ O2).length ≤ 10016 := by simp only [List.length_append]; omega
        generalize A1 ++ B1 ++ O1 ++ O2 = AL at *
        generalize A1 ++ B1 ++ O1 = AB at *
        generalize A1 ++ B1 = AC at *
        obtain ⟨N, hN⟩ : ∃ N, AL.length = N := ⟨_, rfl⟩
        rw [hN] at hAllL
        have hsAL : (ByteArray.mk AL.toArray).size = N := by simp [ByteArray.size, hN]
        have hNi : (N : Int) ≤ 10016 := by omega
        have HNL := hide (And.intro hN hAllL)
        clear hb7 hbel6 hll HALL ho1 ho2 hN hAllL HCL HE
        go_wp2_with fail
        refine (noughts_any 16 _ (by decide)).mono ?_
        rintro e w8 ⟨rfl, hb8⟩
        have hbel8 := hbel7.trans (hb8.mono hbel7.size)
        have hz0 : List.replicate 16 (0 : UInt8) = onesL 0 16 := by decide
        rw [hz0]
        obtain ⟨hv, hhv⟩ : ∃ x, numL H = x := ⟨_, rfl⟩
        have hHlt := num16_lt H hHk
        rw [hhv] at hHlt HHK
        have HHV := hide hhv
        have HHL := hide (And.intro hHk hHlt)
        clear hb8 hbel7 hz0 a1 a2 a3 hhv hHk hHlt
        go_wp2_with fail
        go_loopw [28, 29, 30] (fun zv iv _ wr => ∃ k z : Nat, 16 * k ≤ N ∧ z < 2 ^ 128 ∧ zv = .string ⟨(onesL z 16).toArray⟩ ∧ iv = .int .i64 ((16 * k : Nat) : Int) ∧ ghN hv 0 (blocksN AL) = ghN hv z (blocksN (AL.drop (16 * k))) ∧ Below w.heap.size w wr) (fun _ iv _ _ => (10034 - intOf iv).toNat)
        case atStart => exact ⟨0, 0, by omega, by decide, rfl, rfl, rfl, hbel8⟩
        case round =>
          clear hbel8
          obtain ⟨k2, z, hk2, hz, rfl, rfl, hg, hbel⟩ := hrel
          by_cases hlt2 : 16 * k2 < N
          · have hx : (ByteArray.mk AL.toArray).extract (16 * k2) (16 * k2 + 16) = ⟨((AL.drop (16 * k2)).take 16).toArray⟩ := by
              rw [ByteArray.extract_mk, show 16 * k2 + 16 - 16 * k2 = 16 from by omega]
            have hcl2 : ((AL.drop (16 * k2)).take 16).length = 16 := by have := HNL.out; simp; omega
            have hch := ghN_chunk hv z (AL.drop (16 * k2)) (by have := HNL.out; simp; omega)
            rw [List.drop_drop] at hch
            rw [hch] at hg
            have hol := onesL_len 16 z
            have hnx := numL_xor (onesL z 16) ((AL.drop (16 * k2)).take 16) (by rw [hol, hcl2])
            rw [numL_onesL, Nat.mod_eq_of_lt (show z < 256 ^ 16 from hz)] at hnx
            have hxl := xorL_len (onesL z 16) ((AL.drop (16 * k2)).take 16) (by rw [hol, hcl2])
            rw [hol] at hxl
            have HG := hide hg
            generalize (AL.drop (16 * k2)).take 16 = T16 at *
            obtain ⟨m2, hm2⟩ : ∃ x, 16 * k2 = x := ⟨_, rfl⟩
            obtain ⟨m3, hm3⟩ : ∃ x, m2 + 16 = x := ⟨_, rfl⟩
            rw [hm2] at hx HG ⊢
            rw [hm3] at hx HG
            have q1 : (m2 : Int) < (N : Int) := by omega
            have q2 : (m2 : Int) + 16 = (m3 : Int) := by omega
            have q3 : (m3 : Int) ≤ (N : Int) := by have := HNL.out; omega
            have q4 : m2 ≤ m3 := by omega
            have q5 : m3 ≤ N := by have := HNL.out; omega
            have q6 : (m2 : Int) ≤ (m3 : Int) := by omega
            have HM2 := hide (And.intro hm2 (And.intro hm3 hlt2))
            have HO := hide (And.intro hol (And.intro hcl2 hnx))
            have HXL := hide hxl
            generalize onesL z 16 = OZ at *
            clear hch hg hol hcl2 hnx hm2 hm3 hlt2 hk2 hxl
            go_wp2_with fail
            refine (mixedL OZ T16 _ (by have := HO.out.1; omega) (by have h1 := HO.out.1; have h2 := HO.out.2.1; omega)).mono ?_
            rintro e w9 ⟨rfl, hb9⟩
            have hbel9 := hbel.trans (hb9.mono hbel.size)
            have hnx := HO.out.2.2
            have hxl := HXL.out
            generalize xorL OZ T16 = M16 at *
            clear hb9 hbel
            go_wp2_with fail
            refine (dot_any M16 H _ hxl HHL.out.1).mono ?_
            rintro e w10 ⟨rfl, hb10⟩
            have hbel10 := hbel9.trans (hb10.mono hbel9.size)
            rw [hnx, HHV.out]
            clear hb10 hbel9
            have hzl : dotN (z ^^^ numL T16) hv < 2 ^ 128 := dot_lt _ _ HHL.out.2
            obtain ⟨z2, hz2⟩ : ∃ x, dotN (z ^^^ numL T16) hv = x := ⟨_, rfl⟩
            rw [hz2] at hzl HG ⊢
            have HZL := hide hzl
            clear hz2 hzl hnx hxl
            go_wp2_with fail
            go_roundw
            case rel => first
              | exact ⟨k2 + 1, z2, by have := HM2.out; have := HNL.out; omega, HZL.out, rfl, val_int (by have := HM2.out; omega), by rw [show 16 * (k2 + 1) = m3 by have := HM2.out; omega]; exact HG.out, hbel10⟩
              | ((repeat apply Exists.intro); exact ⟨⟨k2 + 1, z2, by have := HM2.out; have := HNL.out; omega, HZL.out, rfl, val_int (by have := HM2.out; omega), by rw [show 16 * (k2 + 1) = m3 by have := HM2.out; omega]; exact HG.out, hbel10⟩, rfl⟩)
            case measure => have := HM2.out; have := HNL.out; simp [intOf]; omega
          · have hd2 : AL.drop (16 * k2) = [] := List.drop_eq_nil_of_le (by have := HNL.out; omega)
            rw [hd2, blocksN_nil, HAL2.out] at hg
            have hgh : gHash rk a C = z := by unfold gHash; rw [← HHK.out]; exact hg
            have q1 : ¬ (((16 * k2 : Nat) : Int) < (N : Int)) := by omega
            obtain ⟨m2, hm2⟩ : ∃ x, 16 * k2 = x := ⟨_, rfl⟩
            rw [hm2] at q1 ⊢
            have HGH := hide hgh
            have HZZ2 := hide hz
            clear hd2 hg hgh hm2 hlt2 hk2 hz
            go_wp2_with fail
            refine (refOnes4 1 _ (by decide)).mono ?_
            rintro e w9 ⟨rfl, hb9⟩
            have hbel9 := hbel.trans (hb9.mono hbel.size)
            have hp9 := hp.below hbel9 (Nat.le_refl _)
            have hcn : (nonce ++ onesL 1 4).length = 16 := nonce_len nonce _ HN.out.2.2.1
            have hAn := aesL_len rk _ hkl hcn
            have b1 := fun w => add_str nonce (onesL 1 4) (by rw [HN.out.2.2.1, onesL_len]; decide) w
            have HPD := hide (show padN rk nonce = numL (aesL rk (nonce ++ onesL 1 4)) from rfl)
            generalize onesL 1 4 = O14 at *
            generalize nonce ++ O14 = NN at *
            clear hb9 hbel
            go_wp2_with fail
            refine (refAes_any pb gs cs rk NN _ hp9 hkl hcn).mono ?_
            rintro e w11 ⟨rfl, hb11⟩
            have hbel11 := hbel9.trans (hb11.mono hbel9.size)
            generalize aesL rk NN = S9 at *
            have hol := onesL_len 16 z
            have HFT := hide (show xorL (onesL z 16) S9 = tagL rk nonce a C by
              have hxl := xorL_len (onesL z 16) S9 (by rw [hol, hAn])
              rw [hol] at hxl
              rw [← onesL_numL 16 (xorL (onesL z 16) S9) hxl, numL_xor _ _ (by rw [hol, hAn]), numL_onesL, Nat.mod_eq_of_lt (show z < 256 ^ 16 from HZZ2.out)]
              unfold tagL
              rw [HGH.out, HPD.out])
            generalize hTG : tagL rk nonce a C = TG at *
            have HTG := hide hTG
            clear hTG
            clear hb11 hbel9 b1 hp9
            go_wp2_with fail
            refine (mixedL (onesL z 16) S9 _ (by omega) (by omega)).mono ?_
            rintro e w12 ⟨rfl, hb12⟩
            have hbel12 := hbel11.trans (hb12.mono hbel11.size)
            rw [HFT.out]
            clear hb12 hbel11
            go_wp2_with fail
            go_ret2
            exact ⟨by first | (rw [HTG.out]; rfl) | (simp only [HTG.out]; rfl) | (simp [HTG.out]), hbel12⟩
      · have hlen : t.length = n := HN.out.1
        have hcl : t.length ≤ 4096 := by omega
        have hsc : (ByteArray.mk t.toArray).size = n := by simp [ByteArray.size]; omega
        obtain ⟨la, hla⟩ : ∃ x, a.length = x := ⟨_, rfl⟩
        have hsa : (ByteArray.mk a.toArray).size = la := by simp [ByteArray.size, hla]
        have hlai : (la : Int) ≤ 4096 := by have := HN.out.2.2.2.1; omega
        have HALL := hide (all_blocks a t HN.out.2.2.2.1 hcl)
        have hwl1 := wholeL_len a
        have hwl2 := wholeL_len t
        have hwb1 : (wholeL a).length ≤ 5000 := by have := HN.out.2.2.2.1; simp [wholeL]; omega
        have hwb2 : (wholeL t).length ≤ 5000 := by simp [wholeL]; omega
        have HCL := hide (And.intro hcl (And.intro hwl1 (And.intro hwl2 (And.intro hwb1 hwb2))))
        have HLA := hide hla
        clear hcl hwl1 hwl2 hwb1 hwb2 hla
        go_wp2_with fail
        refine (noughts_any 16 _ (by decide)).mono ?_
        rintro e w2 ⟨rfl, hb2⟩
        have hbel2 := hbel.trans (hb2.mono hbel.size)
        have hp2 := hp.below hbel2 (Nat.le_refl _)
        have hZl : (List.replicate 16 (0 : UInt8)).length = 16 := by simp
        have hHk := aesL_len rk (List.replicate 16 0) hkl hZl
        have HHK := hide (show numL (aesL rk (List.replicate 16 0)) = hashKey rk from rfl)
        generalize hZZ : List.replicate 16 (0 : UInt8) = Z at *
        clear hb2 hbel hps
        go_wp2_with fail
        refine (refAes_any pb gs cs rk Z _ hp2 hkl hZl).mono ?_
        rintro e w3 ⟨rfl, hb3⟩
        have hbel3 := hbel2.trans (hb3.mono hbel2.size)
        generalize aesL rk Z = H at *
        clear hb3 hbel2 hp2
        go_wp2_with fail
        refine (whole_any a _ HN.out.2.2.2.1).mono ?_
        rintro e w4 ⟨rfl, hb4⟩
        have hbel4 := hbel3.trans (hb4.mono hbel3.size)
        generalize wholeL a = A1 at *
        clear hb4 hbel3
        go_wp2_with fail
        refine (whole_any t _ HCL.out.1).mono ?_
        rintro e w5 ⟨rfl, hb5⟩
        have hbel5 := hbel4.trans (hb5.mono hbel4.size)
        generalize wholeL t = B1 at *
        clear hb5 hbel4
        have HE := hide (show (8 : Int) * (la : Int) = ((8 * la : Nat) : Int) ∧ (8 : Int) * (n : Int) = ((8 * n : Nat) : Int) by omega)
        go_wp2_with fail
        rw [HE.out.1]
        refine (refOnes8 (8 * la) _ (by omega)).mono ?_
        rintro e w6 ⟨rfl, hb6⟩
        have hbel6 := hbel5.trans (hb6.mono hbel5.size)
        clear hb6 hbel5
        go_wp2_with fail
        rw [HE.out.2]
        refine (refOnes8 (8 * n) _ (by omega)).mono ?_
        rintro e w7 ⟨rfl, hb7⟩
        have hbel7 := hbel6.trans (hb7.mono hbel6.size)
        have ho1 := onesL_len 8 (8 * la)
        have ho2 := onesL_len 8 (8 * n)
        have HAL2 : Hid (blocksN (A1 ++ B1 ++ onesL (8 * la) 8 ++ onesL (8 * n) 8) = blocksN a ++ blocksN t ++ [lensN a t]) := by
          have h := HALL.out
          rw [HLA.out, show t.length = n by have := hsc; simp [ByteArray.size] at this; exact this] at h
          exact h
        generalize onesL (8 * la) 8 = O1 at *
        generalize onesL (8 * n) 8 = O2 at *
        have hll := HCL.out
        have a1 := fun w => add_str A1 B1 (by omega) w
        have a2 := fun w => add_str (A1 ++ B1) O1 (by rw [List.length_append]; omega) w
        have a3 := fun w => add_str (A1 ++ B1 ++ O1) O2 (by rw [List.length_append, List.length_append]; omega) w
        have hAllL : (A1 ++ B1 ++ O1 ++ O2).length % 16 = 0 ∧ (A1 ++ B1 ++ O1 ++ O2).length ≤ 10016 := by simp only [List.length_append]; omega
        generalize A1 ++ B1 ++ O1 ++ O2 = AL at *
        generalize A1 ++ B1 ++ O1 = AB at *
        generalize A1 ++ B1 = AC at *
        obtain ⟨N, hN⟩ : ∃ N, AL.length = N := ⟨_, rfl⟩
        rw [hN] at hAllL
        have hsAL : (ByteArray.mk AL.toArray).size = N := by simp [ByteArray.size, hN]
        have hNi : (N : Int) ≤ 10016 := by omega
        have HNL := hide (And.intro hN hAllL)
        clear hb7 hbel6 hll HALL ho1 ho2 hN hAllL HCL HE
        go_wp2_with fail
        refine (noughts_any 16 _ (by decide)).mono ?_
        rintro e w8 ⟨rfl, hb8⟩
        have hbel8 := hbel7.trans (hb8.mono hbel7.size)
        have hz0 : List.replicate 16 (0 : UInt8) = onesL 0 16 := by decide
        rw [hz0]
        obtain ⟨hv, hhv⟩ : ∃ x, numL H = x := ⟨_, rfl⟩
        have hHlt := num16_lt H hHk
        rw [hhv] at hHlt HHK
        have HHV := hide hhv
        have HHL := hide (And.intro hHk hHlt)
        clear hb8 hbel7 hz0 a1 a2 a3 hhv hHk hHlt
        go_wp2_with fail
        go_loopw [28, 29, 30] (fun zv iv _ wr => ∃ k z : Nat, 16 * k ≤ N ∧ z < 2 ^ 128 ∧ zv = .string ⟨(onesL z 16).toArray⟩ ∧ iv = .int .i64 ((16 * k : Nat) : Int) ∧ ghN hv 0 (blocksN AL) = ghN hv z (blocksN (AL.drop (16 * k))) ∧ Below w.heap.size w wr) (fun _ iv _ _ => (10034 - intOf iv).toNat)
        case atStart => exact ⟨0, 0, by omega, by decide, rfl, rfl, rfl, hbel8⟩
        case round =>
          clear hbel8
          obtain ⟨k2, z, hk2, hz, rfl, rfl, hg, hbel⟩ := hrel
          by_cases hlt2 : 16 * k2 < N
          · have hx : (ByteArray.mk AL.toArray).extract (16 * k2) (16 * k2 + 16) = ⟨((AL.drop (16 * k2)).take 16).toArray⟩ := by
              rw [ByteArray.extract_mk, show 16 * k2 + 16 - 16 * k2 = 16 from by omega]
            have hcl2 : ((AL.drop (16 * k2)).take 16).length = 16 := by have := HNL.out; simp; omega
            have hch := ghN_chunk hv z (AL.drop (16 * k2)) (by have := HNL.out; simp; omega)
            rw [List.drop_drop] at hch
            rw [hch] at hg
            have hol := onesL_len 16 z
            have hnx := numL_xor (onesL z 16) ((AL.drop (16 * k2)).take 16) (by rw [hol, hcl2])
            rw [numL_onesL, Nat.mod_eq_of_lt (show z < 256 ^ 16 from hz)] at hnx
            have hxl := xorL_len (onesL z 16) ((AL.drop (16 * k2)).take 16) (by rw [hol, hcl2])
            rw [hol] at hxl
            have HG := hide hg
            generalize (AL.drop (16 * k2)).take 16 = T16 at *
            obtain ⟨m2, hm2⟩ : ∃ x, 16 * k2 = x := ⟨_, rfl⟩
            obtain ⟨m3, hm3⟩ : ∃ x, m2 + 16 = x := ⟨_, rfl⟩
            rw [hm2] at hx HG ⊢
            rw [hm3] at hx HG
            have q1 : (m2 : Int) < (N : Int) := by omega
            have q2 : (m2 : Int) + 16 = (m3 : Int) := by omega
            have q3 : (m3 : Int) ≤ (N : Int) := by have := HNL.out; omega
            have q4 : m2 ≤ m3 := by omega
            have q5 : m3 ≤ N := by have := HNL.out; omega
            have q6 : (m2 : Int) ≤ (m3 : Int) := by omega
            have HM2 := hide (And.intro hm2 (And.intro hm3 hlt2))
            have HO := hide (And.intro hol (And.intro hcl2 hnx))
            have HXL := hide hxl
            generalize onesL z 16 = OZ at *
            clear hch hg hol hcl2 hnx hm2 hm3 hlt2 hk2 hxl
            go_wp2_with fail
            refine (mixedL OZ T16 _ (by have := HO.out.1; omega) (by have h1 := HO.out.1; have h2 := HO.out.2.1; omega)).mono ?_
            rintro e w9 ⟨rfl, hb9⟩
            have hbel9 := hbel.trans (hb9.mono hbel.size)
            have hnx := HO.out.2.2
            have hxl := HXL.out
            generalize xorL OZ T16 = M16 at *
            clear hb9 hbel
            go_wp2_with fail
            refine (dot_any M16 H _ hxl HHL.out.1).mono ?_
            rintro e w10 ⟨rfl, hb10⟩
            have hbel10 := hbel9.trans (hb10.mono hbel9.size)
            rw [hnx, HHV.out]
            clear hb10 hbel9
            have hzl : dotN (z ^^^ numL T16) hv < 2 ^ 128 := dot_lt _ _ HHL.out.2
            obtain ⟨z2, hz2⟩ : ∃ x, dotN (z ^^^ numL T16) hv = x := ⟨_, rfl⟩
            rw [hz2] at hzl HG ⊢
            have HZL := hide hzl
            clear hz2 hzl hnx hxl
            go_wp2_with fail
            go_roundw
            case rel => first
              | exact ⟨k2 + 1, z2, by have := HM2.out; have := HNL.out; omega, HZL.out, rfl, val_int (by have := HM2.out; omega), by rw [show 16 * (k2 + 1) = m3 by have := HM2.out; omega]; exact HG.out, hbel10⟩
              | ((repeat apply Exists.intro); exact ⟨⟨k2 + 1, z2, by have := HM2.out; have := HNL.out; omega, HZL.out, rfl, val_int (by have := HM2.out; omega), by rw [show 16 * (k2 + 1) = m3 by have := HM2.out; omega]; exact HG.out, hbel10⟩, rfl⟩)
            case measure => have := HM2.out; have := HNL.out; simp [intOf]; omega
          · have hd2 : AL.drop (16 * k2) = [] := List.drop_eq_nil_of_le (by have := HNL.out; omega)
            rw [hd2, blocksN_nil, HAL2.out] at hg
            have hgh : gHash rk a t = z := by unfold gHash; rw [← HHK.out]; exact hg
            have q1 : ¬ (((16 * k2 : Nat) : Int) < (N : Int)) := by omega
            obtain ⟨m2, hm2⟩ : ∃ x, 16 * k2 = x := ⟨_, rfl⟩
            rw [hm2] at q1 ⊢
            have HGH := hide hgh
            have HZZ2 := hide hz
            clear hd2 hg hgh hm2 hlt2 hk2 hz
            go_wp2_with fail
            refine (refOnes4 1 _ (by decide)).mono ?_
            rintro e w9 ⟨rfl, hb9⟩
            have hbel9 := hbel.trans (hb9.mono hbel.size)
            have hp9 := hp.below hbel9 (Nat.le_refl _)
            have hcn : (nonce ++ onesL 1 4).length = 16 := nonce_len nonce _ HN.out.2.2.1
            have hAn := aesL_len rk _ hkl hcn
            have b1 := fun w => add_str nonce (onesL 1 4) (by rw [HN.out.2.2.1, onesL_len]; decide) w
            have HPD := hide (show padN rk nonce = numL (aesL rk (nonce ++ onesL 1 4)) from rfl)
            generalize onesL 1 4 = O14 at *
            generalize nonce ++ O14 = NN at *
            clear hb9 hbel
            go_wp2_with fail
            refine (refAes_any pb gs cs rk NN _ hp9 hkl hcn).mono ?_
            rintro e w11 ⟨rfl, hb11⟩
            have hbel11 := hbel9.trans (hb11.mono hbel9.size)
            generalize aesL rk NN = S9 at *
            have hol := onesL_len 16 z
            have HFT := hide (show xorL (onesL z 16) S9 = tagL rk nonce a t by
              have hxl := xorL_len (onesL z 16) S9 (by rw [hol, hAn])
              rw [hol] at hxl
              rw [← onesL_numL 16 (xorL (onesL z 16) S9) hxl, numL_xor _ _ (by rw [hol, hAn]), numL_onesL, Nat.mod_eq_of_lt (show z < 256 ^ 16 from HZZ2.out)]
              unfold tagL
              rw [HGH.out, HPD.out])
            generalize hTG : tagL rk nonce a t = TG at *
            have HTG := hide hTG
            clear hTG
            clear hb11 hbel9 b1 hp9
            go_wp2_with fail
            refine (mixedL (onesL z 16) S9 _ (by omega) (by omega)).mono ?_
            rintro e w12 ⟨rfl, hb12⟩
            have hbel12 := hbel11.trans (hb12.mono hbel11.size)
            rw [HFT.out]
            clear hb12 hbel11
            go_wp2_with fail
            go_ret2
            exact ⟨by first | (rw [HTG.out]; rfl) | (simp only [HTG.out]; rfl) | (simp [HTG.out]), hbel12⟩
end Go.Proofs.Ytjnhlkaafnaooaa
