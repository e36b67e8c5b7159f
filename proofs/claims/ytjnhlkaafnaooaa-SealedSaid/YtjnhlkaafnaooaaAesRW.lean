import Derived.Test.YtjnhlkaafnaooaaColsW
namespace Go.Proofs.Ytjnhlkaafnaooaa
open Go.RowKit
theorem roundKey_extract (rk : List UInt8) (r : Nat) : (ByteArray.mk rk.toArray).extract (16 * r) (16 * r + 16) = ⟨(roundKey rk r).toArray⟩ := by
  rw [ByteArray.extract_mk, show 16 * r + 16 - 16 * r = 16 from by omega]
  rfl
theorem mixedL (a b : List UInt8) (w : World) (hn : a.length ≤ 1000) (hab : a.length ≤ b.length) :
    Calls Try.prog 22 #[.string ⟨a.toArray⟩, .string ⟨b.toArray⟩] w fun e w' => e = .returned (.string ⟨(xorL a b).toArray⟩) ∧ Below w.heap.size w w' := by
  have h := mixedLe_any ⟨a.toArray⟩ ⟨b.toArray⟩ w (by simp [ByteArray.size]; omega) (by simp [ByteArray.size]; omega)
  simpa using h
set_option maxRecDepth 100000 in
set_option maxHeartbeats 1000000 in
theorem refAes_any (pb gs cs : Nat) (rk t : List UInt8) (w : World) (hp : PS w pb gs cs) (hrk : rk.length = 240) (ht : t.length = 16) :
    Calls Try.prog 21 #[.pointer (some ⟨pb, 0, none⟩), .string ⟨rk.toArray⟩, .string ⟨t.toArray⟩] w fun e w' => e = .returned (.string ⟨(aesL rk t).toArray⟩) ∧ Below w.heap.size w w' := by
  have hlen : ∀ r, r ≤ 14 → (aesTo rk t r).length = 16 := fun r hr => aesTo_len rk t r hrk ht hr
  have hs1 : (ByteArray.mk rk.toArray).size = 240 := by simp [ByteArray.size, hrk]
  have hs2 : (ByteArray.mk t.toArray).size = 16 := by simp [ByteArray.size, ht]
  have hx0 := roundKey_extract rk 0
  have hx0' : (ByteArray.mk rk.toArray).extract 0 16 = ⟨(roundKey rk 0).toArray⟩ := hx0
  have hr0 := roundKey_len rk 0 hrk (by decide)
  have HL := hide (And.intro hlen (And.intro hrk ht))
  have HX := hide (roundKey_extract rk)
  have hS0 : aesTo rk t 0 = xorL t (roundKey rk 0) := rfl
  have HS0 := hide hS0
  clear hx0 hlen hS0
  go_enter Try.func21, Try.ntmps21
  go_wp2_with fail
  refine (mixedL t (roundKey rk 0) _ (by omega) (by omega)).mono ?_
  rintro e w1 ⟨rfl, hb1⟩
  rw [← HS0.out]
  have hp1 := hp.below hb1 (Nat.le_refl _)
  clear hx0' hr0
  go_wp2_with fail
  go_loopw [2, 7] (fun tv rv wr => ∃ r : Nat, r ≤ 14 ∧ tv = .string ⟨(aesTo rk t r).toArray⟩ ∧ rv = .int .i64 ((r + 1 : Nat) : Int) ∧ Below w.heap.size w wr) (fun _ rv _ => (16 - intOf rv).toNat)
  case atStart => exact ⟨0, by omega, rfl, rfl, hb1⟩
  case round =>
    clear hp1 hb1
    obtain ⟨r, hr14, rfl, rfl, hbel⟩ := hrel
    have hl := HL.out.1 r (by omega)
    have hpr := hp.below hbel (Nat.le_refl _)
    by_cases hlt : r < 14
    · obtain ⟨q, hq⟩ : ∃ q, r + 1 = q := ⟨_, rfl⟩
      have hqi : (q : Int) ≤ 14 := by omega
      have hex := HX.out q
      have hkl := roundKey_len rk q HL.out.2.1 (by omega)
      have hstep : aesTo rk t (r + 1) = xorL (if r + 1 < 14 then colL (rowsL (subL (aesTo rk t r))) else rowsL (subL (aesTo rk t r))) (roundKey rk (r + 1)) := rfl
      obtain ⟨S, hS⟩ : ∃ S, aesTo rk t r = S := ⟨_, rfl⟩
      rw [hS] at hl hstep ⊢
      rw [hq] at hstep ⊢
      have hl1 : (subL S).length = 16 := by rw [subL_len, hl]
      have HR := hide (And.intro hq hlt)
      obtain ⟨m, hm⟩ : ∃ m, 16 * q = m := ⟨_, rfl⟩
      obtain ⟨m2, hm2⟩ : ∃ m, 16 * q + 16 = m := ⟨_, rfl⟩
      rw [hm2, hm] at hex
      have i1 : 16 * (q : Int) = (m : Int) := by omega
      have i2 : (m : Int) + 16 = (m2 : Int) := by omega
      have i3 : (m2 : Int) ≤ 240 := by omega
      have i4 : m ≤ m2 := by omega
      have i5 : m2 ≤ 240 := by omega
      clear hr14 hlt hS hm hm2
      go_wp2_with fail
      refine (swap_any pb gs cs S _ hpr (by omega)).mono ?_
      rintro e w2 ⟨rfl, hb2⟩
      have hbel2 := hbel.trans (hb2.mono hbel.size)
      generalize subL S = S1 at *
      clear hb2
      go_wp2_with fail
      refine (refShifted_any S1 _ hl1).mono ?_
      rintro e w3 ⟨rfl, hb3⟩
      have hbel3 := hbel2.trans (hb3.mono hbel2.size)
      have hl2 := rowsL_len S1
      generalize rowsL S1 = S2 at *
      clear hb3 hbel2
      by_cases hq14 : q < 14
      · rw [if_pos hq14] at hstep
        have hq14i : (q : Int) < 14 := by omega
        clear hq14
        go_wp2_with fail
        refine (columns_any S2 _ hl2).mono ?_
        rintro e w4 ⟨rfl, hb4⟩
        have hbel4 := hbel3.trans (hb4.mono hbel3.size)
        have hl3 := colL_len S2
        obtain ⟨S3, hS3⟩ : ∃ X, colL S2 = X := ⟨_, rfl⟩
        rw [hS3] at hl3 hstep ⊢
        have HE := hide (show xorL S3 (roundKey rk q) = aesTo rk t (r + 1) by rw [HR.out.1, hstep])
        clear hb4 hbel3 hS3 hstep
        go_wp2_with fail
        refine (mixedL S3 (roundKey rk q) _ (by omega) (by omega)).mono ?_
        rintro e w5 ⟨rfl, hb5⟩
        have hbel5 := hbel4.trans (hb5.mono hbel4.size)
        rw [HE.out]
        obtain ⟨S5, hS5⟩ : ∃ X, aesTo rk t (r + 1) = X := ⟨_, rfl⟩
        have HS5 := hide hS5
        rw [hS5]
        clear hS5 hb5 hbel4
        go_wp2_with fail
        go_roundw
        case rel => first
          | exact ⟨r + 1, by have := HR.out; omega, by rw [HS5.out], val_int (by have := HR.out; omega), hbel5⟩
          | ((repeat apply Exists.intro); exact ⟨⟨r + 1, by have := HR.out; omega, by rw [HS5.out], val_int (by have := HR.out; omega), hbel5⟩, rfl⟩)
        case measure => have := HR.out; simp [intOf]; omega
      · rw [if_neg hq14] at hstep
        have hq14i : ¬ (q : Int) < 14 := by omega
        obtain ⟨S3, hS3⟩ : ∃ X, S2 = X := ⟨_, rfl⟩
        rw [hS3] at hl2 hstep ⊢
        have hl3 := hl2
        have hbel4 := hbel3
        have HE := hide (show xorL S3 (roundKey rk q) = aesTo rk t (r + 1) by rw [HR.out.1, hstep])
        clear hbel3 hS3 hstep hl2 hq14
        go_wp2_with fail
        refine (mixedL S3 (roundKey rk q) _ (by omega) (by omega)).mono ?_
        rintro e w5 ⟨rfl, hb5⟩
        have hbel5 := hbel4.trans (hb5.mono hbel4.size)
        rw [HE.out]
        obtain ⟨S5, hS5⟩ : ∃ X, aesTo rk t (r + 1) = X := ⟨_, rfl⟩
        have HS5 := hide hS5
        rw [hS5]
        clear hS5 hb5 hbel4
        go_wp2_with fail
        go_roundw
        case rel => first
          | exact ⟨r + 1, by have := HR.out; omega, by rw [HS5.out], val_int (by have := HR.out; omega), hbel5⟩
          | ((repeat apply Exists.intro); exact ⟨⟨r + 1, by have := HR.out; omega, by rw [HS5.out], val_int (by have := HR.out; omega), hbel5⟩, rfl⟩)
        case measure => have := HR.out; simp [intOf]; omega
    · have hr : r = 14 := by omega
      subst hr
      have e14 : aesTo rk t 14 = aesL rk t := rfl
      rw [e14]
      simp only [show ((14 + 1 : Nat) : Int) = 15 from rfl]
      clear hpr hl hlt hr14 e14
      go_wp2_with fail
      go_ret
      exact ⟨rfl, hbel⟩
end Go.Proofs.Ytjnhlkaafnaooaa
