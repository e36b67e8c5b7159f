import Derived.Test.YtjnhlkaafnaooabGreatDoorTagW
import Derived.Lib.ConvBytes
namespace Go.Proofs.YtjnhlkaafnaooabGreatDoor
open Go.RowKit
/-- A row of bytes that may be written. -/
structure BR (wr : World) (b : Nat) (xs : List UInt8) : Prop where
  lt : b < wr.heap.size
  cell : ∀ i, i < xs.length → wr.cell? ⟨b, i, none⟩ = some (.int .u8 (((xs.getD i 0).toNat : Nat) : Int))
  frz : ∀ i, i < xs.length → wr.frozen? ⟨b, i, none⟩ = false
theorem BR.set {wr : World} {b : Nat} {xs : List UInt8} (h : BR wr b xs) (i : Nat) (x : UInt8) (hi : i < xs.length) : BR (wr.setCell ⟨b, i, none⟩ (.int .u8 ((x.toNat : Nat) : Int))) b (xs.set i x) := by
  refine ⟨by simpa [World.setCell] using h.lt, fun j hj => ?_, fun j hj => ?_⟩
  · rw [List.length_set] at hj
    by_cases e : i = j
    · subst e
      rw [World.cell?_setCell_same _ _ _ (h.cell i hi)]
      simp [List.getElem?_set_self hi]
    · rw [World.cell?_setCell_other _ _ _ _ (by intro h2; apply e; injection h2), h.cell j hj]
      simp [List.getElem?_set_ne e]
  · rw [List.length_set] at hj
    rw [World.frozen?_setCell]; exact h.frz j hj
theorem BR.of_block {wr wr' : World} {b : Nat} {xs : List UInt8} (h : BR wr b xs) (e : wr'.heap[b]? = wr.heap[b]?) (hl : b < wr'.heap.size) : BR wr' b xs :=
  ⟨hl, fun i hi => by rw [World.cell?_of_block e]; exact h.cell i hi, fun i hi => by rw [World.frozen?_of_block e]; exact h.frz i hi⟩
theorem BR.below {wr wr' : World} {b B : Nat} {xs : List UInt8} (h : BR wr b xs) (hb : Below B wr wr') (hB : b < B) : BR wr' b xs := h.of_block (hb.block b hB) (Nat.lt_of_lt_of_le h.lt hb.size)
theorem BR.drew {wr : World} {b : Nat} {xs : List UInt8} (h : BR wr b xs) : BR wr.drew b xs := ⟨h.lt, h.cell, h.frz⟩
theorem BR.conv {wr : World} {b cap n : Nat} {xs : List UInt8} (h : BR wr b xs) (hn : xs.length = n) : (convert 52 9 (.slice (some ⟨b, 0, none⟩) n cap)).run Tryz.prog wr = .ok (.string ⟨xs.toArray⟩) wr := by
  subst hn
  refine run_convert_bytes_back (P := Tryz.prog) wr 52 9 5 ⟨b, 0, none⟩ cap xs Tryz.underlying52 Tryz.underlying5 Tryz.underlying9 (fun j hj => ?_)
  rw [Addr.add_mid, Nat.zero_add, h.cell j hj]
  simp [List.getElem?_eq_getElem hj]
theorem BR.bytes (w : World) (t : List UInt8) : BR (Lib.bytesWorld w 5 ⟨t.toArray⟩) w.heap.size t ∧ Below w.heap.size w (Lib.bytesWorld w 5 ⟨t.toArray⟩) := by
  have hs : (ByteArray.mk t.toArray).size = t.length := by simp [ByteArray.size]
  refine ⟨⟨by rw [Lib.bytesWorld_size]; omega, fun i hi => ?_, fun i hi => ?_⟩, ⟨rfl, rfl, rfl, by rw [Lib.bytesWorld_size]; omega, fun j hj => Lib.bytesWorld_at_old w _ _ j hj⟩⟩
  · have := Lib.bytesWorld_cell w 5 ⟨t.toArray⟩ i (by rw [hs]; exact hi)
    simpa using this
  · have h := Lib.bytesWorld_at_new w 5 ⟨t.toArray⟩
    have hsz : t.length ≤ (Lib.bytesCells w 5 ⟨t.toArray⟩).size := by simp [Lib.bytesCells]
    unfold World.frozen?
    simp only [h]
    simp; omega
theorem conv_str (w : World) (t : List UInt8) (n : Nat) (hn : t.length = n) : (convert 9 52 (.string ⟨t.toArray⟩)).run Tryz.prog w = .ok (.slice (some ⟨w.heap.size, 0, none⟩) n (grownCap w n 0 5)) (Lib.bytesWorld w 5 ⟨t.toArray⟩) := by
  have hs : (ByteArray.mk t.toArray).size = n := by simp [ByteArray.size, hn]
  have := Lib.run_convert_string_bytes (P := Tryz.prog) w 9 52 5 ⟨t.toArray⟩ Tryz.underlying9 Tryz.underlying52 Tryz.underlying5
  rw [this, hs]
theorem ctr_get (rk nonce : List UInt8) (hw : rk.length = 240) (hn : nonce.length = 12) : ∀ (k : Nat) (t : List UInt8) (n j : Nat), j < 16 → 16 * k + j < t.length → (ctrL rk nonce n t).getD (16 * k + j) 0 = t.getD (16 * k + j) 0 ^^^ (aesL rk (nonce ++ onesL (n + k) 4)).getD j 0 := by
  intro k
  induction k with
  | zero =>
    intro t n j hj ht
    have hne : t ≠ [] := by intro e; subst e; simp at ht
    have hA := aesL_len rk (nonce ++ onesL n 4) hw (nonce_len nonce n hn)
    rw [ctrL_ne _ _ _ _ hne, Nat.mul_zero, Nat.zero_add, Nat.add_zero]
    have hl : (xorL (t.take 16) (aesL rk (nonce ++ onesL n 4))).length = (t.take 16).length := xorL_len_le _ _ (by rw [hA]; simp; omega)
    have hj2 : j < (t.take 16).length := by simp; omega
    rw [List.getD_eq_getElem?_getD, List.getElem?_append_left (by omega)]
    simp only [xorL, List.getElem?_zipWith, List.getElem?_eq_getElem hj2, List.getElem?_eq_getElem (by omega : j < (aesL rk (nonce ++ onesL n 4)).length), List.getD_eq_getElem?_getD, List.getElem?_eq_getElem (by omega : j < t.length)]
    simp [List.getElem?_eq_getElem (by omega : j < (aesL rk (nonce ++ onesL n 4)).length)]
  | succ k ih =>
    intro t n j hj ht
    have hne : t ≠ [] := by intro e; subst e; simp at ht
    have hA := aesL_len rk (nonce ++ onesL n 4) hw (nonce_len nonce n hn)
    have hl : (xorL (t.take 16) (aesL rk (nonce ++ onesL n 4))).length = 16 := by rw [xorL_len_le _ _ (by rw [hA]; simp; omega)]; simp; omega
    have h := ih (t.drop 16) (n + 1) j hj (by simp; omega)
    rw [ctrL_ne _ _ _ _ hne, List.getD_eq_getElem?_getD, List.getElem?_append_right (by omega), hl, show 16 * (k + 1) + j - 16 = 16 * k + j by omega, ← List.getD_eq_getElem?_getD, h]
    congr 1
    · rw [List.getD_eq_getElem?_getD, List.getD_eq_getElem?_getD, List.getElem?_drop]; congr 2; omega
    · rw [show n + 1 + k = n + (k + 1) by omega]
theorem doneTo_ge (A B : List UInt8) (k : Nat) (h : A.length = B.length) (hk : B.length ≤ k) : doneTo A B k = A := by
  unfold doneTo
  rw [List.take_of_length_le (by omega), List.drop_eq_nil_of_le hk, List.append_nil]
theorem done_set (A B : List UInt8) (k : Nat) (h : A.length = B.length) (hk : k < B.length) : (doneTo A B k).set k (A.getD k 0) = doneTo A B (k + 1) := by
  unfold doneTo
  rw [List.set_append_right k _ (by simp; omega)]
  have h0 : k - (A.take k).length = 0 := by simp; omega
  rw [h0, List.drop_eq_getElem_cons hk, List.set_cons_zero, List.take_succ_eq_append_getElem (by omega : k < A.length), List.append_assoc]
  congr 1
  rw [List.getD_eq_getElem?_getD, List.getElem?_eq_getElem (by omega : k < A.length)]
  rfl
set_option maxRecDepth 100000 in
set_option maxHeartbeats 400000 in
theorem turned_any (kb : Nat) (rk nonce t : List UInt8) (w : World) (hk : KeyAt w kb rk) (ht : t.length ≤ 4096) :
    Calls Tryz.prog 147 #[.pointer (some ⟨kb, 0, none⟩), .string ⟨nonce.toArray⟩, .string ⟨t.toArray⟩] w fun x w' => x = .returned (.string ⟨(ctrL rk (fillL nonce 12) 2 t).toArray⟩) ∧ Below w.heap.size w w' := by
  have hzv : ∀ w, (zeroValue 206).run Tryz.prog w = .ok (.agg (bvals (List.replicate 16 0)).toArray) w := fun _ => by kernel_rfl
  have hrl := hk.len
  have hklt := hk.lt
  have hfl := fillL_len nonce 12
  have HCG := hide (ctr_get rk (fillL nonce 12) hrl hfl)
  have hCl := ctrL_len rk (fillL nonce 12) hrl hfl 2 t
  obtain ⟨n, hn⟩ : ∃ n, t.length = n := ⟨_, rfl⟩
  have hcs := conv_str w t n hn
  obtain ⟨hbr, hbb⟩ := BR.bytes w t
  generalize Lib.bytesWorld w 5 ⟨t.toArray⟩ = w1 at *
  obtain ⟨C, hC⟩ : ∃ x, ctrL rk (fillL nonce 12) 2 t = x := ⟨_, rfl⟩
  rw [hC] at hCl
  have HC := hide hC
  have hni : (n : Int) ≤ 4096 := by omega
  rw [hn] at hCl
  have HN := hide (And.intro hn hCl)
  have HB := hide (And.intro hbr hbb)
  generalize grownCap w n 0 5 = cap at *
  obtain ⟨Z, hZ⟩ : ∃ x, List.replicate 16 (0 : UInt8) = x := ⟨_, rfl⟩
  have hZl : Z.length = 16 := by rw [← hZ]; simp
  rw [hZ] at hzv
  clear hC hn hCl hbr hbb ht hZ
  go_enter Tryz.func147, Tryz.ntmps147
  go_wp2_with fail
  go_loopw [8, 9] (fun nn i wr => ∃ k : Nat, 16 * k < n + 16 ∧ nn = .int .u32 ((2 + k : Nat) : Int) ∧ i = .int .i64 ((16 * k : Nat) : Int) ∧ BR wr w.heap.size (doneTo C t (16 * k)) ∧ Below w.heap.size w wr) (fun _ i _ => (5017 - intOf i).toNat)
  case atStart => exact ⟨0, by omega, rfl, rfl, by rw [Nat.mul_zero, doneTo_zero]; exact HB.out.1, HB.out.2⟩
  case round =>
    clear HB hcs
    obtain ⟨k, hk16, rfl, rfl, hr, hbl⟩ := hrel
    by_cases hlt : 16 * k < n
    · have hki : ((16 * k : Nat) : Int) < (n : Int) := by omega
      have hkl : 2 + k < 4294967296 := by omega
      have HKK := hide (And.intro hk16 hlt)
      obtain ⟨m, hm⟩ : ∃ m, 16 * k = m := ⟨_, rfl⟩
      have HM := hide hm
      rw [hm] at hki hr ⊢
      obtain ⟨q, hq⟩ : ∃ q, 2 + k = q := ⟨_, rfl⟩
      have HQ := hide hq
      rw [hq] at hkl ⊢
      have hkr := hk.below hbl hklt
      clear hk16 hlt hm hq
      go_wp2_with fail
      refine (counterBlock_any nonce q _ hkl).mono ?_
      rintro e w2 ⟨rfl, hb2⟩
      have hk2 := hkr.below hb2 hkr.lt
      have hr2 := hr.below hb2 hr.lt
      have hbl2 := hbl.trans (hb2.mono hbl.size)
      have hcl : (fillL nonce 12 ++ onesL q 4).length = 16 := by simp [fillL_len, onesL_len]
      clear hr hbl hb2 hkr
      go_wp2_with fail
      refine (encrypt_any kb rk (fillL nonce 12 ++ onesL q 4) _ hk2 hcl).mono ?_
      rintro e w3 ⟨rfl, hb3⟩
      have hr3 := hr2.below hb3 hr2.lt
      have hbl3 := hbl2.trans (hb3.mono hbl2.size)
      have hPl := aesL_len rk (fillL nonce 12 ++ onesL q 4) hrl hcl
      have HCG2 : Hid (∀ j, j < 16 → m + j < n → C.getD (m + j) 0 = t.getD (m + j) 0 ^^^ (aesL rk (fillL nonce 12 ++ onesL q 4)).getD j 0) := fun j hj hjn => by
        have h := HCG.out k t 2 j hj (by rw [HN.out.1, HM.out]; exact hjn)
        rw [HM.out, HC.out, HQ.out] at h
        exact h
      clear hr2 hbl2 hb3 hk2 hcl
      generalize aesL rk (fillL nonce 12 ++ onesL q 4) = P at *
      go_wp2_with (refine wpList_store_el rfl 206 _ _ rfl w3.heap.size 0 (bvals P).toArray rfl rfl ?ht (info16' P hPl) (bvals_one' P) ?_)
      case ht =>
        have h := there_new w3 (bvals Z).toArray 206
        have e1 : (bvals Z).toArray.size = (bvals P).toArray.size := by simp [bvals, hZl, hPl]
        rw [e1] at h
        exact h
      intro w4 hw4
      have hrow0 : Row (w3.alloc (.cells (bvals Z).toArray 206)) w3.heap.size 206 .u8 (nats Z) := Row.new w3 _ _ _ _ (by simp [bvals, nats]) (fun i hi => by rw [← vals_nats]; exact vals_get .u8 _ i hi)
      have hrow1 := hrow0.setAll (nats P) (by rw [nats_len, nats_len, hPl, hZl])
      rw [vals_nats] at hrow1
      have hb4 : Below w3.heap.size w3 ((w3.alloc (.cells (bvals Z).toArray 206)).setCells w3.heap.size 0 (bvals P)) := ((Below.refl w3.heap.size w3).alloc (Nat.le_refl _) (.cells (bvals Z).toArray 206)).trans (below_setCells _ _ _ 0 (bvals P) (Nat.le_refl _))
      have hw4' : w4 = (w3.alloc (.cells (bvals Z).toArray 206)).setCells w3.heap.size 0 (bvals P) := hw4.out
      rw [← hw4'] at hrow1 hb4
      have hr4 := hr3.below hb4 hr3.lt
      have hbl4 := hbl3.trans (hb4.mono hbl3.size)
      have hgN := hr3.lt
      obtain ⟨gp, hgp⟩ : ∃ g, w3.heap.size = g := ⟨_, rfl⟩
      rw [hgp] at hrow1 hgN ⊢
      have HST4 := hide (And.intro hrow1 (And.intro hr4 hbl4))
      clear hw4 hw4' hrow0 hrow1 hb4 hr4 hbl4 hr3 hbl3 hgp
      go_wp2_with fail
      go_loopw [11] (fun jv wr => ∃ j : Nat, j ≤ 16 ∧ m + j ≤ n ∧ jv = .int .i64 (j : Int) ∧ Row wr gp 206 .u8 (nats P) ∧ BR wr w.heap.size (doneTo C t (m + j)) ∧ Below w.heap.size w wr) (fun jv _ => (17 - intOf jv).toNat)
      case atStart => exact ⟨0, by omega, by have := HKK.out.2; have := HM.out; omega, rfl, HST4.out.1, HST4.out.2.1, HST4.out.2.2⟩
      case round =>
        clear HST4
        obtain ⟨j, hj16, hmj, rfl, hrow, hr, hbl⟩ := hrel
        have hCt : C.length = t.length := by rw [HN.out.1, HN.out.2]
        by_cases hj : j < 16
        · have hji : (j : Int) < 16 := by omega
          by_cases hn2 : m + j < n
          · have hdl : (doneTo C t (m + j)).length = n := by rw [doneTo_len C t _ hCt, HN.out.1]
            have hc := hr.cell (m + j) (by rw [hdl]; exact hn2)
            have hf := hr.frz (m + j) (by rw [hdl]; exact hn2)
            rw [doneTo_get C t _ _ hCt (Nat.le_refl _) (by rw [HN.out.1]; exact hn2)] at hc
            have hp := hrow.cell (i := j) (by rw [nats_len, hPl]; exact hj)
            rw [nats_get] at hp
            have hx := u8_xor_nat (t.getD (m + j) 0).toNat (P.getD j 0).toNat (UInt8.toNat_lt _) (UInt8.toNat_lt _)
            rw [← UInt8.toNat_xor, ← HCG2.out j hj hn2] at hx
            have hset := hr.set (m + j) (C.getD (m + j) 0) (by rw [hdl]; exact hn2)
            rw [done_set C t (m + j) hCt (by rw [HN.out.1]; exact hn2)] at hset
            have hrow2 := hrow.setOther (a := ⟨w.heap.size, m + j, none⟩) (show gp ≠ w.heap.size by omega) (.int .u8 (((C.getD (m + j) 0).toNat : Nat) : Int))
            have hbl2 : Below w.heap.size w (wr.setCell ⟨w.heap.size, m + j, none⟩ (.int .u8 (((C.getD (m + j) 0).toNat : Nat) : Int))) := hbl.setCell (Nat.le_refl _) _
            have HS := hide (And.intro hrow2 (And.intro hset hbl2))
            generalize (C.getD (m + j) 0).toNat = z at *
            generalize (t.getD (m + j) 0).toNat = y at *
            generalize (P.getD j 0).toNat = x at *
            obtain ⟨p, hpp⟩ : ∃ p, m + j = p := ⟨_, rfl⟩
            have HP := hide hpp
            have hw : IntKind.i64.wrap ((m : Int) + (j : Int)) = (p : Int) := by rw [show (m : Int) + (j : Int) = (p : Int) by omega]; exact wrap_i64_nat _ (by omega)
            have hadd : (m : Int) + (j : Int) = (p : Int) := by omega
            have hpn : (p : Int) < (n : Int) := by omega
            rw [hpp] at hc hf HS
            have HJ := hide (And.intro hj hn2)
            clear hset hrow2 hbl2 hr hbl hrow hpp hdl hj hn2 hj16 hmj hCt
            go_wp2_with fail
            go_region
            go_wp2_with fail
            go_roundw
            case rel => exact ⟨j + 1, by have := HJ.out; omega, by have := HJ.out; omega, by go_num, HS.out.1.drew, by rw [show m + (j + 1) = m + j + 1 by omega]; exact (show BR _ _ _ from by have h := HS.out.2.1; rw [← HP.out] at h ⊢; exact h).drew, HS.out.2.2.drew⟩
            case measure => have := HJ.out; simp [intOf]; omega
          · have hadd : ¬ ((m : Int) + (j : Int) < (n : Int)) := by omega
            have hfinal : doneTo C t (m + j) = doneTo C t (m + 16) := by
              rw [doneTo_ge C t _ hCt (by rw [HN.out.1]; omega), doneTo_ge C t _ hCt (by rw [HN.out.1]; omega)]
            rw [hfinal] at hr
            have HRR := hide (And.intro hr hbl)
            clear hfinal hr hbl hrow
            go_wp2_with fail
            go_roundw
            case rel => exact ⟨k + 1, by have := HKK.out; have := HM.out; omega, val_int (by have := HQ.out; have := HKK.out; omega), val_int (by have := HM.out; omega), by rw [show 16 * (k + 1) = m + 16 by have := HM.out; omega]; exact HRR.out.1, HRR.out.2⟩
            case measure => have := HKK.out; have := HM.out; simp [intOf]; omega
        · have hj2 : j = 16 := by omega
          subst hj2
          have hfinal : doneTo C t (m + 16) = doneTo C t (m + 16) := by
            rfl
          rw [hfinal] at hr
          have HRR := hide (And.intro hr hbl)
          clear hfinal hr hbl hrow
          go_wp2_with fail
          go_roundw
          case rel => exact ⟨k + 1, by have := HKK.out; have := HM.out; omega, val_int (by have := HQ.out; have := HKK.out; omega), val_int (by have := HM.out; omega), by rw [show 16 * (k + 1) = m + 16 by have := HM.out; omega]; exact HRR.out.1, HRR.out.2⟩
          case measure => have := HKK.out; have := HM.out; simp [intOf]; omega
    · have hd : doneTo C t (16 * k) = C := doneTo_ge C t _ (by rw [HN.out.1, HN.out.2]) (by rw [HN.out.1]; omega)
      rw [hd] at hr
      have hcv := hr.conv (cap := cap) HN.out.2
      have hki : ¬ (((16 * k : Nat) : Int) < (n : Int)) := by omega
      obtain ⟨m, hm⟩ : ∃ m, 16 * k = m := ⟨_, rfl⟩
      rw [hm] at hki ⊢
      clear hm hd hr hlt hk16
      go_wp2_with fail
      go_ret
      exact ⟨by rw [HC.out]; rfl, hbl⟩
end Go.Proofs.YtjnhlkaafnaooabGreatDoor
