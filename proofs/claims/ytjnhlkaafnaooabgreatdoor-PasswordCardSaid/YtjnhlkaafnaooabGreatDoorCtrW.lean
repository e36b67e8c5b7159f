import Derived.Test.YtjnhlkaafnaooabGreatDoorAbsW
namespace Go.Proofs.YtjnhlkaafnaooabGreatDoor
open Go.RowKit
theorem copy_12 (K : List UInt8) (w : World) (sT ty t : TypeId) :
    (Builtin.copy_ #[52, sT] ty #[.slice (some ⟨w.heap.size, 0, none⟩) 12 16, .string ⟨K.toArray⟩]).run Tryz.prog (w.alloc (.cells (vals .u8 (List.replicate 16 0)).toArray t)) =
      .ok (goInt (K.take 12).length) (w.alloc (.cells (bvals (fillL K 12 ++ [0, 0, 0, 0])).toArray t)) := by
  have e4 : ([0, 0, 0, 0] : List UInt8) = List.replicate 4 0 := rfl
  by_cases h : K.length ≤ 12
  · have e : K.take 12 = K := List.take_of_length_le h
    have e2 : fillL K 12 ++ [0, 0, 0, 0] = K ++ List.replicate (16 - K.length) 0 := by
      unfold fillL
      rw [e, e4, List.append_assoc, List.replicate_append_replicate]
      congr 2; omega
    rw [copy_le K 16 12 w sT ty t h (by decide), e, e2]
  · have e2 : fillL K 12 ++ [0, 0, 0, 0] = K.take 12 ++ List.replicate (16 - (K.take 12).length) 0 := by
      unfold fillL
      have h0 : 12 - K.length = 0 := by omega
      have h1 : 16 - (K.take 12).length = 4 := by simp; omega
      rw [h0, h1, e4]; simp
    rw [copy_cut _ _ _ _ 5 _ _ _ _ Tryz.underlying52 (by kernel_rfl) (by omega), copy_le (K.take 12) 16 12 w sT ty t (by simp; omega) (by decide), e2]
theorem ones4_vals (n : Nat) : onesL n 4 = [UInt8.ofNat (n / 16777216 % 256), UInt8.ofNat (n / 65536 % 256), UInt8.ofNat (n / 256 % 256), UInt8.ofNat (n % 256)] := by
  simp only [onesL, List.nil_append, List.cons_append, Nat.div_div_eq_div_mul]
theorem ctr_cells (F : List UInt8) (n : Nat) (hF : F.length = 12) (v0 v1 v2 v3 : Int) (h0 : v0 = ((n / 16777216 % 256 : Nat) : Int)) (h1 : v1 = ((n / 65536 % 256 : Nat) : Int)) (h2 : v2 = ((n / 256 % 256 : Nat) : Int)) (h3 : v3 = ((n % 256 : Nat) : Int)) :
    ((((bvals (F ++ [0, 0, 0, 0])).toArray.setIfInBounds 12 (.int .u8 v0)).setIfInBounds 13 (.int .u8 v1)).setIfInBounds 14 (.int .u8 v2)).setIfInBounds 15 (.int .u8 v3) = (bvals (F ++ onesL n 4)).toArray := by
  subst h0 h1 h2 h3
  rw [ones4_vals]
  match F, hF with
  | [_, _, _, _, _, _, _, _, _, _, _, _], _ => simp [bvals]
set_option maxRecDepth 100000 in
set_option maxHeartbeats 800000 in
theorem counterBlock_any (K : List UInt8) (n : Nat) (w : World) (hn : n < 4294967296) :
    Calls Tryz.prog 154 #[.string ⟨K.toArray⟩, .int .u32 (n : Int)] w fun x w' => x = .returned (.agg (bvals (fillL K 12 ++ onesL n 4)).toArray) ∧ Below w.heap.size w w' := by
  have hzv : ∀ w, (zeroValue 206).run Tryz.prog w = .ok (.agg (vals .u8 (List.replicate 16 0)).toArray) w := fun _ => by kernel_rfl
  obtain ⟨Z, hZ⟩ : ∃ x, (vals .u8 (List.replicate 16 0)).toArray = x := ⟨_, rfl⟩
  have hcp : ∀ sT ty, (Builtin.copy_ #[52, sT] ty #[.slice (some ⟨w.heap.size + 1, 0, none⟩) 12 16, .string ⟨K.toArray⟩]).run Tryz.prog ((w.alloc (.cells Z 206)).alloc (.cells Z 206)) = .ok (goInt (K.take 12).length) ((w.alloc (.cells Z 206)).alloc (.cells (bvals (fillL K 12 ++ [0, 0, 0, 0])).toArray 206)) := fun sT ty => by
    have h := copy_12 K (w.alloc (.cells Z 206)) sT ty 206
    rw [hZ] at h
    simpa using h
  rw [hZ] at hzv
  have hZs : Z.size = 16 := by rw [← hZ]; simp [vals]
  have hcs : (bvals (fillL K 12 ++ [0, 0, 0, 0])).toArray.size = 16 := by simp [bvals, fillL_len]
  have hcc := ctr_cells (fillL K 12) n (fillL_len K 12) ((n : Int) / 16777216) ((n : Int) / 65536 % 256) ((n : Int) / 256 % 256) ((n : Int) % 256) (by omega) (by omega) (by omega) (by omega)
  have hni : (n : Int) < 4294967296 := by omega
  generalize (bvals (fillL K 12 ++ [0, 0, 0, 0])).toArray = C at *
  have hAl : (fillL K 12 ++ onesL n 4).length = 16 := by simp [fillL_len, onesL_len]
  generalize fillL K 12 ++ onesL n 4 = A at *
  have hvl : (bvals A).length = 16 := by rw [bvals_len, hAl]
  have hone := bvals_one A
  generalize hV : bvals A = V at *
  have hra : ((w.alloc (.cells Z 206)).alloc (.cells ((((C.setIfInBounds 12 (.int .u8 ((n : Int) / 16777216))).setIfInBounds 13 (.int .u8 ((n : Int) / 65536 % 256))).setIfInBounds 14 (.int .u8 ((n : Int) / 256 % 256))).setIfInBounds 15 (.int .u8 ((n : Int) % 256))) 206)).rangeAt (w.heap.size + 1) 0 V := by
    rw [hcc]
    exact range_block (c := V.toArray) (heap_new1 w _ _)
  have hth : ((w.alloc (.cells Z 206)).alloc (.cells ((((C.setIfInBounds 12 (.int .u8 ((n : Int) / 16777216))).setIfInBounds 13 (.int .u8 ((n : Int) / 65536 % 256))).setIfInBounds 14 (.int .u8 ((n : Int) / 256 % 256))).setIfInBounds 15 (.int .u8 ((n : Int) % 256))) 206)).there w.heap.size 0 16 := by
    have h := there_new w Z 206
    rw [hZs] at h
    exact World.there_alloc h _
  have HI := hide (show (Tryz.prog.info? 206).map (·.size) = some V.length from by rw [hvl]; kernel_rfl)
  have HV := hide hvl
  have HVV := hide hV
  have HRA := hide hra
  have HTH := hide hth
  clear hZ hcc hra hth hvl hV hAl
  go_enter Tryz.func154, Tryz.ntmps154
  go_wp2_with (refine wpList_load_mid rfl 206 _ rfl (w.heap.size + 1) 0 rfl V _ ?hc Tryz.underlying206 rfl HI.out ?_; rotate_left; refine wpList_store_el rfl 206 _ _ rfl w.heap.size 0 V.toArray rfl rfl ?ht (by simpa using HI.out) (all_oneCell_toArray hone) ?_)
  case hc => exact HRA.out
  case ht => simpa [HV.out] using HTH.out
  intro w9 hw9
  have hbel : Below w.heap.size w w9 := by
    rw [hw9.out]
    exact (((Below.refl _ _).alloc (Nat.le_refl _) _).alloc (by simp) _).trans (below_setCells _ _ _ _ _ (Nat.le_refl _))
  have hrr : w9.rangeAt w.heap.size 0 V := by
    rw [hw9.out]
    exact World.rangeAt_setCells_same _ w.heap.size 0 V (by simpa [HV.out] using HTH.out)
  clear hw9 HRA HTH
  go_wp2_with fail
  exact bodyPost_ret (v := .agg V.toArray) (results_cell_mid Tryz.results154 _ _ w.heap.size 0 V _ rfl hrr Tryz.underlying206 rfl HI.out) rfl ⟨rfl, hbel⟩
theorem same_or (d x y : Nat) : d ||| (x ^^^ y) = 0 ↔ d = 0 ∧ x = y := by
  constructor
  · intro h
    have h1 : d = 0 := by
      apply Nat.eq_of_testBit_eq; intro i
      have := congrArg (fun n => n.testBit i) h
      simp [Nat.testBit_or] at this
      simp [this.1]
    subst h1
    refine ⟨rfl, ?_⟩
    rw [Nat.zero_or] at h
    have := congrArg (· ^^^ y) h
    simpa [Nat.xor_assoc] using this
  · rintro ⟨rfl, rfl⟩; simp
set_option maxRecDepth 100000 in
set_option maxHeartbeats 400000 in
theorem same_any (a b : List UInt8) (w : World) (ha : a.length = 16) (hb : b.length = 16) :
    Calls Tryz.prog 146 #[.string ⟨a.toArray⟩, .string ⟨b.toArray⟩] w fun x w' => x = .returned (.bool (decide (a = b))) ∧ ∃ n, w' = w.drewN n := by
  have hsa : (ByteArray.mk a.toArray).size = 16 := by simp [ByteArray.size, ha]
  have hsb : (ByteArray.mk b.toArray).size = 16 := by simp [ByteArray.size, hb]
  have HL := hide (And.intro ha hb)
  clear ha hb
  go_enter Tryz.func146, Tryz.ntmps146
  go_wp2_with fail
  go_loopw [5, 6] (fun d i wr => ∃ k dn m : Nat, k ≤ 16 ∧ i = .int .i64 (k : Int) ∧ d = .int .u8 (dn : Int) ∧ dn < 256 ∧ (dn = 0 ↔ a.take k = b.take k) ∧ wr = w.drewN m) (fun _ i _ => (17 - intOf i).toNat)
  case atStart => exact ⟨0, 0, 0, by omega, rfl, rfl, by decide, by simp, rfl⟩
  case round =>
    obtain ⟨k, dn, m, hk, rfl, rfl, hd, hiff, rfl⟩ := hrel
    by_cases hlt : k < 16
    · have hki : (k : Int) < 16 := by omega
      have hka : k < a.length := by rw [HL.out.1]; exact hlt
      have hkb : k < b.length := by rw [HL.out.2]; exact hlt
      have hn : (dn ||| (a[k].toNat ^^^ b[k].toNat) = 0 ↔ a.take (k + 1) = b.take (k + 1)) := by
        rw [same_or, hiff, List.take_succ_eq_append_getElem hka, List.take_succ_eq_append_getElem hkb]
        constructor
        · rintro ⟨h1, h2⟩; rw [h1, UInt8.toNat_inj.1 h2]
        · intro h
          have := List.append_inj' h rfl
          exact ⟨this.1, by have h2 : a[k] = b[k] := by simpa using this.2
                            rw [h2]⟩
      have hx := u8_xor_nat a[k].toNat b[k].toNat a[k].toNat_lt b[k].toNat_lt
      have hxl : a[k].toNat ^^^ b[k].toNat < 256 := Nat.xor_lt_two_pow (n := 8) a[k].toNat_lt b[k].toNat_lt
      have ho := u8_or_nat dn _ hd hxl
      have hol : dn ||| (a[k].toNat ^^^ b[k].toNat) < 256 := Nat.or_lt_two_pow (n := 8) hd hxl
      have ea : (ByteArray.mk a.toArray)[k]'(by rw [hsa]; exact hlt) = a[k] := rfl
      have eb : (ByteArray.mk b.toArray)[k]'(by rw [hsb]; exact hlt) = b[k] := rfl
      have HNN := hide (And.intro hol hn)
      generalize a[k].toNat ^^^ b[k].toNat = xx at *
      generalize a[k] = ak at *
      generalize b[k] = bk at *
      generalize dn ||| xx = dd at *
      clear hol hn hxl hiff hka hkb
      go_wp2_with fail
      go_region
      go_wp2_with fail
      go_roundw
      case rel => exact ⟨k + 1, dd, m + 1, by omega, by go_num, rfl, HNN.out.1, HNN.out.2, rfl⟩
      case measure => simp [intOf]; omega
    · have hk16 : k = 16 := by omega
      subst hk16
      rw [List.take_of_length_le (by rw [HL.out.1]; exact Nat.le_refl _), List.take_of_length_le (by rw [HL.out.2]; exact Nat.le_refl _)] at hiff
      by_cases hab : a = b
      · have h0 := hiff.2 hab
        subst h0
        have HAB := hide hab
        clear hab hiff hd hlt
        go_wp2_with fail
        go_ret
        exact ⟨ret_bool (by simp [HAB.out]), _, rfl⟩
      · have h0 : ((dn : Int) == 0) = false := by
          have : dn ≠ 0 := fun e => hab (hiff.1 e)
          simpa using this
        have HAB := hide hab
        clear hab hiff hd hlt
        go_wp2_with fail
        go_ret
        exact ⟨ret_bool (by simp [HAB.out]), _, rfl⟩
end Go.Proofs.YtjnhlkaafnaooabGreatDoor
