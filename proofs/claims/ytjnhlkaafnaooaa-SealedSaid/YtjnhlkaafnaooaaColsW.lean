import Derived.Test.YtjnhlkaafnaooaaRefW
namespace Go.Proofs.Ytjnhlkaafnaooaa
open Go.RowKit
/-- A column's sum, its first j products. -/
def mixTo (m : Nat) (b : List UInt8) (i : Nat) : Nat → Nat
  | 0 => 0
  | j + 1 => mixTo m b i j ^^^ prodN ([2, 3, 1, 1].getD ((j + 4 - i % 4) % 4) 0) (b.getD (i / 4 * 4 + j) 0).toNat
theorem mixTo_lt (m : Nat) (b : List UInt8) (i j : Nat) : mixTo m b i j < 256 := by
  induction j with
  | zero => show 0 < 256; decide
  | succ j ih =>
    refine xor8 ih (prodN_lt _ _ ?_)
    have : (j + 4 - i % 4) % 4 = 0 ∨ (j + 4 - i % 4) % 4 = 1 ∨ (j + 4 - i % 4) % 4 = 2 ∨ (j + 4 - i % 4) % 4 = 3 := by omega
    rcases this with e | e | e | e <;> rw [e] <;> decide
theorem mixTo_col (b : List UInt8) (i : Nat) : mixTo 0 b i 4 = colAt b i := by
  unfold colAt byteAt mixA
  simp only [mixTo, Nat.zero_xor]
  have : i % 4 = 0 ∨ i % 4 = 1 ∨ i % 4 = 2 ∨ i % 4 = 3 := by omega
  rcases this with e | e | e | e
  · have e1 : (i + 1) % 4 = 1 := by omega
    have e2 : (i + 2) % 4 = 2 := by omega
    have e3 : (i + 3) % 4 = 3 := by omega
    rw [e, e1, e2, e3]
    rfl
  · have e1 : (i + 1) % 4 = 2 := by omega
    have e2 : (i + 2) % 4 = 3 := by omega
    have e3 : (i + 3) % 4 = 0 := by omega
    rw [e, e1, e2, e3]
    show prodN 1 _ ^^^ prodN 2 _ ^^^ prodN 3 _ ^^^ prodN 1 _ = _
    ac_rfl
  · have e1 : (i + 1) % 4 = 3 := by omega
    have e2 : (i + 2) % 4 = 0 := by omega
    have e3 : (i + 3) % 4 = 1 := by omega
    rw [e, e1, e2, e3]
    show prodN 1 _ ^^^ prodN 1 _ ^^^ prodN 2 _ ^^^ prodN 3 _ = _
    ac_rfl
  · have e1 : (i + 1) % 4 = 0 := by omega
    have e2 : (i + 2) % 4 = 1 := by omega
    have e3 : (i + 3) % 4 = 2 := by omega
    rw [e, e1, e2, e3]
    show prodN 3 _ ^^^ prodN 1 _ ^^^ prodN 1 _ ^^^ prodN 2 _ = _
    ac_rfl
set_option maxRecDepth 100000 in
set_option maxHeartbeats 400000 in
theorem columns_any (t : List UInt8) (w : World) (ht : t.length = 16) :
    Calls Try.prog 43 #[.string ⟨t.toArray⟩] w fun e w' => e = .returned (.string ⟨(colL t).toArray⟩) ∧ Below w.heap.size w w' := by
  have hmk : ∀ w, (Instr.makeSlice 34 (.int .i64 16) (.int .i64 16)).run Try.prog w = .ok (.slice (some ⟨w.heap.size, 0, none⟩) 16 16) (w.alloc (.cells (madeCells #[.int .u8 0] 16) 5)) := fun w => make_u8 16 (by omega) w
  have hsz : (ByteArray.mk t.toArray).size = 16 := by simp [ByteArray.size, ht]
  have hAl := colL_len t
  have HG := hide (fun i (hi : i < 16) => show ((colL t).getD i 0).toNat = mixTo 0 t i 4 from by rw [mixTo_col]; exact colL_get t i hi)
  obtain ⟨A, hA⟩ : ∃ A, colL t = A := ⟨_, rfl⟩
  rw [hA] at hAl HG
  have HA := hide hA
  have HN := hide hAl
  clear hA hAl ht
  go_enter Try.func43, Try.ntmps43
  go_wp2_with fail
  go_loopw [5] (fun i wr => ∃ k : Nat, k ≤ 16 ∧ i = .int .i64 (k : Int) ∧ Row wr w.heap.size 3 .i64 [2, 3, 1, 1] ∧ Row wr (w.heap.size + 1) 5 .u8 (upTo A k) ∧ Below w.heap.size w wr) (fun i _ => (17 - intOf i).toNat)
  case atStart =>
    refine ⟨0, by omega, rfl, ?_, ?_, ((Below.refl _ _).alloc (Nat.le_refl _) _).alloc (by simp) _⟩
    · exact (Row.new w 3 .i64 [2, 3, 1, 1] _ rfl (fun i hi => by
        match i, hi with
        | 0, _ => rfl
        | 1, _ => rfl
        | 2, _ => rfl
        | 3, _ => rfl)).alloc _
    · rw [upTo_zero, HN.out]
      have := Row.made (w.alloc (.cells #[.int .i64 2, .int .i64 3, .int .i64 1, .int .i64 1] 3)) 5 .u8 16
      simpa using this
  case round =>
    clear hmk
    obtain ⟨k, hk, rfl, hm, hrow, hbel⟩ := hrel
    by_cases hlt : k < 16
    · have hki : (k : Int) < 16 := by omega
      go_wp2_with fail
      go_loopw [6, 7] (fun v jv wr' => ∃ j : Nat, j ≤ 4 ∧ jv = .int .i64 (j : Int) ∧ v = .int .i64 ((mixTo 0 t k j : Nat) : Int) ∧ Row wr' w.heap.size 3 .i64 [2, 3, 1, 1] ∧ Row wr' (w.heap.size + 1) 5 .u8 (upTo A k) ∧ Below w.heap.size w wr') (fun _ jv _ => (5 - intOf jv).toNat)
      case atStart => exact ⟨0, by omega, rfl, rfl, hm, hrow, hbel⟩
      case round =>
        clear hm hrow hbel
        obtain ⟨j, hj, rfl, rfl, hm, hrow, hbel⟩ := hrel
        by_cases hj4 : j < 4
        · have hji : (j : Int) < 4 := by omega
          have hq : (j + 4 - k % 4) % 4 < 4 := Nat.mod_lt _ (by decide)
          have hb : k / 4 * 4 + j < 16 := by omega
          have hmc := hm.cell (i := (j + 4 - k % 4) % 4) hq
          have hby := byte_at t (k / 4 * 4 + j) (by rw [hsz]; exact hb)
          have hvl := mixTo_lt 0 t k j
          have hml : ([2, 3, 1, 1] : List Nat).getD ((j + 4 - k % 4) % 4) 0 < 256 := by
            have : (j + 4 - k % 4) % 4 = 0 ∨ (j + 4 - k % 4) % 4 = 1 ∨ (j + 4 - k % 4) % 4 = 2 ∨ (j + 4 - k % 4) % 4 = 3 := by omega
            rcases this with e | e | e | e <;> rw [e] <;> decide
          have hyl : (t.getD (k / 4 * 4 + j) 0).toNat < 256 := UInt8.toNat_lt _
          have hpl := prodN_lt (([2, 3, 1, 1] : List Nat).getD ((j + 4 - k % 4) % 4) 0) (t.getD (k / 4 * 4 + j) 0).toNat hml
          have hx := i64_xor_nat (mixTo 0 t k j) (prodN (([2, 3, 1, 1] : List Nat).getD ((j + 4 - k % 4) % 4) 0) (t.getD (k / 4 * 4 + j) 0).toNat) (by omega) (by omega)
          have hmx : mixTo 0 t k j ^^^ prodN (([2, 3, 1, 1] : List Nat).getD ((j + 4 - k % 4) % 4) 0) (t.getD (k / 4 * 4 + j) 0).toNat = mixTo 0 t k (j + 1) := rfl
          rw [hmx] at hx
          have hi1 : ((j : Int) - (k : Int) % 4 + 4) % 4 = (((j + 4 - k % 4) % 4 : Nat) : Int) := by omega
          have hi2 : (k : Int) / 4 * 4 + (j : Int) = ((k / 4 * 4 + j : Nat) : Int) := by omega
          obtain ⟨r, hr⟩ : ∃ r, k % 4 = r := ⟨_, rfl⟩
          obtain ⟨dd, hdd⟩ : ∃ x : Int, (j : Int) - (r : Int) = x := ⟨_, rfl⟩
          obtain ⟨ee, hee⟩ : ∃ x, j + 4 - k % 4 = x := ⟨_, rfl⟩
          obtain ⟨kq, hkq⟩ : ∃ x, k / 4 = x := ⟨_, rfl⟩
          obtain ⟨k4, hk4⟩ : ∃ x, kq * 4 = x := ⟨_, rfl⟩
          have f1 : ((k : Int)).tmod 4 = (r : Int) := by rw [Int.tmod_eq_emod_of_nonneg (by omega)]; omega
          have f2 : IntKind.i64.wrap ((j : Int) - (r : Int)) = dd := by rw [hdd, IntKind.wrap_i64]; omega
          have f3 : IntKind.i64.wrap (dd + 4) = (ee : Int) := by rw [show dd + 4 = (ee : Int) by omega]; exact wrap_i64_nat _ (by omega)
          have f4 : ((ee : Int)).tmod 4 = (((j + 4 - k % 4) % 4 : Nat) : Int) := by rw [Int.tmod_eq_emod_of_nonneg (by omega)]; omega
          have f5 : ((k : Int)).tdiv 4 = (kq : Int) := by rw [Int.tdiv_eq_ediv_of_nonneg (by omega)]; omega
          have f5' : IntKind.i64.wrap (kq : Int) = (kq : Int) := wrap_i64_nat _ (by omega)
          have f6 : IntKind.i64.wrap ((kq : Int) * 4) = (k4 : Int) := by rw [show (kq : Int) * 4 = (k4 : Int) by omega]; exact wrap_i64_nat _ (by omega)
          have f7 : IntKind.i64.wrap ((k4 : Int) + (j : Int)) = ((k / 4 * 4 + j : Nat) : Int) := by rw [show (k4 : Int) + (j : Int) = ((k / 4 * 4 + j : Nat) : Int) by omega]; exact wrap_i64_nat _ (by omega)
          clear hr hdd hee hkq hk4
          generalize t.getD (k / 4 * 4 + j) 0 = y at *
          generalize ([2, 3, 1, 1] : List Nat).getD ((j + 4 - k % 4) % 4) 0 = m at *
          generalize (j + 4 - k % 4) % 4 = a at *
          generalize k / 4 * 4 + j = b at *
          generalize hm1 : mixTo 0 t k (j + 1) = v1 at *
          generalize mixTo 0 t k j = v0 at *
          have HM1 := hide hm1
          have HJ := hide (And.intro hj hj4)
          have f8 : IntKind.i64.wrap ((y.toNat : Nat) : Int) = ((y.toNat : Nat) : Int) := wrap_i64_nat _ (by omega)
          have hai : (a : Int) < 4 := by omega
          have hbi : (b : Int) < 16 := by omega
          have HV := hide (And.intro hvl (And.intro hml (And.intro hyl hpl)))
          clear hm1 hj hj4 hvl hpl hmx hq
          go_wp2_with fail
          go_quiet (first | (go_at_call 30; refine Calls.quiet_of_same (product_any m y.toNat _ HV.out.2.1 HV.out.2.2.1)))
          go_wp2_with fail
          go_roundw
          case rel => exact ⟨j + 1, by have := HJ.out; omega, by go_num, by rw [HM1.out], hm.drewN _, hrow.drewN _, below_drewN hbel _⟩
          case measure => have := HJ.out; simp [intOf]; omega
        · have hj4' : j = 4 := by omega
          subst hj4'
          rw [← HG.out k hlt]
          have hrow2 := hrow
          have hc := hrow2.cell (i := k) (by rw [upTo_len A k (by rw [HN.out]; exact hk), HN.out]; exact hlt)
          have hf := hrow2.frozen k
          have hset := hrow2.set k (A.getD k 0).toNat
          rw [upTo_set A k (by rw [HN.out]; exact hlt)] at hset
          have hm2 := hm.setOther (a := ⟨w.heap.size + 1, k, none⟩) (show w.heap.size ≠ w.heap.size + 1 by omega) (.int .u8 (((A.getD k 0).toNat : Nat) : Int))
          have hb2 := Below.setCell (p := ⟨w.heap.size + 1, k, none⟩) hbel (by simp) (.int .u8 (((A.getD k 0).toNat : Nat) : Int))
          have hz8 : (A.getD k 0).toNat < 256 := UInt8.toNat_lt _
          have HS := hide (And.intro hm2 (And.intro hset hb2))
          generalize (upTo A k).getD k 0 = g at *
          generalize (A.getD k 0).toNat = z at *
          have hzi : (z : Int) < 256 := by omega
          clear hm2 hset hb2 hrow2
          go_wp2_with fail
          go_roundw
          case rel => exact ⟨k + 1, by omega, by go_num, HS.out.1, HS.out.2.1, HS.out.2.2⟩
          case measure => simp [intOf]; omega
    · have hkn : k = 16 := by omega
      subst hkn
      have e1 : upTo A 16 = nats A := by rw [← HN.out]; exact upTo_all A
      rw [e1] at hrow
      have hcv := conv_row (cap := 16) hrow
      rw [nats_len, HN.out, show (nats A).map UInt8.ofNat = A from map_toNat_ofNat A] at hcv
      clear hrow e1
      go_wp2_with fail
      go_ret
      exact ⟨by rw [HA.out]; rfl, hbel⟩
end Go.Proofs.Ytjnhlkaafnaooaa
