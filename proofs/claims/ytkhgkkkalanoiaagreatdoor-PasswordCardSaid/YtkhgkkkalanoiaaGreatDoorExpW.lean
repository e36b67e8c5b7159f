import Derived.Test.YtkhgkkkalanoiaaGreatDoorExpP
namespace Go.Proofs.YtkhgkkkalanoiaaGreatDoor
open Go.RowKit
theorem rc_next (j : Nat) (h : j % 8 = 0) : dbl (rcN ((j + 7) / 8)) = rcN ((j + 1 + 7) / 8) := by
  have e : (j + 1 + 7) / 8 = (j + 7) / 8 + 1 := by omega
  rw [e]
  show _ = prodN (rcN ((j + 7) / 8)) 2
  exact (prodR_fin ⟨rcN ((j + 7) / 8), rcN_lt _⟩).symm
theorem rc_same (j : Nat) (h : j % 8 ≠ 0) : rcN ((j + 7) / 8) = rcN ((j + 1 + 7) / 8) := by
  have e : (j + 1 + 7) / 8 = (j + 7) / 8 := by omega
  rw [e]
theorem xs_get (K Z : List UInt8) (i : Nat) (h : i < K.length) : (nats (K ++ Z)).getD i 0 = (K.getD i 0).toNat := by
  rw [nats_get, List.getD_eq_getElem?_getD, List.getElem?_append_left h, ← List.getD_eq_getElem?_getD]
theorem set_get (xs : List Nat) (a y i : Nat) (h : a ≠ i) : (xs.set a y).getD i 0 = xs.getD i 0 := by
  rw [List.getD_eq_getElem?_getD, List.getD_eq_getElem?_getD, List.getElem?_set_ne h]
set_option maxRecDepth 100000 in
set_option maxHeartbeats 8000000 in
theorem expand_any (key : List UInt8) (w : World) (hkl : key.length = 32) :
    Calls Tryz.prog 82 #[.agg (vals .u8 sbLit).toArray, .agg (bvals key).toArray] w fun x w' => x = .returned (.agg (bvals (keysL key)).toArray) ∧ Below w.heap.size w w' := by
  have hzv : ∀ w, (zeroValue 144).run Tryz.prog w = .ok (.agg (bvals (List.replicate 240 0)).toArray) w := fun _ => by kernel_rfl
  obtain ⟨Z, hZ⟩ : ∃ x, List.replicate 240 (0 : UInt8) = x := ⟨_, rfl⟩
  rw [hZ] at hzv
  have hst := XM.start w 142 136 key Z hZ.symm hkl
  have hcp : ∀ ty, (Builtin.copy_ #[83, 83] ty #[.slice (some ⟨w.heap.size + 1 + 1 + 1, 0, none⟩) 240 240, .slice (some ⟨w.heap.size + 1, 0, none⟩) 32 32]).run Tryz.prog ((((w.alloc (.cells (vals .u8 sbLit).toArray 142)).alloc (.cells (bvals key).toArray 136)).alloc (.cells (bvals Z).toArray 144)).alloc (.cells (bvals Z).toArray 144)).drew = .ok (goInt 32) (((((w.alloc (.cells (vals .u8 sbLit).toArray 142)).alloc (.cells (bvals key).toArray 136)).alloc (.cells (bvals Z).toArray 144)).alloc (.cells (bvals Z).toArray 144)).setCells (w.heap.size + 1 + 1 + 1) 0 (bvals key)).drew := fun ty => by
    have hbl : (bvals key).length = 32 := by rw [bvals_len, hkl]
    have hth : ((((w.alloc (.cells (vals .u8 sbLit).toArray 142)).alloc (.cells (bvals key).toArray 136)).alloc (.cells (bvals Z).toArray 144)).alloc (.cells (bvals Z).toArray 144)).drew.there (w.heap.size + 1 + 1 + 1) 0 240 := by
      have h := there_new (((w.alloc (.cells (vals .u8 sbLit).toArray 142)).alloc (.cells (bvals key).toArray 136)).alloc (.cells (bvals Z).toArray 144)) (bvals Z).toArray 144
      have hs : (bvals Z).toArray.size = 240 := by rw [List.size_toArray, bvals_len, ← hZ, List.length_replicate]
      have hs2 : (((w.alloc (.cells (vals .u8 sbLit).toArray 142)).alloc (.cells (bvals key).toArray 136)).alloc (.cells (bvals Z).toArray 144)).heap.size = w.heap.size + 1 + 1 + 1 := by simp
      rw [hs, hs2] at h
      exact h
    have hkc : ((((w.alloc (.cells (vals .u8 sbLit).toArray 142)).alloc (.cells (bvals key).toArray 136)).alloc (.cells (bvals Z).toArray 144)).alloc (.cells (bvals Z).toArray 144)).drew.rangeAt (w.heap.size + 1) 0 (bvals key) := by
      refine range_block (c := (bvals key).toArray) (t := 136) (fr := (0, 0)) ?_
      show ((((w.alloc (.cells (vals .u8 sbLit).toArray 142)).alloc (.cells (bvals key).toArray 136)).alloc (.cells (bvals Z).toArray 144)).alloc (.cells (bvals Z).toArray 144)).heap[w.heap.size + 1]? = _
      rw [Below.heap_alloc _ _ _ (by simp)]
      exact heap_old1 w _ _ _
    have h := run_copy_cells (P := Tryz.prog) ((((w.alloc (.cells (vals .u8 sbLit).toArray 142)).alloc (.cells (bvals key).toArray 136)).alloc (.cells (bvals Z).toArray 144)).alloc (.cells (bvals Z).toArray 144)).drew 83 83 ty 5 (w.heap.size + 1 + 1 + 1) 0 240 240 ⟨w.heap.size + 1, 0, none⟩ 32 32 (bvals key) Tryz.underlying83 (by kernel_rfl) (by rw [hbl]; rfl)
      (fun j v hv => by rw [Addr.add_mid]; exact hkc j v hv) (fun j hj => (hth j (by omega)).1) (fun j hj => (hth j (by omega)).2) (bvals_one key)
    rw [hbl] at h
    have e : ∀ (x : World), x.drew.setCells (w.heap.size + 1 + 1 + 1) 0 (bvals key) = (x.setCells (w.heap.size + 1 + 1 + 1) 0 (bvals key)).drew := fun x => setCells_drew _ _ _ x
    rw [e] at h
    exact h
  obtain ⟨SB, hSB⟩ : ∃ x, (vals .u8 sbLit).toArray = x := ⟨_, rfl⟩
  obtain ⟨KB, hKB⟩ : ∃ x, (bvals key).toArray = x := ⟨_, rfl⟩
  rw [hSB, hKB]
  rw [hSB, hKB] at hst hcp
  have hs1 : SB.size = 256 := by rw [← hSB, List.size_toArray, vals, List.length_map, sbLit_len]
  have hs2 : KB.size = 32 := by rw [← hKB]; simp [bvals, hkl]
  have HST := hide hst.drew
  have HKL := hide hkl
  clear hst hSB hKB hkl
  go_enter Tryz.func82, Tryz.ntmps82
  go_wp2_with fail
  go_region
  go_wp2_with fail
  go_loopw [6, 7] (fun mk i wr => ∃ j : Nat, j ≤ 52 ∧ mk = .int .u8 ((rcN ((j + 7) / 8) : Nat) : Int) ∧ i = .int .i64 ((32 + 4 * j : Nat) : Int) ∧ XM w (nats (keysTo key j ++ List.replicate (208 - 4 * j) 0)) wr) (fun _ i _ => (241 - intOf i).toNat)
  case atStart => exact ⟨0, by omega, rfl, rfl, HST.out⟩
  case round =>
    clear HST hzv hcp hs1 hs2
    obtain ⟨j, hj52, rfl, rfl, hr⟩ := hrel
    have hKl := keysTo_len key HKL.out j
    by_cases hlt : j < 52
    · have HJ := hide hlt
      have HKS : Hid (∀ P Q R S, P < 256 → Q < 256 → R < 256 → S < 256 → wordL (keysTo key j) (j + 8) = [UInt8.ofNat P, UInt8.ofNat Q, UInt8.ofNat R, UInt8.ofNat S] → _) := fun P Q R S h1 h2 h3 h4 h5 => keys_set key j P Q R S HKL.out hlt h1 h2 h3 h4 h5
      have HWA := hide (wordA (keysTo key j) j hKl)
      have HWB := hide (wordB (keysTo key j) j hKl)
      have HWC := hide (wordC (keysTo key j) j hKl)
      have v4 := xs_get (keysTo key j) (List.replicate (208 - 4 * j) 0) (4 * j + 28) (by omega)
      have v3 := xs_get (keysTo key j) (List.replicate (208 - 4 * j) 0) (4 * j + 29) (by omega)
      have v2 := xs_get (keysTo key j) (List.replicate (208 - 4 * j) 0) (4 * j + 30) (by omega)
      have v1 := xs_get (keysTo key j) (List.replicate (208 - 4 * j) 0) (4 * j + 31) (by omega)
      have g0 := xs_get (keysTo key j) (List.replicate (208 - 4 * j) 0) (4 * j) (by omega)
      have g1 := xs_get (keysTo key j) (List.replicate (208 - 4 * j) 0) (4 * j + 1) (by omega)
      have g2 := xs_get (keysTo key j) (List.replicate (208 - 4 * j) 0) (4 * j + 2) (by omega)
      have g3 := xs_get (keysTo key j) (List.replicate (208 - 4 * j) 0) (4 * j + 3) (by omega)
      have b4 : ((keysTo key j).getD (4 * j + 28) 0).toNat < 256 := UInt8.toNat_lt _
      have b3 : ((keysTo key j).getD (4 * j + 29) 0).toNat < 256 := UInt8.toNat_lt _
      have b2 : ((keysTo key j).getD (4 * j + 30) 0).toNat < 256 := UInt8.toNat_lt _
      have b1 : ((keysTo key j).getD (4 * j + 31) 0).toNat < 256 := UInt8.toNat_lt _
      have bk0 : ((keysTo key j).getD (4 * j) 0).toNat < 256 := UInt8.toNat_lt _
      have bk1 : ((keysTo key j).getD (4 * j + 1) 0).toNat < 256 := UInt8.toNat_lt _
      have bk2 : ((keysTo key j).getD (4 * j + 2) 0).toNat < 256 := UInt8.toNat_lt _
      have bk3 : ((keysTo key j).getD (4 * j + 3) 0).toNat < 256 := UInt8.toNat_lt _
      generalize ((keysTo key j).getD (4 * j + 28) 0).toNat = p0 at *
      generalize ((keysTo key j).getD (4 * j + 29) 0).toNat = q0 at *
      generalize ((keysTo key j).getD (4 * j + 30) 0).toNat = r0 at *
      generalize ((keysTo key j).getD (4 * j + 31) 0).toNat = s0 at *
      generalize ((keysTo key j).getD (4 * j) 0).toNat = k0 at *
      generalize ((keysTo key j).getD (4 * j + 1) 0).toNat = k1 at *
      generalize ((keysTo key j).getD (4 * j + 2) 0).toNat = k2 at *
      generalize ((keysTo key j).getD (4 * j + 3) 0).toNat = k3 at *
      obtain ⟨xs, hxs⟩ : ∃ x, nats (keysTo key j ++ List.replicate (208 - 4 * j) 0) = x := ⟨_, rfl⟩
      obtain ⟨n0, hn0⟩ : ∃ m, 32 + 4 * j = m := ⟨_, rfl⟩
      obtain ⟨n1, hn1⟩ : ∃ m, n0 + 1 = m := ⟨_, rfl⟩
      obtain ⟨n2, hn2⟩ : ∃ m, n0 + 2 = m := ⟨_, rfl⟩
      obtain ⟨n3, hn3⟩ : ∃ m, n0 + 3 = m := ⟨_, rfl⟩
      obtain ⟨a4, ha4⟩ : ∃ m, 4 * j + 28 = m := ⟨_, rfl⟩
      obtain ⟨a3, ha3⟩ : ∃ m, 4 * j + 29 = m := ⟨_, rfl⟩
      obtain ⟨a2, ha2⟩ : ∃ m, 4 * j + 30 = m := ⟨_, rfl⟩
      obtain ⟨a1, ha1⟩ : ∃ m, 4 * j + 31 = m := ⟨_, rfl⟩
      obtain ⟨c1, hc1⟩ : ∃ m, 4 * j + 1 = m := ⟨_, rfl⟩
      obtain ⟨c2, hc2⟩ : ∃ m, 4 * j + 2 = m := ⟨_, rfl⟩
      obtain ⟨c3, hc3⟩ : ∃ m, 4 * j + 3 = m := ⟨_, rfl⟩
      obtain ⟨c0, hc0⟩ : ∃ m, 4 * j = m := ⟨_, rfl⟩
      simp only [hxs, hn0, hn1, hn2, hn3] at HKS
      rw [hxs] at hr v1 v2 v3 v4 g0 g1 g2 g3
      rw [ha4] at v4
      rw [ha3] at v3
      rw [ha2] at v2
      rw [ha1] at v1
      rw [hc0] at g0
      rw [hc1] at g1
      rw [hc2] at g2
      rw [hc3] at g3
      have HKG := hide (And.intro g0 (And.intro g1 (And.intro g2 g3)))
      have d4 := hr.cell a4 (by omega)
      have d3 := hr.cell a3 (by omega)
      have d2 := hr.cell a2 (by omega)
      have d1 := hr.cell a1 (by omega)
      rw [v4] at d4
      rw [v3] at d3
      rw [v2] at d2
      rw [v1] at d1
      have HNN := hide hn0
      rw [hn0]
      have ia4 : (n0 : Int) - 4 = (a4 : Int) := by omega
      have ya4 : IntKind.i64.wrap ((n0 : Int) - 4) = (a4 : Int) := by rw [ia4]; exact wrap_i64_nat _ (by omega)
      have ia3 : (n0 : Int) - 3 = (a3 : Int) := by omega
      have ya3 : IntKind.i64.wrap ((n0 : Int) - 3) = (a3 : Int) := by rw [ia3]; exact wrap_i64_nat _ (by omega)
      have ia2 : (n0 : Int) - 2 = (a2 : Int) := by omega
      have ya2 : IntKind.i64.wrap ((n0 : Int) - 2) = (a2 : Int) := by rw [ia2]; exact wrap_i64_nat _ (by omega)
      have ia1 : (n0 : Int) - 1 = (a1 : Int) := by omega
      have ya1 : IntKind.i64.wrap ((n0 : Int) - 1) = (a1 : Int) := by rw [ia1]; exact wrap_i64_nat _ (by omega)
      have in1 : (n0 : Int) + 1 = (n1 : Int) := by omega
      have yn1 : IntKind.i64.wrap ((n0 : Int) + 1) = (n1 : Int) := by rw [in1]; exact wrap_i64_nat _ (by omega)
      have in2 : (n0 : Int) + 2 = (n2 : Int) := by omega
      have yn2 : IntKind.i64.wrap ((n0 : Int) + 2) = (n2 : Int) := by rw [in2]; exact wrap_i64_nat _ (by omega)
      have in3 : (n0 : Int) + 3 = (n3 : Int) := by omega
      have yn3 : IntKind.i64.wrap ((n0 : Int) + 3) = (n3 : Int) := by rw [in3]; exact wrap_i64_nat _ (by omega)
      have ic0 : (n0 : Int) - 32 = (c0 : Int) := by omega
      have yc0 : IntKind.i64.wrap ((n0 : Int) - 32) = (c0 : Int) := by rw [ic0]; exact wrap_i64_nat _ (by omega)
      have ic1 : (n1 : Int) - 32 = (c1 : Int) := by omega
      have yc1 : IntKind.i64.wrap ((n1 : Int) - 32) = (c1 : Int) := by rw [ic1]; exact wrap_i64_nat _ (by omega)
      have ic2 : (n2 : Int) - 32 = (c2 : Int) := by omega
      have yc2 : IntKind.i64.wrap ((n2 : Int) - 32) = (c2 : Int) := by rw [ic2]; exact wrap_i64_nat _ (by omega)
      have ic3 : (n3 : Int) - 32 = (c3 : Int) := by omega
      have yc3 : IntKind.i64.wrap ((n3 : Int) - 32) = (c3 : Int) := by rw [ic3]; exact wrap_i64_nat _ (by omega)
      have l3 : (n3 : Int) < 240 := by omega
      have l2 : (n2 : Int) < 240 := by omega
      have l1 : (n1 : Int) < 240 := by omega
      have l0 : (n0 : Int) < 240 := by omega
      have la4 : (a4 : Int) < 240 := by omega
      have la3 : (a3 : Int) < 240 := by omega
      have la2 : (a2 : Int) < 240 := by omega
      have la1 : (a1 : Int) < 240 := by omega
      have lc0 : (c0 : Int) < 240 := by omega
      have lc1 : (c1 : Int) < 240 := by omega
      have lc2 : (c2 : Int) < 240 := by omega
      have lc3 : (c3 : Int) < 240 := by omega
      have lp : (p0 : Int) < 256 := by omega
      have lq : (q0 : Int) < 256 := by omega
      have lr : (r0 : Int) < 256 := by omega
      have ls : (s0 : Int) < 256 := by omega
      have hmk := rcN_lt ((j + 7) / 8)
      have HMOD := hide (show n0 % 32 = 4 * (j % 8) by omega)
      have HR := hide hr
      clear v1 v2 v3 v4 g0 g1 g2 g3 hr hxs hKl hj52 hlt
      have HNV := hide (And.intro hn1 (And.intro hn2 (And.intro hn3 (And.intro ha4 (And.intro hc0 (And.intro hc1 (And.intro hc2 hc3)))))))
      generalize hmkq : rcN ((j + 7) / 8) = mk at *
      have HMK := hide hmkq
      clear hmkq ha1 ha2 ha3 hn0
      go_wp2_with fail
      go_quiet (fail)
      have hrd := HR.out.drewN nq
      clear HR d1 d2 d3 d4
      generalize wr.drewN nq = wd at *
      by_cases hj0 : j % 8 = 0
      · have hmod : ((n0 : Int) % 32 == 0) = true := by have := HMOD.out; simp; omega
        have hw := HWA.out hj0
        have HRC := hide (show dbl mk = rcN ((j + 1 + 7) / 8) by rw [← HMK.out]; exact rc_next j hj0)
        have bxp0 := hrd.boxAt p0 (by omega)
        have bxq0 := hrd.boxAt q0 (by omega)
        have bxr0 := hrd.boxAt r0 (by omega)
        have bxs0 := hrd.boxAt s0 (by omega)
        have ls1 := sboxN_lt p0
        have ls2 := sboxN_lt q0
        have ls3 := sboxN_lt r0
        have ls4 := sboxN_lt s0
        have hxm := u8_xor_nat (sboxN q0) mk (by omega) hmk
        have lP : sboxN q0 ^^^ mk < 256 := Nat.xor_lt_two_pow (n := 8) (by omega) hmk
        have HW := hide hw
        clear hw
        generalize sboxN q0 ^^^ mk = P at *
        generalize sboxN q0 = sq at *
        generalize sboxN r0 = Q at *
        generalize sboxN s0 = R at *
        generalize sboxN p0 = S at *
        have HRD := hide hrd
        clear hrd
        go_wp2_with fail
        go_quiet (fail)
        have hrd := HRD.out.drewN nq
        clear HRD bxp0 bxq0 bxr0 bxs0 hxm
        generalize wd.drewN nq = we at *
        go_wp2_with fail
        refine (double_any mk _ hmk).mono ?_
        rintro e w' ⟨rfl, rfl⟩
        rw [HRC.out]
        obtain ⟨z0, hz0⟩ : ∃ z, k0 ^^^ P = z := ⟨_, rfl⟩
        obtain ⟨z1, hz1⟩ : ∃ z, k1 ^^^ Q = z := ⟨_, rfl⟩
        obtain ⟨z2, hz2⟩ : ∃ z, k2 ^^^ R = z := ⟨_, rfl⟩
        obtain ⟨z3, hz3⟩ : ∃ z, k3 ^^^ S = z := ⟨_, rfl⟩
        have HFIN := hide (show (((xs.set n0 z0).set n1 z1).set n2 z2).set n3 z3 = nats (keysTo key (j + 1) ++ List.replicate (208 - 4 * (j + 1)) 0) by rw [← hz0, ← hz1, ← hz2, ← hz3]; exact HKS.out P Q R S (by omega) (by omega) (by omega) (by omega) HW.out)
        have rd0 := hrd.cell c0 (by omega)
        rw [HKG.out.1] at rd0
        have wc0 := hrd.cell n0 (by omega)
        have wf0 := hrd.row.frozen n0
        have x0 := u8_xor_nat k0 P (by omega) (by omega)
        rw [hz0] at x0
        have h0' := hrd.set n0 z0
        generalize (xs).getD n0 0 = g0 at wc0
        have rd1 := h0'.cell c1 (by omega)
        rw [set_get _ _ _ _ (by omega), HKG.out.2.1] at rd1
        have wc1 := h0'.cell n1 (by omega)
        have wf1 := h0'.row.frozen n1
        have x1 := u8_xor_nat k1 Q (by omega) (by omega)
        rw [hz1] at x1
        have h1' := h0'.set n1 z1
        generalize ((xs).set n0 z0).getD n1 0 = g1 at wc1
        have rd2 := h1'.cell c2 (by omega)
        rw [set_get _ _ _ _ (by omega), set_get _ _ _ _ (by omega), HKG.out.2.2.1] at rd2
        have wc2 := h1'.cell n2 (by omega)
        have wf2 := h1'.row.frozen n2
        have x2 := u8_xor_nat k2 R (by omega) (by omega)
        rw [hz2] at x2
        have h2' := h1'.set n2 z2
        generalize (((xs).set n0 z0).set n1 z1).getD n2 0 = g2 at wc2
        have rd3 := h2'.cell c3 (by omega)
        rw [set_get _ _ _ _ (by omega), set_get _ _ _ _ (by omega), set_get _ _ _ _ (by omega), HKG.out.2.2.2] at rd3
        have wc3 := h2'.cell n3 (by omega)
        have wf3 := h2'.row.frozen n3
        have x3 := u8_xor_nat k3 S (by omega) (by omega)
        rw [hz3] at x3
        have h3' := h2'.set n3 z3
        generalize ((((xs).set n0 z0).set n1 z1).set n2 z2).getD n3 0 = g3 at wc3
        rw [HFIN.out] at h3'
        have HQ3 := hide h3'
        clear hrd h0' h1' h2' h3' hz0 hz1 hz2 hz3 HKS HWA HWB HWC HFIN ia4 ia3 ia2 ia1 ya4 ya3 ya2 ya1 la4 la3 la2 la1 yn1 yn2 yn3 yc0 yc1 yc2 yc3 lp lq lr ls b1 b2 b3 b4 bk0 bk1 bk2 bk3 HMOD HKG hn1 hn2 hn3 ha4 hc0 hc1 hc2 hc3 hmk
        go_wp2_with fail
        go_roundw
        case rel => exact ⟨j + 1, by have := HJ.out; omega, rfl, val_int (by have := HNN.out; omega), HQ3.out⟩
        case measure => have := HJ.out; have := HNN.out; simp [intOf]; omega
      · by_cases hj4 : j % 8 = 4
        · have hmod : ((n0 : Int) % 32 == 0) = false := by have := HMOD.out; simp; omega
          have hmod2 : ((n0 : Int) % 32 == 16) = true := by have := HMOD.out; simp; omega
          have hw := HWB.out hj4
          have HRC := hide (show mk = rcN ((j + 1 + 7) / 8) by rw [← HMK.out]; exact rc_same j hj0)
          have bxp0 := hrd.boxAt p0 (by omega)
          have bxq0 := hrd.boxAt q0 (by omega)
          have bxr0 := hrd.boxAt r0 (by omega)
          have bxs0 := hrd.boxAt s0 (by omega)
          have ls1 := sboxN_lt p0
          have ls2 := sboxN_lt q0
          have ls3 := sboxN_lt r0
          have ls4 := sboxN_lt s0
          have HW := hide hw
          clear hw
          generalize sboxN p0 = P at *
          generalize sboxN q0 = Q at *
          generalize sboxN r0 = R at *
          generalize sboxN s0 = S at *
          have HRD := hide hrd
          clear hrd
          go_wp2_with fail
          go_quiet (fail)
          have hrd := HRD.out.drewN nq
          clear HRD bxp0 bxq0 bxr0 bxs0
          generalize wd.drewN nq = we at *
          obtain ⟨z0, hz0⟩ : ∃ z, k0 ^^^ P = z := ⟨_, rfl⟩
          obtain ⟨z1, hz1⟩ : ∃ z, k1 ^^^ Q = z := ⟨_, rfl⟩
          obtain ⟨z2, hz2⟩ : ∃ z, k2 ^^^ R = z := ⟨_, rfl⟩
          obtain ⟨z3, hz3⟩ : ∃ z, k3 ^^^ S = z := ⟨_, rfl⟩
          have HFIN := hide (show (((xs.set n0 z0).set n1 z1).set n2 z2).set n3 z3 = nats (keysTo key (j + 1) ++ List.replicate (208 - 4 * (j + 1)) 0) by rw [← hz0, ← hz1, ← hz2, ← hz3]; exact HKS.out P Q R S (by omega) (by omega) (by omega) (by omega) HW.out)
          have rd0 := hrd.cell c0 (by omega)
          rw [HKG.out.1] at rd0
          have wc0 := hrd.cell n0 (by omega)
          have wf0 := hrd.row.frozen n0
          have x0 := u8_xor_nat k0 P (by omega) (by omega)
          rw [hz0] at x0
          have h0' := hrd.set n0 z0
          generalize (xs).getD n0 0 = g0 at wc0
          have rd1 := h0'.cell c1 (by omega)
          rw [set_get _ _ _ _ (by omega), HKG.out.2.1] at rd1
          have wc1 := h0'.cell n1 (by omega)
          have wf1 := h0'.row.frozen n1
          have x1 := u8_xor_nat k1 Q (by omega) (by omega)
          rw [hz1] at x1
          have h1' := h0'.set n1 z1
          generalize ((xs).set n0 z0).getD n1 0 = g1 at wc1
          have rd2 := h1'.cell c2 (by omega)
          rw [set_get _ _ _ _ (by omega), set_get _ _ _ _ (by omega), HKG.out.2.2.1] at rd2
          have wc2 := h1'.cell n2 (by omega)
          have wf2 := h1'.row.frozen n2
          have x2 := u8_xor_nat k2 R (by omega) (by omega)
          rw [hz2] at x2
          have h2' := h1'.set n2 z2
          generalize (((xs).set n0 z0).set n1 z1).getD n2 0 = g2 at wc2
          have rd3 := h2'.cell c3 (by omega)
          rw [set_get _ _ _ _ (by omega), set_get _ _ _ _ (by omega), set_get _ _ _ _ (by omega), HKG.out.2.2.2] at rd3
          have wc3 := h2'.cell n3 (by omega)
          have wf3 := h2'.row.frozen n3
          have x3 := u8_xor_nat k3 S (by omega) (by omega)
          rw [hz3] at x3
          have h3' := h2'.set n3 z3
          generalize ((((xs).set n0 z0).set n1 z1).set n2 z2).getD n3 0 = g3 at wc3
          rw [HFIN.out] at h3'
          have HQ3 := hide h3'
          clear hrd h0' h1' h2' h3' hz0 hz1 hz2 hz3 HKS HWA HWB HWC HFIN ia4 ia3 ia2 ia1 ya4 ya3 ya2 ya1 la4 la3 la2 la1 yn1 yn2 yn3 yc0 yc1 yc2 yc3 lp lq lr ls b1 b2 b3 b4 bk0 bk1 bk2 bk3 HMOD HKG hn1 hn2 hn3 ha4 hc0 hc1 hc2 hc3 hmk
          go_wp2_with fail
          go_roundw
          case rel => exact ⟨j + 1, by have := HJ.out; omega, by rw [HRC.out], val_int (by have := HNN.out; omega), HQ3.out⟩
          case measure => have := HJ.out; have := HNN.out; simp [intOf]; omega
        · have hmod : ((n0 : Int) % 32 == 0) = false := by have := HMOD.out; simp; omega
          have hmod2 : ((n0 : Int) % 32 == 16) = false := by have := HMOD.out; simp; omega
          have hw := HWC.out hj0 hj4
          have HRC := hide (show mk = rcN ((j + 1 + 7) / 8) by rw [← HMK.out]; exact rc_same j hj0)
          have HW := hide hw
          clear hw
          obtain ⟨z0, hz0⟩ : ∃ z, k0 ^^^ p0 = z := ⟨_, rfl⟩
          obtain ⟨z1, hz1⟩ : ∃ z, k1 ^^^ q0 = z := ⟨_, rfl⟩
          obtain ⟨z2, hz2⟩ : ∃ z, k2 ^^^ r0 = z := ⟨_, rfl⟩
          obtain ⟨z3, hz3⟩ : ∃ z, k3 ^^^ s0 = z := ⟨_, rfl⟩
          have HFIN := hide (show (((xs.set n0 z0).set n1 z1).set n2 z2).set n3 z3 = nats (keysTo key (j + 1) ++ List.replicate (208 - 4 * (j + 1)) 0) by rw [← hz0, ← hz1, ← hz2, ← hz3]; exact HKS.out p0 q0 r0 s0 (by omega) (by omega) (by omega) (by omega) HW.out)
          have rd0 := hrd.cell c0 (by omega)
          rw [HKG.out.1] at rd0
          have wc0 := hrd.cell n0 (by omega)
          have wf0 := hrd.row.frozen n0
          have x0 := u8_xor_nat k0 p0 (by omega) (by omega)
          rw [hz0] at x0
          have h0' := hrd.set n0 z0
          generalize (xs).getD n0 0 = g0 at wc0
          have rd1 := h0'.cell c1 (by omega)
          rw [set_get _ _ _ _ (by omega), HKG.out.2.1] at rd1
          have wc1 := h0'.cell n1 (by omega)
          have wf1 := h0'.row.frozen n1
          have x1 := u8_xor_nat k1 q0 (by omega) (by omega)
          rw [hz1] at x1
          have h1' := h0'.set n1 z1
          generalize ((xs).set n0 z0).getD n1 0 = g1 at wc1
          have rd2 := h1'.cell c2 (by omega)
          rw [set_get _ _ _ _ (by omega), set_get _ _ _ _ (by omega), HKG.out.2.2.1] at rd2
          have wc2 := h1'.cell n2 (by omega)
          have wf2 := h1'.row.frozen n2
          have x2 := u8_xor_nat k2 r0 (by omega) (by omega)
          rw [hz2] at x2
          have h2' := h1'.set n2 z2
          generalize (((xs).set n0 z0).set n1 z1).getD n2 0 = g2 at wc2
          have rd3 := h2'.cell c3 (by omega)
          rw [set_get _ _ _ _ (by omega), set_get _ _ _ _ (by omega), set_get _ _ _ _ (by omega), HKG.out.2.2.2] at rd3
          have wc3 := h2'.cell n3 (by omega)
          have wf3 := h2'.row.frozen n3
          have x3 := u8_xor_nat k3 s0 (by omega) (by omega)
          rw [hz3] at x3
          have h3' := h2'.set n3 z3
          generalize ((((xs).set n0 z0).set n1 z1).set n2 z2).getD n3 0 = g3 at wc3
          rw [HFIN.out] at h3'
          have HQ3 := hide h3'
          clear hrd h0' h1' h2' h3' hz0 hz1 hz2 hz3 HKS HWA HWB HWC HFIN ia4 ia3 ia2 ia1 ya4 ya3 ya2 ya1 la4 la3 la2 la1 yn1 yn2 yn3 yc0 yc1 yc2 yc3 lp lq lr ls b1 b2 b3 b4 bk0 bk1 bk2 bk3 HMOD HKG hn1 hn2 hn3 ha4 hc0 hc1 hc2 hc3 hmk
          go_wp2_with fail
          go_roundw
          case rel => exact ⟨j + 1, by have := HJ.out; omega, by rw [HRC.out], val_int (by have := HNN.out; omega), HQ3.out⟩
          case measure => have := HJ.out; have := HNN.out; simp [intOf]; omega
    · have hj : j = 52 := by omega
      subst hj
      have e1 : keysTo key 52 ++ List.replicate (208 - 4 * 52) 0 = keysL key := by simp [keysL]
      rw [e1] at hr
      have hra := row_range hr.row
      rw [vals_nats] at hra
      have hth := hr.res
      have hvl : (bvals (keysL key)).length = 240 := by rw [bvals_len]; exact keysL_len key HKL.out
      have hb := hr.bel
      have hone := bvals_one (keysL key)
      generalize hV : bvals (keysL key) = V at *
      have HI := hide (show (Tryz.prog.info? 144).map (·.size) = some V.length from by rw [hvl]; kernel_rfl)
      have hb1 : Below w.heap.size w (wr.setCells (w.heap.size + 1 + 1) 0 V) := hb.trans (below_setCells wr w.heap.size _ 0 V (by omega))
      have hrr := World.rangeAt_setCells_same wr (w.heap.size + 1 + 1) 0 V (by rw [hvl]; exact hth)
      have HV := hide hvl
      have HRA := hide hra
      have HTH := hide hth
      clear hvl hr hlt hj52 hKl e1 hra hth
      simp only [show ((32 + 4 * 52 : Nat) : Int) = 240 from rfl]
      go_wp2_with (first | refine wpList_load_mid rfl 144 _ rfl (w.heap.size + 1 + 1 + 1) 0 rfl V _ HRA.out Tryz.underlying144 rfl HI.out ?_ | refine wpList_store_mid rfl 144 _ _ rfl (w.heap.size + 1 + 1) 0 V.toArray rfl rfl (by simpa [HV.out] using HTH.out) (by simpa using HI.out) (all_oneCell_toArray hone) ?_)
      exact bodyPost_ret (v := .agg V.toArray) (results_cell_mid Tryz.results82 _ _ (w.heap.size + 1 + 1) 0 V _ rfl hrr Tryz.underlying144 rfl HI.out) rfl ⟨by rw [hV], hb1⟩
end Go.Proofs.YtkhgkkkalanoiaaGreatDoor
