import Derived.Test.YtjnhlkaafnaooabGreatDoorProgW
import Derived.Deep.Cut
namespace Go.Proofs.YtjnhlkaafnaooabGreatDoor
open Go.RowKit
def stv (s : St) : Array Value := #[.int .u32 (s.a : Int), .int .u32 (s.b : Int), .int .u32 (s.c : Int), .int .u32 (s.d : Int), .int .u32 (s.e : Int), .int .u32 (s.f : Int), .int .u32 (s.g : Int), .int .u32 (s.h : Int)]

theorem three_blocks (w : World) (o1 o2 o3 : Obj) : (((w.alloc o1).alloc o2).alloc o3).heap[w.heap.size]? = some o1 ∧ (((w.alloc o1).alloc o2).alloc o3).heap[w.heap.size + 1 + 1]? = some o3 := by
  refine ⟨?_, ?_⟩
  · rw [Below.heap_alloc _ _ _ (by simp; omega), Below.heap_alloc _ _ _ (by simp)]; exact heap_alloc_new w o1
  · have := heap_alloc_new ((w.alloc o1).alloc o2) o3
    simpa using this
/-- What the rounds read, and where the answer goes. -/
structure MX (w : World) (N1 : Nat) (st : St) (W : List Nat) (wr : World) : Prop where
  k : Cells wr 1 .u32 kWords
  ww : Cells wr N1 .u32 W
  s : Cells wr w.heap.size .u32 st.list
  th : wr.there (w.heap.size + 1 + 1) 0 8
  bel : Below w.heap.size w wr
theorem MX.drewN {w : World} {N1 : Nat} {st : St} {W : List Nat} {wr : World} (h : MX w N1 st W wr) (q : Nat) : MX w N1 st W (wr.drewN q) :=
  ⟨⟨h.k.lt, h.k.at_⟩, ⟨h.ww.lt, h.ww.at_⟩, ⟨h.s.lt, h.s.at_⟩, h.th, below_drewN h.bel q⟩
theorem ch_u32 (e f g : Nat) (he : e < 4294967296) (hf : f < 4294967296) (hg : g < 4294967296) : bits .xor .u32 (bits .and .u32 (e : Int) (f : Int)) (bits .and .u32 ((4294967295 - e : Nat) : Int) (g : Int)) = ((chN e f g : Nat) : Int) := by
  have h1 : e &&& f < 4294967296 := and32 he
  have h2 : (4294967295 - e) &&& g < 4294967296 := and32 (by omega)
  rw [u32_and_nat _ _ he hf, u32_and_nat _ _ (by omega) hg, u32_xor_nat _ _ h1 h2]
  congr 1
  unfold chN
  apply Nat.eq_of_testBit_eq
  intro i
  have hn : (4294967295 - e).testBit i = (decide (i < 32) && !e.testBit i) := by
    have := Nat.testBit_two_pow_sub_succ (n := 32) (x := e) he i
    rw [show 2 ^ 32 - (e + 1) = 4294967295 - e from by omega] at this
    exact this
  simp only [Nat.testBit_xor, Nat.testBit_or, Nat.testBit_and, hn]
  cases e.testBit i <;> cases f.testBit i <;> cases g.testBit i <;> cases decide (i < 32) <;> rfl
theorem not_bits (e : Nat) (he : e < 4294967296) (i : Nat) : (4294967295 - e).testBit i = (decide (i < 32) && !e.testBit i) := by
  have := Nat.testBit_two_pow_sub_succ (n := 32) (x := e) he i
  rw [show 2 ^ 32 - (e + 1) = 4294967295 - e from by omega] at this
  exact this
theorem not_u32 (e : Nat) (he : e < 4294967296) : Op.unary .xor (.int .u32 (e : Int)) = pure (.int .u32 ((4294967295 - e : Nat) : Int)) := by
  show Op.intBits .xor .u32 ((4294967295 : Nat) : Int) (e : Int) = _
  rw [intBits_xor, u32_xor_nat 4294967295 e (by decide) he]
  have hx : 4294967295 ^^^ e = 4294967295 - e := by
    apply Nat.eq_of_testBit_eq
    intro i
    have h1 : (4294967295 : Nat).testBit i = decide (i < 32) := by
      have := Nat.testBit_two_pow_sub_one 32 i
      exact this
    rw [Nat.testBit_xor, h1, not_bits e he]
    by_cases hi : i < 32
    · simp [hi]
    · have : e.testBit i = false := Nat.testBit_lt_two_pow (Nat.lt_of_lt_of_le he (by exact Nat.pow_le_pow_right (n := 2) (by decide) (show 32 ≤ i by omega)))
      simp [hi, this]
  rw [hx]
theorem maj_u32 (a b c : Nat) (ha : a < 4294967296) (hb : b < 4294967296) (hc : c < 4294967296) : bits .xor .u32 (bits .xor .u32 (bits .and .u32 (a : Int) (b : Int)) (bits .and .u32 (a : Int) (c : Int))) (bits .and .u32 (b : Int) (c : Int)) = ((majN a b c : Nat) : Int) := by
  have h1 : a &&& b < 4294967296 := and32 ha
  have h2 : a &&& c < 4294967296 := and32 ha
  have h3 : b &&& c < 4294967296 := and32 hb
  rw [u32_and_nat _ _ ha hb, u32_and_nat _ _ ha hc, u32_and_nat _ _ hb hc, u32_xor_nat _ _ h1 h2, u32_xor_nat _ _ (xor32 h1 h2) h3]
  congr 1
  unfold majN
  apply Nat.eq_of_testBit_eq
  intro i
  simp only [Nat.testBit_xor, Nat.testBit_or, Nat.testBit_and]
  cases a.testBit i <;> cases b.testBit i <;> cases c.testBit i <;> rfl
theorem bigE_u32 (x : Nat) (hx : x < 4294967296) : bits .xor .u32 (bits .xor .u32 ((rotr x 6 : Nat) : Int) ((rotr x 11 : Nat) : Int)) ((rotr x 25 : Nat) : Int) = ((bigE x : Nat) : Int) := by
  rw [xor3_u32 _ _ _ (rotr_lt x 6 hx (by decide) (by decide)) (rotr_lt x 11 hx (by decide) (by decide)) (rotr_lt x 25 hx (by decide) (by decide))]; rfl
theorem bigA_u32 (x : Nat) (hx : x < 4294967296) : bits .xor .u32 (bits .xor .u32 ((rotr x 2 : Nat) : Int) ((rotr x 13 : Nat) : Int)) ((rotr x 22 : Nat) : Int) = ((bigA x : Nat) : Int) := by
  rw [xor3_u32 _ _ _ (rotr_lt x 2 hx (by decide) (by decide)) (rotr_lt x 13 hx (by decide) (by decide)) (rotr_lt x 22 hx (by decide) (by decide))]; rfl
set_option maxRecDepth 100000 in
set_option maxHeartbeats 4000000 in
theorem mix_any (st : St) (b : List UInt8) (w : World) (hok : st.ok) (hb : b.length = 64) (hk : Cells w 1 .u32 kWords) :
    Calls Tryz.prog 110 #[.agg (stv st), .agg (bvals b).toArray] w fun e w' => e = .returned (.agg (stv (comp st b))) ∧ Below w.heap.size w w' := by
  have hsz : (bvals b).length = 64 := by simp [bvals, hb]
  have HB := hide hb
  have hcomp : comp st b = addSt (rnds (sched b) st 64) st := rfl
  have HCO := hide hcomp
  obtain ⟨sa, sb, sc, sd, se, sf, sg, sh⟩ := st
  obtain ⟨C, hC⟩ : ∃ C, bvals b = C := ⟨_, rfl⟩
  have hsp := fun w => spread_any b w hb
  rw [hC] at hsz hsp ⊢
  have HSP := hide hsp
  have HS := hide hsz
  have hsz2 : C.toArray.size = 64 := by simpa using hsz
  clear hb hC hsp hsz hcomp
  simp only [stv]
  have HI := hide (show (Tryz.prog.info? 146).map (·.size) = some C.length from by rw [HS.out]; kernel_rfl)
  go_enter Tryz.func110, Tryz.ntmps110
  have hra : ∀ (wx : World) (o : Obj) (n : Nat), n = wx.heap.size → ((wx.alloc (.cells C.toArray 146)).alloc o).rangeAt n 0 C := fun wx o n hn => World.rangeAt_alloc (fun j v hv => by
    subst hn; rw [Nat.zero_add, World.cell?_alloc_at _ _ _ _ rfl]; simpa using hv) _
  have HRA := hide hra
  clear hra
  go_wp2_with (refine wpList_load_mid rfl 146 _ rfl (w.heap.size + 1) 0 rfl C _ (HRA.out _ _ _ (by simp)) Tryz.underlying146 rfl HI.out ?_)
  refine (HSP.out _).mono ?_
  rintro e w1 ⟨rfl, hb1⟩
  have hN1 := hb1.size
  simp at hN1
  have hblk0 := (hb1.block w.heap.size (by simp <;> omega)).trans (three_blocks w _ _ _).1
  have hblk2 := (hb1.block (w.heap.size + 1 + 1) (by simp <;> omega)).trans (three_blocks w _ _ _).2
  have hbw : Below w.heap.size w w1 := ((((Below.refl _ _).alloc (Nat.le_refl _) _).alloc (by simp) _).alloc (by simp; omega) _).trans (hb1.mono (by simp; omega))
  have hk1 := hk.below hbw hk.lt
  have hvl : (vals .u32 (sched b)).length = 64 := by simp [vals, sched, schedTo_len]
  have hone := vals_one .u32 (sched b)
  have hwall := schedTo_lt b 48
  have hwl := schedTo_len b 48
  have hwe : sched b = schedTo b 48 := rfl
  rw [← hwe] at hwall hwl
  generalize hW : sched b = W at *
  have HW := hide hW
  have HWL := hide hwl
  clear hW hb1 HSP HRA HI hwl hwe
  obtain ⟨V, hV⟩ : ∃ V, vals .u32 W = V := ⟨_, rfl⟩
  rw [hV] at hvl hone ⊢
  have HV := hide hvl
  have HVV := hide hV
  have HI2 := hide (show (Tryz.prog.info? 194).map (·.size) = some V.toArray.size from by rw [List.size_toArray, hvl]; kernel_rfl)
  clear hvl hV
  go_wp2_with (refine wpList_store_mid rfl 194 _ _ rfl w1.heap.size 0 V.toArray rfl rfl ?c1 HI2.out (all_oneCell_toArray hone) ?_)
  case c1 =>
    have e : V.toArray.size = 64 := by simpa using HV.out
    rw [e]
    exact there_new w1 _ _
  have k0 := cell_of_row w1 w.heap.size 0 _ _ _ hblk0
  have k1 := cell_of_row w1 w.heap.size 1 _ _ _ hblk0
  have k2 := cell_of_row w1 w.heap.size 2 _ _ _ hblk0
  have k3 := cell_of_row w1 w.heap.size 3 _ _ _ hblk0
  have k4 := cell_of_row w1 w.heap.size 4 _ _ _ hblk0
  have k5 := cell_of_row w1 w.heap.size 5 _ _ _ hblk0
  have k6 := cell_of_row w1 w.heap.size 6 _ _ _ hblk0
  have k7 := cell_of_row w1 w.heap.size 7 _ _ _ hblk0
  simp at k0 k1 k2 k3 k4 k5 k6 k7
  have hkN := hk.lt
  obtain ⟨w2, hw2⟩ : ∃ w2 : World, w2 = (w1.alloc (.cells (vals .u32 (List.replicate 64 0)).toArray 194)).setCells w1.heap.size 0 V := ⟨_, rfl⟩
  have hb2 : Below w1.heap.size w1 w2 := by rw [hw2]; exact ((Below.refl _ _).alloc (Nat.le_refl _) _).trans (below_setCells _ _ _ _ _ (Nat.le_refl _))
  have hrV : w2.rangeAt w1.heap.size 0 V := by rw [hw2]; exact World.rangeAt_setCells_same _ _ _ _ (by rw [HV.out]; exact there_new w1 _ _)
  rw [← hb2.cell (p := ⟨w.heap.size, 0, none⟩) (by show w.heap.size < _; omega)] at k0
  rw [← hb2.cell (p := ⟨w.heap.size, 1, none⟩) (by show w.heap.size < _; omega)] at k1
  rw [← hb2.cell (p := ⟨w.heap.size, 2, none⟩) (by show w.heap.size < _; omega)] at k2
  rw [← hb2.cell (p := ⟨w.heap.size, 3, none⟩) (by show w.heap.size < _; omega)] at k3
  rw [← hb2.cell (p := ⟨w.heap.size, 4, none⟩) (by show w.heap.size < _; omega)] at k4
  rw [← hb2.cell (p := ⟨w.heap.size, 5, none⟩) (by show w.heap.size < _; omega)] at k5
  rw [← hb2.cell (p := ⟨w.heap.size, 6, none⟩) (by show w.heap.size < _; omega)] at k6
  rw [← hb2.cell (p := ⟨w.heap.size, 7, none⟩) (by show w.heap.size < _; omega)] at k7
  have hth : w2.there (w.heap.size + 1 + 1) 0 8 := by
    intro j hj
    have e2 : w2.heap[w.heap.size + 1 + 1]? = _ := (hb2.block _ (by omega)).trans hblk2
    rw [Nat.zero_add, cell_of_row _ _ _ _ _ _ e2, frozen_of_row _ _ _ _ _ e2]
    refine ⟨?_, rfl⟩
    match j, hj with
    | 0, _ => rfl
    | 1, _ => rfl
    | 2, _ => rfl
    | 3, _ => rfl
    | 4, _ => rfl
    | 5, _ => rfl
    | 6, _ => rfl
    | 7, _ => rfl
  have hk2 := hk1.below hb2 hk1.lt
  have hbw2 : Below w.heap.size w w2 := hbw.trans (hb2.mono (by omega))
  have hcW : Cells w2 w1.heap.size .u32 W := by
    refine ⟨?_, fun i hi => ?_⟩
    · rw [hw2, (setCells_block _ _ _ _).1]; simp
    · have := hrV i (.int .u32 ((W.getD i 0 : Nat) : Int)) (by rw [← HVV.out]; simp [vals, List.getElem?_eq_getElem hi])
      rwa [Nat.zero_add] at this
  have hNN : w.heap.size < w1.heap.size := by omega
  show Code.wp _ _ _ _ _
  have hz : ((w1.alloc (.cells (vals .u32 (List.replicate 64 0)).toArray 194)).setCells w1.heap.size 0 V) = w2 := hw2.symm
  clear hw2 hb2 hrV hblk0 hblk2 hbw hk1 hk hone
  change Code.wp _ _ _ _ ((w1.alloc (.cells (vals .u32 (List.replicate 64 0)).toArray 194)).setCells w1.heap.size 0 V)
  rw [hz]
  clear hz
  simp only [Act.put]
  have hmx : MX w w1.heap.size ⟨sa, sb, sc, sd, se, sf, sg, sh⟩ W w2 := ⟨hk2, hcW, ⟨Nat.lt_trans hNN hcW.lt, fun i hi => by
    match i, hi with
    | 0, _ => exact k0
    | 1, _ => exact k1
    | 2, _ => exact k2
    | 3, _ => exact k3
    | 4, _ => exact k4
    | 5, _ => exact k5
    | 6, _ => exact k6
    | 7, _ => exact k7⟩, hth, hbw2⟩
  clear hk2 hcW hth hbw2
  go_quiet (fail)
  go_wp2_with fail
  go_quiet (fail)
  go_wp2_with fail
  clear k0 k1 k2 k3 k4 k5 k6 k7
  go_loopw [6, 7, 8, 9, 10, 11, 12, 13, 14, 15, 16, 17, 18, 19, 20] (fun a b c d e f g h t _ _ _ _ _ _ wr => ∃ (k : Nat) (R : St), k ≤ 64 ∧ t = .int .i64 (k : Int) ∧ a = .int .u32 (R.a : Int) ∧ b = .int .u32 (R.b : Int) ∧ c = .int .u32 (R.c : Int) ∧ d = .int .u32 (R.d : Int) ∧ e = .int .u32 (R.e : Int) ∧ f = .int .u32 (R.f : Int) ∧ g = .int .u32 (R.g : Int) ∧ h = .int .u32 (R.h : Int) ∧ Hid (R = rnds W ⟨sa, sb, sc, sd, se, sf, sg, sh⟩ k) ∧ MX w w1.heap.size ⟨sa, sb, sc, sd, se, sf, sg, sh⟩ W wr) (fun _ _ _ _ _ _ _ _ t _ _ _ _ _ _ _ => (65 - intOf t).toNat)
  case atStart => exact ⟨0, ⟨sa, sb, sc, sd, se, sf, sg, sh⟩, by omega, rfl, rfl, rfl, rfl, rfl, rfl, rfl, rfl, rfl, rfl, (hmx.drewN _).drewN _⟩
  case round =>
    clear hmx
    obtain ⟨k, R, hk, rfl, rfl, rfl, rfl, rfl, rfl, rfl, rfl, rfl, hR, hmx⟩ := hrel
    have hRok : R.ok := by rw [hR.out]; exact rnds_ok W hok k
    by_cases hlt : k < 64
    · --<A>
      have hki : (k : Int) < 64 := by omega
      have ck := hmx.k.at_ k (by exact hlt)
      have cw := hmx.ww.at_ k (by rw [HWL.out]; omega)
      have bk : kWords.getD k 0 < 4294967296 := getD_lt kWords_lt
      have bw : W.getD k 0 < 4294967296 := getD_lt hwall
      have hR1 : rnds W ⟨sa, sb, sc, sd, se, sf, sg, sh⟩ (k + 1) = rnd (kWords.getD k 0) (W.getD k 0) R := by rw [hR.out]; rfl
      generalize kWords.getD k 0 = kk at *
      generalize W.getD k 0 = ww at *
      obtain ⟨Ra, Rb, Rc, Rd, Re, Rf, Rg, Rh⟩ := R
      obtain ⟨ba, bb, bc, bd, be, bf, bg, bh⟩ := hRok
      simp only at ba bb bc bd be bf bg bh ⊢
      have hch := ch_u32 Re Rf Rg be bf bg
      have hun := not_u32 Re be
      generalize 4294967295 - Re = nE at hch hun
      have hmj := maj_u32 Ra Rb Rc ba bb bc
      have hE := bigE_u32 Re be
      have hA := bigA_u32 Ra ba
      have t6 := fun w => turn6 Re w be
      have t11 := fun w => turn11 Re w be
      have t25 := fun w => turn25 Re w be
      have t2 := fun w => turn2 Ra w ba
      have t13 := fun w => turn13 Ra w ba
      have t22 := fun w => turn22 Ra w ba
      have lE := bigE_lt Re be
      have lA := bigA_lt Ra ba
      have lC := chN_lt Re Rf Rg be
      have lM := majN_lt Ra Rb Rc ba bb
      have hrn : rnd kk ww ⟨Ra, Rb, Rc, Rd, Re, Rf, Rg, Rh⟩ = ⟨(Rh + bigE Re + chN Re Rf Rg + kk + ww + (bigA Ra + majN Ra Rb Rc)) % 4294967296, Ra, Rb, Rc, (Rd + (Rh + bigE Re + chN Re Rf Rg + kk + ww)) % 4294967296, Re, Rf, Rg⟩ := rfl
      rw [hrn] at hR1
      generalize bigE Re = E at *
      generalize bigA Ra = A at *
      generalize chN Re Rf Rg = Ch at *
      generalize majN Ra Rb Rc = M at *
      generalize rotr Re 6 = r6 at *
      generalize rotr Re 11 = r11 at *
      generalize rotr Re 25 = r25 at *
      generalize rotr Ra 2 = r2 at *
      generalize rotr Ra 13 = r13 at *
      generalize rotr Ra 22 = r22 at *
      have HR1 := hide hR1
      have T6 := hide t6
      have T11 := hide t11
      have T25 := hide t25
      have T2 := hide t2
      have T13 := hide t13
      have T22 := hide t22
      have HB2 := hide (And.intro bh (And.intro lE (And.intro lC (And.intro bk (And.intro bw (And.intro lA (And.intro lM bd)))))))
      clear hR1 hrn t6 t11 t25 t2 t13 t22 ba bb bc bd be bf bg bh lE lA lC lM bk bw
      go_wp2_with fail
      refine (T6.out _).mono ?_
      rintro e w2 ⟨rfl, rfl⟩
      go_wp2_with fail
      refine (T11.out _).mono ?_
      rintro e w2 ⟨rfl, rfl⟩
      go_wp2_with fail
      refine (T25.out _).mono ?_
      rintro e w2 ⟨rfl, rfl⟩
      go_wp2_with fail
      refine (T2.out _).mono ?_
      rintro e w2 ⟨rfl, rfl⟩
      go_wp2_with fail
      refine (T13.out _).mono ?_
      rintro e w2 ⟨rfl, rfl⟩
      go_wp2_with fail
      refine (T22.out _).mono ?_
      rintro e w2 ⟨rfl, rfl⟩
      go_wp2_with fail
      clear hch hun hmj hE hA
      go_quiet (fail)
      go_wp2_with fail
      go_roundw
      case rel => exact ⟨k + 1, ⟨(Rh + E + Ch + kk + ww + (A + M)) % 4294967296, Ra, Rb, Rc, (Rd + (Rh + E + Ch + kk + ww)) % 4294967296, Re, Rf, Rg⟩, by omega, by go_num, val_int (by simp only; omega), rfl, rfl, rfl, val_int (by simp only; omega), rfl, rfl, rfl, HR1.out.symm, hmx.drewN _⟩
      case measure => simp [intOf]; omega
      --</A>
    · have hk64 : k = 64 := by omega
      subst hk64
      have hcm : comp ⟨sa, sb, sc, sd, se, sf, sg, sh⟩ b = addSt R ⟨sa, sb, sc, sd, se, sf, sg, sh⟩ := by rw [HCO.out, hR.out]
      have HCM := hide hcm
      obtain ⟨k0, k1, k2, k3, k4, k5, k6, k7⟩ := hmx.s.st
      have hth := hmx.th
      have hbel := hmx.bel
      obtain ⟨Ra, Rb, Rc, Rd, Re, Rf, Rg, Rh⟩ := R
      simp only at k0 k1 k2 k3 k4 k5 k6 k7 ⊢
      have HI8 := hide (show (Tryz.prog.info? 145).map (·.size) = some 8 from by kernel_rfl)
      have HTH := hide hth
      have HBEL := hide hbel
      go_upto_region 15 with fail
      clear hcm hR hRok hmx hlt hk hwall hok HCO HB HS hsz2 HW HWL HV HVV HI2 hkN hNN hN1 hth hbel
      go_wp2_with (refine wpList_store_mid rfl 145 _ _ rfl (w.heap.size + 1 + 1) 0 _ rfl rfl ?s1 ?s2 ?s3 ?_)
      case s1 => exact HTH.out
      case s2 => exact HI8.out
      case s3 => exact all_oneCell_toArray (cs := [_, _, _, _, _, _, _, _]) (by intro v hv; simp only [List.mem_cons, List.not_mem_nil, or_false] at hv; rcases hv with rfl | rfl | rfl | rfl | rfl | rfl | rfl | rfl <;> rfl)
      have hrr := World.rangeAt_setCells_same wr (w.heap.size + 1 + 1) 0 [.int .u32 (((sa : Int) + Ra) % 4294967296), .int .u32 (((sb : Int) + Rb) % 4294967296), .int .u32 (((sc : Int) + Rc) % 4294967296), .int .u32 (((sd : Int) + Rd) % 4294967296), .int .u32 (((se : Int) + Re) % 4294967296), .int .u32 (((sf : Int) + Rf) % 4294967296), .int .u32 (((sg : Int) + Rg) % 4294967296), .int .u32 (((sh : Int) + Rh) % 4294967296)] HTH.out
      refine bodyPost_ret (v := .agg #[.int .u32 (((sa : Int) + Ra) % 4294967296), .int .u32 (((sb : Int) + Rb) % 4294967296), .int .u32 (((sc : Int) + Rc) % 4294967296), .int .u32 (((sd : Int) + Rd) % 4294967296), .int .u32 (((se : Int) + Re) % 4294967296), .int .u32 (((sf : Int) + Rf) % 4294967296), .int .u32 (((sg : Int) + Rg) % 4294967296), .int .u32 (((sh : Int) + Rh) % 4294967296)]) (results_cell_mid Tryz.results110 _ _ (w.heap.size + 1 + 1) 0 _ _ rfl hrr Tryz.underlying145 rfl HI8.out) rfl ⟨?_, HBEL.out.trans (below_setCells wr w.heap.size _ 0 _ (by omega))⟩
      rw [HCM.out]
      simp only [addSt]
      have e : ∀ x y : Nat, ((x : Int) + (y : Int)) % 4294967296 = (((y + x) % 4294967296 : Nat) : Int) := fun x y => by omega
      rw [e, e, e, e, e, e, e, e]
end Go.Proofs.YtjnhlkaafnaooabGreatDoor
