import Derived.Test.YtjnhlkaafnaooaaDotW
namespace Go.Proofs.Ytjnhlkaafnaooaa
open Go.RowKit
/-- The first j of one row, then those of another. -/
def doneN (A B : List Nat) (j : Nat) : List Nat := A.take j ++ B.drop j
theorem doneN_len (A B : List Nat) (j : Nat) (h : A.length = B.length) : (doneN A B j).length = B.length := by simp [doneN]; omega
theorem doneN_get_hi (A B : List Nat) (j i : Nat) (h : A.length = B.length) (hj : j ≤ i) (hi : i < B.length) : (doneN A B j).getD i 0 = B.getD i 0 := by
  simp only [doneN, List.getD_eq_getElem?_getD]
  rw [List.getElem?_append_right (by simp; omega), List.getElem?_drop]
  congr 2
  simp; omega
theorem doneN_get_lo (A B : List Nat) (j i : Nat) (h : A.length = B.length) (hj : i < j) (hi : i < B.length) : (doneN A B j).getD i 0 = A.getD i 0 := by
  simp only [doneN, List.getD_eq_getElem?_getD]
  rw [List.getElem?_append_left (by simp; omega), List.getElem?_take_of_lt hj]
theorem doneN_up (A B : List Nat) (j : Nat) (h : A.length = B.length) (hj : j < B.length) : (doneN A B j).set j (A.getD j 0) = doneN A B (j + 1) := by
  unfold doneN
  rw [List.set_append_right j _ (by simp; omega)]
  have h0 : j - (A.take j).length = 0 := by simp; omega
  rw [h0, List.drop_eq_getElem_cons hj, List.set_cons_zero, List.take_succ_eq_append_getElem (by omega : j < A.length), List.append_assoc]
  congr 1
  rw [List.getD_eq_getElem?_getD, List.getElem?_eq_getElem (by omega : j < A.length)]
  rfl
theorem doneN_down (A B : List Nat) (j : Nat) (h : A.length = B.length) (hj : j < B.length) : (doneN A B (j + 1)).set j (B.getD j 0) = doneN A B j := by
  unfold doneN
  rw [List.take_succ_eq_append_getElem (by omega : j < A.length), List.append_assoc, List.set_append_right j _ (by simp; omega)]
  have h0 : j - (A.take j).length = 0 := by simp; omega
  rw [h0, List.drop_eq_getElem_cons hj]
  congr 1
  rw [List.getD_eq_getElem?_getD, List.getElem?_eq_getElem hj]
  rfl
theorem words4_len (e : Nat) : (words4 e).length = 4 := rfl
theorem words4_get (e i : Nat) (hi : i < 4) : (words4 e).getD i 0 = w4 e i := by
  have : i = 0 ∨ i = 1 ∨ i = 2 ∨ i = 3 := by omega
  rcases this with rfl | rfl | rfl | rfl <;> rfl
theorem dn_len (A B j : Nat) : (doneN (words4 A) (words4 B) j).length = 4 := by rw [doneN_len _ _ _ (by rw [words4_len, words4_len]), words4_len]
theorem dn_hi (A B j i : Nat) (hj : j ≤ i) (hi : i < 4) : (doneN (words4 A) (words4 B) j).getD i 0 = w4 B i := by rw [doneN_get_hi _ _ _ _ (by rw [words4_len, words4_len]) hj (by rw [words4_len]; exact hi), words4_get B i hi]
theorem dn_lo (A B j i : Nat) (hj : i < j) (hi : i < 4) : (doneN (words4 A) (words4 B) j).getD i 0 = w4 A i := by rw [doneN_get_lo _ _ _ _ (by rw [words4_len, words4_len]) hj (by rw [words4_len]; exact hi), words4_get A i hi]
theorem dn_up (A B j : Nat) (hj : j < 4) : (doneN (words4 A) (words4 B) j).set j (w4 A j) = doneN (words4 A) (words4 B) (j + 1) := by rw [← words4_get A j hj]; exact doneN_up _ _ _ (by rw [words4_len, words4_len]) (by rw [words4_len]; exact hj)
theorem dn_down (A B j : Nat) (hj : j < 4) : (doneN (words4 A) (words4 B) (j + 1)).set j (w4 B j) = doneN (words4 A) (words4 B) j := by rw [← words4_get B j hj]; exact doneN_down _ _ _ (by rw [words4_len, words4_len]) (by rw [words4_len]; exact hj)
/-- The first j words of an element, as bytes. -/
def outTo (D : Nat) : Nat → List UInt8
  | 0 => []
  | j + 1 => outTo D j ++ onesL (w4 D j) 4
theorem outTo_len (D j : Nat) : (outTo D j).length = 4 * j := by
  induction j with
  | zero => rfl
  | succ j ih => rw [outTo, List.length_append, ih, onesL_len]; omega
theorem outTo_all (D : Nat) : outTo D 4 = onesL D 16 := by rw [← ones_words]; rfl
structure DS (w : World) (gx gv gz : Nat) (xs vs zs : List Nat) (wr : World) : Prop where
  x : NR wr gx xs
  v : NR wr gv vs
  z : NR wr gz zs
  xv : gx < gv
  vz : gv < gz
  base : w.heap.size ≤ gx
  bel : Below w.heap.size w wr
theorem DS.setZ {w : World} {gx gv gz : Nat} {xs vs zs : List Nat} {wr : World} (h : DS w gx gv gz xs vs zs wr) (i y : Nat) (hi : i < zs.length) : DS w gx gv gz xs vs (zs.set i y) (wr.setCell ⟨gz, i, none⟩ (.int .i64 (y : Int))) :=
  ⟨h.x.other _ _ (by have := h.xv; have := h.vz; simp; omega), h.v.other _ _ (by have := h.vz; simp; omega), h.z.set i y hi, h.xv, h.vz, h.base, h.bel.setCell (by have := h.xv; have := h.vz; have := h.base; simp; omega) _⟩
theorem DS.setV {w : World} {gx gv gz : Nat} {xs vs zs : List Nat} {wr : World} (h : DS w gx gv gz xs vs zs wr) (i y : Nat) (hi : i < vs.length) : DS w gx gv gz xs (vs.set i y) zs (wr.setCell ⟨gv, i, none⟩ (.int .i64 (y : Int))) :=
  ⟨h.x.other _ _ (by have := h.xv; simp; omega), h.v.set i y hi, h.z.other _ _ (by have := h.vz; simp; omega), h.xv, h.vz, h.base, h.bel.setCell (by have := h.xv; have := h.base; simp; omega) _⟩
theorem DS.drew {w : World} {gx gv gz : Nat} {xs vs zs : List Nat} {wr : World} (h : DS w gx gv gz xs vs zs wr) : DS w gx gv gz xs vs zs wr.drew := ⟨h.x.drew, h.v.drew, h.z.drew, h.xv, h.vz, h.base, h.bel.drew⟩
theorem DS.drewN {w : World} {gx gv gz : Nat} {xs vs zs : List Nat} {wr : World} (h : DS w gx gv gz xs vs zs wr) (n : Nat) : DS w gx gv gz xs vs zs (wr.drewN n) := ⟨h.x.drewN n, h.v.drewN n, h.z.drewN n, h.xv, h.vz, h.base, below_drewN h.bel n⟩
theorem bit_int (e i : Nat) (hi : i < 128) : bits .and .i64 (((w4 e (i / 32) : Nat) : Int) / 2 ^ (31 - i % 32)) 1 = (((if e.testBit (127 - i) then 1 else 0 : Nat)) : Int) := by
  have h := w4_bit e i hi
  have e1 : ((w4 e (i / 32) : Nat) : Int) / 2 ^ (31 - i % 32) = ((w4 e (i / 32) / 2 ^ (31 - i % 32) : Nat) : Int) := by simp
  have hl : w4 e (i / 32) / 2 ^ (31 - i % 32) < 9223372036854775808 := Nat.lt_of_le_of_lt (Nat.div_le_self _ _) (Nat.lt_trans (w4_lt _ _) (by decide))
  have h2 := i64_and_nat (w4 e (i / 32) / 2 ^ (31 - i % 32)) 1 hl (by decide)
  rw [Nat.and_one_is_mod, h] at h2
  rw [e1]
  exact h2
set_option maxRecDepth 100000 in
set_option maxHeartbeats 4000000 in
theorem dot_any (a b : List UInt8) (w : World) (ha : a.length = 16) (hb : b.length = 16) :
    Calls Try.prog 25 #[.string ⟨a.toArray⟩, .string ⟨b.toArray⟩] w fun e w' => e = .returned (.string ⟨(onesL (dotN (numL a) (numL b)) 16).toArray⟩) ∧ Below w.heap.size w w' := by
  have hVl := num16_lt b hb
  obtain ⟨X, hX⟩ : ∃ x, numL a = x := ⟨_, rfl⟩
  obtain ⟨V, hV⟩ : ∃ x, numL b = x := ⟨_, rfl⟩
  have hwa := words_any a w ha
  have hwb := fun w => words_any b w hb
  rw [hX] at hwa
  rw [hV] at hVl
  simp only [hV] at hwb
  have HWA := hide hwa
  have HWB := hide hwb
  have HVL := hide hVl
  have HXV := hide (And.intro hX hV)
  have hmk : ∀ w, (Instr.makeSlice 37 (.int .i64 4) (.int .i64 4)).run Try.prog w = .ok (.slice (some ⟨w.heap.size, 0, none⟩) 4 4) (w.alloc (.cells (madeCells #[.int .i64 0] 4) 3)) := fun w => run_make_row' (P := Try.prog) 37 3 (.int .i64 0) 8 Try.underlying37 info_int rfl .i64 .i64 4 (by omega) (by omega) w
  clear hX hV hwa hwb hVl ha hb
  go_enter Try.func25, Try.ntmps25
  go_wp2_with fail
  refine HWA.out.mono ?_
  rintro e w1 ⟨gx, cx, rfl, nx, hgx, hb1⟩
  go_wp2_with fail
  refine (HWB.out w1).mono ?_
  rintro e w2 ⟨gv, cv, rfl, nv, hgv, hb2⟩
  have nx2 := nx.below hb2 nx.lt
  have hbw2 := hb1.trans (hb2.mono hb1.size)
  have hgxl := nx.lt
  have hgvl := nv.lt
  have hds : DS w gx gv w2.heap.size (words4 X) (words4 V) (List.replicate 4 0) (w2.alloc (.cells (madeCells #[.int .i64 0] 4) 3)) :=
    ⟨nx2.below ((Below.refl w2.heap.size w2).alloc (Nat.le_refl _) _) nx2.lt, nv.below ((Below.refl w2.heap.size w2).alloc (Nat.le_refl _) _) nv.lt, NR.made w2 4, by omega, hgvl, hgx, hbw2.alloc hbw2.size _⟩
  have HDS := hide hds
  clear HWA HWB nx nv nx2 hb1 hb2 hbw2 hds hgx hgv hgxl hgvl
  go_wp2_with fail
  obtain ⟨gz, hgz⟩ : ∃ g, w2.heap.size = g := ⟨_, rfl⟩
  rw [hgz] at HDS ⊢
  generalize w2.alloc (.cells (madeCells #[.int .i64 0] 4) 3) = w3 at *
  clear hgz hmk
  go_loopw [8] (fun i wr => ∃ k : Nat, k ≤ 128 ∧ i = .int .i64 (k : Int) ∧ DS w gx gv gz (words4 X) (words4 (shN V k)) (words4 (dotTo X V k)) wr) (fun i _ => (129 - intOf i).toNat)
  case atStart =>
    refine ⟨0, by omega, rfl, ?_⟩
    have e0 : words4 (dotTo X V 0) = List.replicate 4 0 := by show words4 0 = _; decide
    rw [e0]
    exact HDS.out
  case round =>
    clear HDS
    obtain ⟨k, hk, rfl, hr⟩ := hrel
    by_cases hlt : k < 128
    · have hki : (k : Int) < 128 := by omega
      have cx' := hr.x.cell (k / 32) (by rw [words4_len]; omega)
      rw [words4_get X (k / 32) (by omega)] at cx'
      have hbit := bit_int X k hlt
      have HK := hide hlt
      have HEL := hide (shN_lt V k HVL.out)
      obtain ⟨E, hE⟩ : ∃ e, shN V k = e := ⟨_, rfl⟩
      obtain ⟨Z0, hZ0⟩ : ∃ e, dotTo X V k = e := ⟨_, rfl⟩
      have HZ0l := hide (dotTo_lt X V k HVL.out)
      rw [hE] at hr HEL
      rw [hZ0] at hr HZ0l
      have HEQ := hide hE
      have HZE := hide hZ0
      clear hE hZ0 hlt hk
      generalize w4 X (k / 32) = xw at *
      by_cases htb : X.testBit (127 - k) = true
      · rw [if_pos htb] at hbit
        have hbit1 : bits .and .i64 ((xw : Int) / 2 ^ (31 - k % 32)) 1 = 1 := hbit
        obtain ⟨Zn, hZn⟩ : ∃ z, Z0 ^^^ E = z := ⟨_, rfl⟩
        have HZN := hide (show dotTo X V (k + 1) = Zn by rw [dotTo, if_pos htb, HZE.out, HEQ.out, hZn])
        have HZD := hide hZn
        have HR0 := hide hr
        clear hbit htb hr hZn
        go_wp2_with fail
        go_loopw [9] (fun jv wr' => ∃ j : Nat, j ≤ 4 ∧ jv = .int .i64 (j : Int) ∧ DS w gx gv gz (words4 X) (words4 E) (doneN (words4 Zn) (words4 Z0) j) wr') (fun jv _ => (5 - intOf jv).toNat)
        case atStart => exact ⟨0, by omega, rfl, HR0.out⟩
        case round =>
          clear HR0 cx' hbit1
          obtain ⟨j, hj4, rfl, hr⟩ := hrel
          by_cases hj : j < 4
          · have hji : (j : Int) < 4 := by omega
            have cz := hr.z.cell j (by rw [dn_len]; omega)
            rw [dn_hi _ _ _ _ (Nat.le_refl _) hj] at cz
            have cv' := hr.v.cell j (by rw [words4_len]; omega)
            rw [words4_get E j hj] at cv'
            have fz := hr.z.frz j (by rw [dn_len]; omega)
            have hset := hr.setZ j (w4 Zn j) (by rw [dn_len]; omega)
            have e1 := dn_up Zn Z0 j hj
            rw [e1] at hset
            have hx := i64_xor_nat (w4 Z0 j) (w4 E j) (Nat.lt_trans (w4_lt _ _) (by decide)) (Nat.lt_trans (w4_lt _ _) (by decide))
            rw [← w4_xor, HZD.out] at hx
            have HS := hide hset
            have HJ := hide (And.intro hj hj4)
            generalize w4 Zn j = z1 at *
            generalize w4 Z0 j = z0 at *
            generalize w4 E j = ej at *
            clear hset e1 hr hj hj4
            go_wp2_with fail
            go_region
            go_wp2_with fail
            go_roundw
            case rel => exact ⟨j + 1, by have := HJ.out; omega, by go_num, HS.out.drew⟩
            case measure => have := HJ.out; simp [intOf]; omega
          · have hj4' : j = 4 := by omega
            subst hj4'
            have e4 : doneN (words4 Zn) (words4 Z0) 4 = words4 Zn := rfl
            rw [e4] at hr
            clear e4 hj hj4
            have v3 := hr.v.cell 3 (by rw [words4_len]; decide)
            rw [words4_get E 3 (by decide)] at v3
            have hlow : bits .and .i64 ((w4 E 3 : Nat) : Int) 1 = ((w4 E 3 % 2 : Nat) : Int) := by
              have h := i64_and_nat (w4 E 3) 1 (Nat.lt_trans (w4_lt _ _) (by decide)) (by decide)
              rw [Nat.and_one_is_mod] at h
              exact h
            have hlw : w4 E 3 % 2 < 2 := Nat.mod_lt _ (by decide)
            have HE0 := hide (w4_sh0 E HEL.out)
            have HR := hide hr
            generalize w4 E 3 % 2 = lw at *
            generalize w4 E 3 = x3 at *
            clear hr
            go_wp2_with fail
            go_loopw [11] (fun jv wr' => ∃ j : Nat, j ≤ 3 ∧ jv = .int .i64 (j : Int) ∧ DS w gx gv gz (words4 X) (doneN (words4 E) (words4 (sh E)) (j + 1)) (words4 Zn) wr') (fun jv _ => (intOf jv).toNat)
            case atStart => exact ⟨3, by omega, rfl, HR.out⟩
            case round =>
              clear HR v3 hlow
              obtain ⟨j, hj3, rfl, hr⟩ := hrel
              by_cases hj : 0 < j
              · have hji : (0 : Int) < (j : Int) := by omega
                have cj := hr.v.cell j (by rw [dn_len]; omega)
                rw [dn_lo _ _ _ _ (by omega) (by omega)] at cj
                have cp := hr.v.cell (j - 1) (by rw [dn_len]; omega)
                rw [dn_lo _ _ _ _ (by omega) (by omega)] at cp
                have fj := hr.v.frz j (by rw [dn_len]; omega)
                have hset := hr.setV j (w4 (sh E) j) (by rw [dn_len]; omega)
                have e1 := dn_down E (sh E) j (by omega)
                rw [e1] at hset
                have hval := w4_sh E j (by omega) (by omega)
                have l1 := w4_lt E j
                have l2 := w4_lt E (j - 1)
                have hand : bits .and .i64 ((w4 E (j - 1) : Nat) : Int) 1 = ((w4 E (j - 1) % 2 : Nat) : Int) := by
                  have h := i64_and_nat (w4 E (j - 1)) 1 (by omega) (by decide)
                  rw [Nat.and_one_is_mod] at h
                  exact h
                have hor : bits .or .i64 (((w4 E j : Nat) : Int) / 2) (((w4 E (j - 1) % 2 * 2147483648 : Nat)) : Int) = ((w4 (sh E) j : Nat) : Int) := by
                  rw [show ((w4 E j : Nat) : Int) / 2 = ((w4 E j / 2 : Nat) : Int) by omega, i64_or_nat _ _ (by omega) (by omega), hval]
                have hm2 : w4 E (j - 1) % 2 < 2 := Nat.mod_lt _ (by decide)
                have HS := hide hset
                generalize w4 (sh E) j = nv at *
                generalize w4 E j = vj at *
                generalize w4 E (j - 1) % 2 = mp at *
                generalize w4 E (j - 1) = vp at *
                have hcast : ((mp * 2147483648 : Nat) : Int) = (mp : Int) * 2147483648 := by omega
                rw [hcast] at hor
                have hw1 : IntKind.i64.wrap ((mp : Int) * 2147483648) = (mp : Int) * 2147483648 := by rw [← hcast]; exact wrap_i64_nat _ (by omega)
                have hmpi : (mp : Int) < 2 := by omega
                clear hcast
                obtain ⟨jp, hjp⟩ : ∃ p, j - 1 = p := ⟨_, rfl⟩
                rw [hjp] at cp
                have hj1 : (j : Int) - 1 = (jp : Int) := by omega
                have hj2 : IntKind.i64.wrap ((j : Int) - 1) = (jp : Int) := by rw [hj1]; exact wrap_i64_nat _ (by omega)
                have hj4 : (j : Int) < 4 := by omega
                have hjp4 : (jp : Int) < 4 := by omega
                have HJ := hide (And.intro hj (And.intro hj3 hjp))
                clear hset e1 hval l1 l2 hm2 hjp hr hj hj3
                go_wp2_with fail
                go_region
                go_wp2_with fail
                go_roundw
                case rel => exact ⟨jp, by have := HJ.out; omega, rfl, by rw [show jp + 1 = j by have := HJ.out; omega]; exact HS.out.drew⟩
                case measure => have := HJ.out; simp [intOf]; omega
              · have hj0 : j = 0 := by omega
                subst hj0
                have c0 := hr.v.cell 0 (by rw [dn_len]; decide)
                rw [dn_lo _ _ _ _ (by decide) (by decide)] at c0
                have f0 := hr.v.frz 0 (by rw [dn_len]; decide)
                have hl0 : 0 < (doneN (words4 E) (words4 (sh E)) 1).length := by rw [dn_len]; decide
                have h1 := hr.setV 0 (w4 E 0 / 2) hl0
                have c1 := h1.v.cell 0 (by rw [List.length_set]; exact hl0)
                have f1 := h1.v.frz 0 (by rw [List.length_set]; exact hl0)
                have e0 : ((doneN (words4 E) (words4 (sh E)) 1).set 0 (w4 E 0 / 2)).getD 0 0 = w4 E 0 / 2 := by
                  rw [List.getD_eq_getElem?_getD, List.getElem?_set_self hl0]; rfl
                rw [e0] at c1
                have h2 := h1.setV 0 (w4 E 0 / 2 ^^^ 3774873600) (by rw [List.length_set]; exact hl0)
                rw [List.set_set] at h2
                have ed := dn_down E (sh E) 0 (by decide)
                have e00 : doneN (words4 E) (words4 (sh E)) 0 = words4 (sh E) := rfl
                rw [e00] at ed
                have l0 := w4_lt E 0
                have hxr : bits .xor .i64 (((w4 E 0 / 2 : Nat)) : Int) 3774873600 = ((w4 E 0 / 2 ^^^ 3774873600 : Nat) : Int) := i64_xor_nat _ 3774873600 (by omega) (by decide)
                have hhalf : ((w4 E 0 : Nat) : Int) / 2 = ((w4 E 0 / 2 : Nat) : Int) := by omega
                have HED := hide ed
                have HES := hide (show shN V (k + 1) = sh E by rw [← HEQ.out]; rfl)
                by_cases hl1 : lw = 1
                · have e1 := HE0.out
                  rw [if_pos hl1] at e1
                  rw [← e1] at h2
                  rw [HED.out] at h2
                  have HF := hide h2
                  rw [← e1] at hxr
                  have hlt1 : ((lw : Int) == 1) = true := by rw [hl1]; rfl
                  generalize w4 (sh E) 0 = n0 at *
                  generalize w4 E 0 / 2 = hf at *
                  generalize w4 E 0 = o0 at *
                  clear h1 h2 hr e1 ed e00 l0 e0 hl0 hj hj3 hlw hl1
                  go_wp2_with fail
                  go_roundw
                  case rel => exact ⟨k + 1, by have := HK.out; omega, by go_num, by rw [HES.out, HZN.out]; exact HF.out⟩
                  case measure => have := HK.out; simp [intOf]; omega
                · have hlz : lw = 0 := by omega
                  have e1 := HE0.out
                  rw [if_neg hl1] at e1
                  rw [← e1, HED.out] at h1
                  have HF := hide h1
                  have hlt1 : ((lw : Int) == 1) = false := by rw [hlz]; rfl
                  rw [← e1] at hhalf
                  generalize w4 (sh E) 0 = n0 at *
                  generalize w4 E 0 = o0 at *
                  clear h1 h2 hr ed e00 l0 e0 hl0 hj hj3 hlw hxr c1 f1 hl1 hlz e1
                  go_wp2_with fail
                  go_roundw
                  case rel => exact ⟨k + 1, by have := HK.out; omega, by go_num, by rw [HES.out, HZN.out]; exact HF.out⟩
                  case measure => have := HK.out; simp [intOf]; omega
      · have hf : X.testBit (127 - k) = false := by simpa using htb
        rw [if_neg htb] at hbit
        have hbit1 : bits .and .i64 ((xw : Int) / 2 ^ (31 - k % 32)) 1 = 0 := hbit
        obtain ⟨Zn, hZn⟩ : ∃ z, Z0 = z := ⟨_, rfl⟩
        have HZN := hide (show dotTo X V (k + 1) = Zn by rw [dotTo, if_neg htb, HZE.out, hZn])
        rw [hZn] at hr
        clear hbit htb hf hZn
        have v3 := hr.v.cell 3 (by rw [words4_len]; decide)
        rw [words4_get E 3 (by decide)] at v3
        have hlow : bits .and .i64 ((w4 E 3 : Nat) : Int) 1 = ((w4 E 3 % 2 : Nat) : Int) := by
          have h := i64_and_nat (w4 E 3) 1 (Nat.lt_trans (w4_lt _ _) (by decide)) (by decide)
          rw [Nat.and_one_is_mod] at h
          exact h
        have hlw : w4 E 3 % 2 < 2 := Nat.mod_lt _ (by decide)
        have HE0 := hide (w4_sh0 E HEL.out)
        have HR := hide hr
        generalize w4 E 3 % 2 = lw at *
        generalize w4 E 3 = x3 at *
        clear hr
        go_wp2_with fail
        go_loopw [11] (fun jv wr' => ∃ j : Nat, j ≤ 3 ∧ jv = .int .i64 (j : Int) ∧ DS w gx gv gz (words4 X) (doneN (words4 E) (words4 (sh E)) (j + 1)) (words4 Zn) wr') (fun jv _ => (intOf jv).toNat)
        case atStart => exact ⟨3, by omega, rfl, HR.out⟩
        case round =>
          clear HR v3 hlow
          obtain ⟨j, hj3, rfl, hr⟩ := hrel
          by_cases hj : 0 < j
          · have hji : (0 : Int) < (j : Int) := by omega
            have cj := hr.v.cell j (by rw [dn_len]; omega)
            rw [dn_lo _ _ _ _ (by omega) (by omega)] at cj
            have cp := hr.v.cell (j - 1) (by rw [dn_len]; omega)
            rw [dn_lo _ _ _ _ (by omega) (by omega)] at cp
            have fj := hr.v.frz j (by rw [dn_len]; omega)
            have hset := hr.setV j (w4 (sh E) j) (by rw [dn_len]; omega)
            have e1 := dn_down E (sh E) j (by omega)
            rw [e1] at hset
            have hval := w4_sh E j (by omega) (by omega)
            have l1 := w4_lt E j
            have l2 := w4_lt E (j - 1)
            have hand : bits .and .i64 ((w4 E (j - 1) : Nat) : Int) 1 = ((w4 E (j - 1) % 2 : Nat) : Int) := by
              have h := i64_and_nat (w4 E (j - 1)) 1 (by omega) (by decide)
              rw [Nat.and_one_is_mod] at h
              exact h
            have hor : bits .or .i64 (((w4 E j : Nat) : Int) / 2) (((w4 E (j - 1) % 2 * 2147483648 : Nat)) : Int) = ((w4 (sh E) j : Nat) : Int) := by
              rw [show ((w4 E j : Nat) : Int) / 2 = ((w4 E j / 2 : Nat) : Int) by omega, i64_or_nat _ _ (by omega) (by omega), hval]
            have hm2 : w4 E (j - 1) % 2 < 2 := Nat.mod_lt _ (by decide)
            have HS := hide hset
            generalize w4 (sh E) j = nv at *
            generalize w4 E j = vj at *
            generalize w4 E (j - 1) % 2 = mp at *
            generalize w4 E (j - 1) = vp at *
            have hcast : ((mp * 2147483648 : Nat) : Int) = (mp : Int) * 2147483648 := by omega
            rw [hcast] at hor
            have hw1 : IntKind.i64.wrap ((mp : Int) * 2147483648) = (mp : Int) * 2147483648 := by rw [← hcast]; exact wrap_i64_nat _ (by omega)
            have hmpi : (mp : Int) < 2 := by omega
            clear hcast
            obtain ⟨jp, hjp⟩ : ∃ p, j - 1 = p := ⟨_, rfl⟩
            rw [hjp] at cp
            have hj1 : (j : Int) - 1 = (jp : Int) := by omega
            have hj2 : IntKind.i64.wrap ((j : Int) - 1) = (jp : Int) := by rw [hj1]; exact wrap_i64_nat _ (by omega)
            have hj4 : (j : Int) < 4 := by omega
            have hjp4 : (jp : Int) < 4 := by omega
            have HJ := hide (And.intro hj (And.intro hj3 hjp))
            clear hset e1 hval l1 l2 hm2 hjp hr hj hj3
            go_wp2_with fail
            go_region
            go_wp2_with fail
            go_roundw
            case rel => exact ⟨jp, by have := HJ.out; omega, rfl, by rw [show jp + 1 = j by have := HJ.out; omega]; exact HS.out.drew⟩
            case measure => have := HJ.out; simp [intOf]; omega
          · have hj0 : j = 0 := by omega
            subst hj0
            have c0 := hr.v.cell 0 (by rw [dn_len]; decide)
            rw [dn_lo _ _ _ _ (by decide) (by decide)] at c0
            have f0 := hr.v.frz 0 (by rw [dn_len]; decide)
            have hl0 : 0 < (doneN (words4 E) (words4 (sh E)) 1).length := by rw [dn_len]; decide
            have h1 := hr.setV 0 (w4 E 0 / 2) hl0
            have c1 := h1.v.cell 0 (by rw [List.length_set]; exact hl0)
            have f1 := h1.v.frz 0 (by rw [List.length_set]; exact hl0)
            have e0 : ((doneN (words4 E) (words4 (sh E)) 1).set 0 (w4 E 0 / 2)).getD 0 0 = w4 E 0 / 2 := by
              rw [List.getD_eq_getElem?_getD, List.getElem?_set_self hl0]; rfl
            rw [e0] at c1
            have h2 := h1.setV 0 (w4 E 0 / 2 ^^^ 3774873600) (by rw [List.length_set]; exact hl0)
            rw [List.set_set] at h2
            have ed := dn_down E (sh E) 0 (by decide)
            have e00 : doneN (words4 E) (words4 (sh E)) 0 = words4 (sh E) := rfl
            rw [e00] at ed
            have l0 := w4_lt E 0
            have hxr : bits .xor .i64 (((w4 E 0 / 2 : Nat)) : Int) 3774873600 = ((w4 E 0 / 2 ^^^ 3774873600 : Nat) : Int) := i64_xor_nat _ 3774873600 (by omega) (by decide)
            have hhalf : ((w4 E 0 : Nat) : Int) / 2 = ((w4 E 0 / 2 : Nat) : Int) := by omega
            have HED := hide ed
            have HES := hide (show shN V (k + 1) = sh E by rw [← HEQ.out]; rfl)
            by_cases hl1 : lw = 1
            · have e1 := HE0.out
              rw [if_pos hl1] at e1
              rw [← e1] at h2
              rw [HED.out] at h2
              have HF := hide h2
              rw [← e1] at hxr
              have hlt1 : ((lw : Int) == 1) = true := by rw [hl1]; rfl
              generalize w4 (sh E) 0 = n0 at *
              generalize w4 E 0 / 2 = hf at *
              generalize w4 E 0 = o0 at *
              clear h1 h2 hr e1 ed e00 l0 e0 hl0 hj hj3 hlw hl1
              go_wp2_with fail
              go_roundw
              case rel => exact ⟨k + 1, by have := HK.out; omega, by go_num, by rw [HES.out, HZN.out]; exact HF.out⟩
              case measure => have := HK.out; simp [intOf]; omega
            · have hlz : lw = 0 := by omega
              have e1 := HE0.out
              rw [if_neg hl1] at e1
              rw [← e1, HED.out] at h1
              have HF := hide h1
              have hlt1 : ((lw : Int) == 1) = false := by rw [hlz]; rfl
              rw [← e1] at hhalf
              generalize w4 (sh E) 0 = n0 at *
              generalize w4 E 0 = o0 at *
              clear h1 h2 hr ed e00 l0 e0 hl0 hj hj3 hlw hxr c1 f1 hl1 hlz e1
              go_wp2_with fail
              go_roundw
              case rel => exact ⟨k + 1, by have := HK.out; omega, by go_num, by rw [HES.out, HZN.out]; exact HF.out⟩
              case measure => have := HK.out; simp [intOf]; omega
    · have hk8 : k = 128 := by omega
      subst hk8
      have hdd : dotTo X V 128 = dotN X V := rfl
      rw [hdd] at hr
      obtain ⟨D, hD⟩ : ∃ d, dotN X V = d := ⟨_, rfl⟩
      rw [hD] at hr
      have HD := hide (show dotN (numL a) (numL b) = D by rw [HXV.out.1, HXV.out.2, hD])
      have HR := hide hr
      clear hdd hD hr hk hlt
      go_wp2_with fail
      go_loopw [12, 13, 14] (fun o jv _ wr' => ∃ j : Nat, j ≤ 4 ∧ jv = .int .i64 (j : Int) ∧ o = .string ⟨(outTo D j).toArray⟩ ∧ NR wr' gz (words4 D) ∧ Below w.heap.size w wr') (fun _ jv _ _ => (5 - intOf jv).toNat)
      case atStart => exact ⟨0, by omega, rfl, rfl, HR.out.z, HR.out.bel⟩
      case round =>
        clear HR
        obtain ⟨j, hj4, rfl, rfl, hz, hbel⟩ := hrel
        by_cases hj : j < 4
        · have hji : (j : Int) < 4 := by omega
          have cz := hz.cell j (by rw [words4_len]; omega)
          rw [words4_get D j hj] at cz
          have hlw := w4_lt D j
          have hon := outTo_len D j
          have hsucc : outTo D (j + 1) = outTo D j ++ onesL (w4 D j) 4 := rfl
          have a2 := fun w => add_str (outTo D j) (onesL (w4 D j) 4) (by rw [hon, onesL_len]; omega) w
          rw [← hsucc] at a2
          have HA2 := hide a2
          have HJ := hide (And.intro hj hj4)
          have HWL := hide hlw
          generalize ho1 : outTo D (j + 1) = o1 at *
          have HO1 := hide ho1
          clear ho1
          generalize outTo D j = o0 at *
          generalize w4 D j = x at *
          clear hon hsucc a2 hj hj4 hlw
          go_wp2_with fail
          refine (ones_any 4 x _ (by decide) (by have := HWL.out; omega)).mono ?_
          rintro e w5 ⟨rfl, hb5⟩
          have a3 := HA2.out
          generalize onesL x 4 = ox at *
          have hz5 := hz.below hb5 hz.lt
          have hbel5 := hbel.trans (hb5.mono hbel.size)
          clear hz hbel hb5 HA2
          go_wp2_with fail
          go_roundw
          case rel => first
            | exact ⟨j + 1, by have := HJ.out; omega, by go_num, by rw [HO1.out], hz5, hbel5⟩
            | ((repeat apply Exists.intro); exact ⟨⟨j + 1, by have := HJ.out; omega, by go_num, by rw [HO1.out], hz5, hbel5⟩, rfl⟩)
          case measure => have := HJ.out; simp [intOf]; omega
        · have hj4' : j = 4 := by omega
          subst hj4'
          rw [outTo_all]
          go_wp2_with fail
          go_ret
          exact ⟨by rw [HD.out]; rfl, hbel⟩
end Go.Proofs.Ytjnhlkaafnaooaa
