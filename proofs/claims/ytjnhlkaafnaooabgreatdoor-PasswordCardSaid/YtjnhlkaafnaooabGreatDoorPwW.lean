import Derived.Test.YtjnhlkaafnaooabGreatDoorRmT
import Derived.Test.YtjnhlkaafnaooabGreatDoorRmR
import Derived.Test.YtjnhlkaafnaooabGreatDoorRmP
import Derived.Test.YtjnhlkaafnaooabGreatDoorRmM
namespace Go.Proofs.YtjnhlkaafnaooabGreatDoor
open Go.RowKit
/-- The law's world, and what lies beside it. -/
structure PwI (w0 w : World) (x : DX) (b bW : Nat) (m : DM) (v : VM) (wv : Value) (l : LM) (wr : List (Nat × List UInt8)) (sl tr ow : List (List UInt8)) : Prop where
  sys : Sys w x b m v wv
  st : LawSt w bW x.d b l wr sl tr ow
  ap : ∀ j ∈ l.set bW, Foreign x b wv j
  bel : Below w0.heap.size w0 w
  lo : ∀ j ∈ Sys.set x b wv, w0.heap.size ≤ j
  lw : ∀ j ∈ l.set bW, w0.heap.size ≤ j
section
variable {w0 w w' : World} {x : DX} {b bW : Nat} {m m' : DM} {v v' : VM} {wv wv' : Value} {l l' : LM} {wr wr' : List (Nat × List UInt8)} {sl tr ow sl' tr' ow' : List (List UInt8)}
theorem PwI.wl (h : PwI w0 w x b bW m v wv l wr sl tr ow) : w.cell? ⟨bW, 1, none⟩ = some (.pointer (some ⟨b, 0, none⟩)) := by rw [h.st.at_.c 1]; rfl
theorem PwI.below (h : PwI w0 w x b bW m v wv l wr sl tr ow) (hb : Below w.heap.size w w') : PwI w0 w' x b bW m v wv l wr sl tr ow :=
  ⟨h.sys.later hb, h.st.below hb, h.ap, h.bel.trans (hb.mono h.bel.size), h.lo, h.lw⟩
/-- A step of the vault's. -/
theorem PwI.step (h : PwI w0 w x b bW m v wv l wr sl tr ow) (hs : Sys w' x b m' v' wv') (hk : Kp (Sys.set x b wv) w w') (hl : Later wv wv' w.heap.size) : PwI w0 w' x b bW m' v' wv' l wr sl tr ow :=
  ⟨hs, h.st.kp hk (fun j hj => (h.ap j hj).1), fun j hj => ⟨fun e => (hl.sub e).elim (h.ap j hj).1 (fun g => by have := h.st.bound hj; omega), (h.ap j hj).2⟩, below_kp h.bel hk h.lo, fun j hj => by
    rcases hl.sub hj with e | e
    · exact h.lo j e
    · have := h.bel.size; omega, h.lw⟩
/-- A step of the law's. -/
theorem PwI.law (h : PwI w0 w x b bW m v wv l wr sl tr ow) (hs : LawSt w' bW x.d b l' wr' sl' tr' ow') (hk : Kp (l.set bW) w w') (hl : ∀ j ∈ l'.set bW, j ∈ l.set bW ∨ w.heap.size ≤ j) : PwI w0 w' x b bW m v wv l' wr' sl' tr' ow' :=
  ⟨h.sys.kp hk h.ap, hs, fun j hj => (hl j hj).elim (h.ap j) (Foreign.new h.sys), below_kp h.bel hk h.lw, h.lo, fun j hj => (hl j hj).elim (h.lw j) (fun e => by have := h.bel.size; omega)⟩
end
set_option maxRecDepth 100000 in
set_option maxHeartbeats 4000000 in
theorem password_short (p o k s : List UInt8) (w : World) (h : 40 < p.length ∨ 40 < o.length ∨ p = o ∨ k.length = 0 ∨ 8 < k.length ∨ 16 < s.length) :
    Calls Tryz.prog 6 #[.string ⟨p.toArray⟩, .string ⟨o.toArray⟩, .string ⟨k.toArray⟩, .string ⟨s.toArray⟩] w fun e w' => e = .returned (.bool true) ∧ Below w.heap.size w w' := by
  have z1 : (ByteArray.mk p.toArray).size = p.length := rfl
  have z2 : (ByteArray.mk o.toArray).size = o.length := rfl
  have z3 : (ByteArray.mk k.toArray).size = k.length := rfl
  have z4 : (ByteArray.mk s.toArray).size = s.length := rfl
  by_cases g1 : 40 < p.length
  · have i1 : (40 : Int) < (p.length : Int) := by omega
    clear h g1
    generalize p.length = L1 at *
    generalize o.length = L2 at *
    generalize k.length = L3 at *
    generalize s.length = L4 at *
    go_enter Tryz.func6, Tryz.ntmps6
    go_wp2_with fail
    go_ret
    exact ⟨rfl, Below.refl _ _⟩
  · have i1 : decide ((40 : Int) < (p.length : Int)) = false := by simp; omega
    have n1 : ¬ (40 : Int) < (p.length : Int) := by omega
    by_cases g2 : 40 < o.length
    · have i2 : (40 : Int) < (o.length : Int) := by omega
      clear h g1 g2
      generalize p.length = L1 at *
      generalize o.length = L2 at *
      generalize k.length = L3 at *
      generalize s.length = L4 at *
      go_enter Tryz.func6, Tryz.ntmps6
      go_wp2_with fail
      go_ret
      exact ⟨rfl, Below.refl _ _⟩
    · have i2 : decide ((40 : Int) < (o.length : Int)) = false := by simp; omega
      have n2 : ¬ (40 : Int) < (o.length : Int) := by omega
      by_cases g3 : p = o
      · subst g3
        clear h g1 g2
        generalize p.length = L1 at *
        generalize k.length = L3 at *
        generalize s.length = L4 at *
        go_enter Tryz.func6, Tryz.ntmps6
        go_wp2_with fail
        go_ret
        exact ⟨rfl, Below.refl _ _⟩
      · have i3 : (p == o) = false := by simpa using g3
        by_cases g4 : k.length = 0
        · have i4 : ((k.length : Int) == 0) = true := by rw [g4]; rfl
          rw [g4] at z3
          clear h g1 g2 g3
          generalize p.length = L1 at *
          generalize o.length = L2 at *
          generalize s.length = L4 at *
          go_enter Tryz.func6, Tryz.ntmps6
          go_wp2_with fail
          go_ret
          exact ⟨rfl, Below.refl _ _⟩
        · have i4 : ((k.length : Int) == 0) = false := by rw [beq_eq_false_iff_ne]; omega
          by_cases g5 : 8 < k.length
          · have i5 : (8 : Int) < (k.length : Int) := by omega
            clear h g1 g2 g3 g5
            generalize p.length = L1 at *
            generalize o.length = L2 at *
            generalize k.length = L3 at *
            generalize s.length = L4 at *
            go_enter Tryz.func6, Tryz.ntmps6
            go_wp2_with fail
            go_ret
            exact ⟨rfl, Below.refl _ _⟩
          · have i5 : decide ((8 : Int) < (k.length : Int)) = false := by simp; omega
            have n5 : ¬ (8 : Int) < (k.length : Int) := by omega
            have i6 : (16 : Int) < (s.length : Int) := by
              rcases h with h | h | h | h | h | h
              · omega
              · omega
              · exact absurd h g3
              · omega
              · omega
              · omega
            clear h g1 g2 g3 g5
            generalize p.length = L1 at *
            generalize o.length = L2 at *
            generalize k.length = L3 at *
            generalize s.length = L4 at *
            go_enter Tryz.func6, Tryz.ntmps6
            go_wp2_with fail
            go_ret
            exact ⟨rfl, Below.refl _ _⟩
set_option maxRecDepth 100000 in
set_option maxHeartbeats 8000000 in
theorem password_law (pass other key val : List UInt8) (w : World) (hp : pass.length ≤ 40) (ho : other.length ≤ 40) (hne : pass ≠ other) (h1 : 1 ≤ key.length) (h8 : key.length ≤ 8) (h16 : val.length ≤ 16)
    (hk : Cells w 1 .u32 kWords) (h0 : Cells w 0 .u32 hWords) :
    Calls Tryz.prog 6 #[.string ⟨pass.toArray⟩, .string ⟨other.toArray⟩, .string ⟨key.toArray⟩, .string ⟨val.toArray⟩] w fun e w' => e = .returned (.bool true) ∧ Below w.heap.size w w' := by
  have z1 : (ByteArray.mk pass.toArray).size = pass.length := rfl
  have z2 : (ByteArray.mk other.toArray).size = other.length := rfl
  have z3 : (ByteArray.mk key.toArray).size = key.length := rfl
  have z4 : (ByteArray.mk val.toArray).size = val.length := rfl
  have i1 : decide ((40 : Int) < (pass.length : Int)) = false := by simp; omega
  have i2 : decide ((40 : Int) < (other.length : Int)) = false := by simp; omega
  have i3 : (pass == other) = false := by simpa using hne
  have i4 : ((key.length : Int) == 0) = false := by rw [beq_eq_false_iff_ne]; omega
  have n4 : ¬ (key.length = 0) := by omega
  have i5 : decide ((8 : Int) < (key.length : Int)) = false := by simp; omega
  have i6 : decide ((16 : Int) < (val.length : Int)) = false := by simp; omega
  have HA := hide (And.intro hp (And.intro ho (And.intro hne (And.intro h1 (And.intro h8 h16)))))
  have hkl := hk.lt
  have h0l := h0.lt
  have HW := hide (world_law 3 20 w (by decide) (by decide) (by decide) hk h0)
  clear hp ho hne h1 h8 h16 hk h0
  generalize pass.length = L1 at z1 i1
  generalize other.length = L2 at z2 i2
  generalize key.length = L3 at z3 i4 n4 i5
  generalize val.length = L4 at z4 i6
  go_enter Tryz.func6, Tryz.ntmps6
  go_wp2_with fail
  refine HW.out.mono ?_
  rintro e w1 ⟨x, b, bW, rfl, s1, l1, a1, be1, loW, loS⟩
  have HF := hide (formatted_new x b bW pwM0 zeroVM (.slice none 0 0) pass w1 s1 l1 ⟨a1.2, by omega, by omega⟩ rfl HA.out.1 (by decide) (by decide) (by decide))
  have H1 := hide (And.intro s1 (And.intro l1 (And.intro a1 (And.intro be1 (And.intro loW loS)))))
  have HT := hide (And.intro hkl h0l)
  clear s1 l1 a1 be1 loW loS HW hkl h0l
  go_wp2_with fail
  refine HF.out.mono ?_
  rintro e w2 ⟨rfl, wv2, bt, bp, may, tv, kit2, l2, k2, lt2, htv, hbW2⟩
  obtain ⟨s1, l1, a1, be1, loW, loS⟩ := H1.out
  have hz1 := be1.size
  have hmem : ∀ j ∈ LM.set bW ⟨may, true, 0, .slice none 0 0, 0, .slice none 0 0, pass, tv, .slice none 0 0⟩, j = bW ∨ tv.ownBlock = some j := fun j hj => by
    rcases LM.mem.1 hj with e | e | e | e | e
    · exact .inl e
    · cases e
    · cases e
    · exact .inr e
    · cases e
  have i2 : PwI w w2 x b bW _ _ wv2 _ _ _ _ _ := ⟨kit2.sys, l2, fun j hj => by
      rcases hmem j hj with rfl | e
      · exact ⟨hbW2, by have := HT.out.1; omega, by have := HT.out.2; omega⟩
      · have := htv j e
        exact ⟨this.2, by have := HT.out.1; omega, by have := HT.out.2; omega⟩,
    below_kp be1 k2 (fun j hj => by
      rcases List.mem_cons.1 hj with rfl | e
      · exact loW
      · exact loS j e), fun j hj => by
      rcases lt2.sub hj with e | e
      · exact loS j e
      · omega, fun j hj => by
      rcases hmem j hj with rfl | e
      · exact loW
      · have := htv j e; omega⟩
  have wl2 := i2.wl
  have HPU := hide (put_one x b _ _ wv2 key val w2 kit2.sys rfl rfl HA.out.2.2.2.1 HA.out.2.2.2.2.1 HA.out.2.2.2.2.2)
  have H2 := hide (And.intro kit2 i2)
  clear s1 l1 a1 be1 loW loS hz1 hmem kit2 l2 k2 lt2 htv hbW2 i2 HF H1 HT
  go_wp2_with fail
  refine HPU.out.mono ?_
  rintro e w3 ⟨rfl, cv, s3, oc3, hcv3, k3⟩
  obtain ⟨kit2, i2⟩ := H2.out
  have bs : b ∈ Sys.set x b wv2 := by simp [Sys.set]
  have hbt : bt ∉ [b] := by simp; rintro rfl; exact kit2.abt.2 bs
  have hbp : bp ∉ [b] := by simp; rintro rfl; exact kit2.abp.2 bs
  have kit3 := kit2.step s3 k3 (Later.refl _ _) hbt hbp rfl rfl rfl
  have i3 := i2.step s3 (k3.mono (fun j hj => by simp at hj; subst hj; exact bs)) (Later.refl _ _)
  have wl3 := i3.wl
  have hb0 : Below w3.heap.size w3 (w3.alloc (freshWork b)) := (Below.refl _ _).alloc (Nat.le_refl _) _
  have hap := apply_none x b w3.heap.size 0 _ _ wv2 cv key val _ (kit3.below hb0).sys rfl (fresh_at w3 b) (oc3.kp (S := []) (Kp.of_below hb0) (by simp)) (fun j hj => by have := owns_lt oc3 j hj; omega)
  have HCO := hide (commit_ok x b bt bp _ _ wv2 (tagsL pass salt0) (keysL (pagesL pass salt0)) key val 2 [] [] w3 kit3 rfl hap (pw_room _ _ rfl rfl rfl) (by show freeTo (List.replicate 48 false) (pwM0.begin (tagsL pass salt0) salt0 0 []).blocks.length = [2]; rw [pw_bl]; exact pw_free) (by show 2 < (pwM0.begin (tagsL pass salt0) salt0 0 []).blocks.length; rw [pw_bl]; decide) (by show 0 < 1000; decide) (by show 2 < 9223372036854775808; decide) (by show 2 < 1048576; decide) (by show 2 < 20; decide) (by show 2 < 99000; decide) HA.out.2.2.2.2.1 HA.out.2.2.2.2.2 (by simp) (by simp))
  have H3 := hide (And.intro kit3 i3)
  clear kit2 i2 bs hbt hbp kit3 i3 hb0 hap s3 oc3 hcv3 k3 HPU H2
  go_wp2_with fail
  refine HCO.out.mono ?_
  rintro e w4 ⟨rfl, wv4, kit4, k4, lt4⟩
  have hkl4 := kit4.key.len
  obtain ⟨M, v4, P, pm, lf, ho4, hpl4, hdg4, hP4, kit4⟩ : ∃ M v4 P, PwM M (tagsL pass salt0) P ∧ OneLeaf M v4 (keysL (pagesL pass salt0)) key val ∧ v4.opened = true ∧ v4.place = 2 ∧ v4.digest = shaL P ∧ P.length = 256 ∧ Kit w4 x b M v4 wv4 bt bp (tagsL pass salt0) (keysL (pagesL pass salt0)) :=
    ⟨_, _, _, pw_state (tagsL pass salt0) (keysL (pagesL pass salt0)) key val { zeroVM with salt := salt0, tv := .pointer (some ⟨bt, 0, none⟩), pv := .pointer (some ⟨bp, 0, none⟩), version := 2, session := 2, opened := true, cv := cv } rfl rfl hkl4,
      save_leaf (tagsL pass salt0) (keysL (pagesL pass salt0)) (pwM0.begin (tagsL pass salt0) salt0 0 []) { zeroVM with salt := salt0, tv := .pointer (some ⟨bt, 0, none⟩), pv := .pointer (some ⟨bp, 0, none⟩), version := 2, session := 2, opened := true, cv := cv } 2 key val [] (.slice none 0 0) (by decide) (by rw [pw_bl]; decide) (by simp [pwM0, DM.begin, DM.advance, DM.settle, DM.flush, DM.write]) hkl4, rfl, rfl, rfl, leafPage_len _ _ _ _ _ _ hkl4, kit4⟩
  have i4 := H3.out.2.step kit4.sys k4 lt4
  have wl4 := i4.wl
  have HCL := hide (close_open x b _ _ wv4 w4 kit4.sys ho4)
  have HM := hide (And.intro pm (And.intro lf (And.intro hpl4 (And.intro hdg4 hP4))))
  have H4 := hide i4
  clear i4 pm lf ho4 hpl4 hdg4 hP4 kit4 k4 lt4 H3 HCO
  go_wp2_with fail
  refine HCL.out.mono ?_
  rintro e w5 ⟨rfl, s5, k5⟩
  have i5 := H4.out.step s5 (k5.mono (fun j hj => by simp at hj; subst hj; simp [Sys.set])) (Later.refl _ _)
  have c53 : w5.cell? ⟨bW, 3, none⟩ = some (.bool true) := by rw [i5.st.at_.c 3]; rfl
  have f53 := i5.st.at_.fr 3
  have l6 := i5.st.cell 3 (.bool false) (i5.st.at_.set3 false) rfl rfl rfl rfl
  have k6 : Kp [bW] w5 (w5.setCell ⟨bW, 3, none⟩ (.bool false)) := (Kp.refl _ w5).setCell bW 3 _ (.inl (by simp))
  have i6 := i5.law l6 (k6.mono (fun j hj => by simp at hj; subst hj; exact LM.mem.2 (.inl rfl))) (fun j hj => .inl hj)
  have HNO := hide (nonces_any x b bW _ _ wv4 _ [pass] _ ⟨⟨i6.sys, i6.st, rfl, rfl, rfl, i6.ap, fun j hj => .inl hj, Kp.refl _ _⟩, rfl, Nat.zero_le _⟩ (HM.out.1.w256 HM.out.2.2.2.2) (by rw [HM.out.1.wr]; show 4 ≤ 1000; decide))
  have H6 := hide i6
  clear i5 l6 k6 i6 s5 k5 HCL H4
  go_wp2_with fail
  refine HNO.out.mono ?_
  rintro e w7 ⟨rfl, l7, sl7, n7⟩
  have i7 := H6.out.law n7.mid.st n7.mid.kp n7.mid.lo
  have ho7 : l7.opened = false := n7.mid.op
  have HTR := hide (tries_new bW x.d b l7 _ _ _ _ other w7 i7.st ho7 HA.out.2.1 (by simpa using Ne.symm HA.out.2.2.1) (by simp))
  have H7 := hide i7
  clear i7 n7 ho7 HNO H6 wl2 wl3 wl4
  go_wp2_with fail
  refine HTR.out.mono ?_
  rintro e w8 ⟨rfl, tv8, l8, k8, hn8⟩
  have i7 := H7.out
  have hm8 : ∀ j, (j = bW ∨ l7.tv.ownBlock = some j) → j ∈ l7.set bW := fun j hj => LM.mem.2 (hj.elim .inl (fun e => .inr (.inr (.inr (.inl e)))))
  have i8 := i7.law l8 (k8.mono (fun j hj => by
    simp only [List.mem_cons, Option.mem_toList] at hj
    exact hm8 j hj)) (fun j hj => by
    rcases LM.mem.1 hj with e | e | e | e | e
    · exact .inl (LM.mem.2 (.inl e))
    · exact .inl (LM.mem.2 (.inr (.inl e)))
    · exact .inl (LM.mem.2 (.inr (.inr (.inl e))))
    · rcases hn8 j e with g | g
      · exact .inl (LM.mem.2 (.inr (.inr (.inr (.inl g)))))
      · exact .inr g
    · exact .inl (LM.mem.2 (.inr (.inr (.inr (.inr e))))))
  have wl8 := i8.wl
  obtain ⟨pm, lf, hpl, hdg, hP⟩ := HM.out
  obtain ⟨sA, sP, sD⟩ := pm.sl3
  have hl0 : (M.look 0).length = 256 := by rw [pm.l0]; exact slotL_len _ _ _ _ _
  have hl1 : (M.look 1).length = 256 := by rw [pm.l1]; exact slotL_len _ _ _ _ _
  have hpc : M.count % 2 = 1 := by rw [pm.ct]
  have hpc0 : (M.count + 1) % 2 = 0 := by rw [pm.ct]
  have hopen := fun (pw : List UInt8) (w : World) (wv : Value) (h : Sys w x b M shutVM wv) (hl : pw.length ≤ 40) => open_gen x b M shutVM wv pw (M.look 1) w h rfl hl hl0 hl1 (by rw [pm.ct, pm.ce]; decide) (by rw [pm.wr]; show 4 < 99000; decide) (by rw [hpc]) (by rw [hpc0, pm.ct]; exact pm.no4 pw) (by rw [sP]; decide) (by rw [sP, pm.bl]; decide) (by rw [sP, pm.l2]; exact hP) (fun q => by
    rw [sP, pm.bl]
    rcases Nat.lt_or_ge q 2 with g | g
    · exact .inr (.inl g)
    · rcases Nat.lt_or_ge q 3 with g' | g'
      · obtain rfl : q = 2 := by omega
        exact .inl (by decide)
      · exact .inr (.inr g'))
  have HO := hide hopen
  have HOP := hide (hopen other w8 wv4 i8.sys HA.out.2.1)
  have H8 := hide i8
  clear pm lf hpl hdg hP sA sP sD hl0 hl1 hpc hpc0 hopen i7 i8 l8 k8 hn8 hm8 HTR H7
  go_wp2_with fail
  refine HOP.out.mono ?_
  rintro e w9 (⟨hoc, rfl, s9, k9⟩ | ⟨hoc, rfl, wv9, bt9, bp9, kit9, k9, lt9⟩)
  · have i9 := H8.out.step s9 (k9.mono (fun j hj => by simp at hj; subst hj; simp [Sys.set])) (Later.refl _ _)
    have wl9 := i9.wl
    have HO2 := hide (HO.out pass w9 wv4 s9 HA.out.1)
    have H9 := hide i9
    clear i9 s9 k9 hoc HOP H8 HO
    go_wp2_with fail
    refine HO2.out.mono ?_
    rintro e w10 hr
    obtain ⟨pm, lf, hpl, hdg, hP⟩ := HM.out
    obtain ⟨sA, sP, sD⟩ := pm.sl3
    have hok : openC pass M (M.look 1) = true := by
      unfold openC
      have e1 : isSlotL pass (M.look 1) M.count = true := by
        rw [pm.ct, pm.l1]
        exact slot_own pass salt0 3 2 (shaL P) salt0_len (by decide) (shaL_len P)
      have e2 := lf.hd
      have e3 := lf.ho
      rw [hpl] at e2 e3
      rw [e1, sA, sP, sD]
      unfold lookC
      rw [← hdg, if_pos e2, e3, Option.bind_some, leaf_survey key val HA.out.2.2.2.1 HA.out.2.2.2.2.1 HA.out.2.2.2.2.2]
      rfl
    rcases hr with ⟨hf, _⟩ | ⟨_, rfl, wv10, bt10, bp10, kit10, k10, lt10⟩
    · rw [hok] at hf; cases hf
    · have i10 := H9.out.step kit10.sys k10 lt10
      have wl10 := i10.wl
      have lf10 : OneLeaf (M.begin (tagsL pass (slotSalt (M.look 1))) (slotSalt (M.look 1)) (slotPlace (M.look 1)) (slotDig (M.look 1))) (shutVM.begun (M.look 1) bt10 bp10 M.count) (keysL (pagesL pass (slotSalt (M.look 1)))) key val := by
        have e1 := lf.hd
        have e2 := lf.ho
        rw [hpl] at e1 e2
        refine ⟨?_, ?_, ?_, ?_, ?_⟩
        · show 2 ≤ slotPlace (M.look 1); rw [sP]; decide
        · show slotPlace (M.look 1) < _; rw [begin_len, sP, pm.bl]; decide
        · show (DM.look _ (slotPlace (M.look 1))).length = 256
          rw [sP, begin_look _ _ _ _ _ _ (by decide) (by rw [pm.bl]; decide), pm.l2]; exact hP
        · show shaL (DM.look _ (slotPlace (M.look 1))) = slotDig (M.look 1)
          rw [sP, begin_look _ _ _ _ _ _ (by decide) (by rw [pm.bl]; decide), sD, ← hdg]; exact e1
        · show openL _ (DM.look _ (slotPlace (M.look 1))) (slotPlace (M.look 1)) = _
          rw [sA, sP, begin_look _ _ _ _ _ _ (by decide) (by rw [pm.bl]; decide)]; exact e2
      have HG := hide (get_leaf x b bt10 bp10 _ _ wv10 _ _ key val w10 kit10 rfl rfl lf10 HA.out.2.2.2.1 HA.out.2.2.2.2.1 HA.out.2.2.2.2.2)
      have HB := hide i10.bel
      clear lf10 i10 kit10 k10 lt10 hok pm lf hpl hdg hP sA sP sD HO2 H9 HM
      go_wp2_with fail
      refine HG.out.mono ?_
      rintro e w11 ⟨rfl, hb11⟩
      have hbe := HB.out.trans (hb11.mono HB.out.size)
      clear HG HB hb11
      go_wp2_with fail
      go_ret
      exact ⟨rfl, hbe⟩
  · have i9 := H8.out.step kit9.sys k9 lt9
    have wl9 := i9.wl
    obtain ⟨pm, lf, hpl, hdg, hP⟩ := HM.out
    have hl1 : (M.look 1).length = 256 := by rw [pm.l1]; exact slotL_len _ _ _ _ _
    have his : isSlotL other (M.look 1) M.count = true := by
      unfold openC at hoc
      rw [Bool.and_eq_true] at hoc
      exact hoc.1
    have hwl : M.wrote.length = 4 := by rw [pm.wr]; rfl
    have HWI := hide (witness_any bW x.d b _ _ _ _ _ 3 1 (M.look 1) other w9 i9.st i9.sys.hk i9.sys.h0 (fun e he => pm.w256 hP e (List.mem_of_mem_take he)) (fun e he => by
      simp at he
      rcases he with rfl | rfl
      · exact HA.out.1
      · exact HA.out.2.1) (by simp) (by simp [hwl]) (by simp) (by rw [List.take_length, pm.wr, pm.l1]; rfl) rfl (fun he => HA.out.2.2.1 (List.eq_of_mem_replicate he).symm) (isSlotL_mac hl1 his))
    have HB := hide i9.bel
    clear i9 pm lf hpl hdg hP hl1 his hwl hoc kit9 k9 lt9 HOP H8 HO HM
    go_wp2_with fail
    refine HWI.out.mono ?_
    rintro e w10 ⟨rfl, hb10⟩
    have hbe := HB.out.trans (hb10.mono HB.out.size)
    clear HWI HB hb10
    go_wp2_with fail
    go_ret
    exact ⟨rfl, hbe⟩
end Go.Proofs.YtjnhlkaafnaooabGreatDoor
