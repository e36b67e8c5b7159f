import Derived.Test.YtjnhlkaafnaooabGreatDoorRmM
namespace Go.Proofs.YtjnhlkaafnaooabGreatDoor
open Go.RowKit
/-- What was there before the law began is as it was. -/
theorem below_kp {w0 w w' : World} {S : List Nat} (h : Below w0.heap.size w0 w) (k : Kp S w w') (hs : ∀ j ∈ S, w0.heap.size ≤ j) : Below w0.heap.size w0 w' :=
  ⟨k.os.trans h.os, k.tape.trans h.tape, k.output.trans h.output, Nat.le_trans h.size k.size, fun j hj => (k.block j (Nat.lt_of_lt_of_le hj h.size) (fun e => by have := hs j e; omega)).trans (h.block j hj)⟩
structure RmI (w0 w : World) (x : DX) (b bt bp bW : Nat) (tk rk key : List UInt8) (n c i : Nat) (m : DM) (v : VM) (wv : Value) : Prop where
  kit : Kit w x b m v wv bt bp tk rk
  op : v.opened = true
  bl : m.blocks.length = n
  ct : m.count = 2 + i
  ce : m.ceiling = c
  ve : v.version = 2 + i
  se : v.session = 2
  dn : v.done = i
  wr : m.wrote.length = 2 + 2 * i
  us : v.used = usedAt v.place
  z : i = 0 → v.place = 0
  nz : 0 < i → v.place = 2 ∨ v.place = 3
  lf : 0 < i → OneLeaf m v rk key [UInt8.ofNat (i - 1)]
  wl : w.cell? ⟨bW, 1, none⟩ = some (.pointer (some ⟨b, 0, none⟩))
  aw : Apart w x b wv bW
  bel : Below w0.heap.size w0 w
  lo : ∀ j ∈ Sys.set x b wv, w0.heap.size ≤ j
section
variable {w0 w : World} {x : DX} {b bt bp bW : Nat} {tk rk key : List UInt8} {n c i : Nat} {m : DM} {v : VM} {wv : Value}
theorem RmI.below {w' : World} (h : RmI w0 w x b bt bp bW tk rk key n c i m v wv) (hb : Below w.heap.size w w') : RmI w0 w' x b bt bp bW tk rk key n c i m v wv :=
  ⟨h.kit.below hb, h.op, h.bl, h.ct, h.ce, h.ve, h.se, h.dn, h.wr, h.us, h.z, h.nz, h.lf, (hb.cell (p := ⟨bW, 1, none⟩) h.aw.1).trans h.wl, h.aw.step (Later.refl _ _) hb.size, h.bel.trans (hb.mono h.bel.size), h.lo⟩
theorem put_ri (y : List UInt8) (h : RmI w0 w x b bt bp bW tk rk key n c i m v wv) (hcv : v.cv = .slice none 0 0) (h1 : 1 ≤ key.length) (h8 : key.length ≤ 8) (h16 : y.length ≤ 16) :
    Calls Tryz.prog 12 #[.pointer (some ⟨b, 0, none⟩), .string ⟨key.toArray⟩, .string ⟨y.toArray⟩] w fun e w' => e = .returned (.int .i64 0) ∧ ∃ cv, RmI w0 w' x b bt bp bW tk rk key n c i m { v with cv := cv } wv ∧ OneChange w' cv key y false := by
  refine (put_one x b m v wv key y w h.kit.sys h.op hcv h1 h8 h16).mono ?_
  rintro e w' ⟨rfl, cv, s, oc, hc, k⟩
  have bs : b ∈ Sys.set x b wv := by simp [Sys.set]
  have hbt : bt ∉ [b] := by simp; rintro rfl; exact h.kit.abt.2 bs
  have hbp : bp ∉ [b] := by simp; rintro rfl; exact h.kit.abp.2 bs
  have hbW : bW ∉ [b] := by simp; rintro rfl; exact h.aw.2 bs
  exact ⟨rfl, cv, ⟨h.kit.step s k (Later.refl _ _) hbt hbp rfl rfl rfl, h.op, h.bl, h.ct, h.ce, h.ve, h.se, h.dn, h.wr, h.us, h.z, h.nz, fun hi => ⟨(h.lf hi).h2, (h.lf hi).hp, (h.lf hi).hbl, (h.lf hi).hd, (h.lf hi).ho⟩,
    (World.cell?_of_block (a := ⟨bW, 1, none⟩) (k.block bW h.aw.1 hbW)).trans h.wl, h.aw.step (Later.refl _ _) k.size, below_kp h.bel k (fun j hj => by simp at hj; subst hj; exact h.lo _ bs), h.lo⟩, oc⟩
theorem RmI.free (h : RmI w0 w x b bt bp bW tk rk key n c i m v wv) (h3 : 3 ≤ n) (hn : n = 3 → i = 0) : ∃ p rest rl, freeTo v.used m.blocks.length = p :: rest ∧ 2 ≤ p ∧ p < 4 ∧ p < n ∧ (∀ q ∈ rl, q < 48) ∧ rl.length ≤ 48 ∧ rl = (if i = 0 then [] else [v.place]) ∧ freed rl (v.used.set p true) = usedAt p := by
  rw [h.bl, h.us]
  rcases Nat.eq_zero_or_pos i with hi | hi
  · rw [h.z hi]
    obtain ⟨rest, hr⟩ := freeTo_first (usedAt 0) n h3 (by decide)
    exact ⟨2, rest, [], hr, by omega, by omega, by omega, by simp, by simp, by rw [if_pos hi], used_first⟩
  · have hn4 : 4 ≤ n := by
      rcases Nat.lt_or_ge n 4 with g | g
      · have := hn (by omega); omega
      · exact g
    have hne : ¬ i = 0 := by omega
    rcases h.nz hi with hp | hp
    · rw [hp]
      obtain ⟨rest, hr⟩ := freeTo_next (usedAt 2) n hn4 (by decide) (by decide)
      exact ⟨3, rest, [2], hr, by omega, by omega, by omega, by simp, by simp, by rw [if_neg hne], used_23⟩
    · rw [hp]
      obtain ⟨rest, hr⟩ := freeTo_first (usedAt 3) n h3 (by decide)
      exact ⟨2, rest, [3], hr, by omega, by omega, by omega, by simp, by simp, by rw [if_neg hne], used_32⟩
theorem RmI.apply (y : List UInt8) (h : RmI w0 w x b bt bp bW tk rk key n c i m v wv) (oc : OneChange w v.cv key y false) (h1 : 1 ≤ key.length) (h8 : key.length ≤ 8) :
    Calls Tryz.prog 34 #[.pointer (some ⟨w.heap.size, 0, none⟩), v.cv] (w.alloc (freshWork b)) fun e w' => e = .returned (.int .i64 0) ∧ Made (w.alloc (freshWork b)) w' w.heap.size b key y (if i = 0 then [] else [v.place]) := by
  have hb0 : Below w.heap.size w (w.alloc (freshWork b)) := (Below.refl _ _).alloc (Nat.le_refl _) _
  have k0 := h.kit.below hb0
  have oc0 : OneChange (w.alloc (freshWork b)) v.cv key y false := oc.kp (S := []) (Kp.of_below hb0) (by simp)
  have hcb : ∀ j, v.cv.ownBlock = some j → j ≠ w.heap.size := fun j hj => by have := owns_lt oc j hj; omega
  rcases Nat.eq_zero_or_pos i with hi | hi
  · rw [if_pos hi]
    exact apply_none x b w.heap.size 0 m v wv v.cv key y _ k0.sys (h.z hi) (fresh_at w b) oc0 hcb
  · rw [if_neg (by omega)]
    have l := h.lf hi
    exact apply_leaf x b bp w.heap.size 0 m v wv v.cv rk key _ y _ k0.sys k0.pv k0.key (fresh_at w b) oc0 hcb (Foreign.new h.kit.sys (Nat.le_refl _)) (by have := h.kit.key.lt; omega) (by decide) l.h2 l.hp l.hbl l.hd l.ho h1 h8 (by simp)
theorem commit_ri (h : RmI w0 w x b bt bp bW tk rk key n c i m v wv) (oc : OneChange w v.cv key [UInt8.ofNat i] false) (h1 : 1 ≤ key.length) (h8 : key.length ≤ 8) (h3 : 3 ≤ n) (hi : i < 40) (hic : 2 + i < c) (hn : n = 3 → i = 0) :
    Calls Tryz.prog 13 #[.pointer (some ⟨b, 0, none⟩)] w fun e w' => e = .returned (.int .i64 0) ∧ ∃ m' v' wv', RmI w0 w' x b bt bp bW tk rk key n c (i + 1) m' v' wv' ∧ v'.cv = .slice none 0 0 := by
  obtain ⟨p, rest, rl, hf, hp2, hp4, hpn, hq, hql, hrl, hus⟩ := h.free h3 hn
  have hap := h.apply [UInt8.ofNat i] oc h1 h8
  rw [← hrl] at hap
  have hroom : roomL m v 1 = 0 := by
    unfold roomL
    rw [if_neg (by rw [h.ce, h.ve]; omega), if_neg (by rw [h.dn]; omega), if_neg (by rw [hf]; simp)]
  have hpm : p < m.blocks.length := by rw [h.bl]; exact hpn
  have hsm := h.kit.sys.disk.same
  have hrk := h.kit.key.len
  refine (commit_ok x b bt bp m v wv tk rk key [UInt8.ofNat i] p rest rl w h.kit h.op hap hroom hf hpm (by rw [h.dn]; omega) (by rw [h.se]; decide) (by rw [h.ve]; omega) (by rw [h.ct, h.ce]; exact hic) (by rw [h.wr]; omega) h8 (by simp) hq hql).mono ?_
  rintro e w' ⟨rfl, wv', kit', k', lt'⟩
  refine ⟨rfl, _, _, wv', ⟨kit', h.op, by rw [saveM_len]; exact h.bl, by rw [saveM_count, h.ct]; omega, by rw [saveM_ceiling]; exact h.ce, by show v.version + 1 = _; rw [h.ve]; omega, h.se, by show v.done + 1 = _; rw [h.dn], by rw [saveM_wrote, h.wr]; omega, hus, fun e => by omega, fun _ => by show p = 2 ∨ p = 3; omega, fun _ => ?_, ?_, ?_, below_kp h.bel k' h.lo, fun j hj => ?_⟩, rfl⟩
  · exact save_leaf tk rk m v p key [UInt8.ofNat i] rl _ hp2 hpm hsm hrk
  · exact (World.cell?_of_block (a := ⟨bW, 1, none⟩) (h.aw.block k')).trans h.wl
  · exact h.aw.step lt' k'.size
  · rcases lt'.sub hj with e | e
    · exact h.lo j e
    · have := h.bel.size; omega
theorem commit_last (h : RmI w0 w x b bt bp bW tk rk key n c i m v wv) (y : List UInt8) (oc : OneChange w v.cv key y false) (h1 : 1 ≤ key.length) (h8 : key.length ≤ 8) (hi : i ≤ 40) (z : Nat) (hz : roomL m v 1 = z) (hz0 : 0 < z) :
    Calls Tryz.prog 13 #[.pointer (some ⟨b, 0, none⟩)] w fun e w' => e = .returned (.int .i64 z) ∧ Below w.heap.size w w' :=
  commit_no x b bt bp m v wv tk rk key y _ z w h.kit h.op (h.apply y oc h1 h8) hz hz0 (by rw [h.dn]; omega)
theorem get_ri (h : RmI w0 w x b bt bp bW tk rk key n c (i + 1) m v wv) (hcv : v.cv = .slice none 0 0) (h1 : 1 ≤ key.length) (h8 : key.length ≤ 8) :
    Calls Tryz.prog 20 #[.pointer (some ⟨b, 0, none⟩), .string ⟨key.toArray⟩] w fun e w' => e = .returned (.tuple #[strV [UInt8.ofNat i], .int .i64 0]) ∧ RmI w0 w' x b bt bp bW tk rk key n c (i + 1) m v wv := by
  refine (get_leaf x b bt bp m v wv tk rk key [UInt8.ofNat i] w h.kit h.op hcv (h.lf (by omega)) h1 h8 (by simp)).mono ?_
  rintro e w' ⟨rfl, hb⟩
  exact ⟨rfl, h.below hb⟩
/-- The codes at the end. -/
theorem RmI.room10 (h : RmI w0 w x b bt bp bW tk rk key n c i m v wv) (hi : c ≤ 2 + i) : roomL m v 1 = 10 := by
  unfold roomL; rw [if_pos (by rw [h.ce, h.ve]; exact hi)]
theorem RmI.room11 (h : RmI w0 w x b bt bp bW tk rk key n c i m v wv) (hi : 2 + i < c) (h40 : i = 40) : roomL m v 1 = 11 := by
  unfold roomL; rw [if_neg (by rw [h.ce, h.ve]; omega), if_pos (by rw [h.dn]; omega)]
theorem RmI.room9 (h : RmI w0 w x b bt bp bW tk rk key 3 c 1 m v wv) (hi : 3 < c) : roomL m v 1 = 9 := by
  have hp : v.place = 2 := by
    have := (h.lf (by omega)).hp
    rw [h.bl] at this
    rcases h.nz (by omega) with e | e <;> omega
  unfold roomL
  rw [if_neg (by rw [h.ce, h.ve]; omega), if_neg (by rw [h.dn]; decide), if_pos (by rw [h.bl, h.us, hp, freeTo_full _ (by decide)]; decide)]
theorem RmI.start {w' : World} {m' : DM} {v' : VM} {wv' : Value} (hk : Kit w' x b m' v' wv' bt bp tk rk) (hm : m' = DM.begin ⟨List.replicate n zeroBlock, List.replicate n [], 0, c, []⟩ tk salt0 0 []) (hv : v' = { zeroVM with salt := salt0, tv := v'.tv, pv := v'.pv, version := 2, session := 2, opened := true })
    (wl : w'.cell? ⟨bW, 1, none⟩ = some (.pointer (some ⟨b, 0, none⟩))) (aw : Apart w' x b wv' bW) (hbel : Below w0.heap.size w0 w') (hlo : ∀ j ∈ Sys.set x b wv', w0.heap.size ≤ j) : RmI w0 w' x b bt bp bW tk rk key n c 0 m' v' wv' ∧ v'.cv = .slice none 0 0 := by
  refine ⟨⟨hk, by rw [hv], by rw [hm]; simp [DM.begin, DM.advance, DM.settle, DM.flush, DM.write], by rw [hm]; rfl, by rw [hm]; rfl, by rw [hv], by rw [hv], by rw [hv]; rfl, by rw [hm]; rfl, by rw [hv]; rfl, fun _ => by rw [hv]; rfl, fun e => by omega, fun e => by omega, wl, aw, hbel, hlo⟩, by rw [hv]; rfl⟩
end
end Go.Proofs.YtjnhlkaafnaooabGreatDoor

namespace Go.Proofs.YtjnhlkaafnaooabGreatDoor
open Go.RowKit
def roomPass : List UInt8 := [114, 111, 111, 109]
def moreL : List UInt8 := [109, 111, 114, 101]
set_option maxRecDepth 100000 in
set_option maxHeartbeats 4000000 in
theorem room_short (bl ce : Int) (key : List UInt8) (w : World) (hkey : key.length = 0 ∨ 8 < key.length) :
    Calls Tryz.prog 7 #[.int .i64 bl, .int .i64 ce, .string ⟨key.toArray⟩] w fun e w' => e = .returned (.bool true) ∧ Below w.heap.size w w' := by
  have hs : (ByteArray.mk key.toArray).size = key.length := rfl
  rcases hkey with h | h
  · have hd : ((key.length : Int) == 0) = true := by rw [h]; rfl
    rw [h] at hs
    go_enter Tryz.func7, Tryz.ntmps7
    go_wp2_with fail
    go_ret
    exact ⟨rfl, Below.refl _ _⟩
  · have hd : ((key.length : Int) == 0) = false := by rw [beq_eq_false_iff_ne]; omega
    have hd' : ¬ (key.length = 0) := by omega
    have h8 : (8 : Int) < (key.length : Int) := by omega
    clear h
    generalize key.length = L at *
    go_enter Tryz.func7, Tryz.ntmps7
    go_wp2_with fail
    go_ret
    exact ⟨rfl, Below.refl _ _⟩
set_option maxRecDepth 100000 in
set_option maxHeartbeats 8000000 in
theorem room_law (bl ce : Int) (key : List UInt8) (w : World) (hb1 : -9223372036854775808 ≤ bl) (hb2 : bl ≤ 9223372036854775807) (hc1 : -9223372036854775808 ≤ ce) (hc2 : ce ≤ 9223372036854775807) (h1 : 1 ≤ key.length) (h8 : key.length ≤ 8)
    (hk : Cells w 1 .u32 kWords) (h0 : Cells w 0 .u32 hWords) :
    Calls Tryz.prog 7 #[.int .i64 bl, .int .i64 ce, .string ⟨key.toArray⟩] w fun e w' => e = .returned (.bool true) ∧ Below w.heap.size w w' := by
  have hs : (ByteArray.mk key.toArray).size = key.length := rfl
  have hd : ((key.length : Int) == 0) = false := by rw [beq_eq_false_iff_ne]; omega
  have hd' : ¬ (key.length = 0) := by omega
  have hd8 : decide ((8 : Int) < (key.length : Int)) = false := by simp; omega
  have HP1 := hide (kpick_any bl 46 w (by decide) (by decide) hb1 hb2)
  have HP2 := hide (kpick_any ce 60 w (by decide) (by decide) hc1 hc2)
  have HKL := hide (And.intro h1 h8)
  have HT := hide (And.intro hk h0)
  clear hb1 hb2 hc1 hc2 h1 h8 hk h0
  generalize key.length = L at hs hd hd' hd8
  go_enter Tryz.func7, Tryz.ntmps7
  go_wp2_with fail
  refine HP1.out.mono ?_
  rintro e w1 ⟨k1, rfl, hk1, rfl⟩
  have hk1i : (k1 : Int) < 46 := by omega
  clear HP1 hk1
  go_wp2_with fail
  refine HP2.out.mono ?_
  rintro e w2 ⟨k2, rfl, hk2, rfl⟩
  have hk2i : (k2 : Int) < 60 := by omega
  clear HP2 hk2
  go_wp2_with fail
  have e1 : (3 : Int) + (k1 : Int) = ((3 + k1 : Nat) : Int) := by omega
  have e2 : (2 : Int) + (k2 : Int) = ((2 + k2 : Nat) : Int) := by omega
  rw [e1, e2]
  obtain ⟨n, hn⟩ : ∃ n, 3 + k1 = n := ⟨_, rfl⟩
  rw [hn]
  have hn3 : 3 ≤ n := by omega
  have hn48 : n ≤ 48 := by omega
  clear hn e1 e2 hk1i
  refine (world_any n (2 + k2) w2 hn3 hn48 (by omega) HT.out.1 HT.out.2).mono ?_
  rintro e w3 ⟨x, b, bW, rfl, s3, wl3, aw3, b3, lo3⟩
  have HF := hide (format_any x b _ zeroVM (.slice none 0 0) roomPass w3 s3 rfl (by decide) (by show 0 + 2 ≤ 2 + k2; omega) (by decide) (by show 0 < 99000; decide))
  have H3 := hide (And.intro s3 (And.intro aw3 (And.intro b3 lo3)))
  unfold roomPass at HF
  have HW3 := hide wl3
  clear s3 aw3 b3 lo3
  go_wp2_with fail
  refine HF.out.mono ?_
  rintro e w4 ⟨rfl, wv4, bt, bp, s4, m4, k4, abt, abp, kp4, lt4⟩
  obtain ⟨s3, aw3, b3, lo3⟩ := H3.out
  have kit4 : Kit w4 x b _ _ wv4 bt bp _ _ := ⟨s4, rfl, rfl, m4, k4, abt, abp, by show salt0.length = 16; simp [salt0]⟩
  have hlo4 : ∀ j ∈ Sys.set x b wv4, w2.heap.size ≤ j := fun j hj => by
    rcases lt4.sub hj with e | e
    · exact lo3 j e
    · have := b3.size; omega
  obtain ⟨ri, hcv⟩ := RmI.start (w0 := w2) (key := key) kit4 rfl rfl ((World.cell?_of_block (a := ⟨bW, 1, none⟩) (aw3.block kp4)).trans HW3.out) (aw3.step lt4 kp4.size) (below_kp b3 kp4 lo3) hlo4
  generalize hTK : tagsL [114, 111, 111, 109] salt0 = tk at ri
  generalize hRK : keysL (pagesL [114, 111, 111, 109] salt0) = rk at ri
  obtain ⟨HRI⟩ : Nonempty (Hid (∃ m v wv, RmI w2 w4 x b bt bp bW tk rk key n (2 + k2) 0 m v wv ∧ v.cv = .slice none 0 0)) := ⟨hide ⟨_, _, _, ri, hcv⟩⟩
  clear HF H3 HW3 wl3 s3 aw3 b3 lo3 s4 m4 k4 abt abp kp4 lt4 kit4 hlo4 ri hcv hTK hRK HT
  have e22 : (2 : Int) + (k2 : Int) - 2 = (k2 : Int) := by omega
  by_cases hA : 40 < k2
  · have d1 : decide ((40 : Int) < (k2 : Int)) = true := by simp; omega
    by_cases hB : n = 3
    · have d2 : ((n : Int) == 3) = true := by rw [hB]; rfl
      have HMO := hide (show ∀ j : Nat, j < 1 → j < 40 ∧ 2 + j < 2 + k2 ∧ (n = 3 → j = 0) from fun j hj => by omega)
      have HEND := hide (show ∀ (m : DM) (v : VM) (wv : Value) (w : World), RmI w2 w x b bt bp bW tk rk key n (2 + k2) 1 m v wv → roomL m v 1 = 9 from fun m v wv w h => by subst hB; exact h.room9 (by omega))
      have HM40 := hide (show 1 ≤ 40 from by omega)
      go_wp2_with fail
      go_loopw [10, 13, 14, 15, 16, 17] (fun _ i _ _ _ _ wr => ∃ (j : Nat) (m : DM) (v : VM) (wv : Value), j ≤ 1 ∧ i = .int .i64 (j : Int) ∧ RmI w2 wr x b bt bp bW tk rk key n (2 + k2) j m v wv ∧ v.cv = .slice none 0 0) (fun _ i _ _ _ _ _ => 1 - (intOf i).toNat)
      case atStart => obtain ⟨m, v, wv, hri, hcv⟩ := HRI.out; exact ⟨0, m, v, wv, by omega, rfl, hri, hcv⟩
      case round =>
        obtain ⟨j, m, v, wv, hj, rfl, hri, hcv⟩ := hrel
        have HKK := hide HKL.out
        by_cases hlt : j < 1
        · have HJ := hide (HMO.out j hlt)
          have HLT := hide hlt
          have hji : (j : Int) < 1 := by omega
          have hj40 : (j : Int) < 40 := by have := HJ.out.1; omega
          have hrw : Row (wr.alloc (.cells #[.int .u8 (j : Int)] 5)) wr.heap.size 5 .u8 [j] := Row.new wr _ _ [j] _ rfl (fun i hi => by
            match i, hi with
            | 0, _ => simp)
          have hcv1 := conv_row (cap := 1) hrw
          simp only [List.map_cons, List.map_nil, List.length_cons, List.length_nil, Nat.zero_add] at hcv1
          have riA := hri.below ((Below.refl _ _).alloc (Nat.le_refl _) (.cells #[.int .u8 (j : Int)] 5))
          have wlA := riA.wl
          have HPU := hide (put_ri [UInt8.ofNat j] riA hcv HKK.out.1 HKK.out.2 (by simp))
          clear hri riA hrw hcv hlt hj HRI
          go_wp2_with fail
          refine HPU.out.mono ?_
          rintro e w5 ⟨rfl, cv, ri5, oc5⟩
          have wl5 := ri5.wl
          have HCO := hide (commit_ri ri5 oc5 HKK.out.1 HKK.out.2 hn3 HJ.out.1 HJ.out.2.1 HJ.out.2.2)
          clear ri5 oc5 HPU hcv1 wlA
          go_wp2_with fail
          refine HCO.out.mono ?_
          rintro e w6 ⟨rfl, m6, v6, wv6, ri6, hcv6⟩
          have wl6 := ri6.wl
          have HGE := hide (get_ri ri6 hcv6 HKK.out.1 HKK.out.2)
          have H6 := hide hcv6
          clear ri6 hcv6 HCO wl5
          go_wp2_with fail
          refine HGE.out.mono ?_
          rintro e w7 ⟨rfl, ri7⟩
          have H7 := hide ri7
          clear ri7 HGE wl6
          go_wp2_with fail
          go_roundw
          case rel => exact ⟨j + 1, m6, v6, wv6, by have := HLT.out; omega, by go_num, H7.out, H6.out⟩
          case measure => have := HLT.out; simp [intOf]; omega
        · have hjm : j = 1 := by omega
          subst hjm
          have wlr := hri.wl
          have HPU := hide (put_ri moreL hri hcv HKK.out.1 HKK.out.2 (by decide))
          clear hri hcv hlt hj HRI
          unfold moreL at HPU
          go_wp2_with fail
          refine HPU.out.mono ?_
          rintro e w5 ⟨rfl, cv, ri5, oc5⟩
          have wl5 := ri5.wl
          have HCO := hide (commit_last ri5 _ oc5 HKK.out.1 HKK.out.2 HM40.out 9 (HEND.out _ _ _ _ ri5) (by decide))
          have HB := hide ri5.bel
          clear ri5 oc5 HPU wlr
          go_wp2_with fail
          refine HCO.out.mono ?_
          rintro e w6 ⟨rfl, hb6⟩
          have hbb := HB.out.trans (hb6.mono HB.out.size)
          clear HCO wl5 HB
          go_wp2_with fail
          go_ret
          exact ⟨rfl, hbb⟩
    · have d2 : ((n : Int) == 3) = false := by rw [beq_eq_false_iff_ne]; omega
      have HMO := hide (show ∀ j : Nat, j < 40 → j < 40 ∧ 2 + j < 2 + k2 ∧ (n = 3 → j = 0) from fun j hj => by omega)
      have HEND := hide (show ∀ (m : DM) (v : VM) (wv : Value) (w : World), RmI w2 w x b bt bp bW tk rk key n (2 + k2) 40 m v wv → roomL m v 1 = 11 from fun m v wv w h => h.room11 (by omega) rfl)
      have HM40 := hide (show 40 ≤ 40 from by omega)
      go_wp2_with fail
      go_loopw [10, 13, 14, 15, 16, 17] (fun _ i _ _ _ _ wr => ∃ (j : Nat) (m : DM) (v : VM) (wv : Value), j ≤ 40 ∧ i = .int .i64 (j : Int) ∧ RmI w2 wr x b bt bp bW tk rk key n (2 + k2) j m v wv ∧ v.cv = .slice none 0 0) (fun _ i _ _ _ _ _ => 40 - (intOf i).toNat)
      case atStart => obtain ⟨m, v, wv, hri, hcv⟩ := HRI.out; exact ⟨0, m, v, wv, by omega, rfl, hri, hcv⟩
      case round =>
        obtain ⟨j, m, v, wv, hj, rfl, hri, hcv⟩ := hrel
        have HKK := hide HKL.out
        by_cases hlt : j < 40
        · have HJ := hide (HMO.out j hlt)
          have HLT := hide hlt
          have hji : (j : Int) < 40 := by omega
          have hj40 : (j : Int) < 40 := by have := HJ.out.1; omega
          have hrw : Row (wr.alloc (.cells #[.int .u8 (j : Int)] 5)) wr.heap.size 5 .u8 [j] := Row.new wr _ _ [j] _ rfl (fun i hi => by
            match i, hi with
            | 0, _ => simp)
          have hcv1 := conv_row (cap := 1) hrw
          simp only [List.map_cons, List.map_nil, List.length_cons, List.length_nil, Nat.zero_add] at hcv1
          have riA := hri.below ((Below.refl _ _).alloc (Nat.le_refl _) (.cells #[.int .u8 (j : Int)] 5))
          have wlA := riA.wl
          have HPU := hide (put_ri [UInt8.ofNat j] riA hcv HKK.out.1 HKK.out.2 (by simp))
          clear hri riA hrw hcv hlt hj HRI
          go_wp2_with fail
          refine HPU.out.mono ?_
          rintro e w5 ⟨rfl, cv, ri5, oc5⟩
          have wl5 := ri5.wl
          have HCO := hide (commit_ri ri5 oc5 HKK.out.1 HKK.out.2 hn3 HJ.out.1 HJ.out.2.1 HJ.out.2.2)
          clear ri5 oc5 HPU hcv1 wlA
          go_wp2_with fail
          refine HCO.out.mono ?_
          rintro e w6 ⟨rfl, m6, v6, wv6, ri6, hcv6⟩
          have wl6 := ri6.wl
          have HGE := hide (get_ri ri6 hcv6 HKK.out.1 HKK.out.2)
          have H6 := hide hcv6
          clear ri6 hcv6 HCO wl5
          go_wp2_with fail
          refine HGE.out.mono ?_
          rintro e w7 ⟨rfl, ri7⟩
          have H7 := hide ri7
          clear ri7 HGE wl6
          go_wp2_with fail
          go_roundw
          case rel => exact ⟨j + 1, m6, v6, wv6, by have := HLT.out; omega, by go_num, H7.out, H6.out⟩
          case measure => have := HLT.out; simp [intOf]; omega
        · have hjm : j = 40 := by omega
          subst hjm
          have wlr := hri.wl
          have HPU := hide (put_ri moreL hri hcv HKK.out.1 HKK.out.2 (by decide))
          clear hri hcv hlt hj HRI
          unfold moreL at HPU
          go_wp2_with fail
          refine HPU.out.mono ?_
          rintro e w5 ⟨rfl, cv, ri5, oc5⟩
          have wl5 := ri5.wl
          have HCO := hide (commit_last ri5 _ oc5 HKK.out.1 HKK.out.2 HM40.out 11 (HEND.out _ _ _ _ ri5) (by decide))
          have HB := hide ri5.bel
          clear ri5 oc5 HPU wlr
          go_wp2_with fail
          refine HCO.out.mono ?_
          rintro e w6 ⟨rfl, hb6⟩
          have hbb := HB.out.trans (hb6.mono HB.out.size)
          clear HCO wl5 HB
          go_wp2_with fail
          go_ret
          exact ⟨rfl, hbb⟩
  · have d1 : decide ((40 : Int) < (k2 : Int)) = false := by simp; omega
    by_cases hB : n = 3
    · have d2 : ((n : Int) == 3) = true := by rw [hB]; rfl
      by_cases hC : 1 < k2
      · have d3 : decide ((1 : Int) < (k2 : Int)) = true := by simp; omega
        have HMO := hide (show ∀ j : Nat, j < 1 → j < 40 ∧ 2 + j < 2 + k2 ∧ (n = 3 → j = 0) from fun j hj => by omega)
        have HEND := hide (show ∀ (m : DM) (v : VM) (wv : Value) (w : World), RmI w2 w x b bt bp bW tk rk key n (2 + k2) 1 m v wv → roomL m v 1 = 9 from fun m v wv w h => by subst hB; exact h.room9 (by omega))
        have HM40 := hide (show 1 ≤ 40 from by omega)
        go_wp2_with fail
        go_loopw [10, 13, 14, 15, 16, 17] (fun _ i _ _ _ _ wr => ∃ (j : Nat) (m : DM) (v : VM) (wv : Value), j ≤ 1 ∧ i = .int .i64 (j : Int) ∧ RmI w2 wr x b bt bp bW tk rk key n (2 + k2) j m v wv ∧ v.cv = .slice none 0 0) (fun _ i _ _ _ _ _ => 1 - (intOf i).toNat)
        case atStart => obtain ⟨m, v, wv, hri, hcv⟩ := HRI.out; exact ⟨0, m, v, wv, by omega, rfl, hri, hcv⟩
        case round =>
          obtain ⟨j, m, v, wv, hj, rfl, hri, hcv⟩ := hrel
          have HKK := hide HKL.out
          by_cases hlt : j < 1
          · have HJ := hide (HMO.out j hlt)
            have HLT := hide hlt
            have hji : (j : Int) < 1 := by omega
            have hj40 : (j : Int) < 40 := by have := HJ.out.1; omega
            have hrw : Row (wr.alloc (.cells #[.int .u8 (j : Int)] 5)) wr.heap.size 5 .u8 [j] := Row.new wr _ _ [j] _ rfl (fun i hi => by
              match i, hi with
              | 0, _ => simp)
            have hcv1 := conv_row (cap := 1) hrw
            simp only [List.map_cons, List.map_nil, List.length_cons, List.length_nil, Nat.zero_add] at hcv1
            have riA := hri.below ((Below.refl _ _).alloc (Nat.le_refl _) (.cells #[.int .u8 (j : Int)] 5))
            have wlA := riA.wl
            have HPU := hide (put_ri [UInt8.ofNat j] riA hcv HKK.out.1 HKK.out.2 (by simp))
            clear hri riA hrw hcv hlt hj HRI
            go_wp2_with fail
            refine HPU.out.mono ?_
            rintro e w5 ⟨rfl, cv, ri5, oc5⟩
            have wl5 := ri5.wl
            have HCO := hide (commit_ri ri5 oc5 HKK.out.1 HKK.out.2 hn3 HJ.out.1 HJ.out.2.1 HJ.out.2.2)
            clear ri5 oc5 HPU hcv1 wlA
            go_wp2_with fail
            refine HCO.out.mono ?_
            rintro e w6 ⟨rfl, m6, v6, wv6, ri6, hcv6⟩
            have wl6 := ri6.wl
            have HGE := hide (get_ri ri6 hcv6 HKK.out.1 HKK.out.2)
            have H6 := hide hcv6
            clear ri6 hcv6 HCO wl5
            go_wp2_with fail
            refine HGE.out.mono ?_
            rintro e w7 ⟨rfl, ri7⟩
            have H7 := hide ri7
            clear ri7 HGE wl6
            go_wp2_with fail
            go_roundw
            case rel => exact ⟨j + 1, m6, v6, wv6, by have := HLT.out; omega, by go_num, H7.out, H6.out⟩
            case measure => have := HLT.out; simp [intOf]; omega
          · have hjm : j = 1 := by omega
            subst hjm
            have wlr := hri.wl
            have HPU := hide (put_ri moreL hri hcv HKK.out.1 HKK.out.2 (by decide))
            clear hri hcv hlt hj HRI
            unfold moreL at HPU
            go_wp2_with fail
            refine HPU.out.mono ?_
            rintro e w5 ⟨rfl, cv, ri5, oc5⟩
            have wl5 := ri5.wl
            have HCO := hide (commit_last ri5 _ oc5 HKK.out.1 HKK.out.2 HM40.out 9 (HEND.out _ _ _ _ ri5) (by decide))
            have HB := hide ri5.bel
            clear ri5 oc5 HPU wlr
            go_wp2_with fail
            refine HCO.out.mono ?_
            rintro e w6 ⟨rfl, hb6⟩
            have hbb := HB.out.trans (hb6.mono HB.out.size)
            clear HCO wl5 HB
            go_wp2_with fail
            go_ret
            exact ⟨rfl, hbb⟩
      · have d3 : decide ((1 : Int) < (k2 : Int)) = false := by simp; omega
        have HMO := hide (show ∀ j : Nat, j < k2 → j < 40 ∧ 2 + j < 2 + k2 ∧ (n = 3 → j = 0) from fun j hj => by omega)
        have HEND := hide (show ∀ (m : DM) (v : VM) (wv : Value) (w : World), RmI w2 w x b bt bp bW tk rk key n (2 + k2) k2 m v wv → roomL m v 1 = 10 from fun m v wv w h => h.room10 (by omega))
        have HM40 := hide (show k2 ≤ 40 from by omega)
        go_wp2_with fail
        go_loopw [10, 13, 14, 15, 16, 17] (fun _ i _ _ _ _ wr => ∃ (j : Nat) (m : DM) (v : VM) (wv : Value), j ≤ k2 ∧ i = .int .i64 (j : Int) ∧ RmI w2 wr x b bt bp bW tk rk key n (2 + k2) j m v wv ∧ v.cv = .slice none 0 0) (fun _ i _ _ _ _ _ => k2 - (intOf i).toNat)
        case atStart => obtain ⟨m, v, wv, hri, hcv⟩ := HRI.out; exact ⟨0, m, v, wv, by omega, rfl, hri, hcv⟩
        case round =>
          obtain ⟨j, m, v, wv, hj, rfl, hri, hcv⟩ := hrel
          have HKK := hide HKL.out
          by_cases hlt : j < k2
          · have HJ := hide (HMO.out j hlt)
            have HLT := hide hlt
            have hji : (j : Int) < k2 := by omega
            have hj40 : (j : Int) < 40 := by have := HJ.out.1; omega
            have hrw : Row (wr.alloc (.cells #[.int .u8 (j : Int)] 5)) wr.heap.size 5 .u8 [j] := Row.new wr _ _ [j] _ rfl (fun i hi => by
              match i, hi with
              | 0, _ => simp)
            have hcv1 := conv_row (cap := 1) hrw
            simp only [List.map_cons, List.map_nil, List.length_cons, List.length_nil, Nat.zero_add] at hcv1
            have riA := hri.below ((Below.refl _ _).alloc (Nat.le_refl _) (.cells #[.int .u8 (j : Int)] 5))
            have wlA := riA.wl
            have HPU := hide (put_ri [UInt8.ofNat j] riA hcv HKK.out.1 HKK.out.2 (by simp))
            clear hri riA hrw hcv hlt hj HRI
            go_wp2_with fail
            refine HPU.out.mono ?_
            rintro e w5 ⟨rfl, cv, ri5, oc5⟩
            have wl5 := ri5.wl
            have HCO := hide (commit_ri ri5 oc5 HKK.out.1 HKK.out.2 hn3 HJ.out.1 HJ.out.2.1 HJ.out.2.2)
            clear ri5 oc5 HPU hcv1 wlA
            go_wp2_with fail
            refine HCO.out.mono ?_
            rintro e w6 ⟨rfl, m6, v6, wv6, ri6, hcv6⟩
            have wl6 := ri6.wl
            have HGE := hide (get_ri ri6 hcv6 HKK.out.1 HKK.out.2)
            have H6 := hide hcv6
            clear ri6 hcv6 HCO wl5
            go_wp2_with fail
            refine HGE.out.mono ?_
            rintro e w7 ⟨rfl, ri7⟩
            have H7 := hide ri7
            clear ri7 HGE wl6
            go_wp2_with fail
            go_roundw
            case rel => exact ⟨j + 1, m6, v6, wv6, by have := HLT.out; omega, by go_num, H7.out, H6.out⟩
            case measure => have := HLT.out; simp [intOf]; omega
          · have hjm : j = k2 := by omega
            subst hjm
            have wlr := hri.wl
            have HPU := hide (put_ri moreL hri hcv HKK.out.1 HKK.out.2 (by decide))
            clear hri hcv hlt hj HRI
            unfold moreL at HPU
            go_wp2_with fail
            refine HPU.out.mono ?_
            rintro e w5 ⟨rfl, cv, ri5, oc5⟩
            have wl5 := ri5.wl
            have HCO := hide (commit_last ri5 _ oc5 HKK.out.1 HKK.out.2 HM40.out 10 (HEND.out _ _ _ _ ri5) (by decide))
            have HB := hide ri5.bel
            clear ri5 oc5 HPU wlr
            go_wp2_with fail
            refine HCO.out.mono ?_
            rintro e w6 ⟨rfl, hb6⟩
            have hbb := HB.out.trans (hb6.mono HB.out.size)
            clear HCO wl5 HB
            go_wp2_with fail
            go_ret
            exact ⟨rfl, hbb⟩
    · have d2 : ((n : Int) == 3) = false := by rw [beq_eq_false_iff_ne]; omega
      have HMO := hide (show ∀ j : Nat, j < k2 → j < 40 ∧ 2 + j < 2 + k2 ∧ (n = 3 → j = 0) from fun j hj => by omega)
      have HEND := hide (show ∀ (m : DM) (v : VM) (wv : Value) (w : World), RmI w2 w x b bt bp bW tk rk key n (2 + k2) k2 m v wv → roomL m v 1 = 10 from fun m v wv w h => h.room10 (by omega))
      have HM40 := hide (show k2 ≤ 40 from by omega)
      go_wp2_with fail
      go_loopw [10, 13, 14, 15, 16, 17] (fun _ i _ _ _ _ wr => ∃ (j : Nat) (m : DM) (v : VM) (wv : Value), j ≤ k2 ∧ i = .int .i64 (j : Int) ∧ RmI w2 wr x b bt bp bW tk rk key n (2 + k2) j m v wv ∧ v.cv = .slice none 0 0) (fun _ i _ _ _ _ _ => k2 - (intOf i).toNat)
      case atStart => obtain ⟨m, v, wv, hri, hcv⟩ := HRI.out; exact ⟨0, m, v, wv, by omega, rfl, hri, hcv⟩
      case round =>
        obtain ⟨j, m, v, wv, hj, rfl, hri, hcv⟩ := hrel
        have HKK := hide HKL.out
        by_cases hlt : j < k2
        · have HJ := hide (HMO.out j hlt)
          have HLT := hide hlt
          have hji : (j : Int) < k2 := by omega
          have hj40 : (j : Int) < 40 := by have := HJ.out.1; omega
          have hrw : Row (wr.alloc (.cells #[.int .u8 (j : Int)] 5)) wr.heap.size 5 .u8 [j] := Row.new wr _ _ [j] _ rfl (fun i hi => by
            match i, hi with
            | 0, _ => simp)
          have hcv1 := conv_row (cap := 1) hrw
          simp only [List.map_cons, List.map_nil, List.length_cons, List.length_nil, Nat.zero_add] at hcv1
          have riA := hri.below ((Below.refl _ _).alloc (Nat.le_refl _) (.cells #[.int .u8 (j : Int)] 5))
          have wlA := riA.wl
          have HPU := hide (put_ri [UInt8.ofNat j] riA hcv HKK.out.1 HKK.out.2 (by simp))
          clear hri riA hrw hcv hlt hj HRI
          go_wp2_with fail
          refine HPU.out.mono ?_
          rintro e w5 ⟨rfl, cv, ri5, oc5⟩
          have wl5 := ri5.wl
          have HCO := hide (commit_ri ri5 oc5 HKK.out.1 HKK.out.2 hn3 HJ.out.1 HJ.out.2.1 HJ.out.2.2)
          clear ri5 oc5 HPU hcv1 wlA
          go_wp2_with fail
          refine HCO.out.mono ?_
          rintro e w6 ⟨rfl, m6, v6, wv6, ri6, hcv6⟩
          have wl6 := ri6.wl
          have HGE := hide (get_ri ri6 hcv6 HKK.out.1 HKK.out.2)
          have H6 := hide hcv6
          clear ri6 hcv6 HCO wl5
          go_wp2_with fail
          refine HGE.out.mono ?_
          rintro e w7 ⟨rfl, ri7⟩
          have H7 := hide ri7
          clear ri7 HGE wl6
          go_wp2_with fail
          go_roundw
          case rel => exact ⟨j + 1, m6, v6, wv6, by have := HLT.out; omega, by go_num, H7.out, H6.out⟩
          case measure => have := HLT.out; simp [intOf]; omega
        · have hjm : j = k2 := by omega
          subst hjm
          have wlr := hri.wl
          have HPU := hide (put_ri moreL hri hcv HKK.out.1 HKK.out.2 (by decide))
          clear hri hcv hlt hj HRI
          unfold moreL at HPU
          go_wp2_with fail
          refine HPU.out.mono ?_
          rintro e w5 ⟨rfl, cv, ri5, oc5⟩
          have wl5 := ri5.wl
          have HCO := hide (commit_last ri5 _ oc5 HKK.out.1 HKK.out.2 HM40.out 10 (HEND.out _ _ _ _ ri5) (by decide))
          have HB := hide ri5.bel
          clear ri5 oc5 HPU wlr
          go_wp2_with fail
          refine HCO.out.mono ?_
          rintro e w6 ⟨rfl, hb6⟩
          have hbb := HB.out.trans (hb6.mono HB.out.size)
          clear HCO wl5 HB
          go_wp2_with fail
          go_ret
          exact ⟨rfl, hbb⟩
end Go.Proofs.YtjnhlkaafnaooabGreatDoor
