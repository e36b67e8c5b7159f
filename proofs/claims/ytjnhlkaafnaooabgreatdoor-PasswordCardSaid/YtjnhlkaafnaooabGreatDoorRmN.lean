import Derived.Test.YtjnhlkaafnaooabGreatDoorRmM
namespace Go.Proofs.YtjnhlkaafnaooabGreatDoor
open Go.RowKit
/-- What was there before the law began is as it was. -/
theorem below_kp {w0 w w' : World} {S : List Nat} (h : Below w0.heap.size w0 w) (k : Kp S w w') (hs : ∀ j ∈ S, w0.heap.size ≤ j) : Below w0.heap.size w0 w' :=
  ⟨k.os.trans h.os, k.tape.trans h.tape, k.output.trans h.output, Nat.le_trans h.size k.size, fun j hj => (k.block j (Nat.lt_of_lt_of_le hj h.size) (fun e => by have := hs j e; omega)).trans (h.block j hj)⟩
structure RmI (w0 w : World) (x : DX) (b bt bp bW : Nat) (tk rk key : List UInt8) (n c i : Nat) (m : DM) (v : VM) (wv : Value) : Prop where
  kit : Kit w x b m v wv bt bp tk rk
  op : v.opened = true
  bl : m.blocks.length = n
  ct : m.count = 2 + i
  ce : m.ceiling = c
  ve : v.version = 2 + i
  se : v.session = 2
  dn : v.done = i
  wr : m.wrote.length = 2 + 2 * i
  us : v.used = usedAt v.place
  z : i = 0 → v.place = 0
  nz : 0 < i → v.place = 2 ∨ v.place = 3
  lf : 0 < i → OneLeaf m v rk key [UInt8.ofNat (i - 1)]
  wl : w.cell? ⟨bW, 1, none⟩ = some (.pointer (some ⟨b, 0, none⟩))
  aw : Apart w x b wv bW
  bel : Below w0.heap.size w0 w
  lo : ∀ j ∈ Sys.set x b wv, w0.heap.size ≤ j
section
variable {w0 w : World} {x : DX} {b bt bp bW : Nat} {tk rk key : List UInt8} {n c i : Nat} {m : DM} {v : VM} {wv : Value}
theorem RmI.below {w' : World} (h : RmI w0 w x b bt bp bW tk rk key n c i m v wv) (hb : Below w.heap.size w w') : RmI w0 w' x b bt bp bW tk rk key n c i m v wv :=
  ⟨h.kit.below hb, h.op, h.bl, h.ct, h.ce, h.ve, h.se, h.dn, h.wr, h.us, h.z, h.nz, h.lf, (hb.cell (p := ⟨bW, 1, none⟩) h.aw.1).trans h.wl, h.aw.step (Later.refl _ _) hb.size, h.bel.trans (hb.mono h.bel.size), h.lo⟩
theorem put_ri (y : List UInt8) (h : RmI w0 w x b bt bp bW tk rk key n c i m v wv) (hcv : v.cv = .slice none 0 0) (h1 : 1 ≤ key.length) (h8 : key.length ≤ 8) (h16 : y.length ≤ 16) :
    Calls Tryz.prog 12 #[.pointer (some ⟨b, 0, none⟩), .string ⟨key.toArray⟩, .string ⟨y.toArray⟩] w fun e w' => e = .returned (.int .i64 0) ∧ ∃ cv, RmI w0 w' x b bt bp bW tk rk key n c i m { v with cv := cv } wv ∧ OneChange w' cv key y false := by
  refine (put_one x b m v wv key y w h.kit.sys h.op hcv h1 h8 h16).mono ?_
  rintro e w' ⟨rfl, cv, s, oc, hc, k⟩
  have bs : b ∈ Sys.set x b wv := by simp [Sys.set]
  have hbt : bt ∉ [b] := by simp; rintro rfl; exact h.kit.abt.2 bs
  have hbp : bp ∉ [b] := by simp; rintro rfl; exact h.kit.abp.2 bs
  have hbW : bW ∉ [b] := by simp; rintro rfl; exact h.aw.2 bs
  exact ⟨rfl, cv, ⟨h.kit.step s k (Later.refl _ _) hbt hbp rfl rfl rfl, h.op, h.bl, h.ct, h.ce, h.ve, h.se, h.dn, h.wr, h.us, h.z, h.nz, fun hi => ⟨(h.lf hi).h2, (h.lf hi).hp, (h.lf hi).hbl, (h.lf hi).hd, (h.lf hi).ho⟩,
    (World.cell?_of_block (a := ⟨bW, 1, none⟩) (k.block bW h.aw.1 hbW)).trans h.wl, h.aw.step (Later.refl _ _) k.size, below_kp h.bel k (fun j hj => by simp at hj; subst hj; exact h.lo _ bs), h.lo⟩, oc⟩
theorem RmI.free (h : RmI w0 w x b bt bp bW tk rk key n c i m v wv) (h3 : 3 ≤ n) (hn : n = 3 → i = 0) : ∃ p rest rl, freeTo v.used m.blocks.length = p :: rest ∧ 2 ≤ p ∧ p < 4 ∧ p < n ∧ (∀ q ∈ rl, q < 48) ∧ rl.length ≤ 48 ∧ rl = (if i = 0 then [] else [v.place]) ∧ freed rl (v.used.set p true) = usedAt p := by
  rw [h.bl, h.us]
  rcases Nat.eq_zero_or_pos i with hi | hi
  · rw [h.z hi]
    obtain ⟨rest, hr⟩ := freeTo_first (usedAt 0) n h3 (by decide)
    exact ⟨2, rest, [], hr, by omega, by omega, by omega, by simp, by simp, by rw [if_pos hi], used_first⟩
  · have hn4 : 4 ≤ n := by
      rcases Nat.lt_or_ge n 4 with g | g
      · have := hn (by omega); omega
      · exact g
    have hne : ¬ i = 0 := by omega
    rcases h.nz hi with hp | hp
    · rw [hp]
      obtain ⟨rest, hr⟩ := freeTo_next (usedAt 2) n hn4 (by decide) (by decide)
      exact ⟨3, rest, [2], hr, by omega, by omega, by omega, by simp, by simp, by rw [if_neg hne], used_23⟩
    · rw [hp]
      obtain ⟨rest, hr⟩ := freeTo_first (usedAt 3) n h3 (by decide)
      exact ⟨2, rest, [3], hr, by omega, by omega, by omega, by simp, by simp, by rw [if_neg hne], used_32⟩
theorem RmI.apply (y : List UInt8) (h : RmI w0 w x b bt bp bW tk rk key n c i m v wv) (oc : OneChange w v.cv key y false) (h1 : 1 ≤ key.length) (h8 : key.length ≤ 8) :
    Calls Tryz.prog 34 #[.pointer (some ⟨w.heap.size, 0, none⟩), v.cv] (w.alloc (freshWork b)) fun e w' => e = .returned (.int .i64 0) ∧ Made (w.alloc (freshWork b)) w' w.heap.size b key y (if i = 0 then [] else [v.place]) := by
  have hb0 : Below w.heap.size w (w.alloc (freshWork b)) := (Below.refl _ _).alloc (Nat.le_refl _) _
  have k0 := h.kit.below hb0
  have oc0 : OneChange (w.alloc (freshWork b)) v.cv key y false := oc.kp (S := []) (Kp.of_below hb0) (by simp)
  have hcb : ∀ j, v.cv.ownBlock = some j → j ≠ w.heap.size := fun j hj => by have := owns_lt oc j hj; omega
  rcases Nat.eq_zero_or_pos i with hi | hi
  · rw [if_pos hi]
    exact apply_none x b w.heap.size 0 m v wv v.cv key y _ k0.sys (h.z hi) (fresh_at w b) oc0 hcb
  · rw [if_neg (by omega)]
    have l := h.lf hi
    exact apply_leaf x b bp w.heap.size 0 m v wv v.cv rk key _ y _ k0.sys k0.pv k0.key (fresh_at w b) oc0 hcb (Foreign.new h.kit.sys (Nat.le_refl _)) (by have := h.kit.key.lt; omega) (by decide) l.h2 l.hp l.hbl l.hd l.ho h1 h8 (by simp)
theorem commit_ri (h : RmI w0 w x b bt bp bW tk rk key n c i m v wv) (oc : OneChange w v.cv key [UInt8.ofNat i] false) (h1 : 1 ≤ key.length) (h8 : key.length ≤ 8) (h3 : 3 ≤ n) (hi : i < 40) (hic : 2 + i < c) (hn : n = 3 → i = 0) :
    Calls Tryz.prog 13 #[.pointer (some ⟨b, 0, none⟩)] w fun e w' => e = .returned (.int .i64 0) ∧ ∃ m' v' wv', RmI w0 w' x b bt bp bW tk rk key n c (i + 1) m' v' wv' ∧ v'.cv = .slice none 0 0 := by
  obtain ⟨p, rest, rl, hf, hp2, hp4, hpn, hq, hql, hrl, hus⟩ := h.free h3 hn
  have hap := h.apply [UInt8.ofNat i] oc h1 h8
  rw [← hrl] at hap
  have hroom : roomL m v 1 = 0 := by
    unfold roomL
    rw [if_neg (by rw [h.ce, h.ve]; omega), if_neg (by rw [h.dn]; omega), if_neg (by rw [hf]; simp)]
  have hpm : p < m.blocks.length := by rw [h.bl]; exact hpn
  have hsm := h.kit.sys.disk.same
  have hrk := h.kit.key.len
  refine (commit_ok x b bt bp m v wv tk rk key [UInt8.ofNat i] p rest rl w h.kit h.op hap hroom hf hpm (by rw [h.dn]; omega) (by rw [h.se]; decide) (by rw [h.ve]; omega) (by rw [h.ct, h.ce]; exact hic) (by rw [h.wr]; omega) h8 (by simp) hq hql).mono ?_
  rintro e w' ⟨rfl, wv', kit', k', lt'⟩
  refine ⟨rfl, _, _, wv', ⟨kit', h.op, by rw [saveM_len]; exact h.bl, by rw [saveM_count, h.ct]; omega, by rw [saveM_ceiling]; exact h.ce, by show v.version + 1 = _; rw [h.ve]; omega, h.se, by show v.done + 1 = _; rw [h.dn], by rw [saveM_wrote, h.wr]; omega, hus, fun e => by omega, fun _ => by show p = 2 ∨ p = 3; omega, fun _ => ?_, ?_, ?_, below_kp h.bel k' h.lo, fun j hj => ?_⟩, rfl⟩
  · exact save_leaf tk rk m v p key [UInt8.ofNat i] rl _ hp2 hpm hsm hrk
  · exact (World.cell?_of_block (a := ⟨bW, 1, none⟩) (h.aw.block k')).trans h.wl
  · exact h.aw.step lt' k'.size
  · rcases lt'.sub hj with e | e
    · exact h.lo j e
    · have := h.bel.size; omega
theorem commit_last (h : RmI w0 w x b bt bp bW tk rk key n c i m v wv) (y : List UInt8) (oc : OneChange w v.cv key y false) (h1 : 1 ≤ key.length) (h8 : key.length ≤ 8) (hi : i ≤ 40) (z : Nat) (hz : roomL m v 1 = z) (hz0 : 0 < z) :
    Calls Tryz.prog 13 #[.pointer (some ⟨b, 0, none⟩)] w fun e w' => e = .returned (.int .i64 z) ∧ Below w.heap.size w w' :=
  commit_no x b bt bp m v wv tk rk key y _ z w h.kit h.op (h.apply y oc h1 h8) hz hz0 (by rw [h.dn]; omega)
theorem get_ri (h : RmI w0 w x b bt bp bW tk rk key n c (i + 1) m v wv) (hcv : v.cv = .slice none 0 0) (h1 : 1 ≤ key.length) (h8 : key.length ≤ 8) :
    Calls Tryz.prog 20 #[.pointer (some ⟨b, 0, none⟩), .string ⟨key.toArray⟩] w fun e w' => e = .returned (.tuple #[strV [UInt8.ofNat i], .int .i64 0]) ∧ RmI w0 w' x b bt bp bW tk rk key n c (i + 1) m v wv := by
  refine (get_leaf x b bt bp m v wv tk rk key [UInt8.ofNat i] w h.kit h.op hcv (h.lf (by omega)) h1 h8 (by simp)).mono ?_
  rintro e w' ⟨rfl, hb⟩
  exact ⟨rfl, h.below hb⟩
/-- The codes at the end. -/
theorem RmI.room10 (h : RmI w0 w x b bt bp bW tk rk key n c i m v wv) (hi : c ≤ 2 + i) : roomL m v 1 = 10 := by
  unfold roomL; rw [if_pos (by rw [h.ce, h.ve]; exact hi)]
theorem RmI.room11 (h : RmI w0 w x b bt bp bW tk rk key n c i m v wv) (hi : 2 + i < c) (h40 : i = 40) : roomL m v 1 = 11 := by
  unfold roomL; rw [if_neg (by rw [h.ce, h.ve]; omega), if_pos (by rw [h.dn]; omega)]
theorem RmI.room9 (h : RmI w0 w x b bt bp bW tk rk key 3 c 1 m v wv) (hi : 3 < c) : roomL m v 1 = 9 := by
  have hp : v.place = 2 := by
    have := (h.lf (by omega)).hp
    rw [h.bl] at this
    rcases h.nz (by omega) with e | e <;> omega
  unfold roomL
  rw [if_neg (by rw [h.ce, h.ve]; omega), if_neg (by rw [h.dn]; decide), if_pos (by rw [h.bl, h.us, hp, freeTo_full _ (by decide)]; decide)]
theorem RmI.start {w' : World} {m' : DM} {v' : VM} {wv' : Value} (hk : Kit w' x b m' v' wv' bt bp tk rk) (hm : m' = DM.begin ⟨List.replicate n zeroBlock, List.replicate n [], 0, c, []⟩ tk salt0 0 []) (hv : v' = { zeroVM with salt := salt0, tv := v'.tv, pv := v'.pv, version := 2, session := 2, opened := true })
    (wl : w'.cell? ⟨bW, 1, none⟩ = some (.pointer (some ⟨b, 0, none⟩))) (aw : Apart w' x b wv' bW) (hbel : Below w0.heap.size w0 w') (hlo : ∀ j ∈ Sys.set x b wv', w0.heap.size ≤ j) : RmI w0 w' x b bt bp bW tk rk key n c 0 m' v' wv' ∧ v'.cv = .slice none 0 0 := by
  refine ⟨⟨hk, by rw [hv], by rw [hm]; simp [DM.begin, DM.advance, DM.settle, DM.flush, DM.write], by rw [hm]; rfl, by rw [hm]; rfl, by rw [hv], by rw [hv], by rw [hv]; rfl, by rw [hm]; rfl, by rw [hv]; rfl, fun _ => by rw [hv]; rfl, fun e => by omega, fun e => by omega, wl, aw, hbel, hlo⟩, by rw [hv]; rfl⟩
end
end Go.Proofs.YtjnhlkaafnaooabGreatDoor
