import Derived.Test.YtjnhlkaafnaooabGreatDoorRmF
import Derived.Laws.AppendOwnNone
namespace Go.Proofs.YtjnhlkaafnaooabGreatDoor
open Go.RowKit
set_option maxRecDepth 100000 in
set_option maxHeartbeats 1000000 in
theorem changeOf_none (x : DX) (b : Nat) (m : DM) (v : VM) (wv : Value) (k : List UInt8) (w : World) (h : Sys w x b m v wv) (hcv : v.cv = .slice none 0 0) :
    Calls Tryz.prog 42 #[.pointer (some ⟨b, 0, none⟩), .string ⟨k.toArray⟩] w fun e w' => e = .returned (.tuple #[.int .i64 0, .bool false]) ∧ Below w.heap.size w w' := by
  have c58 := h.vault.c58
  rw [hcv] at c58
  clear h hcv
  go_enter Tryz.func42, Tryz.ntmps42
  go_wp2_with fail
  go_loopw [6] (fun i wr => i = .int .i64 0 ∧ ∃ n, wr = w.drewN n) (fun _ _ => 0)
  case atStart => exact ⟨rfl, 0, rfl⟩
  case round =>
    obtain ⟨rfl, n, rfl⟩ := hrel
    have c58' : (w.drewN n).cell? ⟨b, 58, none⟩ = some (.slice none 0 0) := c58
    go_wp2_with fail
    go_quiet (fail)
    go_wp2_with fail
    go_ret2
    exact ⟨rfl, below_drewN (below_drewN (Below.refl _ _) n) nq⟩
set_option maxRecDepth 100000 in
set_option maxHeartbeats 1000000 in
theorem isKey_any (k : List UInt8) (w : World) (h1 : 1 ≤ k.length) (h8 : k.length ≤ 8) :
    Calls Tryz.prog 32 #[.string ⟨k.toArray⟩] w fun e w' => e = .returned (.bool true) ∧ w' = w := by
  have hs : (ByteArray.mk k.toArray).size = k.length := rfl
  have h1i : (1 : Int) ≤ (k.length : Int) := by omega
  have h8i : (k.length : Int) ≤ 8 := by omega
  clear h1 h8
  generalize k.length = n at *
  go_enter Tryz.func32, Tryz.ntmps32
  go_wp2_with fail
  go_ret
  exact ⟨rfl, rfl⟩
theorem info_change : (Tryz.prog.info? 79).map (fun i => (i.zero, i.size, i.bytes)) = some (some (.agg #[.string ⟨#[]⟩, .string ⟨#[]⟩, .bool false]), 3, 40) := by kernel_rfl
/-- The one change of a transaction. -/
def OneChange (w : World) (cv : Value) (k s : List UInt8) (gone : Bool) : Prop := w.ownsRow 0 79 3 cv 1 [strV k, strV s, .bool gone]
set_option maxRecDepth 100000 in
set_option maxHeartbeats 1000000 in
theorem note_one (x : DX) (b : Nat) (m : DM) (v : VM) (wv : Value) (k s : List UInt8) (gone : Bool) (w : World) (h : Sys w x b m v wv) (hcv : v.cv = .slice none 0 0) :
    Calls Tryz.prog 33 #[.pointer (some ⟨b, 0, none⟩), .agg #[.string ⟨k.toArray⟩, .string ⟨s.toArray⟩, .bool gone]] w fun e w' => e = .returned (.int .i64 0) ∧ ∃ cv, Sys w' x b m { v with cv := cv } wv ∧ OneChange w' cv k s gone ∧ (∀ j, cv.ownBlock = some j → w.heap.size ≤ j) ∧ Kp [b] w w' := by
  obtain ⟨i0, hi, hz0, hz1, hz2⟩ := info_parts info_change
  have hzb := h.vault.lt
  obtain ⟨w0, hw0⟩ : ∃ w0, w.alloc (.cells #[.string ⟨k.toArray⟩, .string ⟨s.toArray⟩, .bool gone] 79) = w0 := ⟨_, rfl⟩
  have hb0 : Below w.heap.size w w0 := hw0 ▸ (Below.refl _ _).alloc (Nat.le_refl _) _
  have hz0' : w0.heap.size = w.heap.size + 1 := by rw [← hw0]; simp
  have hblk : w0.heap[w.heap.size]? = some (.cells #[.string ⟨k.toArray⟩, .string ⟨s.toArray⟩, .bool gone] 79 (0, 0)) := hw0 ▸ heap_alloc_new w _
  have h0 := h.later hb0
  have k0 : w0.cell? ⟨w.heap.size, 0, none⟩ = some (.string ⟨k.toArray⟩) := by rw [cell_of_row _ _ _ _ _ _ hblk]; rfl
  have HCO := hide (changeOf_none x b m v wv k w0 h0 hcv)
  have HB := hide hblk
  have H0 := hide (And.intro h0 hcv)
  clear h hcv h0 hblk
  go_enter Tryz.func33, Tryz.ntmps33
  go_wp2_with fail
  refine HCO.out.mono ?_
  rintro e w1 ⟨rfl, hb1⟩
  have h1 := H0.out.1.later hb1
  have c58 := h1.vault.c58
  rw [H0.out.2] at c58
  have hz1' := hb1.size
  have hblk1 := (hb1.block w.heap.size (by omega)).trans HB.out
  have l0 : w1.cell? ⟨w.heap.size, 0, none⟩ = some (.string ⟨k.toArray⟩) := by rw [cell_of_row _ _ _ _ _ _ hblk1]; rfl
  have l1 : w1.cell? ⟨w.heap.size, 1, none⟩ = some (.string ⟨s.toArray⟩) := by rw [cell_of_row _ _ _ _ _ _ hblk1]; rfl
  have l2 : w1.cell? ⟨w.heap.size, 2, none⟩ = some (.bool gone) := by rw [cell_of_row _ _ _ _ _ _ hblk1]; rfl
  have H1 := hide h1
  clear h1 hblk1 HCO k0
  go_wp2_with (at_builtin; refine wpList_append_lies _ rfl _ _ 69 rfl 0 79 i0 _ 3 40 Tryz.underlying69 hi hz0 hz1 hz2 rfl (by decide) (.slice none 0 0) 0 [] rfl (World.ownsRow_nil _ _ _ _) ⟨w1.heap.size, 0, none⟩ 1 1 [strV k, strV s, .bool gone] rfl rfl ?c1 ?c2 (by decide) ?c3 (by decide) (Nat.zero_le _) _ rfl ?_)
  case c1 => exact World.news_of_block (cs := #[strV k, strV s, .bool gone]) (heap_alloc_new _ _)
  case c2 => intro u hu; simp at hu; rcases hu with rfl | rfl | rfl <;> rfl
  case c3 => decide
  intro g cap w3 hown3 hgrow hg hlt3
  have hg' : g = w1.heap.size + 1 := by
    rcases hg with e | e
    · cases e
    · simpa using e
  have hbel : Below w1.heap.size w1 w3 := ((Below.refl _ _).alloc (Nat.le_refl _) _).grown hgrow (by simp) (fun j hj => by cases hj)
  have h3 := H1.out.later hbel
  have c58' := h3.vault.c58
  rw [H0.out.2] at c58'
  have f58' := h3.vault.fr 58
  have H3 := hide (And.intro h3 (And.intro hbel hown3))
  clear h3 hbel hgrow hg hlt3 c58 l0 l1 l2
  go_wp2_with (at_builtin; refine wpList_append_own_none rfl _ _ 69 rfl 0 79 i0 3 Tryz.underlying69 hi _ _ _ rfl H3.out.2.2 rfl ?_)
  go_ret
  obtain ⟨h3, hbel, hown3⟩ := H3.out
  subst hg'
  have hp : Kp [b] w3 (w3.setCell ⟨b, 58, none⟩ (.slice (some ⟨w1.heap.size + 1, 0, none⟩) 1 cap)) := (Kp.refl [b] w3).setCell b 58 _ (.inl (by simp))
  have hz3 := hbel.size
  refine ⟨rfl, .slice (some ⟨w1.heap.size + 1, 0, none⟩) 1 cap, h3.ofVault hp (h3.vault.set58 _), ?_, ?_, ?_⟩
  · exact owns_kp hown3 hp (fun j hj => by
      have : w1.heap.size + 1 = j := by simpa [Value.ownBlock] using hj
      simp; omega)
  · intro j hj
    have : w1.heap.size + 1 = j := by simpa [Value.ownBlock] using hj
    omega
  · exact ((Kp.of_below hb0).trans ((Kp.of_below hb1).trans (Kp.of_below hbel))).trans hp
set_option maxRecDepth 100000 in
set_option maxHeartbeats 1000000 in
theorem put_one (x : DX) (b : Nat) (m : DM) (v : VM) (wv : Value) (k s : List UInt8) (w : World) (h : Sys w x b m v wv) (ho : v.opened = true) (hcv : v.cv = .slice none 0 0) (h1 : 1 ≤ k.length) (h8 : k.length ≤ 8) (h16 : s.length ≤ 16) :
    Calls Tryz.prog 12 #[.pointer (some ⟨b, 0, none⟩), .string ⟨k.toArray⟩, .string ⟨s.toArray⟩] w fun e w' => e = .returned (.int .i64 0) ∧ ∃ cv, Sys w' x b m { v with cv := cv } wv ∧ OneChange w' cv k s false ∧ (∀ j, cv.ownBlock = some j → w.heap.size ≤ j) ∧ Kp [b] w w' := by
  have c1 := h.vault.c1
  rw [ho] at c1
  have HI := hide (isKey_any k w h1 h8)
  have HN := hide (note_one x b m v wv k s false w h hcv)
  have hs : (ByteArray.mk s.toArray).size = s.length := rfl
  have hd : decide ((16 : Int) < (s.length : Int)) = false := by simp; omega
  clear h ho hcv h1 h8 h16
  generalize s.length = n at *
  go_enter Tryz.func12, Tryz.ntmps12
  go_wp2_with fail
  refine HI.out.mono ?_
  rintro e w1 ⟨rfl, rfl⟩
  go_wp2_with fail
  refine HN.out.mono ?_
  rintro e w2 ⟨rfl, hr⟩
  have HR := hide hr
  clear hr HN HI
  go_wp2_with fail
  go_ret
  exact ⟨rfl, HR.out⟩
end Go.Proofs.YtjnhlkaafnaooabGreatDoor

namespace Go.Proofs.YtjnhlkaafnaooabGreatDoor
open Go.RowKit
structure CurAt (w : World) (c : Nat) (t : List UInt8) (p : Nat) (r : Bool) : Prop where
  blk : w.heap[c]? = some (.cells #[strV t, .int .i64 p, .bool r] 193 (0, 0))
theorem CurAt.lt {w : World} {c : Nat} {t : List UInt8} {p : Nat} {r : Bool} (h : CurAt w c t p r) : c < w.heap.size := lt_of_block h.blk
theorem CurAt.fr {w : World} {c : Nat} {t : List UInt8} {p : Nat} {r : Bool} (h : CurAt w c t p r) (i : Nat) : w.frozen? ⟨c, i, none⟩ = false := by simp [World.frozen?, h.blk]
theorem CurAt.c0 {w : World} {c : Nat} {t : List UInt8} {p : Nat} {r : Bool} (h : CurAt w c t p r) : w.cell? ⟨c, 0, none⟩ = some (strV t) := by rw [cell_of_row _ _ _ _ _ _ h.blk]; rfl
theorem CurAt.c1 {w : World} {c : Nat} {t : List UInt8} {p : Nat} {r : Bool} (h : CurAt w c t p r) : w.cell? ⟨c, 1, none⟩ = some (.int .i64 p) := by rw [cell_of_row _ _ _ _ _ _ h.blk]; rfl
theorem CurAt.c2 {w : World} {c : Nat} {t : List UInt8} {p : Nat} {r : Bool} (h : CurAt w c t p r) : w.cell? ⟨c, 2, none⟩ = some (.bool r) := by rw [cell_of_row _ _ _ _ _ _ h.blk]; rfl
theorem CurAt.set1 {w : World} {c : Nat} {t : List UInt8} {p : Nat} {r : Bool} (h : CurAt w c t p r) (y : Nat) : CurAt (w.setCell ⟨c, 1, none⟩ (.int .i64 y)) c t y r := ⟨by rw [set_prim h.blk 1 _]; simp⟩
theorem CurAt.of_block {w w' : World} {c : Nat} {t : List UInt8} {p : Nat} {r : Bool} (h : CurAt w c t p r) (e : w'.heap[c]? = w.heap[c]?) : CurAt w' c t p r := ⟨e.trans h.blk⟩
set_option maxRecDepth 100000 in
set_option maxHeartbeats 1000000 in
theorem take_ok (c : Nat) (t : List UInt8) (p n : Nat) (r : Bool) (w : World) (h : CurAt w c t p r) (hn : p + n ≤ t.length) (hl : t.length ≤ 1000) :
    Calls Tryz.prog 135 #[.pointer (some ⟨c, 0, none⟩), .int .i64 n] w fun e w' => e = .returned (strV ((t.drop p).take n)) ∧ CurAt w' c t (p + n) r ∧ Kp [c] w w' := by
  have c0 := h.c0
  have c1 := h.c1
  have f1 := h.fr 1
  have hs : (ByteArray.mk t.toArray).size = t.length := rfl
  have hx : (ByteArray.mk t.toArray).extract p (p + n) = ⟨((t.drop p).take n).toArray⟩ := by rw [ByteArray.extract_mk, Nat.add_sub_cancel_left]
  have i1 : (p : Int) + (n : Int) ≤ (t.length : Int) := by omega
  have i2 : (t.length : Int) ≤ 1000 := by omega
  have i3 : ¬ ((t.length : Int) - (p : Int) < (n : Int)) := by omega
  have i4 : decide ((t.length : Int) - (p : Int) < (n : Int)) = false := by simpa using i3
  have HH := hide h
  generalize hT : (t.drop p).take n = T at *
  generalize hL : t.length = L at *
  have HL := hide (And.intro hn hl)
  clear hn hl h hT hL i3
  go_enter Tryz.func135, Tryz.ntmps135
  go_wp2_with fail
  go_quiet (fail)
  obtain ⟨w1, hw1⟩ : ∃ w1, w.drewN nq = w1 := ⟨_, rfl⟩
  have h1 : CurAt w1 c t p r := hw1 ▸ (⟨HH.out.blk⟩ : CurAt (w.drewN nq) c t p r)
  have k1 : Kp [c] w w1 := hw1 ▸ (Kp.refl [c] w).drewN nq
  rw [hw1]
  clear hw1 c0 c1 f1 HH
  have c0 := h1.c0
  have c1 := h1.c1
  have H1 := hide h1
  clear h1
  go_wp2_with fail
  have hwr : IntKind.i64.wrap ((p : Int) + (n : Int)) = (p : Int) + (n : Int) := by rw [show (p : Int) + (n : Int) = ((p + n : Nat) : Int) from by omega]; exact wrap_i64_nat _ (by omega)
  go_quiet (fail)
  obtain ⟨w2, hw2⟩ : ∃ w2, w1.drewN nq = w2 := ⟨_, rfl⟩
  have h2 : CurAt w2 c t p r := hw2 ▸ (⟨H1.out.blk⟩ : CurAt (w1.drewN nq) c t p r)
  have k2 : Kp [c] w w2 := hw2 ▸ k1.drewN nq
  rw [hw2, hx]
  clear hw2 c0 c1 H1 k1
  have c1 := h2.c1
  have f1 := h2.fr 1
  have HF := hide (And.intro (h2.set1 (p + n)) (k2.setCell c 1 (.int .i64 (p + n : Nat)) (.inl (by simp))))
  clear h2 k2 hwr
  go_wp2_with fail
  go_ret
  exact ⟨rfl, HF.out.1, HF.out.2⟩
/-- The next byte. -/
theorem one_take_drop (t : List UInt8) (p : Nat) (h : p < t.length) : (t.drop p).take 1 = [t.getD p 0] := by
  have e : t.getD p 0 = t[p] := by simp [h]
  rw [e, List.drop_eq_getElem_cons h]
  rfl
set_option maxRecDepth 100000 in
set_option maxHeartbeats 1000000 in
theorem number_ok (c : Nat) (t : List UInt8) (p : Nat) (r : Bool) (w : World) (h : CurAt w c t p r) (hn : p < t.length) (hl : t.length ≤ 1000) :
    Calls Tryz.prog 136 #[.pointer (some ⟨c, 0, none⟩)] w fun e w' => e = .returned (.int .i64 ((t.getD p 0).toNat : Int)) ∧ CurAt w' c t (p + 1) r ∧ Kp [c] w w' := by
  have ht := take_ok c t p 1 r w h (by omega) hl
  rw [one_take_drop t p hn] at ht
  have HT := hide ht
  clear ht h hn hl
  generalize t.getD p 0 = y at *
  go_enter Tryz.func136, Tryz.ntmps136
  go_wp2_with fail
  refine HT.out.mono ?_
  rintro e w1 ⟨rfl, h1, k1⟩
  have H1 := hide (And.intro h1 k1)
  clear h1 k1 HT
  go_wp2_with fail
  go_ret
  exact ⟨ret_int (by show wrap64 ((y.toNat : Nat) : Int) = _; have := y.toNat_lt; unfold wrap64; omega), H1.out⟩
set_option maxRecDepth 100000 in
set_option maxHeartbeats 1000000 in
theorem word_ok (c : Nat) (t : List UInt8) (p lo hi n : Nat) (r : Bool) (w : World) (h : CurAt w c t p r) (hn : (t.getD p 0).toNat = n) (hlo : lo ≤ n) (hhi : n ≤ hi) (hp : p + 1 + n ≤ t.length) (hl : t.length ≤ 1000) :
    Calls Tryz.prog 148 #[.pointer (some ⟨c, 0, none⟩), .int .i64 lo, .int .i64 hi] w fun e w' => e = .returned (strV ((t.drop (p + 1)).take n)) ∧ CurAt w' c t (p + 1 + n) r ∧ Kp [c] w w' := by
  have HN := hide (number_ok c t p r w h (by omega) hl)
  rw [hn] at HN
  have d1 : decide (n < lo) = false := by simp; omega
  have d2 : decide (hi < n) = false := by simp; omega
  have HT := hide (fun w h => take_ok c t (p + 1) n r w h hp hl)
  clear h hn hlo hhi hp hl
  go_enter Tryz.func148, Tryz.ntmps148
  go_wp2_with fail
  refine HN.out.mono ?_
  rintro e w1 ⟨rfl, h1, k1⟩
  have HT1 := hide (HT.out w1 h1)
  clear HN HT h1
  go_wp2_with fail
  refine HT1.out.mono ?_
  rintro e w2 ⟨rfl, h2, k2⟩
  have HF := hide (And.intro h2 (k1.trans k2))
  clear HT1 h2 k1 k2
  go_wp2_with fail
  go_ret
  exact ⟨rfl, HF.out⟩
set_option maxRecDepth 100000 in
set_option maxHeartbeats 1000000 in
theorem noughts_ok (c : Nat) (t : List UInt8) (p : Nat) (r : Bool) (w : World) (h : CurAt w c t p r) (hz : ∀ i, p ≤ i → i < t.length → t.getD i 0 = 0) (hp : p ≤ t.length) (hl : t.length ≤ 1000) :
    Calls Tryz.prog 141 #[.pointer (some ⟨c, 0, none⟩)] w fun e w' => e = .returned (.tuple #[]) ∧ w' = w := by
  have c0 := h.c0
  have c1 := h.c1
  have hs : (ByteArray.mk t.toArray).size = t.length := rfl
  have hli : (t.length : Int) ≤ 1000 := by omega
  have HZ := hide hz
  have HT := hide (fun i (hi : i < t.length) => (by simp [hi] : t.getD i 0 = t[i]))
  clear h hz
  go_enter Tryz.func141, Tryz.ntmps141
  go_wp2_with fail
  go_loopw [2] (fun i wr => ∃ k : Nat, p ≤ k ∧ k ≤ t.length ∧ i = .int .i64 (k : Int) ∧ wr = w) (fun i _ => t.length - (intOf i).toNat)
  case atStart => exact ⟨p, by omega, hp, rfl, rfl⟩
  case round =>
    obtain ⟨k, hpk, hkl, rfl, rfl⟩ := hrel
    by_cases hlt : k < t.length
    · have hki : (k : Int) < (t.length : Int) := by omega
      have hb : (ByteArray.mk t.toArray)[k]'(by show k < t.length; exact hlt) = 0 := by
        have e := HT.out k hlt
        rw [HZ.out k hpk hlt] at e
        exact e.symm
      have HLT := hide hlt
      clear HZ HT hp hl
      go_wp2_with fail
      go_roundw
      case rel => exact ⟨k + 1, by omega, by have := HLT.out; omega, by go_num, by first | rfl | trivial⟩
      case measure => have := HLT.out; simp [intOf]; omega
    · have hkn : k = t.length := by omega
      subst hkn
      clear HZ HT hp hl hlt
      generalize t.length = L at *
      go_wp2_with fail
      go_end0
      exact ⟨rfl, rfl⟩
end Go.Proofs.YtjnhlkaafnaooabGreatDoor
