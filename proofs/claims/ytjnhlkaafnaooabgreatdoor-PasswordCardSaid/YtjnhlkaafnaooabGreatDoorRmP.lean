import Derived.Test.YtjnhlkaafnaooabGreatDoorRmG
import Derived.Test.YtjnhlkaafnaooabGreatDoorRmH
import Derived.Test.YtjnhlkaafnaooabGreatDoorRmI
import Derived.Test.YtjnhlkaafnaooabGreatDoorRmO
import Derived.Test.YtjnhlkaafnaooabGreatDoorRmK
namespace Go.Proofs.YtjnhlkaafnaooabGreatDoor
open Go.RowKit
theorem CurAt.set2 {w : World} {c : Nat} {t : List UInt8} {p : Nat} {r : Bool} (h : CurAt w c t p r) (y : Bool) : CurAt (w.setCell ⟨c, 2, none⟩ (.bool y)) c t p y := ⟨by rw [set_prim h.blk 2 _]; simp⟩
/-- What a cursor reads: the text, where it then is, whether all was right. -/
def takeC (t : List UInt8) (p n : Nat) (r : Bool) : List UInt8 × Nat × Bool := if p + n ≤ t.length then ((t.drop p).take n, p + n, r) else ([], p, false)
set_option maxRecDepth 100000 in
set_option maxHeartbeats 1000000 in
theorem take_short (c : Nat) (t : List UInt8) (p n : Nat) (r : Bool) (w : World) (h : CurAt w c t p r) (hn : ¬ p + n ≤ t.length) (hl : t.length ≤ 1000) (hp : p ≤ t.length) :
    Calls Tryz.prog 135 #[.pointer (some ⟨c, 0, none⟩), .int .i64 n] w fun e w' => e = .returned (strV []) ∧ CurAt w' c t p false ∧ Kp [c] w w' := by
  have c0 := h.c0
  have c1 := h.c1
  have f1 := h.fr 1
  have hs : (ByteArray.mk t.toArray).size = t.length := rfl
  have i1 : (p : Int) ≤ (t.length : Int) := by omega
  have i2 : (t.length : Int) ≤ 1000 := by omega
  have i4 : decide ((t.length : Int) - (p : Int) < (n : Int)) = true := by simp; omega
  have HH := hide h
  generalize hL : t.length = L at *
  clear hn hl h hL
  go_enter Tryz.func135, Tryz.ntmps135
  go_wp2_with fail
  go_quiet (fail)
  obtain ⟨w1, hw1⟩ : ∃ w1, w.drewN nq = w1 := ⟨_, rfl⟩
  have h1 : CurAt w1 c t p r := hw1 ▸ (⟨HH.out.blk⟩ : CurAt (w.drewN nq) c t p r)
  have k1 : Kp [c] w w1 := hw1 ▸ (Kp.refl [c] w).drewN nq
  rw [hw1]
  clear hw1 c0 c1 f1 HH
  have c2 := h1.c2
  have f2 := h1.fr 2
  have HF := hide (And.intro (h1.set2 false) (k1.setCell c 2 (.bool false) (.inl (by simp))))
  clear h1 k1
  go_wp2_with fail
  go_ret
  exact ⟨rfl, HF.out.1, HF.out.2⟩
theorem take_gen (c : Nat) (t : List UInt8) (p n : Nat) (r : Bool) (w : World) (h : CurAt w c t p r) (hl : t.length ≤ 1000) (hp : p ≤ t.length) :
    Calls Tryz.prog 135 #[.pointer (some ⟨c, 0, none⟩), .int .i64 n] w fun e w' => e = .returned (strV (takeC t p n r).1) ∧ CurAt w' c t (takeC t p n r).2.1 (takeC t p n r).2.2 ∧ Kp [c] w w' := by
  by_cases hn : p + n ≤ t.length
  · simp only [takeC, hn, if_true]; exact take_ok c t p n r w h hn hl
  · simp only [takeC, hn, if_false]; exact take_short c t p n r w h hn hl hp
theorem takeC_le {t : List UInt8} {p n : Nat} {r : Bool} (hp : p ≤ t.length) : (takeC t p n r).2.1 ≤ t.length := by
  unfold takeC; split <;> assumption
/-- The next byte, 0 where there is none. -/
def numC (t : List UInt8) (p : Nat) (r : Bool) : Nat × Nat × Bool := if p < t.length then ((t.getD p 0).toNat, p + 1, r) else (0, p, false)
theorem numC_le {t : List UInt8} {p : Nat} {r : Bool} (hp : p ≤ t.length) : (numC t p r).2.1 ≤ t.length := by
  unfold numC; split <;> simp only <;> omega
theorem numC_lt (t : List UInt8) (p : Nat) (r : Bool) : (numC t p r).1 < 256 := by
  unfold numC; split
  · exact (t.getD p 0).toNat_lt
  · simp
set_option maxRecDepth 100000 in
set_option maxHeartbeats 1000000 in
theorem number_gen (c : Nat) (t : List UInt8) (p : Nat) (r : Bool) (w : World) (h : CurAt w c t p r) (hl : t.length ≤ 1000) (hp : p ≤ t.length) :
    Calls Tryz.prog 136 #[.pointer (some ⟨c, 0, none⟩)] w fun e w' => e = .returned (.int .i64 ((numC t p r).1 : Int)) ∧ CurAt w' c t (numC t p r).2.1 (numC t p r).2.2 ∧ Kp [c] w w' := by
  by_cases hn : p < t.length
  · simp only [numC, hn, if_true]; exact number_ok c t p r w h hn hl
  · simp only [numC, hn, if_false]
    have HT := hide (take_short c t p 1 r w h (by omega) hl hp)
    clear h hn hl hp
    go_enter Tryz.func136, Tryz.ntmps136
    go_wp2_with fail
    refine HT.out.mono ?_
    rintro e w1 ⟨rfl, h1, k1⟩
    have H1 := hide (And.intro h1 k1)
    clear h1 k1 HT
    go_wp2_with fail
    go_ret
    exact ⟨rfl, H1.out⟩
/-- A length and a text. -/
def wrdC (t : List UInt8) (p lo hi : Nat) (r : Bool) : List UInt8 × Nat × Bool :=
  let a := numC t p r
  if a.1 < lo ∨ hi < a.1 then ([], a.2.1, false) else takeC t a.2.1 a.1 a.2.2
theorem wrdC_le {t : List UInt8} {p lo hi : Nat} {r : Bool} (hp : p ≤ t.length) : (wrdC t p lo hi r).2.1 ≤ t.length := by
  have := numC_le (r := r) hp
  unfold wrdC; simp only; split
  · exact this
  · exact takeC_le this
set_option maxRecDepth 100000 in
set_option maxHeartbeats 1000000 in
theorem word_gen (c : Nat) (t : List UInt8) (p lo hi : Nat) (r : Bool) (w : World) (h : CurAt w c t p r) (hl : t.length ≤ 1000) (hp : p ≤ t.length) :
    Calls Tryz.prog 148 #[.pointer (some ⟨c, 0, none⟩), .int .i64 lo, .int .i64 hi] w fun e w' => e = .returned (strV (wrdC t p lo hi r).1) ∧ CurAt w' c t (wrdC t p lo hi r).2.1 (wrdC t p lo hi r).2.2 ∧ Kp [c] w w' := by
  have HN := hide (number_gen c t p r w h hl hp)
  have HW := hide (show wrdC t p lo hi r = if (numC t p r).1 < lo ∨ hi < (numC t p r).1 then ([], (numC t p r).2.1, false) else takeC t (numC t p r).2.1 (numC t p r).1 (numC t p r).2.2 from rfl)
  have hq := numC_le (r := r) hp
  generalize (numC t p r).1 = n at *
  generalize (numC t p r).2.1 = q at *
  generalize (numC t p r).2.2 = r1 at *
  have HT := hide (fun w h => take_gen c t q n r1 w h hl hq)
  clear h hl hp hq
  by_cases hlo : n < lo
  · have d1 : decide (n < lo) = true := by simpa using hlo
    rw [HW.out, if_pos (.inl hlo)]
    clear HT HW hlo
    go_enter Tryz.func148, Tryz.ntmps148
    go_wp2_with fail
    refine HN.out.mono ?_
    rintro e w1 ⟨rfl, h1, k1⟩
    have c2 := h1.c2
    have f2 := h1.fr 2
    have HF := hide (And.intro (h1.set2 false) (k1.setCell c 2 (.bool false) (.inl (by simp))))
    clear HN h1 k1
    go_wp2_with fail
    go_ret
    exact ⟨rfl, HF.out⟩
  · by_cases hhi : hi < n
    · have d1 : decide (n < lo) = false := by simpa using hlo
      have d2 : decide (hi < n) = true := by simpa using hhi
      rw [HW.out, if_pos (.inr hhi)]
      clear HT HW hlo hhi
      go_enter Tryz.func148, Tryz.ntmps148
      go_wp2_with fail
      refine HN.out.mono ?_
      rintro e w1 ⟨rfl, h1, k1⟩
      have c2 := h1.c2
      have f2 := h1.fr 2
      have HF := hide (And.intro (h1.set2 false) (k1.setCell c 2 (.bool false) (.inl (by simp))))
      clear HN h1 k1
      go_wp2_with fail
      go_ret
      exact ⟨rfl, HF.out⟩
    · have d1 : decide (n < lo) = false := by simpa using hlo
      have d2 : decide (hi < n) = false := by simpa using hhi
      rw [HW.out, if_neg (by simp [hlo, hhi])]
      clear HW hlo hhi
      go_enter Tryz.func148, Tryz.ntmps148
      go_wp2_with fail
      refine HN.out.mono ?_
      rintro e w1 ⟨rfl, h1, k1⟩
      have HT1 := hide (HT.out w1 h1)
      clear HN HT h1
      go_wp2_with fail
      refine HT1.out.mono ?_
      rintro e w2 ⟨rfl, h2, k2⟩
      have HF := hide (And.intro h2 (k1.trans k2))
      clear HT1 h2 k1 k2
      go_wp2_with fail
      go_ret
      exact ⟨rfl, HF.out⟩
end Go.Proofs.YtjnhlkaafnaooabGreatDoor

namespace Go.Proofs.YtjnhlkaafnaooabGreatDoor
open Go.RowKit
set_option maxRecDepth 100000 in
set_option maxHeartbeats 1000000 in
theorem entry_leaf_of (c : Nat) (t k s : List UInt8) (p p1 p2 : Nat) (r r1 r2 : Bool) (w : World) (h : CurAt w c t p r)
    (hw1 : ∀ w, CurAt w c t p r → Calls Tryz.prog 148 #[.pointer (some ⟨c, 0, none⟩), .int .i64 (1 : Nat), .int .i64 (8 : Nat)] w fun e w' => e = .returned (strV k) ∧ CurAt w' c t p1 r1 ∧ Kp [c] w w')
    (hw2 : ∀ w, CurAt w c t p1 r1 → Calls Tryz.prog 148 #[.pointer (some ⟨c, 0, none⟩), .int .i64 (0 : Nat), .int .i64 (16 : Nat)] w fun e w' => e = .returned (strV s) ∧ CurAt w' c t p2 r2 ∧ Kp [c] w w') :
    Calls Tryz.prog 140 #[.pointer (some ⟨c, 0, none⟩), .bool true] w fun e w' => e = .returned (.agg (entV k s 0 [] (.pointer none)).toArray) ∧ CurAt w' c t p2 r2 ∧ Kp [c] w w' := by
  have hlt := h.lt
  have HW1 := hide hw1
  have HW2 := hide hw2
  have HH := hide h
  clear hw1 hw2 h
  obtain ⟨w0, hw0⟩ : ∃ w0, (w.alloc (.cells #[.string ⟨#[]⟩, .string ⟨#[]⟩, .int .i64 0, .string ⟨#[]⟩, .pointer none] 128)).alloc (.cells #[.string ⟨#[]⟩, .string ⟨#[]⟩, .int .i64 0, .string ⟨#[]⟩, .pointer none] 128) = w0 := ⟨_, rfl⟩
  have hz0 : w0.heap.size = w.heap.size + 2 := by rw [← hw0]; simp
  have hb0 : Below w.heap.size w w0 := hw0 ▸ ((Below.refl _ _).alloc (Nat.le_refl _) _).alloc (by simp) _
  have q4 : w0.heap[w.heap.size]? = some (.cells #[.string ⟨#[]⟩, .string ⟨#[]⟩, .int .i64 0, .string ⟨#[]⟩, .pointer none] 128 (0, 0)) := hw0 ▸ (((Kp.refl [] _).alloc _).block _ (by simp) (by simp)).trans (heap_alloc_new w _)
  have q5 : w0.heap[w.heap.size + 1]? = some (.cells #[.string ⟨#[]⟩, .string ⟨#[]⟩, .int .i64 0, .string ⟨#[]⟩, .pointer none] 128 (0, 0)) := by
    have := heap_alloc_new (w.alloc (.cells #[.string ⟨#[]⟩, .string ⟨#[]⟩, .int .i64 0, .string ⟨#[]⟩, .pointer none] 128)) (.cells #[.string ⟨#[]⟩, .string ⟨#[]⟩, .int .i64 0, .string ⟨#[]⟩, .pointer none] 128)
    rw [World.size_alloc] at this
    rw [← hw0]; exact this
  have H0 := hide (And.intro q4 q5)
  have h0 : CurAt w0 c t p r := HH.out.of_block (hb0.block c hlt)
  have HC := hide (HW1.out w0 h0)
  have HW0 := hide hw0
  clear q4 q5 HW1 h0 hw0
  go_enter Tryz.func140, Tryz.ntmps140
  go_wp2_with fail
  rw [HW0.out]
  refine HC.out.mono ?_
  rintro e w1 ⟨rfl, h1, k1⟩
  have q4 := (k1.block w.heap.size (by omega) (by simp; omega)).trans H0.out.1
  have q5 := (k1.block (w.heap.size + 1) (by omega) (by simp; omega)).trans H0.out.2
  have e0 : w1.cell? ⟨w.heap.size + 1, 0, none⟩ = some (.string ⟨#[]⟩) := by rw [cell_of_row _ _ _ _ _ _ q5]; rfl
  have f0 : w1.frozen? ⟨w.heap.size + 1, 0, none⟩ = false := by simp [World.frozen?, q5]
  obtain ⟨w2, hw2⟩ : ∃ w2, w1.setCell ⟨w.heap.size + 1, 0, none⟩ (strV k) = w2 := ⟨_, rfl⟩
  have q52 : w2.heap[w.heap.size + 1]? = some (.cells #[strV k, .string ⟨#[]⟩, .int .i64 0, .string ⟨#[]⟩, .pointer none] 128 (0, 0)) := by rw [← hw2, set_prim q5 0 _]; simp
  have q42 : w2.heap[w.heap.size]? = _ := hw2 ▸ set_far q4 _ _ (by simp)
  have hz1 := k1.size
  have h2 : CurAt w2 c t p1 r1 := hw2 ▸ h1.of_block (Below.heap_setCell _ _ _ _ (by simp; omega))
  have k2 : Kp [c] w w2 := hw2 ▸ ((Kp.of_below hb0).trans k1).setCell _ 0 _ (.inr (by omega))
  have hz2 : w2.heap.size = w1.heap.size := by rw [← hw2]; simp [World.setCell]
  have HC2 := hide (HW2.out w2 h2)
  have H2 := hide (And.intro q42 q52)
  clear HC HW2 H0 q4 q5 q42 q52 h1 h2 k1
  go_wp2_with fail
  refine HC2.out.mono ?_
  rintro e w3 ⟨rfl, h3, k3⟩
  have q4 := (k3.block w.heap.size (by omega) (by simp; omega)).trans H2.out.1
  have q5 := (k3.block (w.heap.size + 1) (by omega) (by simp; omega)).trans H2.out.2
  have e1 : w3.cell? ⟨w.heap.size + 1, 1, none⟩ = some (.string ⟨#[]⟩) := by rw [cell_of_row _ _ _ _ _ _ q5]; rfl
  have f1 : w3.frozen? ⟨w.heap.size + 1, 1, none⟩ = false := by simp [World.frozen?, q5]
  obtain ⟨w4, hw4⟩ : ∃ w4, w3.setCell ⟨w.heap.size + 1, 1, none⟩ (strV s) = w4 := ⟨_, rfl⟩
  have q54 : w4.heap[w.heap.size + 1]? = some (.cells #[strV k, strV s, .int .i64 0, .string ⟨#[]⟩, .pointer none] 128 (0, 0)) := by rw [← hw4, set_prim q5 1 _]; simp
  have q44 : w4.heap[w.heap.size]? = _ := hw4 ▸ set_far q4 _ _ (by simp)
  have h4 : CurAt w4 c t p2 r2 := hw4 ▸ h3.of_block (Below.heap_setCell _ _ _ _ (by simp; omega))
  have k4 : Kp [c] w w4 := hw4 ▸ (k2.trans k3).setCell _ 1 _ (.inr (by omega))
  have g0 : w4.cell? ⟨w.heap.size + 1, 0, none⟩ = some (strV k) := by rw [cell_of_row _ _ _ _ _ _ q54]; rfl
  have g1 : w4.cell? ⟨w.heap.size + 1, 1, none⟩ = some (strV s) := by rw [cell_of_row _ _ _ _ _ _ q54]; rfl
  have g2 : w4.cell? ⟨w.heap.size + 1, 2, none⟩ = some (.int .i64 0) := by rw [cell_of_row _ _ _ _ _ _ q54]; rfl
  have g3 : w4.cell? ⟨w.heap.size + 1, 3, none⟩ = some (.string ⟨#[]⟩) := by rw [cell_of_row _ _ _ _ _ _ q54]; rfl
  have g4 : w4.cell? ⟨w.heap.size + 1, 4, none⟩ = some (.pointer none) := by rw [cell_of_row _ _ _ _ _ _ q54]; rfl
  have r0 : w4.there w.heap.size 0 5 := by
    intro j hj
    rw [Nat.zero_add]
    exact ⟨by rw [cell_of_row _ _ _ _ _ _ q44]; simp [hj], by simp [World.frozen?, q44]⟩
  have HR := hide r0
  have HONE := hide (all_oneCell_toArray (cs := [strV k, strV s, .int .i64 0, .string ⟨#[]⟩, .pointer none]) (by intro u hu; simp at hu; rcases hu with rfl | rfl | rfl | rfl | rfl <;> rfl))
  have hz3 := k3.size
  have HF := hide (And.intro h4 k4)
  clear h3 k3 h4 k4 q4 q5 q44 q54 HC2 H2 k2 r0
  go_wp2_with (first | refine wpList_store_mid rfl 128 _ _ rfl w.heap.size 0 #[strV k, strV s, .int .i64 0, .string ⟨#[]⟩, .pointer none] rfl rfl HR.out (by kernel_rfl) HONE.out ?_)
  have hrr : (w4.setCells w.heap.size 0 [strV k, strV s, .int .i64 0, .string ⟨#[]⟩, .pointer none]).rangeAt w.heap.size 0 [strV k, strV s, .int .i64 0, .string ⟨#[]⟩, .pointer none] := by
    intro j v hj
    have hjl : j < 5 := by
      rcases Nat.lt_or_ge j 5 with g | g
      · exact g
      · rw [List.getElem?_eq_none (by simpa using g)] at hj; cases hj
    have := World.cell?_setCells_in w.heap.size [strV k, strV s, .int .i64 0, .string ⟨#[]⟩, .pointer none] 0 w4 (fun q hq => (HR.out q (by simpa using hq)).1) j (by simpa using hjl)
    rw [this, ← hj, List.getElem?_eq_getElem]
  have kk : Kp [c] w (w4.setCells w.heap.size 0 [strV k, strV s, .int .i64 0, .string ⟨#[]⟩, .pointer none]) := HF.out.2.setCells _ 0 _ (.inr (Nat.le_refl _))
  have hcc : CurAt (w4.setCells w.heap.size 0 [strV k, strV s, .int .i64 0, .string ⟨#[]⟩, .pointer none]) c t p2 r2 := HF.out.1.of_block ((setCells_block _ _ _ _).2.2.2.2 c (by omega))
  exact bodyPost_ret (v := .agg #[strV k, strV s, .int .i64 0, .string ⟨#[]⟩, .pointer none]) (results_cell_mid Tryz.results140 _ _ w.heap.size 0 [strV k, strV s, .int .i64 0, .string ⟨#[]⟩, .pointer none] _ (by kernel_rfl) hrr Tryz.underlying128 rfl (by kernel_rfl)) (by kernel_rfl) ⟨rfl, hcc, kk⟩
set_option maxRecDepth 100000 in
set_option maxHeartbeats 1000000 in
theorem entry_inner_of (c : Nat) (t k d : List UInt8) (pl p p1 p2 p3 : Nat) (r r1 r2 r3 : Bool) (w : World) (h : CurAt w c t p r)
    (hw1 : ∀ w, CurAt w c t p r → Calls Tryz.prog 148 #[.pointer (some ⟨c, 0, none⟩), .int .i64 (1 : Nat), .int .i64 (8 : Nat)] w fun e w' => e = .returned (strV k) ∧ CurAt w' c t p1 r1 ∧ Kp [c] w w')
    (hw2 : ∀ w, CurAt w c t p1 r1 → Calls Tryz.prog 136 #[.pointer (some ⟨c, 0, none⟩)] w fun e w' => e = .returned (.int .i64 (pl : Int)) ∧ CurAt w' c t p2 r2 ∧ Kp [c] w w')
    (hw3' : ∀ w, CurAt w c t p2 r2 → Calls Tryz.prog 135 #[.pointer (some ⟨c, 0, none⟩), .int .i64 (32 : Nat)] w fun e w' => e = .returned (strV d) ∧ CurAt w' c t p3 r3 ∧ Kp [c] w w') :
    Calls Tryz.prog 140 #[.pointer (some ⟨c, 0, none⟩), .bool false] w fun e w' => e = .returned (.agg (entV k [] pl d (.pointer none)).toArray) ∧ CurAt w' c t p3 r3 ∧ Kp [c] w w' := by
  have hlt := h.lt
  have HW1 := hide hw1
  have HW2 := hide hw2
  have HW3 := hide hw3'
  have HH := hide h
  clear hw1 hw2 hw3' h
  obtain ⟨w0, hw0⟩ : ∃ w0, (w.alloc (.cells #[.string ⟨#[]⟩, .string ⟨#[]⟩, .int .i64 0, .string ⟨#[]⟩, .pointer none] 128)).alloc (.cells #[.string ⟨#[]⟩, .string ⟨#[]⟩, .int .i64 0, .string ⟨#[]⟩, .pointer none] 128) = w0 := ⟨_, rfl⟩
  have hz0 : w0.heap.size = w.heap.size + 2 := by rw [← hw0]; simp
  have hb0 : Below w.heap.size w w0 := hw0 ▸ ((Below.refl _ _).alloc (Nat.le_refl _) _).alloc (by simp) _
  have q4 : w0.heap[w.heap.size]? = some (.cells #[.string ⟨#[]⟩, .string ⟨#[]⟩, .int .i64 0, .string ⟨#[]⟩, .pointer none] 128 (0, 0)) := hw0 ▸ (((Kp.refl [] _).alloc _).block _ (by simp) (by simp)).trans (heap_alloc_new w _)
  have q5 : w0.heap[w.heap.size + 1]? = some (.cells #[.string ⟨#[]⟩, .string ⟨#[]⟩, .int .i64 0, .string ⟨#[]⟩, .pointer none] 128 (0, 0)) := by
    have := heap_alloc_new (w.alloc (.cells #[.string ⟨#[]⟩, .string ⟨#[]⟩, .int .i64 0, .string ⟨#[]⟩, .pointer none] 128)) (.cells #[.string ⟨#[]⟩, .string ⟨#[]⟩, .int .i64 0, .string ⟨#[]⟩, .pointer none] 128)
    rw [World.size_alloc] at this
    rw [← hw0]; exact this
  have H0 := hide (And.intro q4 q5)
  have h0 : CurAt w0 c t p r := HH.out.of_block (hb0.block c hlt)
  have HC := hide (HW1.out w0 h0)
  have HW0 := hide hw0
  clear q4 q5 HW1 h0 hw0
  go_enter Tryz.func140, Tryz.ntmps140
  go_wp2_with fail
  rw [HW0.out]
  refine HC.out.mono ?_
  rintro e w1 ⟨rfl, h1, k1⟩
  have q4 := (k1.block w.heap.size (by omega) (by simp; omega)).trans H0.out.1
  have q5 := (k1.block (w.heap.size + 1) (by omega) (by simp; omega)).trans H0.out.2
  have e0 : w1.cell? ⟨w.heap.size + 1, 0, none⟩ = some (.string ⟨#[]⟩) := by rw [cell_of_row _ _ _ _ _ _ q5]; rfl
  have f0 : w1.frozen? ⟨w.heap.size + 1, 0, none⟩ = false := by simp [World.frozen?, q5]
  obtain ⟨w2, hw2⟩ : ∃ w2, w1.setCell ⟨w.heap.size + 1, 0, none⟩ (strV k) = w2 := ⟨_, rfl⟩
  have q52 : w2.heap[w.heap.size + 1]? = some (.cells #[strV k, .string ⟨#[]⟩, .int .i64 0, .string ⟨#[]⟩, .pointer none] 128 (0, 0)) := by rw [← hw2, set_prim q5 0 _]; simp
  have q42 : w2.heap[w.heap.size]? = _ := hw2 ▸ set_far q4 _ _ (by simp)
  have hz1 := k1.size
  have h2 : CurAt w2 c t p1 r1 := hw2 ▸ h1.of_block (Below.heap_setCell _ _ _ _ (by simp; omega))
  have k2 : Kp [c] w w2 := hw2 ▸ ((Kp.of_below hb0).trans k1).setCell _ 0 _ (.inr (by omega))
  have hz2 : w2.heap.size = w1.heap.size := by rw [← hw2]; simp [World.setCell]
  have HC2 := hide (HW2.out w2 h2)
  have H2 := hide (And.intro q42 q52)
  clear HC HW2 H0 q4 q5 q42 q52 h1 h2 k1
  go_wp2_with fail
  refine HC2.out.mono ?_
  rintro e w3 ⟨rfl, h3, k3⟩
  have q4 := (k3.block w.heap.size (by omega) (by simp; omega)).trans H2.out.1
  have q5 := (k3.block (w.heap.size + 1) (by omega) (by simp; omega)).trans H2.out.2
  have e1 : w3.cell? ⟨w.heap.size + 1, 2, none⟩ = some (.int .i64 0) := by rw [cell_of_row _ _ _ _ _ _ q5]; rfl
  have f1 : w3.frozen? ⟨w.heap.size + 1, 2, none⟩ = false := by simp [World.frozen?, q5]
  obtain ⟨w4, hw4⟩ : ∃ w4, w3.setCell ⟨w.heap.size + 1, 2, none⟩ (.int .i64 (pl : Int)) = w4 := ⟨_, rfl⟩
  have q54 : w4.heap[w.heap.size + 1]? = some (.cells #[strV k, .string ⟨#[]⟩, .int .i64 (pl : Int), .string ⟨#[]⟩, .pointer none] 128 (0, 0)) := by rw [← hw4, set_prim q5 2 _]; simp
  have q44 : w4.heap[w.heap.size]? = _ := hw4 ▸ set_far q4 _ _ (by simp)
  have h4 : CurAt w4 c t p2 r2 := hw4 ▸ h3.of_block (Below.heap_setCell _ _ _ _ (by simp; omega))
  have k4 : Kp [c] w w4 := hw4 ▸ (k2.trans k3).setCell _ 2 _ (.inr (by omega))
  have hz3 := k3.size
  have hz4 : w4.heap.size = w3.heap.size := by rw [← hw4]; simp [World.setCell]
  have HC3 := hide (HW3.out w4 h4)
  have H4 := hide (And.intro q44 (And.intro q54 k4))
  have HW4 := hide hw4
  clear HC2 HW3 H2 q4 q5 q44 q54 h3 h4 k2 k3 k4 hw4
  go_wp2_with fail
  rw [HW4.out]
  refine HC3.out.mono ?_
  rintro e w5 ⟨rfl, h5, k5⟩
  have hz5 := k5.size
  have q4 := (k5.block w.heap.size (by omega) (by simp; omega)).trans H4.out.1
  have q5 := (k5.block (w.heap.size + 1) (by omega) (by simp; omega)).trans H4.out.2.1
  have e3 : w5.cell? ⟨w.heap.size + 1, 3, none⟩ = some (.string ⟨#[]⟩) := by rw [cell_of_row _ _ _ _ _ _ q5]; rfl
  have f3 : w5.frozen? ⟨w.heap.size + 1, 3, none⟩ = false := by simp [World.frozen?, q5]
  obtain ⟨w6, hw6⟩ : ∃ w6, w5.setCell ⟨w.heap.size + 1, 3, none⟩ (strV d) = w6 := ⟨_, rfl⟩
  have q54 : w6.heap[w.heap.size + 1]? = some (.cells #[strV k, .string ⟨#[]⟩, .int .i64 (pl : Int), strV d, .pointer none] 128 (0, 0)) := by rw [← hw6, set_prim q5 3 _]; simp
  have q44 : w6.heap[w.heap.size]? = _ := hw6 ▸ set_far q4 _ _ (by simp)
  have h6 : CurAt w6 c t p3 r3 := hw6 ▸ h5.of_block (Below.heap_setCell _ _ _ _ (by simp; omega))
  have k6 : Kp [c] w w6 := hw6 ▸ (H4.out.2.2.trans k5).setCell _ 3 _ (.inr (by omega))
  have g0 : w6.cell? ⟨w.heap.size + 1, 0, none⟩ = some (strV k) := by rw [cell_of_row _ _ _ _ _ _ q54]; rfl
  have g1 : w6.cell? ⟨w.heap.size + 1, 1, none⟩ = some (.string ⟨#[]⟩) := by rw [cell_of_row _ _ _ _ _ _ q54]; rfl
  have g2 : w6.cell? ⟨w.heap.size + 1, 2, none⟩ = some (.int .i64 (pl : Int)) := by rw [cell_of_row _ _ _ _ _ _ q54]; rfl
  have g3 : w6.cell? ⟨w.heap.size + 1, 3, none⟩ = some (strV d) := by rw [cell_of_row _ _ _ _ _ _ q54]; rfl
  have g4 : w6.cell? ⟨w.heap.size + 1, 4, none⟩ = some (.pointer none) := by rw [cell_of_row _ _ _ _ _ _ q54]; rfl
  have r0 : w6.there w.heap.size 0 5 := by
    intro j hj
    rw [Nat.zero_add]
    exact ⟨by rw [cell_of_row _ _ _ _ _ _ q44]; simp [hj], by simp [World.frozen?, q44]⟩
  have HR := hide r0
  have HONE := hide (all_oneCell_toArray (cs := [strV k, .string ⟨#[]⟩, .int .i64 (pl : Int), strV d, .pointer none]) (by intro u hu; simp at hu; rcases hu with rfl | rfl | rfl | rfl | rfl <;> rfl))
  have HF := hide (And.intro h6 k6)
  clear h5 k5 h6 k6 q4 q5 q44 q54 HC3 H4 HW4 r0
  go_wp2_with (first | refine wpList_store_mid rfl 128 _ _ rfl w.heap.size 0 #[strV k, .string ⟨#[]⟩, .int .i64 (pl : Int), strV d, .pointer none] rfl rfl HR.out (by kernel_rfl) HONE.out ?_)
  have hrr : (w6.setCells w.heap.size 0 [strV k, .string ⟨#[]⟩, .int .i64 (pl : Int), strV d, .pointer none]).rangeAt w.heap.size 0 [strV k, .string ⟨#[]⟩, .int .i64 (pl : Int), strV d, .pointer none] := by
    intro j v hj
    have hjl : j < 5 := by
      rcases Nat.lt_or_ge j 5 with g | g
      · exact g
      · rw [List.getElem?_eq_none (by simpa using g)] at hj; cases hj
    have := World.cell?_setCells_in w.heap.size [strV k, .string ⟨#[]⟩, .int .i64 (pl : Int), strV d, .pointer none] 0 w6 (fun q hq => (HR.out q (by simpa using hq)).1) j (by simpa using hjl)
    rw [this, ← hj, List.getElem?_eq_getElem]
  have kk : Kp [c] w (w6.setCells w.heap.size 0 [strV k, .string ⟨#[]⟩, .int .i64 (pl : Int), strV d, .pointer none]) := HF.out.2.setCells _ 0 _ (.inr (Nat.le_refl _))
  have hcc : CurAt (w6.setCells w.heap.size 0 [strV k, .string ⟨#[]⟩, .int .i64 (pl : Int), strV d, .pointer none]) c t p3 r3 := HF.out.1.of_block ((setCells_block _ _ _ _).2.2.2.2 c (by omega))
  exact bodyPost_ret (v := .agg #[strV k, .string ⟨#[]⟩, .int .i64 (pl : Int), strV d, .pointer none]) (results_cell_mid Tryz.results140 _ _ w.heap.size 0 [strV k, .string ⟨#[]⟩, .int .i64 (pl : Int), strV d, .pointer none] _ (by kernel_rfl) hrr Tryz.underlying128 rfl (by kernel_rfl)) (by kernel_rfl) ⟨rfl, hcc, kk⟩
end Go.Proofs.YtjnhlkaafnaooabGreatDoor

namespace Go.Proofs.YtjnhlkaafnaooabGreatDoor
open Go.RowKit
/-- Noughts up to the end. -/
def zerosC (t : List UInt8) (p : Nat) : Bool := (t.drop p).all (· == 0)
theorem all_take_step (l : List UInt8) (k : Nat) (h : k < l.length) : (l.take (k + 1)).all (· == 0) = ((l.take k).all (· == 0) && l[k] == 0) := by
  rw [List.take_succ_eq_append_getElem h, List.all_append]; simp
set_option maxRecDepth 100000 in
set_option maxHeartbeats 1000000 in
theorem noughts_gen (c : Nat) (t : List UInt8) (p : Nat) (r : Bool) (w : World) (h : CurAt w c t p r) (hp : p ≤ t.length) (hl : t.length ≤ 1000) :
    Calls Tryz.prog 141 #[.pointer (some ⟨c, 0, none⟩)] w fun e w' => e = .returned (.tuple #[]) ∧ CurAt w' c t p (r && zerosC t p) ∧ Kp [c] w w' := by
  have c0 := h.c0
  have c1 := h.c1
  have hs : (ByteArray.mk t.toArray).size = t.length := rfl
  have hli : (t.length : Int) ≤ 1000 := by omega
  have HZ := hide (show zerosC t p = (t.drop p).all (· == 0) from rfl)
  have HH := hide h
  clear h
  go_enter Tryz.func141, Tryz.ntmps141
  go_wp2_with fail
  go_loopw [2] (fun i wr => ∃ k : Nat, p + k ≤ t.length ∧ i = .int .i64 ((p + k : Nat) : Int) ∧ CurAt wr c t p (r && ((t.drop p).take k).all (· == 0)) ∧ Kp [c] w wr) (fun i _ => t.length - (intOf i).toNat)
  case atStart => exact ⟨0, by omega, by simp, by simpa using HH.out, Kp.refl _ _⟩
  case round =>
    clear c0 c1
    obtain ⟨k, hkl, rfl, hc, hkp⟩ := hrel
    have c0 := hc.c0
    have c1 := hc.c1
    have c2 := hc.c2
    have f2 := hc.fr 2
    by_cases hlt : p + k < t.length
    · have hki : ((p + k : Nat) : Int) < (t.length : Int) := by omega
      obtain ⟨q, hq⟩ : ∃ q, p + k = q := ⟨_, rfl⟩
      have hstep := all_take_step (t.drop p) k (by simp; omega)
      rw [List.getElem_drop] at hstep
      simp only [hq] at hstep hlt hki ⊢
      obtain ⟨y, hy⟩ : ∃ y, t[q] = y := ⟨_, rfl⟩
      have hb : (ByteArray.mk t.toArray)[q]'(by show q < t.length; exact hlt) = y := hy
      rw [hy] at hstep
      have HLT := hide hlt
      have HS := hide hstep
      have HQ := hide hq
      by_cases hy0 : y = 0
      · subst hy0
        have HC := hide (And.intro hc hkp)
        clear hc hkp hstep hy hq c2 f2
        go_wp2_with fail
        have hq := HQ.out
        have hlt' := HLT.out
        refine ⟨⟨k + 1, by omega, by rw [show ((p + (k + 1) : Nat) : Int) = (q : Int) + 1 from by omega], ?_, HC.out.2⟩, by simp [intOf]; omega⟩
        rw [HS.out]
        simpa using HC.out.1
      · have HC := hide (And.intro (hc.set2 false) (hkp.setCell c 2 (.bool false) (.inl (by simp))))
        have hyb : (y == 0) = false := by simpa using hy0
        have hyi : ((y.toNat : Int) == 0) = false := by
          rw [beq_eq_false_iff_ne]; intro e; apply hy0; exact UInt8.toNat_inj.mp (by simp; omega)
        clear hc hkp hstep hy hq
        go_wp2_with fail
        have hq := HQ.out
        have hlt' := HLT.out
        refine ⟨⟨k + 1, by omega, by rw [show ((p + (k + 1) : Nat) : Int) = (q : Int) + 1 from by omega], ?_, HC.out.2⟩, by simp [intOf]; omega⟩
        rw [HS.out]
        simpa [hyb] using HC.out.1
    · obtain rfl : k = t.length - p := by omega
      rw [List.take_of_length_le (by simp), ← HZ.out] at hc
      have HC := hide (And.intro hc hkp)
      clear hc hkp c2 f2 HZ HH hp
      rw [show p + (t.length - p) = t.length from by omega]
      clear hlt hkl
      generalize t.length = L at *
      go_wp2_with fail
      go_end0
      exact ⟨rfl, HC.out⟩
end Go.Proofs.YtjnhlkaafnaooabGreatDoor

namespace Go.Proofs.YtjnhlkaafnaooabGreatDoor
open Go.RowKit
/-- An entry, as a page has it. -/
structure Ent where
  key : List UInt8
  value : List UInt8
  place : Nat
  digest : List UInt8
def Ent.cells (e : Ent) : List Value := entV e.key e.value e.place e.digest (.pointer none)
/-- The next entry. -/
def entC (t : List UInt8) (leaf : Bool) (p : Nat) (r : Bool) : Ent × Nat × Bool :=
  let a := wrdC t p 1 8 r
  if leaf then
    let b := wrdC t a.2.1 0 16 a.2.2
    (⟨a.1, b.1, 0, []⟩, b.2.1, b.2.2)
  else
    let n := numC t a.2.1 a.2.2
    let d := takeC t n.2.1 32 n.2.2
    (⟨a.1, [], n.1, d.1⟩, d.2.1, d.2.2)
theorem entC_le {t : List UInt8} {leaf : Bool} {p : Nat} {r : Bool} (hp : p ≤ t.length) : (entC t leaf p r).2.1 ≤ t.length := by
  unfold entC
  cases leaf
  · exact takeC_le (numC_le (wrdC_le hp))
  · exact wrdC_le (wrdC_le hp)
theorem entry_gen (c : Nat) (t : List UInt8) (leaf : Bool) (p : Nat) (r : Bool) (w : World) (h : CurAt w c t p r) (hl : t.length ≤ 1000) (hp : p ≤ t.length) :
    Calls Tryz.prog 140 #[.pointer (some ⟨c, 0, none⟩), .bool leaf] w fun e w' => e = .returned (.agg (entC t leaf p r).1.cells.toArray) ∧ CurAt w' c t (entC t leaf p r).2.1 (entC t leaf p r).2.2 ∧ Kp [c] w w' := by
  cases leaf
  · exact entry_inner_of c t _ _ _ p _ _ _ r _ _ _ w h (fun w h => word_gen c t p 1 8 r w h hl hp) (fun w h => number_gen c t _ _ w h hl (wrdC_le hp)) (fun w h => take_gen c t _ 32 _ w h hl (numC_le (wrdC_le hp)))
  · exact entry_leaf_of c t _ _ p _ _ r _ _ w h (fun w h => word_gen c t p 1 8 r w h hl hp) (fun w h => word_gen c t _ 0 16 _ w h hl (wrdC_le hp))
end Go.Proofs.YtjnhlkaafnaooabGreatDoor

namespace Go.Proofs.YtjnhlkaafnaooabGreatDoor
open Go.RowKit
/-- The cells of entries. -/
def entRow (es : List Ent) : List Value := es.flatMap Ent.cells
theorem Ent.cells_len (e : Ent) : e.cells.length = 5 := rfl
theorem entRow_len (es : List Ent) : (entRow es).length = es.length * 5 := by
  induction es with
  | nil => rfl
  | cons e es ih => simp only [entRow, List.flatMap_cons, List.length_append, Ent.cells_len, List.length_cons] at ih ⊢; omega
theorem entRow_get : ∀ (es : List Ent) (i j : Nat) (e : Ent), es[i]? = some e → j < 5 → (entRow es)[i * 5 + j]? = e.cells[j]?
  | [], _, _, _, h, _ => by simp at h
  | a :: es, 0, j, e, h, hj => by
    simp only [List.getElem?_cons_zero, Option.some.injEq] at h
    subst h
    simp only [entRow, List.flatMap_cons, Nat.zero_mul, Nat.zero_add]
    rw [List.getElem?_append_left (by rw [Ent.cells_len]; exact hj)]
  | a :: es, i + 1, j, e, h, hj => by
    simp only [List.getElem?_cons_succ] at h
    have ih := entRow_get es i j e h hj
    simp only [entRow, List.flatMap_cons] at ih ⊢
    rw [List.getElem?_append_right (by rw [Ent.cells_len]; omega), Ent.cells_len, ← ih]
    congr 1
    omega
theorem entRow_snoc (es : List Ent) (e : Ent) : entRow (es ++ [e]) = entRow es ++ e.cells := by simp [entRow]
/-- A node in memory, with its entries. -/
structure EntsAt (w : World) (n : Nat) (leaf : Bool) (place : Nat) (digest : List UInt8) (es : List Ent) (ev : Value) : Prop where
  node : NodeAt w n leaf place digest ev
  own : w.ownsRow 0 128 5 ev es.length (entRow es)
  ne : ∀ j, ev.ownBlock = some j → j ≠ n
section
variable {w : World} {n : Nat} {leaf : Bool} {place : Nat} {digest : List UInt8} {es : List Ent} {ev : Value}
theorem EntsAt.row (h : EntsAt w n leaf place digest es ev) (h0 : es ≠ []) : ∃ be cap, ev = .slice (some ⟨be, 0, none⟩) es.length cap ∧ be < w.heap.size ∧ be ≠ n ∧ es.length ≤ cap ∧ cap ≤ maxLen ∧
    (∀ i e, es[i]? = some e → ∀ j, j < 5 → w.cell? ⟨be, i * 5 + j, none⟩ = e.cells[j]?) ∧ (∀ i, w.frozen? ⟨be, i, none⟩ = false) := by
  rcases h.own.2 with ⟨_, hn⟩ | ⟨g, cap, cur, hv, _, hb, hle, hmx, hsz, htk⟩
  · exact absurd (List.length_eq_zero_iff.1 hn) h0
  · refine ⟨g, cap, hv, lt_of_block hb, h.ne g (by rw [hv]; rfl), hle, hmx, ?_, fun i => by simp [World.frozen?, hb]⟩
    intro i e hi j hj
    have hil : i < es.length := (List.getElem?_eq_some_iff.1 hi).1
    rw [cell_of_row _ _ _ _ _ _ hb, ← entRow_get es i j e hi hj, ← htk, List.getElem?_take_of_lt (by omega)]
    simp
theorem EntsAt.kp {S : List Nat} {w' : World} (h : EntsAt w n leaf place digest es ev) (hk : Kp S w w') (h1 : n ∉ S) (h2 : ∀ j, ev.ownBlock = some j → j ∉ S) : EntsAt w' n leaf place digest es ev :=
  ⟨h.node.of_block (hk.block n h.node.lt h1), owns_kp h.own hk h2, h.ne⟩
end
theorem less_tri : ∀ a b : List UInt8, (Op.bytesLess a b || a == b) = !Op.bytesLess b a
  | [], [] => rfl
  | [], _ :: _ => rfl
  | _ :: _, [] => rfl
  | x :: a, y :: b => by
    have ih := less_tri a b
    rcases Nat.lt_trichotomy x.toNat y.toNat with h | h | h
    · have h1 : x < y := UInt8.lt_iff_toNat_lt.2 h
      have h2 : ¬ y < x := fun g => by have := UInt8.lt_iff_toNat_lt.1 g; omega
      have h3 : ¬ y = x := by rintro rfl; omega
      simp [Op.bytesLess, h1, h2, h3]
    · obtain rfl : x = y := UInt8.toNat_inj.1 h
      have h1 : ¬ x < x := fun g => by have := UInt8.lt_iff_toNat_lt.1 g; omega
      have e : ((x :: a) == (x :: b)) = (a == b) := by simp [List.cons_beq_cons]
      simp only [Op.bytesLess, h1, decide_false, Bool.false_or, beq_self_eq_true, Bool.true_and, e]
      exact ih
    · have h1 : y < x := UInt8.lt_iff_toNat_lt.2 h
      have h2 : ¬ x < y := fun g => by have := UInt8.lt_iff_toNat_lt.1 g; omega
      have h3 : ¬ x = y := by rintro rfl; omega
      simp [Op.bytesLess, h1, h2, h3]
theorem below_kpn {n : Nat} {w w1 w2 : World} {S : List Nat} (h : Below n w w1) (k : Kp S w1 w2) (hs : ∀ j ∈ S, n ≤ j) (hn : n ≤ w1.heap.size) : Below n w w2 :=
  ⟨k.os.trans h.os, k.tape.trans h.tape, k.output.trans h.output, Nat.le_trans h.size k.size, fun j hj => (k.block j (Nat.lt_of_lt_of_le hj hn) (fun e => by have := hs j e; omega)).trans (h.block j hj)⟩
/-- The last key. -/
def lastKey (es : List Ent) : List UInt8 := match es.getLast? with | some e => e.key | none => []
theorem lastKey_snoc (es : List Ent) (e : Ent) : lastKey (es ++ [e]) = e.key := by simp [lastKey]
/-- Entries up to a count; none: a key is not above the one ahead. -/
def entsC (t : List UInt8) (leaf : Bool) : Nat → List Ent → Nat → Bool → Option (List Ent × Nat × Bool)
  | 0, es, p, r => some (es, p, r)
  | m + 1, es, p, r =>
    if es ≠ [] ∧ Op.bytesLess (lastKey es) (entC t leaf p r).1.key = false then none
    else entsC t leaf m (es ++ [(entC t leaf p r).1]) (entC t leaf p r).2.1 (entC t leaf p r).2.2
/-- What nodeOf tells of a text. -/
def nodeC (t : List UInt8) : Option (Bool × List Ent) :=
  let k := (t.getD 0 0).toNat
  let c := (t.getD 1 0).toNat
  if (k = 1 ∧ 1 ≤ c ∨ k = 2 ∧ 2 ≤ c) ∧ c ≤ 5 then
    match entsC t (k == 1) c [] 2 true with
    | none => none
    | some (es, p, r) => if r && zerosC t p then some (k == 1, es) else none
  else none
theorem entsC_len {t : List UInt8} {leaf : Bool} : ∀ {m : Nat} {es : List Ent} {p : Nat} {r : Bool} {x : List Ent × Nat × Bool}, entsC t leaf m es p r = some x → x.1.length = es.length + m
  | 0, es, p, r, x, h => by simp [entsC] at h; subst h; rfl
  | m + 1, es, p, r, x, h => by
    unfold entsC at h
    split at h
    · cases h
    · have := entsC_len h
      simp at this
      omega
theorem nodeC_len {t : List UInt8} {leaf : Bool} {es : List Ent} (h : nodeC t = some (leaf, es)) : 1 ≤ es.length ∧ es.length ≤ 5 := by
  unfold nodeC at h
  simp only at h
  split at h
  · rename_i hk
    split at h
    · cases h
    · rename_i es' p r he
      have hl := entsC_len he
      split at h
      · simp only [Option.some.injEq, Prod.mk.injEq] at h
        rw [← h.2, hl]
        simp only [List.length_nil, Nat.zero_add]
        omega
      · cases h
  · cases h
end Go.Proofs.YtjnhlkaafnaooabGreatDoor

namespace Go.Proofs.YtjnhlkaafnaooabGreatDoor
open Go.RowKit
set_option maxRecDepth 100000 in
set_option maxHeartbeats 8000000 in
theorem nodeOf_gen (t : List UInt8) (w : World) (ht : t.length = 228) :
    Calls Tryz.prog 126 #[.string ⟨t.toArray⟩] w fun e w' => Below w.heap.size w w' ∧
      ((nodeC t = none ∧ e = .returned (.tuple #[.pointer none, .bool false])) ∨
       (∃ leaf es n ev, nodeC t = some (leaf, es) ∧ e = .returned (.tuple #[.pointer (some ⟨n, 0, none⟩), .bool true]) ∧ EntsAt w' n leaf 0 [] es ev ∧ w.heap.size ≤ n ∧ (∀ j, ev.ownBlock = some j → w.heap.size ≤ j))) := by
  obtain ⟨i0, hi, hz0, hz1, hz2⟩ := info_parts info_entry
  have hen := fun c leaf p r w h hp => entry_gen c t leaf p r w (h : CurAt w c t p r) (by omega) (hp : p ≤ t.length)
  have hno := fun c p r w h hp => noughts_gen c t p r w (h : CurAt w c t p r) (hp : p ≤ t.length) (by omega)
  have HEN := hide hen
  have HNO := hide hno
  have hsz : (ByteArray.mk t.toArray).size = 228 := ht
  have HT := hide ht
  clear hen hno ht
  have hk : nodeC t = (if ((t.getD 0 0).toNat = 1 ∧ 1 ≤ (t.getD 1 0).toNat ∨ (t.getD 0 0).toNat = 2 ∧ 2 ≤ (t.getD 1 0).toNat) ∧ (t.getD 1 0).toNat ≤ 5 then
    match entsC t ((t.getD 0 0).toNat == 1) (t.getD 1 0).toNat [] 2 true with
    | none => none
    | some (es, p, r) => if r && zerosC t p then some ((t.getD 0 0).toNat == 1, es) else none
  else none) := rfl
  have hK := (t.getD 0 0).toNat_lt
  have hC := (t.getD 1 0).toNat_lt
  obtain ⟨w0, hw0⟩ : ∃ w0, w.alloc (.cells #[strV t, .int .i64 0, .bool true] 193) = w0 := ⟨_, rfl⟩
  have hb0 : Below w.heap.size w w0 := hw0 ▸ (Below.refl _ _).alloc (Nat.le_refl _) _
  have hz0' : w0.heap.size = w.heap.size + 1 := by rw [← hw0]; simp
  have hc0 : CurAt w0 w.heap.size t 0 true := ⟨hw0 ▸ heap_alloc_new w _⟩
  have HN0 := hide (number_ok w.heap.size t 0 true w0 hc0 (by rw [HT.out]; decide) (by rw [HT.out]; decide))
  have HN1 := hide (fun w1 hc1 => number_ok w.heap.size t 1 true w1 hc1 (by rw [HT.out]; decide) (by rw [HT.out]; decide))
  generalize (t.getD 0 0).toNat = K at *
  generalize (t.getD 1 0).toNat = C at *
  have HK := hide hk
  have HKC := hide (And.intro hK hC)
  clear hc0 hk hK hC
  have HW0 := hide hw0
  clear hw0
  go_enter Tryz.func126, Tryz.ntmps126
  go_wp2_with fail
  rw [HW0.out]
  refine HN0.out.mono ?_
  rintro e w1 ⟨rfl, hc1, k1⟩
  have hz1' := k1.size
  have HN1 := hide (HN1.out w1 hc1)
  clear hc1 HN0 HW0
  go_wp2_with fail
  refine HN1.out.mono ?_
  rintro e w2 ⟨rfl, hc2, k2⟩
  have hz2' := k2.size
  clear HN1
  have hbk : ∀ w', Kp [w.heap.size] w w' → Below w.heap.size w w' := fun w' h => ⟨h.os, h.tape, h.output, h.size, fun j hj => h.block j hj (by simp; omega)⟩
  have HBK := hide hbk
  have kk : Kp [w.heap.size] w w2 := (Kp.of_below hb0).trans (k1.trans k2)
  have H2 := hide (And.intro hc2 kk)
  clear hc2 kk k1 k2 hb0 hbk
  by_cases hok : ((K = 1 ∧ 1 ≤ C ∨ K = 2 ∧ 2 ≤ C) ∧ C ≤ 5)
  case neg =>
    have hnone := HK.out
    rw [if_neg hok] at hnone
    have HNONE := hide hnone
    have HBW := hide (HBK.out _ H2.out.2)
    clear HK H2 hnone HEN HNO HBK
    by_cases hK1 : K = 1
    · subst hK1
      rcases (show C = 0 ∨ 5 < C by omega) with rfl | hC
      · obtain ⟨w3, hw3⟩ : ∃ w3, w2.alloc (.cells #[.bool true, .int .i64 0, .string ⟨#[]⟩, .slice none 0 0] 113) = w3 := ⟨_, rfl⟩
        have c0 : w3.cell? ⟨w2.heap.size, 0, none⟩ = some (.bool true) := hw3 ▸ (by rw [cell_of_row _ _ _ _ _ _ (heap_alloc_new w2 _)]; rfl)
        have hb3 : Below w.heap.size w w3 := hw3 ▸ HBW.out.alloc (by omega) _
        have HB3 := hide hb3
        clear hb3 HKC hok
        go_wp2_with fail
        go_ret2
        exact ⟨HB3.out, .inl ⟨HNONE.out, rfl⟩⟩
      · obtain ⟨w3, hw3⟩ : ∃ w3, w2.alloc (.cells #[.bool true, .int .i64 0, .string ⟨#[]⟩, .slice none 0 0] 113) = w3 := ⟨_, rfl⟩
        have c0 : w3.cell? ⟨w2.heap.size, 0, none⟩ = some (.bool true) := hw3 ▸ (by rw [cell_of_row _ _ _ _ _ _ (heap_alloc_new w2 _)]; rfl)
        have hb3 : Below w.heap.size w w3 := hw3 ▸ HBW.out.alloc (by omega) _
        have HB3 := hide hb3
        have d1 : decide ((C : Int) < 1) = false := by simp; omega
        have d2 : decide ((5 : Int) < (C : Int)) = true := by simp; omega
        clear hb3 HKC hok
        go_wp2_with fail
        go_ret2
        exact ⟨HB3.out, .inl ⟨HNONE.out, rfl⟩⟩
    · by_cases hK2 : K = 2
      · subst hK2
        rcases (show C < 2 ∨ 5 < C by omega) with hC | hC
        · obtain ⟨w3, hw3⟩ : ∃ w3, w2.alloc (.cells #[.bool false, .int .i64 0, .string ⟨#[]⟩, .slice none 0 0] 113) = w3 := ⟨_, rfl⟩
          have c0 : w3.cell? ⟨w2.heap.size, 0, none⟩ = some (.bool false) := hw3 ▸ (by rw [cell_of_row _ _ _ _ _ _ (heap_alloc_new w2 _)]; rfl)
          have hb3 : Below w.heap.size w w3 := hw3 ▸ HBW.out.alloc (by omega) _
          have HB3 := hide hb3
          have d1 : decide ((C : Int) < 2) = true := by simp; omega
          clear hb3 HKC hok
          go_wp2_with fail
          go_ret2
          exact ⟨HB3.out, .inl ⟨HNONE.out, rfl⟩⟩
        · obtain ⟨w3, hw3⟩ : ∃ w3, w2.alloc (.cells #[.bool false, .int .i64 0, .string ⟨#[]⟩, .slice none 0 0] 113) = w3 := ⟨_, rfl⟩
          have c0 : w3.cell? ⟨w2.heap.size, 0, none⟩ = some (.bool false) := hw3 ▸ (by rw [cell_of_row _ _ _ _ _ _ (heap_alloc_new w2 _)]; rfl)
          have hb3 : Below w.heap.size w w3 := hw3 ▸ HBW.out.alloc (by omega) _
          have HB3 := hide hb3
          have d1 : decide ((C : Int) < 2) = false := by simp; omega
          have d2 : decide ((5 : Int) < (C : Int)) = true := by simp; omega
          clear hb3 HKC hok
          go_wp2_with fail
          go_ret2
          exact ⟨HB3.out, .inl ⟨HNONE.out, rfl⟩⟩
      · obtain ⟨w3, hw3⟩ : ∃ w3, w2.alloc (.cells #[.bool false, .int .i64 0, .string ⟨#[]⟩, .slice none 0 0] 113) = w3 := ⟨_, rfl⟩
        have c0 : w3.cell? ⟨w2.heap.size, 0, none⟩ = some (.bool false) := hw3 ▸ (by rw [cell_of_row _ _ _ _ _ _ (heap_alloc_new w2 _)]; rfl)
        have hb3 : Below w.heap.size w w3 := hw3 ▸ HBW.out.alloc (by omega) _
        have HB3 := hide hb3
        have d0 : ((K : Int) == 1) = false := by rw [beq_eq_false_iff_ne]; omega
        have d1 : ((K : Int) != 1) = true := by simp; omega
        have d2 : ((K : Int) != 2) = true := by simp; omega
        have d3 : ¬ (K = 1) := hK1
        have d4 : ¬ (K = 2) := hK2
        clear hb3 HKC hok
        go_wp2_with fail
        go_ret2
        exact ⟨HB3.out, .inl ⟨HNONE.out, rfl⟩⟩
  have hsome := HK.out
  rw [if_pos hok] at hsome
  obtain ⟨hok1, hC5⟩ := hok
  have HB2 := hide (HBK.out _ H2.out.2)
  have hcl := H2.out.1.lt
  rcases hok1 with ⟨hK1, hC⟩ | ⟨hK2, hC⟩
  case' inl =>
    subst hK1
    have hC1 : 1 ≤ C := hC
    obtain ⟨leaf, hleaf⟩ : ∃ leaf : Bool, leaf = true := ⟨_, rfl⟩
    obtain ⟨w3, hw3⟩ : ∃ w3, w2.alloc (.cells #[.bool leaf, .int .i64 0, .string ⟨#[]⟩, .slice none 0 0] 113) = w3 := ⟨_, rfl⟩
    have hs : nodeC t = match entsC t leaf C [] 2 true with | none => none | some (es, p, r) => if r && zerosC t p then some (leaf, es) else none := by rw [hleaf]; exact hsome
    have d1 : decide ((C : Int) < 1) = false := by simp; omega
  case' inr =>
    subst hK2
    have hC1 : 1 ≤ C := by omega
    obtain ⟨leaf, hleaf⟩ : ∃ leaf : Bool, leaf = false := ⟨_, rfl⟩
    obtain ⟨w3, hw3⟩ : ∃ w3, w2.alloc (.cells #[.bool leaf, .int .i64 0, .string ⟨#[]⟩, .slice none 0 0] 113) = w3 := ⟨_, rfl⟩
    have hs : nodeC t = match entsC t leaf C [] 2 true with | none => none | some (es, p, r) => if r && zerosC t p then some (leaf, es) else none := by rw [hleaf]; exact hsome
    have d1 : decide ((C : Int) < 2) = false := by simp; omega
  all_goals
    have d2 : decide ((5 : Int) < (C : Int)) = false := by simp; omega
    have hz3' : w3.heap.size = w2.heap.size + 1 := by rw [← hw3]; simp
    have hn3 : NodeAt w3 w2.heap.size leaf 0 [] (.slice none 0 0) := ⟨hw3 ▸ heap_alloc_new w2 _⟩
    have hb23 : Below w2.heap.size w2 w3 := hw3 ▸ (Below.refl _ _).alloc (Nat.le_refl _) _
    have hc3 := H2.out.1.of_block (hb23.block _ hcl)
    have hb3 := HB2.out.trans (hb23.mono HB2.out.size)
    have c0 := hn3.c0
    have H3 := hide (And.intro hn3 (And.intro hc3 hb3))
    have HS := hide hs
    rw [hleaf] at c0 hw3
    clear hn3 hc3 hb3 hs hsome HK HKC hb23 H2 HB2
    go_wp2_with fail
    have HLF := hide hleaf
    clear c0 hw3 d1 d2 hleaf HN1
    go_loopw [9, 10] (fun i _ wr => ∃ es ev p r, i = .int .i64 (es.length : Int) ∧ es.length ≤ C ∧ EntsAt wr w2.heap.size leaf 0 [] es ev ∧ (∀ j, ev.ownBlock = some j → w2.heap.size < j) ∧ CurAt wr w.heap.size t p r ∧ p ≤ t.length ∧ Below w.heap.size w wr ∧ entsC t leaf (C - es.length) es p r = entsC t leaf C [] 2 true) (fun i _ _ => C - (intOf i).toNat)
    case atStart => exact ⟨[], .slice none 0 0, 2, true, rfl, by simp, ⟨H3.out.1, World.ownsRow_nil _ _ _ _, fun j h => by cases h⟩, (fun j h => by cases h), H3.out.2.1, (by rw [HT.out]; decide), H3.out.2.2, rfl⟩
    case round =>
      obtain ⟨es, ev, p, r, rfl, hle, hn, hfar, hc, hp, hb, hent⟩ := hrel
      have HHB := hide HBK.out
      clear H3 HBK
      by_cases hlt : es.length < C
      · obtain ⟨q, hq⟩ : ∃ q, C - es.length = q + 1 := ⟨C - es.length - 1, by omega⟩
        rw [hq] at hent
        simp only [entsC] at hent
        have hpe := entC_le (leaf := leaf) (r := r) hp
        have HE := hide (HEN.out w.heap.size leaf p r wr hc hp)
        generalize entC t leaf p r = E at *
        obtain ⟨⟨ek, evl, epl, edg⟩, p', r'⟩ := E
        simp only [Ent.cells, entV] at HE
        simp only at hent hpe
        have c0r := hn.node.c0
        have hli : (es.length : Int) < (C : Int) := by omega
        have hnl := hn.node.lt
        have HR := hide (And.intro hn (And.intro hfar (And.intro hb (And.intro hent (And.intro hpe (And.intro hq hle))))))
        have hl5 : (C : Int) ≤ 5 := by omega
        clear hn hfar hb hent hc HEN hpe hq hle
        have HLT := hide hlt
        clear hlt
        go_wp2_with fail
        refine HE.out.mono ?_
        rintro e w5 ⟨rfl, hc5, k5⟩
        have hn5 := HR.out.1.kp k5 (by simp; omega) (fun j hj => by have := HR.out.2.1 j hj; simp; omega)
        have hz5 := k5.size
        have hb5 : Below w.heap.size w w5 := HHB.out _ ((Kp.of_below HR.out.2.2.1 : Kp [w.heap.size] w wr).trans k5)
        have hnl5 := hn5.node.lt
        have n35 := hn5.node.c3
        have n3a5 : ∀ o, (w5.alloc o).cell? ⟨w2.heap.size, 3, none⟩ = some ev := fun o => (World.cell?_alloc_lt w5 o ⟨w2.heap.size, 3, none⟩ hnl5).trans n35
        have H5 := hide (And.intro hn5 (And.intro hc5 hb5))
        clear hc5 k5 hb5 HE c0r
        rcases Nat.eq_zero_or_pos es.length with hz | hz
        case' inl =>
          have hes : es = [] := List.length_eq_zero_iff.1 hz
          have hent := HR.out.2.2.2.1
          rw [if_neg (by simp [hes])] at hent
          have HENT := hide hent
          rw [hz] at hli ⊢
          have HLEN := hide hz
          clear hn5 hent hz hes
          simp only [strV] at *
          go_wp2_with fail
          go_quiet (fail)
        case' inr =>
          obtain ⟨k, hk⟩ : ∃ k, es.length = k + 1 := ⟨es.length - 1, by omega⟩
          obtain ⟨la, hla⟩ : ∃ la, es[k]? = some la := ⟨es[k], List.getElem?_eq_getElem (by omega)⟩
          have hne : es ≠ [] := by rintro rfl; simp at hz
          have hlast : lastKey es = la.key := by
            unfold lastKey
            rw [List.getLast?_eq_getElem?, hk, Nat.add_sub_cancel, hla]
          obtain ⟨be, cap, hev, hbl, hbn, hcl, hcm, hcell, hfz⟩ := hn5.row hne
          have ck : w5.cell? ⟨be, k * 5, none⟩ = some (.string ⟨la.key.toArray⟩) := by have := hcell k la hla 0 (by decide); simpa [Ent.cells, entV] using this
          have cka : ∀ o, (w5.alloc o).cell? ⟨be, k * 5, none⟩ = some (.string ⟨la.key.toArray⟩) := fun o => (World.cell?_alloc_lt w5 o ⟨be, k * 5, none⟩ hbl).trans ck
          rw [hev, hk] at n3a5
          rw [hk] at hli ⊢
          have hent := HR.out.2.2.2.1
          rw [hlast] at hent
          have HENT := hide hent
          have HRK := hide (And.intro hk hne)
          generalize la.key = lk at *
          clear hn5 hent hz hlast hcell hfz hla hcl hk hne ck n35 hev
          by_cases hgt : Op.bytesLess lk ek = false
          case pos =>
            have hn := HENT.out
            rw [if_pos ⟨HRK.out.2, hgt⟩] at hn
            have hnone := HS.out
            rw [← hn] at hnone
            have HNONE := hide (And.intro hnone H5.out.2.2)
            clear hn hnone HENT HS H5
            simp only [strV] at *
            go_wp2_with fail
            go_quiet (fail)
            go_wp2_with fail
            · go_ret2
              exact ⟨below_drewN (HNONE.out.2.alloc HNONE.out.2.size _) _, .inl ⟨HNONE.out.1, rfl⟩⟩
            · rename_i hx
              have := less_tri ek lk
              rw [hx.1, hx.2, hgt] at this
              cases this
          have hgt' : Op.bytesLess lk ek = true := by simpa using hgt
          have htri := less_tri ek lk
          rw [hgt'] at htri
          have hge1 : Op.bytesLess ek lk = false := by
            cases h : Op.bytesLess ek lk
            · rfl
            · rw [h] at htri; cases htri
          have hge2 : (ek == lk) = false := by
            cases h : (ek == lk)
            · rfl
            · rw [h] at htri; simp at htri
          clear htri
          have hent := HENT.out
          rw [if_neg (fun h => hgt h.2)] at hent
          clear hgt HENT
          have HENT := hide hent
          clear hent
          simp only [strV] at *
          go_wp2_with fail
          go_quiet (fail)
          have HLEN := hide HRK.out.1
          clear cka hge1 hge2 hgt' HRK
        all_goals
          clear n3a5
          obtain ⟨w6, hw6⟩ : ∃ w6, (w5.alloc (.cells #[.string ⟨ek.toArray⟩, .string ⟨evl.toArray⟩, .int .i64 (epl : Int), .string ⟨edg.toArray⟩, .pointer none] 128)).drewN nq = w6 := ⟨_, rfl⟩
          rw [hw6]
          have hb6 : Below w5.heap.size w5 w6 := hw6 ▸ below_drewN ((Below.refl _ _).alloc (Nat.le_refl _) _) nq
          have hz6 : w6.heap.size = w5.heap.size + 1 := by rw [← hw6]; show (w5.alloc _).heap.size = _; simp
          have q6 : w6.heap[w5.heap.size]? = some (.cells #[.string ⟨ek.toArray⟩, .string ⟨evl.toArray⟩, .int .i64 (epl : Int), .string ⟨edg.toArray⟩, .pointer none] 128 (0, 0)) := hw6 ▸ heap_alloc_new w5 _
          have e0 : w6.cell? ⟨w5.heap.size, 0, none⟩ = some (.string ⟨ek.toArray⟩) := by rw [cell_of_row _ _ _ _ _ _ q6]; rfl
          have e1 : w6.cell? ⟨w5.heap.size, 1, none⟩ = some (.string ⟨evl.toArray⟩) := by rw [cell_of_row _ _ _ _ _ _ q6]; rfl
          have e2 : w6.cell? ⟨w5.heap.size, 2, none⟩ = some (.int .i64 (epl : Int)) := by rw [cell_of_row _ _ _ _ _ _ q6]; rfl
          have e3 : w6.cell? ⟨w5.heap.size, 3, none⟩ = some (.string ⟨edg.toArray⟩) := by rw [cell_of_row _ _ _ _ _ _ q6]; rfl
          have e4 : w6.cell? ⟨w5.heap.size, 4, none⟩ = some (.pointer none) := by rw [cell_of_row _ _ _ _ _ _ q6]; rfl
          have hn6 := H5.out.1.kp (S := []) (Kp.of_below hb6) (by simp) (by simp)
          have n3 := hn6.node.c3
          have hnl6 := hn6.node.lt
          have hown6 := hn6.own
          have n3a : ∀ o, (w6.alloc o).cell? ⟨w2.heap.size, 3, none⟩ = some ev := fun o => (World.cell?_alloc_lt w6 o ⟨w2.heap.size, 3, none⟩ hnl6).trans n3
          have hc6 := H5.out.2.1.of_block (hb6.block _ H5.out.2.1.lt)
          have hb6' := H5.out.2.2.trans (hb6.mono H5.out.2.2.size)
          have hfar6 : ∀ j, ev.ownBlock = some j → w2.heap.size < j := HR.out.2.1
          have hlen6 := HR.out.2.2.2.2.2.2
          have H6 := hide (And.intro hn6 (And.intro hc6 (And.intro hb6' (And.intro hfar6 (And.intro hown6 (And.intro hlen6 hC5))))))
          clear hw6 hb6 q6 hn6 hc6 hb6' H5 hfar6 hown6 hlen6
          go_wp2_with fail
          go_region_law (refine step_append_lies _ rfl (.tmp 76) (.tmp 78) 111 rfl 0 128 i0 _ 5 64 Tryz.underlying111 hi hz0 hz1 hz2 rfl (by decide) ev _ _ (by simp [Act.eval]) (by exact owns_kp H6.out.2.2.2.2.1 (((Kp.refl [] w6).drewN _).alloc _) (by simp)) ⟨w6.heap.size, 0, none⟩ 1 1 [.string ⟨ek.toArray⟩, .string ⟨evl.toArray⟩, .int .i64 (epl : Int), .string ⟨edg.toArray⟩, .pointer none] (by simp [Act.eval]) rfl (by exact World.news_of_block (cs := #[.string ⟨ek.toArray⟩, .string ⟨evl.toArray⟩, .int .i64 (epl : Int), .string ⟨edg.toArray⟩, .pointer none]) (heap_alloc_new (w6.drewN _) _)) (by intro u hu; simp at hu; rcases hu with rfl | rfl | rfl | rfl | rfl <;> rfl) (by decide) (by have := H6.out.2.2.2.2.2; unfold maxLen; omega) (by have := H6.out.2.2.2.2.2; omega) (Nat.zero_le _) _ rfl ?_; intro g7 cap7 w7 hown7 hgrow7 hlie7 hlt7; have k7 : Kp ev.ownBlock.toList w6 w7 := (((Kp.refl _ w6).drewN _).alloc _).grown hgrow7 (fun j hj => .inl (by simp [hj])); have hnn : w2.heap.size ∉ ev.ownBlock.toList := (fun hm => H6.out.1.ne _ (by simpa using hm) rfl); have n37 := (H6.out.1.node.of_block (k7.block _ hnl6 hnn)).c3; have f37 := (H6.out.1.node.of_block (k7.block _ hnl6 hnn)).fr 3)
          all_goals
            have hle6 := H6.out.2.2.1.size
            have hg7 : g7 ≠ w2.heap.size ∧ w2.heap.size < g7 := by
              rcases hlie7 with e | e
              · have := H6.out.2.2.2.1 g7 e; omega
              · have : g7 = w6.heap.size + 1 := by simpa using e
                omega
            have hn7 := (H6.out.1.node.of_block (k7.block _ hnl6 hnn)).set3 (.slice (some ⟨g7, 0, none⟩) (es.length + 1) cap7)
            have hkk : Kp [w2.heap.size] w7 (w7.setCell ⟨w2.heap.size, 3, none⟩ (.slice (some ⟨g7, 0, none⟩) (es.length + 1) cap7)) := (Kp.refl _ w7).setCell _ 3 _ (.inl (by simp))
            have ho7 := owns_kp hown7 hkk (fun j hj => by
              have : g7 = j := by simpa [Value.ownBlock] using hj
              simp; omega)
            have hcl6 := H6.out.2.1.lt
            have hc7 := (H6.out.2.1.of_block (k7.block _ hcl6 (fun hm => by have := H6.out.2.2.2.1 _ (by simpa using hm); omega))).of_block (hkk.block _ (Nat.lt_of_lt_of_le hcl6 k7.size) (by simp; omega))
            have hbb := below_kpn (below_kpn H6.out.2.2.1 k7 (fun j hj => by have := H6.out.2.2.2.1 _ (by simpa using hj); omega) hle6) hkk (fun j hj => by simp at hj; omega) (Nat.le_trans hle6 k7.size)
            have he7 : EntsAt (w7.setCell ⟨w2.heap.size, 3, none⟩ (.slice (some ⟨g7, 0, none⟩) (es.length + 1) cap7)) w2.heap.size leaf 0 [] (es ++ [⟨ek, evl, epl, edg⟩]) (.slice (some ⟨g7, 0, none⟩) (es.length + 1) cap7) :=
              ⟨hn7, by rw [List.length_append, entRow_snoc]; exact ho7, fun j hj => by
                have : g7 = j := by simpa [Value.ownBlock] using hj
                omega⟩
            have HF := hide (And.intro he7 (And.intro hg7.2 (And.intro hc7 hbb)))
            clear he7 hg7 hn7 hkk ho7 hc7 hbb hown7 hgrow7 hlie7 hlt7 n37 f37 H6 k7 hnn n3 n3a e0 e1 e2 e3 e4
            go_wp2_with fail
            have hlen := HLEN.out
            have hlt := HLT.out
            refine ⟨⟨es ++ [⟨ek, evl, epl, edg⟩], .slice (some ⟨g7, 0, none⟩) (es.length + 1) cap7, p', r', ?_, by simp; omega, HF.out.1, (fun j hj => by
                have : g7 = j := by simpa [Value.ownBlock] using hj
                have := HF.out.2.1
                omega), HF.out.2.2.1, HR.out.2.2.2.2.1, HF.out.2.2.2, ?_⟩, by simp [intOf]; omega⟩
            · simp [hlen]
            · have hq := HR.out.2.2.2.2.2.1
              rw [← HENT.out, List.length_append, show C - (es.length + [(⟨ek, evl, epl, edg⟩ : Ent)].length) = q from by simp; omega]
      · have hC' : C = es.length := by omega
        rw [show C - es.length = 0 by omega] at hent
        simp only [entsC] at hent
        have hse := HS.out
        rw [← hent] at hse
        simp only at hse
        have HO := hide (HNO.out w.heap.size p r wr hc hp)
        have hnl := hn.node.lt
        have hdl : decide ((es.length : Int) < (C : Int)) = false := by simp; omega
        have HF := hide (And.intro hn (And.intro hfar (And.intro hb hse)))
        clear hn hfar hc hb hse hent HNO HEN HS hlt hle
        subst hC'
        go_wp2_with fail
        refine HO.out.mono ?_
        rintro e w5 ⟨rfl, hc5, k5⟩
        have c2 := hc5.c2
        have hb5 : Below w.heap.size w w5 := HHB.out _ ((Kp.of_below HF.out.2.2.1 : Kp [w.heap.size] w wr).trans k5)
        have hn5 := HF.out.1.kp k5 (by simp; omega) (fun j hj => by have := HF.out.2.1 j hj; simp; omega)
        have HG := hide (And.intro hb5 hn5)
        have hse := HF.out.2.2.2
        clear hc5 k5 hb5 hn5 HO
        cases hzz : (r && zerosC t p)
        · rw [hzz] at hse c2
          have HSE := hide hse
          clear hse hzz
          go_wp2_with fail
          go_ret2
          exact ⟨HG.out.1, .inl ⟨by rw [HSE.out]; simp, rfl⟩⟩
        · rw [hzz] at hse c2
          have HSE := hide hse
          clear hse hzz
          go_wp2_with fail
          go_ret2
          exact ⟨HG.out.1, .inr ⟨leaf, es, w2.heap.size, ev, by rw [HSE.out]; simp, rfl, HG.out.2, by omega, fun j hj => by have := HF.out.2.1 j hj; omega⟩⟩
end Go.Proofs.YtjnhlkaafnaooabGreatDoor

namespace Go.Proofs.YtjnhlkaafnaooabGreatDoor
open Go.RowKit
theorem run_neq_other (oi : Oper) (a : Act) (x y : Operand) (U : TypeId) (X Y : List UInt8) (hne : X ≠ Y) (ho : oi.op = .binOp .neq 9 x y U) (hx : a.eval x = .string ⟨X.toArray⟩) (hy : a.eval y = .string ⟨Y.toArray⟩) (w : World) :
    (execOp a.eval oi).run Tryz.prog w = .ok (.value (.bool true)) w := by
  have hb : (X == Y) = false := by simpa using hne
  unfold execOp
  simp only [ho, hx, hy]
  clear hx hy ho
  go_simp
theorem openL_len {rk block : List UInt8} {p : Nat} {t : List UInt8} (hr : rk.length = 240) (hb : block.length = 256) (h : openL rk block p = some t) : t.length = 228 := by
  unfold openL at h
  split at h
  · simp only [Option.some.injEq] at h
    rw [← h, ctrL_len rk _ hr (by simp [hb]) 2]
    simp [hb]
  · cases h
/-- What a look finds in a block. -/
def lookC (rk d block : List UInt8) (p : Nat) : Option (Bool × List Ent) := if shaL block = d then (openL rk block p).bind nodeC else none
set_option maxRecDepth 100000 in
set_option maxHeartbeats 2000000 in
theorem look_gen (x : DX) (b bp vb : Nat) (m : DM) (v : VM) (wv : Value) (rk d : List UInt8) (p lk : Nat) (w : World) (h : Sys w x b m v wv) (hpv : v.pv = .pointer (some ⟨bp, 0, none⟩)) (hk : KeyAt w bp rk)
    (hv0 : w.cell? ⟨vb, 0, none⟩ = some (.pointer (some ⟨b, 0, none⟩))) (hv1 : w.cell? ⟨vb, 1, none⟩ = some (.int .i64 lk)) (hvf : w.frozen? ⟨vb, 1, none⟩ = false) (hvb : Foreign x b wv vb) (hbp : bp ≠ vb) (hlk : lk < 48)
    (h2 : 2 ≤ p) (hp : p < m.blocks.length) (hbl : (m.look p).length = 256) :
    Calls Tryz.prog 100 #[.pointer (some ⟨vb, 0, none⟩), .agg #[.int .i64 p, .string ⟨d.toArray⟩]] w fun e w' => Kp [vb] w w' ∧ w'.heap[vb]? = (w.setCell ⟨vb, 1, none⟩ (.int .i64 (lk + 1 : Nat))).heap[vb]? ∧
      ((lookC rk d (m.look p) p = none ∧ e = .returned (.tuple #[.pointer none, .int .i64 8])) ∨
       (∃ leaf es n ev, lookC rk d (m.look p) p = some (leaf, es) ∧ e = .returned (.tuple #[.pointer (some ⟨n, 0, none⟩), .int .i64 0]) ∧ EntsAt w' n leaf p d es ev ∧ w.heap.size ≤ n ∧ (∀ j, ev.ownBlock = some j → w.heap.size ≤ j))) := by
  have hvl : vb < w.heap.size := by
    rcases Nat.lt_or_ge vb w.heap.size with g | g
    · exact g
    · simp [World.cell?, Array.getElem?_eq_none g] at hv0
  have hle := h.disk.le
  obtain ⟨w0, hw0⟩ : ∃ w0, w.alloc (.cells #[.int .i64 (p : Int), .string ⟨d.toArray⟩] 67) = w0 := ⟨_, rfl⟩
  have hb0 : Below w.heap.size w w0 := hw0 ▸ (Below.refl _ _).alloc (Nat.le_refl _) _
  have hz0 : w0.heap.size = w.heap.size + 1 := by rw [← hw0]; simp
  have q0 : w0.heap[w.heap.size]? = some (.cells #[.int .i64 (p : Int), .string ⟨d.toArray⟩] 67 (0, 0)) := hw0 ▸ heap_alloc_new w _
  have l0 : w0.cell? ⟨w.heap.size, 0, none⟩ = some (.int .i64 (p : Int)) := by rw [cell_of_row _ _ _ _ _ _ q0]; rfl
  have g0 : w0.cell? ⟨vb, 0, none⟩ = some (.pointer (some ⟨b, 0, none⟩)) := (hb0.cell (p := ⟨vb, 0, none⟩) hvl).trans hv0
  have g1 : w0.cell? ⟨vb, 1, none⟩ = some (.int .i64 lk) := (hb0.cell (p := ⟨vb, 1, none⟩) hvl).trans hv1
  have gf : w0.frozen? ⟨vb, 1, none⟩ = false := (hb0.frozen (p := ⟨vb, 1, none⟩) hvl).trans hvf
  have h0 := h.later hb0
  have c0 := h0.vault.c0
  have HS := hide (fun w' (hw : Below w0.heap.size w0 w') => And.intro ((hw.cell (p := ⟨w.heap.size, 0, none⟩) (by rw [hz0]; simp)).trans l0) (And.intro ((h0.later hw).vault.c0) (And.intro ((hw.cell (p := ⟨vb, 1, none⟩) (by rw [hz0]; show vb < _; omega)).trans g1) (blocks_any x.d x.bb x.cb m.blocks.length w' (h0.later hw).disk.c0))))
  have i1 : ¬ ((p : Int) < 2) := by omega
  have i2 : ¬ ((m.blocks.length : Int) ≤ (p : Int)) := by omega
  have i3 : ¬ ((48 : Int) ≤ (lk : Int)) := by omega
  have d1 : decide ((p : Int) < 2) = false := by simpa using i1
  have d2 : decide ((m.blocks.length : Int) ≤ (p : Int)) = false := by simpa using i2
  have d3 : decide ((48 : Int) ≤ (lk : Int)) = false := by simpa using i3
  have HH := hide (And.intro h (And.intro h0 q0))
  have HA := hide (And.intro hlk (And.intro h2 (And.intro hp (And.intro hle hvl))))
  clear h h0 q0 hlk h2 hp hle i1 i2 i3
  generalize hn : m.blocks.length = N at *
  go_enter Tryz.func100, Tryz.ntmps100
  go_wp2_with fail
  refine wp_region_one (fun w' => Below w0.heap.size w0 w') (by kernel_rfl) (by kernel_rfl) (Below.refl _ _).drew ?_
  refine one_take 0 (.pointer (some ⟨w.heap.size, 0, none⟩)) rfl (by kernel_rfl) (by kernel_rfl) (by kernel_rfl) rfl (gives_pure fun _ => by kernel_rfl) ?_
  refine one_take 1 (.int .i64 p) rfl (by kernel_rfl) (by kernel_rfl) (by kernel_rfl) rfl (gives_read fun w hw => run_load_int _ _ _ _ _ _ rfl (by kernel_rfl) w ((HS.out w hw).1)) ?_
  refine one_take 2 (.bool false) rfl (by kernel_rfl) (by kernel_rfl) (by kernel_rfl) rfl (gives_pure fun w => run_lss _ _ _ _ _ (p) (2) false rfl (by kernel_rfl) (by kernel_rfl) (d1) w) ?_
  refine one_take 3 (.bool false) rfl (by kernel_rfl) (by kernel_rfl) (by kernel_rfl) rfl (gives_pure fun _ => by kernel_rfl) ?_
  refine one_take 4 (.pointer (some ⟨w.heap.size, 0, none⟩)) rfl (by kernel_rfl) (by kernel_rfl) (by kernel_rfl) rfl (gives_pure fun _ => by kernel_rfl) ?_
  refine one_take 5 (.int .i64 p) rfl (by kernel_rfl) (by kernel_rfl) (by kernel_rfl) rfl (gives_read fun w hw => run_load_int _ _ _ _ _ _ rfl (by kernel_rfl) w ((HS.out w hw).1)) ?_
  refine one_take 6 (.pointer (some ⟨b, 0, none⟩)) rfl (by kernel_rfl) (by kernel_rfl) (by kernel_rfl) rfl (gives_pure fun _ => by kernel_rfl) ?_
  refine one_take 7 (.pointer (some ⟨b, 0, none⟩)) rfl (by kernel_rfl) (by kernel_rfl) (by kernel_rfl) rfl (gives_pure fun _ => by kernel_rfl) ?_
  refine one_take 8 (.pointer (some ⟨b, 0, none⟩)) rfl (by kernel_rfl) (by kernel_rfl) (by kernel_rfl) rfl (gives_pure fun _ => by kernel_rfl) ?_
  refine one_take 9 (.pointer (some ⟨x.d, 0, none⟩)) rfl (by kernel_rfl) (by kernel_rfl) (by kernel_rfl) rfl (gives_read fun w hw => run_load_disk _ _ _ _ _ _ rfl (by kernel_rfl) w ((HS.out w hw).2.1)) ?_
  refine one_take 10 (.int .i64 N) rfl (by kernel_rfl) (by kernel_rfl) (by kernel_rfl) rfl (gives_call (85) (#[.pointer (some ⟨x.d, 0, none⟩)]) (fun _ => by kernel_rfl) fun w hw => ((HS.out w hw).2.2.2).mono fun e w2 h => ⟨h.1, h.2 ▸ hw⟩) ?_
  refine one_take 11 (.bool false) rfl (by kernel_rfl) (by kernel_rfl) (by kernel_rfl) rfl (gives_pure fun w => run_geq _ _ _ _ _ (p) (N) false rfl (by kernel_rfl) (by kernel_rfl) (d2) w) ?_
  refine one_take 12 (.bool false) rfl (by kernel_rfl) (by kernel_rfl) (by kernel_rfl) rfl (gives_pure fun _ => by kernel_rfl) ?_
  refine one_take 13 (.bool false) rfl (by kernel_rfl) (by kernel_rfl) (by kernel_rfl) rfl (gives_pure fun _ => by kernel_rfl) ?_
  refine one_take 14 (.pointer (some ⟨vb, 0, none⟩)) rfl (by kernel_rfl) (by kernel_rfl) (by kernel_rfl) rfl (gives_pure fun _ => by kernel_rfl) ?_
  refine one_take 15 (.pointer (some ⟨vb, 0, none⟩)) rfl (by kernel_rfl) (by kernel_rfl) (by kernel_rfl) rfl (gives_pure fun _ => by kernel_rfl) ?_
  refine one_take 16 (.pointer (some ⟨vb, 1, none⟩)) rfl (by kernel_rfl) (by kernel_rfl) (by kernel_rfl) rfl (gives_pure fun _ => by kernel_rfl) ?_
  refine one_take 17 (.int .i64 lk) rfl (by kernel_rfl) (by kernel_rfl) (by kernel_rfl) rfl (gives_read fun w hw => run_load_int _ _ _ _ _ _ rfl (by kernel_rfl) w ((HS.out w hw).2.2.1)) ?_
  refine one_take 18 (.bool false) rfl (by kernel_rfl) (by kernel_rfl) (by kernel_rfl) rfl (gives_pure fun w => run_geq _ _ _ _ _ (lk) (48) false rfl (by kernel_rfl) (by kernel_rfl) (d3) w) ?_
  refine one_take 19 (.bool false) rfl (by kernel_rfl) (by kernel_rfl) (by kernel_rfl) rfl (gives_pure fun _ => by kernel_rfl) ?_
  refine OneWalk.done (by kernel_rfl) fun w1 hw1 => ?_
  have hw1v := hw1.cell (p := ⟨vb, 1, none⟩) (by rw [hz0]; show vb < _; omega)
  have gv1 : w1.cell? ⟨vb, 1, none⟩ = some (.int .i64 lk) := hw1v.trans g1
  have gvf : w1.frozen? ⟨vb, 1, none⟩ = false := (hw1.frozen (p := ⟨vb, 1, none⟩) (by rw [hz0]; show vb < _; omega)).trans gf
  obtain ⟨w2, hw2⟩ : ∃ w2, w1.setCell ⟨vb, 1, none⟩ (.int .i64 (lk + 1 : Nat)) = w2 := ⟨_, rfl⟩
  have hb01 : Below w.heap.size w w1 := hb0.trans (hw1.mono hb0.size)
  have k2 : Kp [vb] w w2 := hw2 ▸ (Kp.of_below hb01).setCell vb 1 _ (.inl (by simp))
  have hz2 : w2.heap.size = w1.heap.size := by rw [← hw2]; simp [World.setCell]
  have hz1 := hw1.size
  have s2 : Sys w2 x b m v wv := HH.out.1.kp k2 (fun j hj => by simp at hj; subst hj; exact hvb)
  have q2 : w2.heap[w.heap.size]? = some (.cells #[.int .i64 (p : Int), .string ⟨d.toArray⟩] 67 (0, 0)) := by
    rw [← hw2]
    exact set_far ((hw1.block w.heap.size (by rw [hz0]; omega)).trans HH.out.2.2) _ _ (by show w.heap.size ≠ vb; omega)
  have v2 : w2.heap[vb]? = (w.setCell ⟨vb, 1, none⟩ (.int .i64 (lk + 1 : Nat))).heap[vb]? := by
    have e := hb01.block vb hvl
    rw [← hw2]
    simp only [World.setCell, Array.getElem?_modify, if_true]
    rw [e]
  have hkey2 := hk.of_block (k2.block bp hk.lt (by simpa using hbp)) k2.size
  have HS2 := hide (fun w' (hw : Below w2.heap.size w2 w') => And.intro ((hw.cell (p := ⟨w.heap.size, 0, none⟩) (by rw [hz2]; show w.heap.size < _; omega)).trans (by rw [cell_of_row _ _ _ _ _ _ q2]; rfl : w2.cell? ⟨w.heap.size, 0, none⟩ = some (.int .i64 (p : Int)))) (And.intro ((hw.cell (p := ⟨w.heap.size, 1, none⟩) (by rw [hz2]; show w.heap.size < _; omega)).trans (by rw [cell_of_row _ _ _ _ _ _ q2]; rfl : w2.cell? ⟨w.heap.size, 1, none⟩ = some (.string ⟨d.toArray⟩))) (And.intro (s2.later hw) (hkey2.below hw hkey2.lt))))
  have HRD := hide (fun w' (hw : Below w2.heap.size w2 w') => read_any x m wv p w' (s2.later hw).disk (by rw [hn]; exact HA.out.2.2.1))
  have HOF := hide (fun w' (hw : Below w2.heap.size w2 w') => of_any ⟨(m.look p).toArray⟩ w' (s2.later hw).hk (s2.later hw).h0 (by show (m.look p).length ≤ _; omega))
  have hdl : shaL (ByteArray.mk (m.look p).toArray).data.toList = shaL (m.look p) := by simp
  rw [hdl] at HOF
  have hop := fun w' (hw : Below w2.heap.size w2 w') => openPage_any bp v.tv rk (m.look p) p w' (hkey2.below hw hkey2.lt) (by have := HA.out; omega) hbl
  have HOP := hide hop
  have hrk := hk.len
  obtain ⟨B, hB⟩ : ∃ B, m.look p = B := ⟨_, rfl⟩
  have hol := fun t (ht : openL rk (m.look p) p = some t) => openL_len hrk hbl ht
  rw [hB] at HRD HOF HOP
  rw [hB] at hol
  have hlc : lookC rk d (m.look p) p = if shaL B = d then (openL rk B p).bind nodeC else none := by rw [hB]; rfl
  obtain ⟨D, hD⟩ : ∃ D, shaL B = D := ⟨_, rfl⟩
  rw [hD] at HOF hlc
  have HLC := hide hlc
  have HOL := hide hol
  have HE := hide (And.intro k2 v2)
  have HZ := hide (And.intro hz2 (And.intro hz1 hz0))
  have hlki : (lk : Int) < 48 := by have := HA.out.1; omega
  clear HS hw1v k2 s2 q2 v2 hkey2 d1 d2 d3 g0 g1 gf l0 c0 hw0 hb01 hw1 HH hdl hop hB hbl hD hlc hrk hol
  have hw2' : w1.setCell ⟨vb, 1, none⟩ (.int .i64 ((lk : Int) + 1)) = w2 := hw2
  clear hw2
  simp only [Act.put, List.setIfInBounds_toArray, List.set_cons_succ, List.set_cons_zero]
  go_wp2_with fail
  refine wp_region_one (fun w' => Below w2.heap.size w2 w') (by kernel_rfl) (by kernel_rfl) (Below.refl _ _).drew ?_
  refine one_take 0 (.pointer (some ⟨b, 0, none⟩)) rfl (by kernel_rfl) (by kernel_rfl) (by kernel_rfl) rfl (gives_pure fun _ => by kernel_rfl) ?_
  refine one_take 1 (.pointer (some ⟨b, 0, none⟩)) rfl (by kernel_rfl) (by kernel_rfl) (by kernel_rfl) rfl (gives_pure fun _ => by kernel_rfl) ?_
  refine one_take 2 (.pointer (some ⟨b, 0, none⟩)) rfl (by kernel_rfl) (by kernel_rfl) (by kernel_rfl) rfl (gives_pure fun _ => by kernel_rfl) ?_
  refine one_take 3 (.pointer (some ⟨x.d, 0, none⟩)) rfl (by kernel_rfl) (by kernel_rfl) (by kernel_rfl) rfl (gives_read fun w hw => run_load_disk _ _ _ _ _ _ rfl (by kernel_rfl) w ((HS2.out w hw).2.2.1.vault.c0)) ?_
  refine one_take 4 (.pointer (some ⟨w.heap.size, 0, none⟩)) rfl (by kernel_rfl) (by kernel_rfl) (by kernel_rfl) rfl (gives_pure fun _ => by kernel_rfl) ?_
  refine one_take 5 (.int .i64 p) rfl (by kernel_rfl) (by kernel_rfl) (by kernel_rfl) rfl (gives_read fun w hw => run_load_int _ _ _ _ _ _ rfl (by kernel_rfl) w ((HS2.out w hw).1)) ?_
  refine one_take 6 (.tuple #[strV B, .bool true]) rfl (by kernel_rfl) (by kernel_rfl) (by kernel_rfl) rfl (gives_call (67) (#[.pointer (some ⟨x.d, 0, none⟩), .int .i64 p]) (fun _ => by kernel_rfl) fun w hw => (HRD.out w hw).mono fun e w2 h => ⟨h.1, h.2 ▸ hw⟩) ?_
  refine one_take 7 (.tuple #[strV B, .bool true]) rfl (by kernel_rfl) (by kernel_rfl) (by kernel_rfl) rfl (gives_pure fun _ => by kernel_rfl) ?_
  refine one_take 8 (strV B) rfl (by kernel_rfl) (by kernel_rfl) (by kernel_rfl) rfl (gives_pure fun _ => by kernel_rfl) ?_
  refine one_take 9 (.bool true) rfl (by kernel_rfl) (by kernel_rfl) (by kernel_rfl) rfl (gives_pure fun _ => by kernel_rfl) ?_
  refine one_take 10 (strV B) rfl (by kernel_rfl) (by kernel_rfl) (by kernel_rfl) rfl (gives_pure fun _ => by kernel_rfl) ?_
  refine one_take 11 (.bool true) rfl (by kernel_rfl) (by kernel_rfl) (by kernel_rfl) rfl (gives_pure fun _ => by kernel_rfl) ?_
  refine OneWalk.done (by kernel_rfl) fun w3 hw3 => ?_
  simp only [Act.put, List.setIfInBounds_toArray, List.set_cons_succ, List.set_cons_zero]
  go_wp2_with fail
  by_cases hDd : D = d
  · subst hDd
    have hlc2 := HLC.out
    rw [if_pos rfl] at hlc2
    have HLC2 := hide hlc2
    clear hlc2 HLC
    cases hO : openL rk B p with
    | none =>
      rw [hO] at HOP HLC2
      simp only [resV] at HOP
      clear hO
      refine wp_region_one (fun w' => Below w2.heap.size w2 w') (by kernel_rfl) (by kernel_rfl) hw3.drew ?_
      refine one_take 0 (strV B) rfl (by kernel_rfl) (by kernel_rfl) (by kernel_rfl) rfl (gives_pure fun _ => by kernel_rfl) ?_
      refine one_take 1 (strV D) rfl (by kernel_rfl) (by kernel_rfl) (by kernel_rfl) rfl (gives_call (40) (#[.string ⟨B.toArray⟩]) (fun _ => by kernel_rfl) fun w hw => (HOF.out w hw).mono fun e w2 h => ⟨h.1, hw.trans (h.2.mono hw.size)⟩) ?_
      refine one_take 2 (.pointer (some ⟨w.heap.size, 1, none⟩)) rfl (by kernel_rfl) (by kernel_rfl) (by kernel_rfl) rfl (gives_pure fun _ => by kernel_rfl) ?_
      refine one_take 3 (strV D) rfl (by kernel_rfl) (by kernel_rfl) (by kernel_rfl) rfl (gives_read fun w hw => run_load_str _ _ _ _ _ _ rfl (by kernel_rfl) w ((HS2.out w hw).2.1)) ?_
      refine one_take 4 (.bool false) rfl (by kernel_rfl) (by kernel_rfl) (by kernel_rfl) rfl (gives_pure fun w => run_neq_same _ _ _ _ _ D rfl (by kernel_rfl) (by kernel_rfl) w) ?_
      refine OneWalk.done (by kernel_rfl) fun w4 hw4 => ?_
      simp only [Act.put, List.setIfInBounds_toArray, List.set_cons_succ, List.set_cons_zero]
      go_wp2_with fail
      refine wp_region_one (fun w' => Below w2.heap.size w2 w') (by kernel_rfl) (by kernel_rfl) hw4.drew ?_
      refine one_take 0 (.pointer (some ⟨b, 0, none⟩)) rfl (by kernel_rfl) (by kernel_rfl) (by kernel_rfl) rfl (gives_pure fun _ => by kernel_rfl) ?_
      refine one_take 1 (.pointer (some ⟨b, 0, none⟩)) rfl (by kernel_rfl) (by kernel_rfl) (by kernel_rfl) rfl (gives_pure fun _ => by kernel_rfl) ?_
      refine one_take 2 (.pointer (some ⟨b, 3, none⟩)) rfl (by kernel_rfl) (by kernel_rfl) (by kernel_rfl) rfl (gives_pure fun _ => by kernel_rfl) ?_
      refine one_take 3 (.agg #[v.tv, .pointer (some ⟨bp, 0, none⟩)]) rfl (by kernel_rfl) (by kernel_rfl) (by kernel_rfl) rfl (gives_read fun w hw => run_load_row _ _ 65 _ b 3 [v.tv, .pointer (some ⟨bp, 0, none⟩)] rfl (by kernel_rfl) _ Tryz.underlying65 rfl (by kernel_rfl) w (range2 (HS2.out w hw).2.2.1.vault.c3 (by rw [(HS2.out w hw).2.2.1.vault.c4, hpv]))) ?_
      refine one_take 4 (strV B) rfl (by kernel_rfl) (by kernel_rfl) (by kernel_rfl) rfl (gives_pure fun _ => by kernel_rfl) ?_
      refine one_take 5 (.pointer (some ⟨w.heap.size, 0, none⟩)) rfl (by kernel_rfl) (by kernel_rfl) (by kernel_rfl) rfl (gives_pure fun _ => by kernel_rfl) ?_
      refine one_take 6 (.int .i64 p) rfl (by kernel_rfl) (by kernel_rfl) (by kernel_rfl) rfl (gives_read fun w hw => run_load_int _ _ _ _ _ _ rfl (by kernel_rfl) w ((HS2.out w hw).1)) ?_
      refine one_take 7 (.tuple #[strV [], .bool false]) rfl (by kernel_rfl) (by kernel_rfl) (by kernel_rfl) rfl (gives_call (125) (#[.agg #[v.tv, .pointer (some ⟨bp, 0, none⟩)], .string ⟨B.toArray⟩, .int .i64 p]) (fun _ => by kernel_rfl) fun w hw => (HOP.out w hw).mono fun e w2 h => ⟨h.1, hw.trans (h.2.mono hw.size)⟩) ?_
      refine one_take 8 (.tuple #[strV [], .bool false]) rfl (by kernel_rfl) (by kernel_rfl) (by kernel_rfl) rfl (gives_pure fun _ => by kernel_rfl) ?_
      refine one_take 9 (strV []) rfl (by kernel_rfl) (by kernel_rfl) (by kernel_rfl) rfl (gives_pure fun _ => by kernel_rfl) ?_
      refine one_take 10 (.bool false) rfl (by kernel_rfl) (by kernel_rfl) (by kernel_rfl) rfl (gives_pure fun _ => by kernel_rfl) ?_
      refine one_take 11 (strV []) rfl (by kernel_rfl) (by kernel_rfl) (by kernel_rfl) rfl (gives_pure fun _ => by kernel_rfl) ?_
      refine one_take 12 (.bool false) rfl (by kernel_rfl) (by kernel_rfl) (by kernel_rfl) rfl (gives_pure fun _ => by kernel_rfl) ?_
      refine OneWalk.done (by kernel_rfl) fun w5 hw5 => ?_
      simp only [Act.put, List.setIfInBounds_toArray, List.set_cons_succ, List.set_cons_zero]
      have kf : Kp [vb] w w5 := HE.out.1.trans (Kp.of_below hw5)
      have vf : w5.heap[vb]? = _ := (hw5.block vb (by have := HZ.out; have := HA.out.2.2.2.2; omega)).trans HE.out.2
      have HFF := hide (And.intro kf vf)
      clear kf vf
      go_wp2_with fail
      go_ret2
      exact ⟨HFF.out.1, HFF.out.2, .inl ⟨HLC2.out, rfl⟩⟩
    | some T =>
      have hTl := HOL.out T hO
      rw [hO] at HOP HLC2
      simp only [resV] at HOP
      clear hO HOL
      refine wp_region_one (fun w' => Below w2.heap.size w2 w') (by kernel_rfl) (by kernel_rfl) hw3.drew ?_
      refine one_take 0 (strV B) rfl (by kernel_rfl) (by kernel_rfl) (by kernel_rfl) rfl (gives_pure fun _ => by kernel_rfl) ?_
      refine one_take 1 (strV D) rfl (by kernel_rfl) (by kernel_rfl) (by kernel_rfl) rfl (gives_call (40) (#[.string ⟨B.toArray⟩]) (fun _ => by kernel_rfl) fun w hw => (HOF.out w hw).mono fun e w2 h => ⟨h.1, hw.trans (h.2.mono hw.size)⟩) ?_
      refine one_take 2 (.pointer (some ⟨w.heap.size, 1, none⟩)) rfl (by kernel_rfl) (by kernel_rfl) (by kernel_rfl) rfl (gives_pure fun _ => by kernel_rfl) ?_
      refine one_take 3 (strV D) rfl (by kernel_rfl) (by kernel_rfl) (by kernel_rfl) rfl (gives_read fun w hw => run_load_str _ _ _ _ _ _ rfl (by kernel_rfl) w ((HS2.out w hw).2.1)) ?_
      refine one_take 4 (.bool false) rfl (by kernel_rfl) (by kernel_rfl) (by kernel_rfl) rfl (gives_pure fun w => run_neq_same _ _ _ _ _ D rfl (by kernel_rfl) (by kernel_rfl) w) ?_
      refine OneWalk.done (by kernel_rfl) fun w4 hw4 => ?_
      simp only [Act.put, List.setIfInBounds_toArray, List.set_cons_succ, List.set_cons_zero]
      go_wp2_with fail
      refine wp_region_one (fun w' => Below w2.heap.size w2 w') (by kernel_rfl) (by kernel_rfl) hw4.drew ?_
      refine one_take 0 (.pointer (some ⟨b, 0, none⟩)) rfl (by kernel_rfl) (by kernel_rfl) (by kernel_rfl) rfl (gives_pure fun _ => by kernel_rfl) ?_
      refine one_take 1 (.pointer (some ⟨b, 0, none⟩)) rfl (by kernel_rfl) (by kernel_rfl) (by kernel_rfl) rfl (gives_pure fun _ => by kernel_rfl) ?_
      refine one_take 2 (.pointer (some ⟨b, 3, none⟩)) rfl (by kernel_rfl) (by kernel_rfl) (by kernel_rfl) rfl (gives_pure fun _ => by kernel_rfl) ?_
      refine one_take 3 (.agg #[v.tv, .pointer (some ⟨bp, 0, none⟩)]) rfl (by kernel_rfl) (by kernel_rfl) (by kernel_rfl) rfl (gives_read fun w hw => run_load_row _ _ 65 _ b 3 [v.tv, .pointer (some ⟨bp, 0, none⟩)] rfl (by kernel_rfl) _ Tryz.underlying65 rfl (by kernel_rfl) w (range2 (HS2.out w hw).2.2.1.vault.c3 (by rw [(HS2.out w hw).2.2.1.vault.c4, hpv]))) ?_
      refine one_take 4 (strV B) rfl (by kernel_rfl) (by kernel_rfl) (by kernel_rfl) rfl (gives_pure fun _ => by kernel_rfl) ?_
      refine one_take 5 (.pointer (some ⟨w.heap.size, 0, none⟩)) rfl (by kernel_rfl) (by kernel_rfl) (by kernel_rfl) rfl (gives_pure fun _ => by kernel_rfl) ?_
      refine one_take 6 (.int .i64 p) rfl (by kernel_rfl) (by kernel_rfl) (by kernel_rfl) rfl (gives_read fun w hw => run_load_int _ _ _ _ _ _ rfl (by kernel_rfl) w ((HS2.out w hw).1)) ?_
      refine one_take 7 (.tuple #[strV T, .bool true]) rfl (by kernel_rfl) (by kernel_rfl) (by kernel_rfl) rfl (gives_call (125) (#[.agg #[v.tv, .pointer (some ⟨bp, 0, none⟩)], .string ⟨B.toArray⟩, .int .i64 p]) (fun _ => by kernel_rfl) fun w hw => (HOP.out w hw).mono fun e w2 h => ⟨h.1, hw.trans (h.2.mono hw.size)⟩) ?_
      refine one_take 8 (.tuple #[strV T, .bool true]) rfl (by kernel_rfl) (by kernel_rfl) (by kernel_rfl) rfl (gives_pure fun _ => by kernel_rfl) ?_
      refine one_take 9 (strV T) rfl (by kernel_rfl) (by kernel_rfl) (by kernel_rfl) rfl (gives_pure fun _ => by kernel_rfl) ?_
      refine one_take 10 (.bool true) rfl (by kernel_rfl) (by kernel_rfl) (by kernel_rfl) rfl (gives_pure fun _ => by kernel_rfl) ?_
      refine one_take 11 (strV T) rfl (by kernel_rfl) (by kernel_rfl) (by kernel_rfl) rfl (gives_pure fun _ => by kernel_rfl) ?_
      refine one_take 12 (.bool true) rfl (by kernel_rfl) (by kernel_rfl) (by kernel_rfl) rfl (gives_pure fun _ => by kernel_rfl) ?_
      refine OneWalk.done (by kernel_rfl) fun w5 hw5 => ?_
      simp only [Act.put, List.setIfInBounds_toArray, List.set_cons_succ, List.set_cons_zero]
      have HNO := hide (nodeOf_gen T w5 hTl)
      go_wp2_with fail
      refine HNO.out.mono ?_
      rintro e w6 ⟨hb6, hnode | ⟨leaf, es, n, ev, hnode, rfl, hl6, hn6, hev6⟩⟩
      · obtain ⟨hnc, rfl⟩ := hnode
        have hw6 := hw5.trans (hb6.mono hw5.size)
        have hlc3 := HLC2.out
        rw [Option.bind_some, hnc] at hlc3
        have HL3 := hide hlc3
        clear hlc3 hnc hb6 HNO
        have kf : Kp [vb] w w6 := HE.out.1.trans (Kp.of_below hw6)
        have vf : w6.heap[vb]? = _ := (hw6.block vb (by have := HZ.out; have := HA.out.2.2.2.2; omega)).trans HE.out.2
        have HFF := hide (And.intro kf vf)
        clear kf vf
        go_wp2_with fail
        go_ret2
        exact ⟨HFF.out.1, HFF.out.2, .inl ⟨HL3.out, rfl⟩⟩
      · have hw6 := hw5.trans (hb6.mono hw5.size)
        have hlc3 := HLC2.out
        rw [Option.bind_some, hnode] at hlc3
        have HL3 := hide hlc3
        clear hlc3 hnode
        have m0 := (HS2.out w6 hw6).1
        have m1 := (HS2.out w6 hw6).2.1
        have c1 := hl6.node.c1
        have c2 := hl6.node.c2
        have f1 := hl6.node.fr 1
        have f2 := hl6.node.fr 2
        have hz5 := hw5.size
        have hzz := HZ.out
        have hl7 := (hl6.node.set1 p).set2 D
        have kk : Kp [n] w6 ((w6.setCell ⟨n, 1, none⟩ (.int .i64 p)).setCell ⟨n, 2, none⟩ (strV D)) := ((Kp.refl [n] w6).setCell n 1 _ (.inl (by simp))).setCell n 2 _ (.inl (by simp))
        have hvl := HA.out.2.2.2.2
        have ho7 := owns_kp hl6.own kk (fun j hj => by
          have := hl6.ne j hj
          simp; omega)
        have kv : Kp [vb] w ((w6.setCell ⟨n, 1, none⟩ (.int .i64 p)).setCell ⟨n, 2, none⟩ (strV D)) := ((HE.out.1.trans (Kp.of_below hw6)).setCell n 1 _ (.inr (by omega))).setCell n 2 _ (.inr (by omega))
        have vv : ((w6.setCell ⟨n, 1, none⟩ (.int .i64 p)).setCell ⟨n, 2, none⟩ (strV D)).heap[vb]? = _ := (kk.block vb (by have := hw6.size; omega) (by simp; omega)).trans ((hw6.block vb (by omega)).trans HE.out.2)
        have HF := hide (And.intro hl7 (And.intro ho7 (And.intro hl6.ne (And.intro kv (And.intro vv hev6)))))
        clear hl6 hl7 kk ho7 kv vv hb6 hw6 hw5 hw4 hw3 hev6 HNO
        go_wp2_with fail
        go_ret2
        exact ⟨HF.out.2.2.2.1, HF.out.2.2.2.2.1, .inr ⟨leaf, es, n, ev, HL3.out, rfl, ⟨HF.out.1, HF.out.2.1, HF.out.2.2.1⟩, by omega, fun j hj => by have := HF.out.2.2.2.2.2 j hj; omega⟩⟩
  · have hlc2 := HLC.out
    rw [if_neg hDd] at hlc2
    have HLC2 := hide hlc2
    clear hlc2 HLC
    refine wp_region_one (fun w' => Below w2.heap.size w2 w') (by kernel_rfl) (by kernel_rfl) hw3.drew ?_
    refine one_take 0 (strV B) rfl (by kernel_rfl) (by kernel_rfl) (by kernel_rfl) rfl (gives_pure fun _ => by kernel_rfl) ?_
    refine one_take 1 (strV D) rfl (by kernel_rfl) (by kernel_rfl) (by kernel_rfl) rfl (gives_call (40) (#[.string ⟨B.toArray⟩]) (fun _ => by kernel_rfl) fun w hw => (HOF.out w hw).mono fun e w2 h => ⟨h.1, hw.trans (h.2.mono hw.size)⟩) ?_
    refine one_take 2 (.pointer (some ⟨w.heap.size, 1, none⟩)) rfl (by kernel_rfl) (by kernel_rfl) (by kernel_rfl) rfl (gives_pure fun _ => by kernel_rfl) ?_
    refine one_take 3 (strV d) rfl (by kernel_rfl) (by kernel_rfl) (by kernel_rfl) rfl (gives_read fun w hw => run_load_str _ _ _ _ _ _ rfl (by kernel_rfl) w ((HS2.out w hw).2.1)) ?_
    refine one_take 4 (.bool true) rfl (by kernel_rfl) (by kernel_rfl) (by kernel_rfl) rfl (gives_pure fun w => run_neq_other _ _ _ _ _ D d hDd rfl (by kernel_rfl) (by kernel_rfl) w) ?_
    refine OneWalk.done (by kernel_rfl) fun w4 hw4 => ?_
    simp only [Act.put, List.setIfInBounds_toArray, List.set_cons_succ, List.set_cons_zero]
    have kf : Kp [vb] w w4 := HE.out.1.trans (Kp.of_below hw4)
    have vf : w4.heap[vb]? = _ := (hw4.block vb (by have := HZ.out; have := HA.out.2.2.2.2; omega)).trans HE.out.2
    have HFF := hide (And.intro kf vf)
    clear kf vf
    go_wp2_with fail
    go_ret2
    exact ⟨HFF.out.1, HFF.out.2, .inl ⟨HLC2.out, rfl⟩⟩
end Go.Proofs.YtjnhlkaafnaooabGreatDoor

namespace Go.Proofs.YtjnhlkaafnaooabGreatDoor
open Go.RowKit
set_option maxRecDepth 100000 in
set_option maxHeartbeats 1000000 in
/-- A place where no page can lie. -/
theorem look_bad (x : DX) (b vb : Nat) (m : DM) (v : VM) (wv : Value) (d : List UInt8) (p : Nat) (w : World) (h : Sys w x b m v wv)
    (hv0 : w.cell? ⟨vb, 0, none⟩ = some (.pointer (some ⟨b, 0, none⟩))) (hp : p < 2 ∨ m.blocks.length ≤ p) :
    Calls Tryz.prog 100 #[.pointer (some ⟨vb, 0, none⟩), .agg #[.int .i64 p, .string ⟨d.toArray⟩]] w fun e w' => e = .returned (.tuple #[.pointer none, .int .i64 8]) ∧ Below w.heap.size w w' := by
  have hvl : vb < w.heap.size := by
    rcases Nat.lt_or_ge vb w.heap.size with g | g
    · exact g
    · simp [World.cell?, Array.getElem?_eq_none g] at hv0
  obtain ⟨w0, hw0⟩ : ∃ w0, w.alloc (.cells #[.int .i64 (p : Int), .string ⟨d.toArray⟩] 67) = w0 := ⟨_, rfl⟩
  have hb0 : Below w.heap.size w w0 := hw0 ▸ (Below.refl _ _).alloc (Nat.le_refl _) _
  have q0 : w0.heap[w.heap.size]? = some (.cells #[.int .i64 (p : Int), .string ⟨d.toArray⟩] 67 (0, 0)) := hw0 ▸ heap_alloc_new w _
  have l0 : w0.cell? ⟨w.heap.size, 0, none⟩ = some (.int .i64 (p : Int)) := by rw [cell_of_row _ _ _ _ _ _ q0]; rfl
  have g0 : w0.cell? ⟨vb, 0, none⟩ = some (.pointer (some ⟨b, 0, none⟩)) := (hb0.cell (p := ⟨vb, 0, none⟩) hvl).trans hv0
  have h0 := h.later hb0
  have c0 := h0.vault.c0
  have hd0 := h0.disk.c0
  have HB := hide (fun w (hd : w.cell? ⟨x.d, 0, none⟩ = some (.slice (some ⟨x.bb, 0, none⟩) m.blocks.length x.cb)) => blocks_any x.d x.bb x.cb m.blocks.length w hd)
  have HB0 := hide hb0
  have hle := h.disk.le
  have hge := h.disk.ge
  clear h h0 q0 hb0 hv0
  by_cases hp2 : p < 2
  · have d1 : decide ((p : Int) < 2) = true := by simp; omega
    clear hp
    go_enter Tryz.func100, Tryz.ntmps100
    go_wp2_with fail
    go_quiet (first | (go_at_call 85; refine Calls.quiet_of_same (HB.out _ (by assumption))))
    go_wp2_with fail
    go_ret2
    exact ⟨rfl, below_drewN HB0.out _⟩
  · have d1 : decide ((p : Int) < 2) = false := by simp; omega
    have hN : m.blocks.length ≤ p := by omega
    have d2 : decide ((m.blocks.length : Int) ≤ (p : Int)) = true := by simp; omega
    clear hp
    generalize m.blocks.length = N at *
    go_enter Tryz.func100, Tryz.ntmps100
    go_wp2_with fail
    go_quiet (first | (go_at_call 85; refine Calls.quiet_of_same (HB.out _ (by assumption))))
    go_wp2_with fail
    go_ret2
    exact ⟨rfl, below_drewN HB0.out _⟩
set_option maxRecDepth 100000 in
set_option maxHeartbeats 1000000 in
theorem root_gen (x : DX) (b bp vb : Nat) (m : DM) (v : VM) (wv : Value) (rk : List UInt8) (lk : Nat) (w : World) (h : Sys w x b m v wv) (hpv : v.pv = .pointer (some ⟨bp, 0, none⟩)) (hk : KeyAt w bp rk)
    (hv0 : w.cell? ⟨vb, 0, none⟩ = some (.pointer (some ⟨b, 0, none⟩))) (hv1 : w.cell? ⟨vb, 1, none⟩ = some (.int .i64 lk)) (hvf : w.frozen? ⟨vb, 1, none⟩ = false) (hvb : Foreign x b wv vb) (hbp : bp ≠ vb) (hlk : lk < 48)
    (h2 : 2 ≤ v.place) (hp : v.place < m.blocks.length) (hbl : (m.look v.place).length = 256) :
    Calls Tryz.prog 59 #[.pointer (some ⟨vb, 0, none⟩)] w fun e w' => Kp [vb] w w' ∧ w'.heap[vb]? = (w.setCell ⟨vb, 1, none⟩ (.int .i64 (lk + 1 : Nat))).heap[vb]? ∧
      ((lookC rk v.digest (m.look v.place) v.place = none ∧ e = .returned (.tuple #[.pointer none, .int .i64 8])) ∨
       (∃ leaf es n ev, lookC rk v.digest (m.look v.place) v.place = some (leaf, es) ∧ e = .returned (.tuple #[.pointer (some ⟨n, 0, none⟩), .int .i64 0]) ∧ EntsAt w' n leaf v.place v.digest es ev ∧ w.heap.size ≤ n ∧ (∀ j, ev.ownBlock = some j → w.heap.size ≤ j))) := by
  have c8 := h.vault.c8
  have c9 := h.vault.c9
  have HL := hide (look_gen x b bp vb m v wv rk v.digest v.place lk w h hpv hk hv0 hv1 hvf hvb hbp hlk h2 hp hbl)
  have hne : ((v.place : Int) == 0) = false := by rw [beq_eq_false_iff_ne]; omega
  have hne2 : ¬ (v.place = 0) := by omega
  clear h hpv hk hv1 hvf hvb hlk h2 hp hbl
  generalize v.place = p at *
  generalize v.digest = d at *
  go_enter Tryz.func59, Tryz.ntmps59
  go_wp2_with fail
  refine HL.out.mono ?_
  rintro e w1 ⟨hk1, hv1, hr⟩
  rcases hr with ⟨hn, rfl⟩ | ⟨leaf, es, n, ev, hn, rfl, hr⟩
  · have HR := hide (And.intro hk1 (And.intro hv1 hn))
    clear hk1 hv1 hn HL
    go_wp2_with fail
    go_ret2
    exact ⟨HR.out.1, HR.out.2.1, .inl ⟨HR.out.2.2, rfl⟩⟩
  · have HR := hide (And.intro hk1 (And.intro hv1 (And.intro hn hr)))
    clear hk1 hv1 hn hr HL
    go_wp2_with fail
    go_ret2
    exact ⟨HR.out.1, HR.out.2.1, .inr ⟨leaf, es, n, ev, HR.out.2.2.1, rfl, HR.out.2.2.2⟩⟩
end Go.Proofs.YtjnhlkaafnaooabGreatDoor

namespace Go.Proofs.YtjnhlkaafnaooabGreatDoor
open Go.RowKit
/-- A survey in memory. -/
structure SurvAt (w : World) (sb b lk dp : Nat) (last : List UInt8) : Prop where
  blk : w.heap[sb]? = some (.cells #[.pointer (some ⟨b, 0, none⟩), .int .i64 lk, .int .i64 dp, strV last] 119 (0, 0))
section
variable {w : World} {sb b lk dp : Nat} {last : List UInt8}
theorem SurvAt.lt (h : SurvAt w sb b lk dp last) : sb < w.heap.size := lt_of_block h.blk
theorem SurvAt.fr (h : SurvAt w sb b lk dp last) (i : Nat) : w.frozen? ⟨sb, i, none⟩ = false := by simp [World.frozen?, h.blk]
theorem SurvAt.c0 (h : SurvAt w sb b lk dp last) : w.cell? ⟨sb, 0, none⟩ = some (.pointer (some ⟨b, 0, none⟩)) := by rw [cell_of_row _ _ _ _ _ _ h.blk]; rfl
theorem SurvAt.c1 (h : SurvAt w sb b lk dp last) : w.cell? ⟨sb, 1, none⟩ = some (.int .i64 lk) := by rw [cell_of_row _ _ _ _ _ _ h.blk]; rfl
theorem SurvAt.c2 (h : SurvAt w sb b lk dp last) : w.cell? ⟨sb, 2, none⟩ = some (.int .i64 dp) := by rw [cell_of_row _ _ _ _ _ _ h.blk]; rfl
theorem SurvAt.c3 (h : SurvAt w sb b lk dp last) : w.cell? ⟨sb, 3, none⟩ = some (strV last) := by rw [cell_of_row _ _ _ _ _ _ h.blk]; rfl
theorem SurvAt.of_block {w' : World} (h : SurvAt w sb b lk dp last) (e : w'.heap[sb]? = w.heap[sb]?) : SurvAt w' sb b lk dp last := ⟨e.trans h.blk⟩
theorem SurvAt.set1 (h : SurvAt w sb b lk dp last) (y : Nat) : SurvAt (w.setCell ⟨sb, 1, none⟩ (.int .i64 y)) sb b y dp last := ⟨by rw [set_prim h.blk 1 _]; simp⟩
theorem SurvAt.set2 (h : SurvAt w sb b lk dp last) (y : Nat) : SurvAt (w.setCell ⟨sb, 2, none⟩ (.int .i64 y)) sb b lk y last := ⟨by rw [set_prim h.blk 2 _]; simp⟩
theorem SurvAt.set3 (h : SurvAt w sb b lk dp last) (y : List UInt8) : SurvAt (w.setCell ⟨sb, 3, none⟩ (strV y)) sb b lk dp y := ⟨by rw [set_prim h.blk 3 _]; simp⟩
end
/-- Keys above a key, each above the one ahead: the last of them. -/
def ascC : List UInt8 → List Ent → Option (List UInt8)
  | last, [] => some last
  | last, e :: es => if Op.bytesLess last e.key = true then ascC e.key es else none
set_option maxRecDepth 100000 in
set_option maxHeartbeats 1000000 in
/-- The first leaf of a survey. -/
theorem leaf_gen (sb b lk n p dp : Nat) (last d : List UInt8) (es : List Ent) (ev : Value) (w : World) (h : SurvAt w sb b lk 0 last) (hn : EntsAt w n true p d es ev) (hes : es ≠ []) (hne : sb ≠ n) (hev : ∀ j, ev.ownBlock = some j → j ≠ sb) (hl : es.length ≤ 5) :
    Calls Tryz.prog 108 #[.pointer (some ⟨sb, 0, none⟩), .pointer (some ⟨n, 0, none⟩), .int .i64 dp] w fun e w' => Kp [sb] w w' ∧
      ((ascC last es = none ∧ e = .returned (.int .i64 8)) ∨ (∃ l', ascC last es = some l' ∧ e = .returned (.int .i64 0) ∧ SurvAt w' sb b lk dp l')) := by
  have c2 := h.c2
  have f2 := h.fr 2
  have h1 := h.set2 dp
  have k1 : Kp [sb] w (w.setCell ⟨sb, 2, none⟩ (.int .i64 dp)) := (Kp.refl _ w).setCell sb 2 _ (.inl (by simp))
  have hn1 := hn.kp k1 (by simpa using Ne.symm hne) (fun j hj => by simpa using hev j hj)
  obtain ⟨w1, hw1⟩ : ∃ w1, w.setCell ⟨sb, 2, none⟩ (.int .i64 (dp : Int)) = w1 := ⟨_, rfl⟩
  rw [hw1] at h1 k1 hn1
  have H1 := hide (And.intro h1 (And.intro k1 hn1))
  have HE := hide (And.intro hes (And.intro hne hev))
  have hli : (es.length : Int) ≤ 5 := by omega
  clear h hn hes hne hev hl h1 k1 hn1
  go_enter Tryz.func108, Tryz.ntmps108
  go_wp2_with fail
  go_loopw [7] (fun i wr => ∃ (k : Nat) (lt : List UInt8), k ≤ es.length ∧ i = .int .i64 (k : Int) ∧ SurvAt wr sb b lk dp lt ∧ EntsAt wr n true p d es ev ∧ Kp [sb] w wr ∧ ascC lt (es.drop k) = ascC last es) (fun i _ => es.length - (intOf i).toNat)
  case atStart => exact ⟨0, last, by omega, rfl, H1.out.1, H1.out.2.2, H1.out.2.1, rfl⟩
  case round =>
    obtain ⟨k, lt, hk, rfl, hs, hn, hkp, hasc⟩ := hrel
    clear c2 f2 hw1
    obtain ⟨be, cap, hv, hbl, hbn, hcl, hcm, hcell, hfz⟩ := hn.row HE.out.1
    have c3 := hn.node.c3
    rw [hv] at c3
    by_cases hlt : k < es.length
    · obtain ⟨en, hen⟩ : ∃ en, es[k]? = some en := ⟨es[k], List.getElem?_eq_getElem hlt⟩
      have hdrop : es.drop k = en :: es.drop (k + 1) := by
        rw [List.drop_eq_getElem_cons hlt]
        congr 1
        exact (List.getElem_eq_iff hlt).2 hen
      rw [hdrop] at hasc
      simp only [ascC] at hasc
      have ck : wr.cell? ⟨be, k * 5, none⟩ = some (strV en.key) := by have := hcell k en hen 0 (by decide); simpa [Ent.cells, entV] using this
      have s3 := hs.c3
      have g3 := hs.fr 3
      have hki : (k : Int) < (es.length : Int) := by omega
      have HLT := hide hlt
      have HR := hide (And.intro hs (And.intro hn (And.intro hkp (And.intro hasc ck))))
      have hbs : be ≠ sb := HE.out.2.2 be (by rw [hv]; rfl)
      have hns := HE.out.2.1
      clear hs hn hkp hasc hcell hfz hdrop hen hk hlt hcl
      generalize es.length = L at *
      generalize en.key = ek at *
      cases hgt : Op.bytesLess lt ek with
      | false =>
        have ha := HR.out.2.2.2.1
        rw [hgt] at ha
        have HX := hide (And.intro HR.out.2.2.1 ha)
        clear ha HR
        go_wp2_with fail
        go_quiet (fail)
        go_wp2_with fail
        · go_ret
          exact ⟨HX.out.1.drewN _, .inl ⟨by rw [← HX.out.2]; simp, rfl⟩⟩
        · rename_i hx
          have := less_tri ek lt
          rw [hx.1, hx.2, hgt] at this
          cases this
      | true =>
        have ha := HR.out.2.2.2.1
        rw [hgt, if_pos rfl] at ha
        have HX := hide ha
        have htri := less_tri ek lt
        rw [hgt] at htri
        have hge1 : Op.bytesLess ek lt = false := by
          cases h : Op.bytesLess ek lt
          · rfl
          · rw [h] at htri; cases htri
        have hge2 : (ek == lt) = false := by
          cases h : (ek == lt)
          · rfl
          · rw [h] at htri; simp at htri
        clear htri ha
        go_wp2_with fail
        go_quiet (fail)
        obtain ⟨w2, hw2⟩ : ∃ w2, wr.drewN nq = w2 := ⟨_, rfl⟩
        have kd : Kp [sb] wr w2 := hw2 ▸ (Kp.refl [sb] wr).drewN nq
        have kd0 : Kp [] wr w2 := hw2 ▸ (Kp.refl [] wr).drewN nq
        have s2 := HR.out.1.of_block (kd0.block sb HR.out.1.lt (by simp))
        have n2 := HR.out.2.1.kp kd0 (by simp) (by simp)
        have c32 := n2.node.c3
        rw [hv] at c32
        have ck2 : w2.cell? ⟨be, k * 5, none⟩ = some (strV ek) := hw2 ▸ HR.out.2.2.2.2
        have s32 := s2.c3
        have g32 := s2.fr 3
        rw [hw2]
        have ks : Kp [sb] w2 (w2.setCell ⟨sb, 3, none⟩ (strV ek)) := (Kp.refl _ w2).setCell sb 3 _ (.inl (by simp))
        have HF := hide (And.intro (s2.set3 ek) (And.intro (n2.kp ks (by simpa using Ne.symm hns) (fun j hj => by simpa using HE.out.2.2 j hj)) ((HR.out.2.2.1.trans kd).trans ks)))
        clear ck s3 g3 c3 kd kd0 s2 n2 ks hw2 HR
        have hlc := len_maxLen hcm
        go_wp2_with fail
        go_roundw
        case rel => exact ⟨k + 1, ek, by have := HLT.out; omega, by go_num, HF.out.1, HF.out.2.1, HF.out.2.2, HX.out⟩
        case measure => have := HLT.out; simp [intOf]; omega
    · obtain rfl : k = es.length := by omega
      rw [List.drop_length] at hasc
      simp only [ascC] at hasc
      have HF := hide (And.intro hs (And.intro hkp hasc))
      clear hs hn hkp hasc hcell hfz hlt hk hcl
      generalize es.length = L at *
      go_wp2_with fail
      go_ret
      exact ⟨HF.out.2.1, .inr ⟨lt, HF.out.2.2.symm, rfl, HF.out.1⟩⟩
end Go.Proofs.YtjnhlkaafnaooabGreatDoor

namespace Go.Proofs.YtjnhlkaafnaooabGreatDoor
open Go.RowKit
set_option maxRecDepth 100000 in
set_option maxHeartbeats 1000000 in
/-- The first child, at a place where no page can lie. -/
theorem child_bad (x : DX) (b vb n p : Nat) (leaf : Bool) (m : DM) (v : VM) (wv : Value) (d : List UInt8) (en : Ent) (es : List Ent) (ev : Value) (w : World) (h : Sys w x b m v wv) (hv0 : w.cell? ⟨vb, 0, none⟩ = some (.pointer (some ⟨b, 0, none⟩))) (hn : EntsAt w n leaf p d (en :: es) ev) (hp : en.place < 2 ∨ m.blocks.length ≤ en.place) :
    Calls Tryz.prog 75 #[.pointer (some ⟨vb, 0, none⟩), .pointer (some ⟨n, 0, none⟩), .int .i64 0] w fun e w' => e = .returned (.tuple #[.pointer none, .int .i64 8]) ∧ Below w.heap.size w w' := by
  have hvl : vb < w.heap.size := by
    rcases Nat.lt_or_ge vb w.heap.size with g | g
    · exact g
    · simp [World.cell?, Array.getElem?_eq_none g] at hv0
  obtain ⟨be, cap, hv, hbl, hbn, hcl, hcm, hcell, hfz⟩ := hn.row (by simp)
  have c3 := hn.node.c3
  rw [hv, List.length_cons] at c3
  have e0 : w.cell? ⟨be, 0, none⟩ = some (strV en.key) := hcell 0 en rfl 0 (by decide)
  have e1 : w.cell? ⟨be, 1, none⟩ = some (strV en.value) := hcell 0 en rfl 1 (by decide)
  have e2 : w.cell? ⟨be, 2, none⟩ = some (.int .i64 (en.place : Int)) := hcell 0 en rfl 2 (by decide)
  have e3 : w.cell? ⟨be, 3, none⟩ = some (strV en.digest) := hcell 0 en rfl 3 (by decide)
  have e4 : w.cell? ⟨be, 4, none⟩ = some (.pointer none) := hcell 0 en rfl 4 (by decide)
  obtain ⟨w1, hw1⟩ : ∃ w1, w.alloc (.cells #[strV en.key, strV en.value, .int .i64 (en.place : Int), strV en.digest, .pointer none] 128) = w1 := ⟨_, rfl⟩
  have hb1 : Below w.heap.size w w1 := hw1 ▸ (Below.refl _ _).alloc (Nat.le_refl _) _
  have HL := hide (look_bad x b vb m v wv en.digest en.place w1 (h.later hb1) ((hb1.cell (p := ⟨vb, 0, none⟩) hvl).trans hv0) hp)
  have HB := hide hb1
  have HW1 := hide hw1
  have hli : (0 : Int) < (es.length : Int) + 1 := by omega
  have hlm := len_maxLen hcm
  clear h hn hcell hfz hb1 hp hv hv0 hcl hw1
  generalize es.length = L at *
  simp only [strV] at *
  go_enter Tryz.func75, Tryz.ntmps75
  go_wp2_with fail
  rw [HW1.out]
  refine HL.out.mono ?_
  rintro e w2 ⟨rfl, hb2⟩
  have hb := HB.out.trans (hb2.mono HB.out.size)
  clear HL hb2 HB
  go_wp2_with fail
  go_ret2
  exact ⟨rfl, hb⟩
set_option maxRecDepth 100000 in
set_option maxHeartbeats 1000000 in
/-- A leaf below the survey's top. -/
theorem below_leaf (x : DX) (b sb lk n p dp : Nat) (m : DM) (v : VM) (wv : Value) (last d : List UInt8) (es : List Ent) (ev : Value) (w : World) (h : Sys w x b m v wv) (hs : SurvAt w sb b lk 0 last) (hn : EntsAt w n true p d es ev) (hes : es ≠ []) (hl : es.length ≤ 5) (hp : p < 48)
    (hfs : sb ≠ b) (hfn : n ≠ b) (hfe : ∀ j, ev.ownBlock = some j → j ≠ b ∧ j ≠ sb) (hne : sb ≠ n) (hsf : Foreign x b wv sb) :
    Calls Tryz.prog 69 #[.pointer (some ⟨sb, 0, none⟩), .pointer (some ⟨n, 0, none⟩), .int .i64 dp] w fun e w' => Kp [b, sb] w w' ∧ Sys w' x b m { v with used := v.used.set p true } wv ∧
      ((ascC last es = none ∧ e = .returned (.int .i64 8)) ∨ (∃ l', ascC last es = some l' ∧ e = .returned (.int .i64 0) ∧ SurvAt w' sb b lk dp l')) := by
  have c0 := hs.c0
  have n1 := hn.node.c1
  have HU := hide (use_any x b m v wv p true w h hp)
  have HH := hide (And.intro hs (And.intro hn (And.intro hes (And.intro hl (And.intro hfe hsf)))))
  clear h hs hn hes hl hp hfe hsf
  go_enter Tryz.func69, Tryz.ntmps69
  go_wp2_with fail
  refine HU.out.mono ?_
  rintro e w1 ⟨rfl, s1, k1⟩
  obtain ⟨hs, hn, hes, hl, hfe, hsf⟩ := HH.out
  have hs1 := hs.of_block (k1.block sb hs.lt (by simpa using hfs))
  have hn1 := hn.kp k1 (by simpa using hfn) (fun j hj => by simpa using (hfe j hj).1)
  have c01 := hn1.node.c0
  have HL := hide (leaf_gen sb b lk n p dp last d es ev w1 hs1 hn1 hes hne (fun j hj => (hfe j hj).2) hl)
  have H1 := hide (And.intro s1 (And.intro k1 hsf))
  clear hs hn hes hl hfe hsf s1 k1 hs1 hn1 HU HH
  go_wp2_with fail
  refine HL.out.mono ?_
  rintro e w2 ⟨k2, hr⟩
  have s2 := H1.out.1.kp k2 (fun j hj => by simp at hj; subst hj; exact H1.out.2.2)
  have k02 : Kp [b, sb] w w2 := (H1.out.2.1.mono (fun j hj => by simp at hj; simp [hj])).trans (k2.mono (fun j hj => by simp at hj; simp [hj]))
  have H2 := hide (And.intro k02 s2)
  clear k02 s2 k2 H1 HL
  rcases hr with ⟨ha, rfl⟩ | ⟨l', ha, rfl, hs2⟩
  · go_wp2_with fail
    go_ret
    exact ⟨H2.out.1, H2.out.2, .inl ⟨ha, rfl⟩⟩
  · have HS2 := hide hs2
    clear hs2
    go_wp2_with fail
    go_ret
    exact ⟨H2.out.1, H2.out.2, .inr ⟨l', ha, rfl, HS2.out⟩⟩
set_option maxRecDepth 100000 in
set_option maxHeartbeats 1000000 in
/-- An inner node whose first child is refused. -/
theorem below_bad (x : DX) (b sb lk n p dp : Nat) (m : DM) (v : VM) (wv : Value) (last d : List UInt8) (en : Ent) (es : List Ent) (ev : Value) (w : World) (h : Sys w x b m v wv) (hs : SurvAt w sb b lk 0 last) (hn : EntsAt w n false p d (en :: es) ev) (hp : p < 48)
    (hfs : sb ≠ b) (hfn : n ≠ b) (hfe : ∀ j, ev.ownBlock = some j → j ≠ b) (hb : (v.used.set p true).getD en.place false = true ∨ en.place < 2 ∨ m.blocks.length ≤ en.place) :
    Calls Tryz.prog 69 #[.pointer (some ⟨sb, 0, none⟩), .pointer (some ⟨n, 0, none⟩), .int .i64 dp] w fun e w' => Kp [b] w w' ∧ Sys w' x b m { v with used := v.used.set p true } wv ∧ e = .returned (.int .i64 8) := by
  have c0 := hs.c0
  have n1 := hn.node.c1
  have HU := hide (use_any x b m v wv p true w h hp)
  have HH := hide (And.intro hs (And.intro hn (And.intro hb hfe)))
  clear h hs hn hb hp hfe
  go_enter Tryz.func69, Tryz.ntmps69
  go_wp2_with fail
  refine HU.out.mono ?_
  rintro e w1 ⟨rfl, s1, k1⟩
  obtain ⟨hs, hn, hb, hfe⟩ := HH.out
  have hs1 := hs.of_block (k1.block sb hs.lt (by simpa using hfs))
  have hn1 := hn.kp k1 (by simpa using hfn) (fun j hj => by simpa using hfe j hj)
  have c01 := hn1.node.c0
  have HI := hide (isUsed_any x b m { v with used := v.used.set p true } wv en.place w1 s1)
  have HC := hide (fun hp => child_bad x b sb n p false m { v with used := v.used.set p true } wv d en es ev w1 s1 hs1.c0 hn1 hp)
  obtain ⟨be, cap, hv, hbl, hbn, hcl, hcm, hcell, hfz⟩ := hn1.row (by simp)
  have c3 := hn1.node.c3
  rw [hv, List.length_cons] at c3
  have e2 : w1.cell? ⟨be, 2, none⟩ = some (.int .i64 (en.place : Int)) := hcell 0 en rfl 2 (by decide)
  have H1 := hide (And.intro s1 (And.intro k1 hb))
  have hli : (0 : Int) < (es.length : Int) + 1 := by omega
  clear hs hn hb hfe s1 k1 hs1 hn1 HU HH hcell hfz hcl hv
  generalize es.length = L at *
  generalize hP : en.place = P at *
  go_wp2_with fail
  go_loopw [8, 9, 10] (fun i _ _ wr => i = .int .i64 0 ∧ wr = w1) (fun _ _ _ _ => 0)
  case atStart => exact ⟨rfl, rfl⟩
  case round =>
    obtain ⟨rfl, rfl⟩ := hrel
    go_wp2_with fail
    refine HI.out.mono ?_
    rintro e w2 ⟨rfl, hw2⟩
    rw [hw2]
    clear hw2 w2 HI
    cases hu : (v.used.set p true).getD P false with
    | true =>
      clear hu
      go_wp2_with fail
      go_ret
      exact ⟨H1.out.2.1, H1.out.1, rfl⟩
    | false =>
      have HCB := hide (HC.out (by
        rcases H1.out.2.2 with e | e
        · rw [hu] at e; cases e
        · exact e))
      clear hu HC
      go_wp2_with fail
      refine HCB.out.mono ?_
      rintro e w2 ⟨rfl, hb2⟩
      have s2 := H1.out.1.later hb2
      have k2 := H1.out.2.1.trans (Kp.of_below hb2)
      have HF := hide (And.intro k2 s2)
      clear s2 k2 hb2 HCB H1
      go_wp2_with fail
      go_ret
      exact ⟨HF.out.1, HF.out.2, rfl⟩
end Go.Proofs.YtjnhlkaafnaooabGreatDoor

namespace Go.Proofs.YtjnhlkaafnaooabGreatDoor
open Go.RowKit
/-- Does a survey go well whose top is this node? -/
def surveyC : Option (Bool × List Ent) → Bool
  | some (true, es) => (ascC [] es).isSome
  | _ => false
theorem kp_new {S T : List Nat} {w w1 w2 : World} (h : Kp S w w1) (k : Kp T w1 w2) (hs : ∀ j ∈ T, j ∈ S ∨ w.heap.size ≤ j) : Kp S w w2 := h.step k hs
set_option maxRecDepth 100000 in
set_option maxHeartbeats 1000000 in
/-- All nodes are looked at, where no node but the top can lie anywhere. -/
theorem lookAll_gen (x : DX) (b bp : Nat) (m : DM) (v : VM) (wv : Value) (rk : List UInt8) (w : World) (h : Sys w x b m v wv) (hpv : v.pv = .pointer (some ⟨bp, 0, none⟩)) (hk : KeyAt w bp rk)
    (h2 : 2 ≤ v.place) (hp : v.place < m.blocks.length) (hbl : (m.look v.place).length = 256) (hin : ∀ q : Nat, (v.used.set v.place true).getD q false = true ∨ q < 2 ∨ m.blocks.length ≤ q) :
    Calls Tryz.prog 39 #[.pointer (some ⟨b, 0, none⟩)] w fun e w' => Kp [b] w w' ∧ ∃ u, Sys w' x b m { v with used := u } wv ∧
      ((surveyC (lookC rk v.digest (m.look v.place) v.place) = false ∧ e = .returned (.int .i64 8)) ∨ (surveyC (lookC rk v.digest (m.look v.place) v.place) = true ∧ e = .returned (.int .i64 0) ∧ u = v.used.set v.place true)) := by
  have hle := h.disk.le
  obtain ⟨w0, hw0⟩ : ∃ w0, w.alloc (.cells #[.pointer (some ⟨b, 0, none⟩), .int .i64 0, .int .i64 0, .string ⟨#[]⟩] 119) = w0 := ⟨_, rfl⟩
  have hb0 : Below w.heap.size w w0 := hw0 ▸ (Below.refl _ _).alloc (Nat.le_refl _) _
  have hz0 : w0.heap.size = w.heap.size + 1 := by rw [← hw0]; simp
  have sv0 : SurvAt w0 w.heap.size b 0 0 [] := ⟨hw0 ▸ heap_alloc_new w _⟩
  have fw : Foreign x b wv w.heap.size := Foreign.new h (Nat.le_refl _)
  have s0 := h.later hb0
  have hbl0 := h.vault.lt
  have hkl := hk.lt
  have HR := hide (root_gen x b bp w.heap.size m v wv rk 0 w0 s0 hpv (hk.below hb0 hkl) sv0.c0 sv0.c1 (sv0.fr 1) fw (by omega) (by decide) h2 hp hbl)
  have HH := hide (And.intro h (And.intro hb0 (And.intro sv0 (And.intro s0 (And.intro hin (And.intro hp (And.intro hle fw)))))))
  clear h hpv hk h2 hp hbl hin hb0 sv0 s0 hle fw
  have HW0 := hide hw0
  clear hw0
  go_enter Tryz.func39, Tryz.ntmps39
  go_wp2_with fail
  rw [HW0.out]
  refine HR.out.mono ?_
  rintro e w1 ⟨k1, hb1, hr⟩
  obtain ⟨h, hb0, sv0, s0, hin, hp, hle, fw⟩ := HH.out
  have k01 : Kp [b] w w1 := kp_new (Kp.of_below hb0) k1 (fun j hj => by simp at hj; subst hj; exact .inr (Nat.le_refl _))
  have s1 := s0.kp k1 (fun j hj => by simp at hj; subst hj; exact fw)
  have sv1 : SurvAt w1 w.heap.size b 1 0 [] := (sv0.set1 1).of_block hb1
  rcases hr with ⟨hn, rfl⟩ | ⟨leaf, es, n, ev, hn, rfl, en1, hnl, hev⟩
  · have HF := hide (And.intro k01 (And.intro s1 hn))
    clear h hb0 sv0 s0 hin hp hle fw k01 s1 sv1 hn k1 hb1 HR HW0
    go_wp2_with fail
    go_ret
    exact ⟨HF.out.1, v.used, HF.out.2.1, .inl ⟨by rw [HF.out.2.2]; rfl, rfl⟩⟩
  · have hesl : es ≠ [] ∧ es.length ≤ 5 := by
      unfold lookC at hn
      split at hn
      · obtain ⟨T, _, hT⟩ := Option.bind_eq_some_iff.1 hn
        have := nodeC_len hT
        exact ⟨by rintro rfl; simp at this, this.2⟩
      · cases hn
    have hz1 := k1.size
    cases leaf with
    | true =>
      have HB := hide (below_leaf x b w.heap.size 1 n v.place 1 m v wv [] v.digest es ev w1 s1 sv1 en1 hesl.1 hesl.2 (by omega) (by omega) (by omega) (fun j hj => by have := hev j hj; omega) (by omega) fw)
      have HF := hide (And.intro k01 hn)
      clear h hb0 sv0 s0 hin hp hle fw k01 s1 sv1 hn k1 hb1 HR HW0 en1 hesl hev
      go_wp2_with fail
      refine HB.out.mono ?_
      rintro e w2 ⟨k2, s2, hr⟩
      have k02 : Kp [b] w w2 := kp_new HF.out.1 k2 (fun j hj => by simp at hj; rcases hj with rfl | rfl <;> simp)
      have HG := hide (And.intro k02 s2)
      clear k02 s2 k2 HB
      rcases hr with ⟨ha, rfl⟩ | ⟨l', ha, rfl, _⟩
      · go_wp2_with fail
        go_ret
        exact ⟨HG.out.1, _, HG.out.2, .inl ⟨by rw [HF.out.2]; simp [surveyC, ha], rfl⟩⟩
      · go_wp2_with fail
        go_ret
        exact ⟨HG.out.1, _, HG.out.2, .inr ⟨by rw [HF.out.2]; simp [surveyC, ha], rfl, rfl⟩⟩
    | false =>
      cases es with
      | nil => exact absurd rfl hesl.1
      | cons a es =>
        have HB := hide (below_bad x b w.heap.size 1 n v.place 1 m v wv [] v.digest a es ev w1 s1 sv1 en1 (by omega) (by omega) (by omega) (fun j hj => by have := hev j hj; omega) (hin a.place))
        have HF := hide (And.intro k01 hn)
        clear h hb0 sv0 s0 hin hp hle fw k01 s1 sv1 hn k1 hb1 HR HW0 en1 hesl hev
        go_wp2_with fail
        refine HB.out.mono ?_
        rintro e w2 ⟨k2, s2, rfl⟩
        have k02 : Kp [b] w w2 := HF.out.1.trans k2
        have HG := hide (And.intro k02 s2)
        clear k02 s2 k2 HB
        go_wp2_with fail
        go_ret
        exact ⟨HG.out.1, _, HG.out.2, .inl ⟨by rw [HF.out.2]; rfl, rfl⟩⟩
end Go.Proofs.YtjnhlkaafnaooabGreatDoor

namespace Go.Proofs.YtjnhlkaafnaooabGreatDoor
open Go.RowKit
/-- What an Open finds: the slot, and all nodes. -/
def openC (pass : List UInt8) (m : DM) (t : List UInt8) : Bool := isSlotL pass t m.count && surveyC (lookC (keysL (pagesL pass (slotSalt t))) (slotDig t) (m.look (slotPlace t)) (slotPlace t))
/-- A vault that was opened. -/
def VM.begun (v : VM) (t : List UInt8) (bt bp c : Nat) : VM := { v with salt := slotSalt t, tv := .pointer (some ⟨bt, 0, none⟩), pv := .pointer (some ⟨bp, 0, none⟩), place := slotPlace t, digest := slotDig t, used := v.used.set (slotPlace t) true, version := c + 2, session := c + 2, opened := true }
set_option maxRecDepth 100000 in
set_option maxHeartbeats 2000000 in
/-- Open, where the slot of the counter's own version tells one page, beside which no other can lie. -/
theorem open_gen (x : DX) (b : Nat) (m : DM) (v : VM) (wv : Value) (pass t : List UInt8) (w : World) (h : Sys w x b m v wv) (ho : v.opened = false) (hp : pass.length ≤ 40) (h0 : (m.look 0).length = 256) (h1 : (m.look 1).length = 256)
    (hc : m.count + 2 ≤ m.ceiling) (hwl : m.wrote.length < 99000) (ht : m.look (m.count % 2) = t) (hno : isSlotL pass (m.look ((m.count + 1) % 2)) (m.count + 1) = false)
    (h2 : 2 ≤ slotPlace t) (hpl : slotPlace t < m.blocks.length) (hbl : (m.look (slotPlace t)).length = 256) (hin : ∀ q : Nat, (v.used.set (slotPlace t) true).getD q false = true ∨ q < 2 ∨ m.blocks.length ≤ q) :
    Calls Tryz.prog 18 #[.pointer (some ⟨b, 0, none⟩), .string ⟨pass.toArray⟩] w fun e w' =>
      (openC pass m t = false ∧ e = .returned (.int .i64 8) ∧ Sys w' x b m shutVM wv ∧ Kp [b] w w') ∨
      (openC pass m t = true ∧ e = .returned (.int .i64 0) ∧ ∃ wv' bt bp, Kit w' x b (m.begin (tagsL pass (slotSalt t)) (slotSalt t) (slotPlace t) (slotDig t)) (v.begun t bt bp m.count) wv' bt bp (tagsL pass (slotSalt t)) (keysL (pagesL pass (slotSalt t))) ∧ Kp (Sys.set x b wv) w w' ∧ Later wv wv' w.heap.size) := by
  have hcl := h.disk.cl
  have htl : t.length = 256 := by
    rcases Nat.mod_two_eq_zero_or_one m.count with e | e
    · rw [← ht, e]; exact h0
    · rw [← ht, e]; exact h1
  have hsl := slotSalt_len htl
  have htk : takeL pass m m.count = if isSlotL pass t m.count then some m.count else none := by
    unfold takeL
    rw [hno, ht]
    simp
  have HV := hide (vcount_any x b m v wv pass w h ho hp)
  have HT := hide (take_any x b m v wv pass m.count w h hp h0 h1 (by have := h.disk.ge; omega) (by omega))
  have HFG := hide (fun v w h => forget_any x b m v wv w h)
  have HH := hide (And.intro h (And.intro hc (And.intro hwl (And.intro ht (And.intro h2 (And.intro hpl (And.intro hbl (And.intro hin (And.intro hsl htk)))))))))
  clear h ho hp h0 h1 hc hwl ht hno h2 hpl hbl hin hsl htk htl
  have hci : (m.count : Int) ≤ 1048576 := by have := HH.out.2.1; omega
  have hd : decide ((m.ceiling : Int) < (m.count : Int) + 2) = false := by have := HH.out.2.1; simp; omega
  clear hcl
  go_enter Tryz.func18, Tryz.ntmps18
  go_wp2_with fail
  refine HV.out.mono ?_
  rintro e w1 ⟨rfl, hw1⟩
  rw [hw1]
  clear hw1 w1 HV
  go_wp2_with fail
  refine HT.out.mono ?_
  rintro e w1 ⟨k1, hr⟩
  clear HT
  rcases hr with ⟨hn, rfl, s1⟩ | ⟨n, hn, _, rfl, bt, bp, s1, m1, ky1, hbt, hbtp⟩
  · have hoc : openC pass m t = false := by
      rw [HH.out.2.2.2.2.2.2.2.2.2] at hn
      unfold openC
      cases hi : isSlotL pass t m.count
      · rfl
      · rw [hi] at hn; cases hn
    have HF := hide (HFG.out v w1 s1)
    have H1 := hide (And.intro k1 hoc)
    clear s1 k1 hoc hn HFG HH
    go_wp2_with fail
    refine HF.out.mono ?_
    rintro e w2 ⟨rfl, s2, k2⟩
    have H2 := hide (And.intro s2 (H1.out.1.trans k2))
    clear s2 k2 HF
    go_wp2_with fail
    go_ret
    exact .inl ⟨H1.out.2, rfl, H2.out.1, H2.out.2⟩
  · obtain ⟨h, hc, hwl, ht, h2, hpl, hbl, hin, hsl, htk⟩ := HH.out
    have hi : isSlotL pass t m.count = true ∧ n = m.count := by
      rw [htk] at hn
      cases hi : isSlotL pass t m.count
      · rw [hi] at hn; cases hn
      · rw [hi] at hn
        simp at hn
        exact ⟨rfl, hn.symm⟩
    obtain ⟨hi, rfl⟩ := hi
    rw [ht] at s1 m1 ky1
    have hpz : ¬ (slotPlace t = 0) := by omega
    have ep : (v.taken t bt bp).place = slotPlace t := by simp [VM.taken, hpz]
    have ed : (v.taken t bt bp).digest = slotDig t := by simp [VM.taken, hpz]
    have HL := hide (lookAll_gen x b bp m (v.taken t bt bp) wv (keysL (pagesL pass (slotSalt t))) w1 s1 rfl ky1 (by rw [ep]; exact h2) (by rw [ep]; exact hpl) (by rw [ep]; exact hbl) (by rw [ep]; exact hin))
    rw [ep, ed] at HL
    have hz1 := k1.size
    have H1 := hide (And.intro k1 (And.intro m1 (And.intro ky1 (And.intro hi (And.intro ep ed)))))
    clear h hc hwl ht h2 hpl hbl hin hsl htk s1 m1 ky1 hi ep ed k1 hn hpz
    go_wp2_with fail
    refine HL.out.mono ?_
    rintro e w2 ⟨k2, u, s2, hr⟩
    clear HL
    rcases hr with ⟨hn, rfl⟩ | ⟨hn, rfl, rfl⟩
    · have hoc : openC pass m t = false := by unfold openC; rw [hn]; simp
      have HF := hide (HFG.out _ w2 s2)
      have H3 := hide (And.intro (H1.out.1.trans k2) hoc)
      clear s2 k2 hoc hn HFG HH H1
      go_wp2_with fail
      refine HF.out.mono ?_
      rintro e w3 ⟨rfl, s3, k3⟩
      have H4 := hide (And.intro s3 (H3.out.1.trans k3))
      clear s3 k3 HF
      go_wp2_with fail
      go_ret
      exact .inl ⟨H3.out.2, rfl, H4.out.1, H4.out.2⟩
    · have hoc : openC pass m t = true := by unfold openC; rw [hn, H1.out.2.2.2.1]; rfl
      obtain ⟨h, hc, hwl, ht, h2, hpl, hbl, hin, hsl, htk⟩ := HH.out
      obtain ⟨k1, m1, ky1, hi, ep, ed⟩ := H1.out
      have hz2 := k2.size
      have hbl0 := h.vault.lt
      have hbb : ∀ j ∈ Sys.set x b wv, j < w.heap.size := fun j hj => h.bound hj
      have m2 := m1.of_block (k2.block bt m1.lt (by simp; omega))
      have ky2 := ky1.of_block (k2.block bp ky1.lt (by simp; omega)) k2.size
      have a2 : Apart w2 x b wv bt := ⟨m2.lt, fun e => by have := hbb _ e; omega⟩
      have ap2 : Apart w2 x b wv bp := ⟨ky2.lt, fun e => by have := hbb _ e; omega⟩
      have c02 := s2.vault.c0
      have HC := hide (ceiling_any x.d w2 m.ceiling s2.disk.c3)
      have HBG := hide (begin_any x b bt (tagsL pass (slotSalt t)) m _ wv w2 s2 hc rfl m2 a2 hsl (by show slotPlace t < _; have := h.disk.le; omega) hwl)
      have H3 := hide (And.intro (k1.trans k2) (And.intro hoc (And.intro m2 (And.intro ky2 (And.intro a2 (And.intro ap2 (And.intro hsl (And.intro ep ed))))))))
      clear h hc hwl ht h2 hpl hbl hin hsl htk k1 m1 ky1 hi ep ed s2 m2 ky2 a2 ap2 hbb hoc hn k2 HFG HH H1
      go_wp2_with fail
      refine HC.out.mono ?_
      rintro e w3 ⟨rfl, hw3⟩
      rw [hw3]
      clear hw3 w3 HC c02
      go_wp2_with fail
      refine HBG.out.mono ?_
      rintro e w3 ⟨rfl, wv3, s3, k3, lt3⟩
      have H4 := hide (And.intro s3 (And.intro k3 lt3))
      clear s3 k3 lt3 HBG
      go_wp2_with fail
      go_ret
      obtain ⟨s3, k3, lt3⟩ := H4.out
      obtain ⟨k2, hoc, m2, ky2, a2, ap2, hsl, ep, ed⟩ := H3.out
      refine .inr ⟨hoc, rfl, wv3, bt, bp, ⟨?_, rfl, rfl, m2.of_block (a2.block k3), ky2.of_block (ap2.block k3) k3.size, a2.step lt3 k3.size, ap2.step lt3 k3.size, hsl⟩, (k2.mono (fun j hj => by simp at hj; subst hj; simp [Sys.set])).trans k3, fun j hj => ?_⟩
      · exact s3
      · rcases lt3 j hj with e | e
        · exact .inl e
        · exact .inr (by have := k2.size; omega)
end Go.Proofs.YtjnhlkaafnaooabGreatDoor
