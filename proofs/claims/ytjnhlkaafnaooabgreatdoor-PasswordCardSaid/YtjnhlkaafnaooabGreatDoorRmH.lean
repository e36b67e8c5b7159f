import Derived.Test.YtjnhlkaafnaooabGreatDoorRmG
import Derived.Test.YtjnhlkaafnaooabGreatDoorRmD
namespace Go.Proofs.YtjnhlkaafnaooabGreatDoor
open Go.RowKit
def entV (k s : List UInt8) (p : Nat) (d : List UInt8) (c : Value) : List Value := [strV k, strV s, .int .i64 p, strV d, c]
set_option maxRecDepth 100000 in
set_option maxHeartbeats 1000000 in
theorem entry_leaf (c : Nat) (t k s : List UInt8) (p : Nat) (r : Bool) (w : World) (h : CurAt w c t p r) (hkn : (t.getD p 0).toNat = k.length) (hk : (t.drop (p + 1)).take k.length = k) (hsn : (t.getD (p + 1 + k.length) 0).toNat = s.length) (hs : (t.drop (p + 1 + k.length + 1)).take s.length = s)
    (h1 : 1 ≤ k.length) (h8 : k.length ≤ 8) (h16 : s.length ≤ 16) (hp : p + 1 + k.length + 1 + s.length ≤ t.length) (hl : t.length ≤ 1000) :
    Calls Tryz.prog 140 #[.pointer (some ⟨c, 0, none⟩), .bool true] w fun e w' => e = .returned (.agg (entV k s 0 [] (.pointer none)).toArray) ∧ CurAt w' c t (p + 1 + k.length + 1 + s.length) r ∧ Kp [c] w w' := by
  have hlt := h.lt
  have hw1 := fun w h => word_ok c t p 1 8 k.length r w h hkn h1 h8 (by omega) hl
  have hw2 := fun w h => word_ok c t (p + 1 + k.length) 0 16 s.length r w h hsn (by omega) h16 (by omega) hl
  rw [hk] at hw1
  rw [hs] at hw2
  have HW1 := hide hw1
  have HW2 := hide hw2
  have HH := hide h
  clear hw1 hw2 hkn hk hsn hs h1 h8 h16 hp hl h
  generalize k.length = kl at *
  generalize s.length = sl at *
  obtain ⟨w0, hw0⟩ : ∃ w0, (w.alloc (.cells #[.string ⟨#[]⟩, .string ⟨#[]⟩, .int .i64 0, .string ⟨#[]⟩, .pointer none] 128)).alloc (.cells #[.string ⟨#[]⟩, .string ⟨#[]⟩, .int .i64 0, .string ⟨#[]⟩, .pointer none] 128) = w0 := ⟨_, rfl⟩
  have hz0 : w0.heap.size = w.heap.size + 2 := by rw [← hw0]; simp
  have hb0 : Below w.heap.size w w0 := hw0 ▸ ((Below.refl _ _).alloc (Nat.le_refl _) _).alloc (by simp) _
  have q4 : w0.heap[w.heap.size]? = some (.cells #[.string ⟨#[]⟩, .string ⟨#[]⟩, .int .i64 0, .string ⟨#[]⟩, .pointer none] 128 (0, 0)) := hw0 ▸ (((Kp.refl [] _).alloc _).block _ (by simp) (by simp)).trans (heap_alloc_new w _)
  have q5 : w0.heap[w.heap.size + 1]? = some (.cells #[.string ⟨#[]⟩, .string ⟨#[]⟩, .int .i64 0, .string ⟨#[]⟩, .pointer none] 128 (0, 0)) := by
    have := heap_alloc_new (w.alloc (.cells #[.string ⟨#[]⟩, .string ⟨#[]⟩, .int .i64 0, .string ⟨#[]⟩, .pointer none] 128)) (.cells #[.string ⟨#[]⟩, .string ⟨#[]⟩, .int .i64 0, .string ⟨#[]⟩, .pointer none] 128)
    rw [World.size_alloc] at this
    rw [← hw0]; exact this
  have H0 := hide (And.intro q4 q5)
  have h0 : CurAt w0 c t p r := HH.out.of_block (hb0.block c hlt)
  have HC := hide (HW1.out w0 h0)
  have HW0 := hide hw0
  clear q4 q5 HW1 h0 hw0
  go_enter Tryz.func140, Tryz.ntmps140
  go_wp2_with fail
  rw [HW0.out]
  refine HC.out.mono ?_
  rintro e w1 ⟨rfl, h1, k1⟩
  have q4 := (k1.block w.heap.size (by omega) (by simp; omega)).trans H0.out.1
  have q5 := (k1.block (w.heap.size + 1) (by omega) (by simp; omega)).trans H0.out.2
  have e0 : w1.cell? ⟨w.heap.size + 1, 0, none⟩ = some (.string ⟨#[]⟩) := by rw [cell_of_row _ _ _ _ _ _ q5]; rfl
  have f0 : w1.frozen? ⟨w.heap.size + 1, 0, none⟩ = false := by simp [World.frozen?, q5]
  obtain ⟨w2, hw2⟩ : ∃ w2, w1.setCell ⟨w.heap.size + 1, 0, none⟩ (strV k) = w2 := ⟨_, rfl⟩
  have q52 : w2.heap[w.heap.size + 1]? = some (.cells #[strV k, .string ⟨#[]⟩, .int .i64 0, .string ⟨#[]⟩, .pointer none] 128 (0, 0)) := by rw [← hw2, set_prim q5 0 _]; simp
  have q42 : w2.heap[w.heap.size]? = _ := hw2 ▸ set_far q4 _ _ (by simp)
  have hz1 := k1.size
  have h2 : CurAt w2 c t (p + 1 + kl) r := hw2 ▸ h1.of_block (Below.heap_setCell _ _ _ _ (by simp; omega))
  have k2 : Kp [c] w w2 := hw2 ▸ ((Kp.of_below hb0).trans k1).setCell _ 0 _ (.inr (by omega))
  have hz2 : w2.heap.size = w1.heap.size := by rw [← hw2]; simp [World.setCell]
  have HC2 := hide (HW2.out w2 h2)
  have H2 := hide (And.intro q42 q52)
  clear HC HW2 H0 q4 q5 q42 q52 h1 h2 k1
  go_wp2_with fail
  refine HC2.out.mono ?_
  rintro e w3 ⟨rfl, h3, k3⟩
  have q4 := (k3.block w.heap.size (by omega) (by simp; omega)).trans H2.out.1
  have q5 := (k3.block (w.heap.size + 1) (by omega) (by simp; omega)).trans H2.out.2
  have e1 : w3.cell? ⟨w.heap.size + 1, 1, none⟩ = some (.string ⟨#[]⟩) := by rw [cell_of_row _ _ _ _ _ _ q5]; rfl
  have f1 : w3.frozen? ⟨w.heap.size + 1, 1, none⟩ = false := by simp [World.frozen?, q5]
  obtain ⟨w4, hw4⟩ : ∃ w4, w3.setCell ⟨w.heap.size + 1, 1, none⟩ (strV s) = w4 := ⟨_, rfl⟩
  have q54 : w4.heap[w.heap.size + 1]? = some (.cells #[strV k, strV s, .int .i64 0, .string ⟨#[]⟩, .pointer none] 128 (0, 0)) := by rw [← hw4, set_prim q5 1 _]; simp
  have q44 : w4.heap[w.heap.size]? = _ := hw4 ▸ set_far q4 _ _ (by simp)
  have h4 : CurAt w4 c t (p + 1 + kl + 1 + sl) r := hw4 ▸ h3.of_block (Below.heap_setCell _ _ _ _ (by simp; omega))
  have k4 : Kp [c] w w4 := hw4 ▸ (k2.trans k3).setCell _ 1 _ (.inr (by omega))
  have g0 : w4.cell? ⟨w.heap.size + 1, 0, none⟩ = some (strV k) := by rw [cell_of_row _ _ _ _ _ _ q54]; rfl
  have g1 : w4.cell? ⟨w.heap.size + 1, 1, none⟩ = some (strV s) := by rw [cell_of_row _ _ _ _ _ _ q54]; rfl
  have g2 : w4.cell? ⟨w.heap.size + 1, 2, none⟩ = some (.int .i64 0) := by rw [cell_of_row _ _ _ _ _ _ q54]; rfl
  have g3 : w4.cell? ⟨w.heap.size + 1, 3, none⟩ = some (.string ⟨#[]⟩) := by rw [cell_of_row _ _ _ _ _ _ q54]; rfl
  have g4 : w4.cell? ⟨w.heap.size + 1, 4, none⟩ = some (.pointer none) := by rw [cell_of_row _ _ _ _ _ _ q54]; rfl
  have r0 : w4.there w.heap.size 0 5 := by
    intro j hj
    rw [Nat.zero_add]
    exact ⟨by rw [cell_of_row _ _ _ _ _ _ q44]; simp [hj], by simp [World.frozen?, q44]⟩
  have HR := hide r0
  have HONE := hide (all_oneCell_toArray (cs := [strV k, strV s, .int .i64 0, .string ⟨#[]⟩, .pointer none]) (by intro u hu; simp at hu; rcases hu with rfl | rfl | rfl | rfl | rfl <;> rfl))
  have hz3 := k3.size
  have HF := hide (And.intro h4 k4)
  clear h3 k3 h4 k4 q4 q5 q44 q54 HC2 H2 k2 r0
  go_wp2_with (first | refine wpList_store_mid rfl 128 _ _ rfl w.heap.size 0 #[strV k, strV s, .int .i64 0, .string ⟨#[]⟩, .pointer none] rfl rfl HR.out (by kernel_rfl) HONE.out ?_)
  have hrr : (w4.setCells w.heap.size 0 [strV k, strV s, .int .i64 0, .string ⟨#[]⟩, .pointer none]).rangeAt w.heap.size 0 [strV k, strV s, .int .i64 0, .string ⟨#[]⟩, .pointer none] := by
    intro j v hj
    have hjl : j < 5 := by
      rcases Nat.lt_or_ge j 5 with g | g
      · exact g
      · rw [List.getElem?_eq_none (by simpa using g)] at hj; cases hj
    have := World.cell?_setCells_in w.heap.size [strV k, strV s, .int .i64 0, .string ⟨#[]⟩, .pointer none] 0 w4 (fun q hq => (HR.out q (by simpa using hq)).1) j (by simpa using hjl)
    rw [this, ← hj, List.getElem?_eq_getElem]
  have kk : Kp [c] w (w4.setCells w.heap.size 0 [strV k, strV s, .int .i64 0, .string ⟨#[]⟩, .pointer none]) := HF.out.2.setCells _ 0 _ (.inr (Nat.le_refl _))
  have hcc : CurAt (w4.setCells w.heap.size 0 [strV k, strV s, .int .i64 0, .string ⟨#[]⟩, .pointer none]) c t (p + 1 + kl + 1 + sl) r := HF.out.1.of_block ((setCells_block _ _ _ _).2.2.2.2 c (by omega))
  exact bodyPost_ret (v := .agg #[strV k, strV s, .int .i64 0, .string ⟨#[]⟩, .pointer none]) (results_cell_mid Tryz.results140 _ _ w.heap.size 0 [strV k, strV s, .int .i64 0, .string ⟨#[]⟩, .pointer none] _ (by kernel_rfl) hrr Tryz.underlying128 rfl (by kernel_rfl)) (by kernel_rfl) ⟨rfl, hcc, kk⟩
end Go.Proofs.YtjnhlkaafnaooabGreatDoor

namespace Go.Proofs.YtjnhlkaafnaooabGreatDoor
open Go.RowKit
def leafOne (k s : List UInt8) : List UInt8 := nodeT true [⟨k, s, 0, []⟩]
theorem ones1 (n : Nat) : onesL n 1 = [UInt8.ofNat n] := by
  show [UInt8.ofNat (n % 256)] = _
  congr 1
  apply UInt8.toNat_inj.1
  simp
theorem leafOne_form (k s : List UInt8) (h : k.length + s.length ≤ 224) : leafOne k s = 1 :: 1 :: UInt8.ofNat k.length :: (k ++ (UInt8.ofNat s.length :: (s ++ List.replicate (224 - k.length - s.length) 0))) := by
  unfold leafOne nodeT
  simp only [List.flatMap_cons, List.flatMap_nil, List.append_nil, entT, ones1, if_true, List.length_cons, List.length_nil]
  rw [fillL_grow _ _ (by simp; omega)]
  have e : 228 - ([UInt8.ofNat 1] ++ [UInt8.ofNat (0 + 1)] ++ ([UInt8.ofNat k.length] ++ k ++ ([UInt8.ofNat s.length] ++ s))).length = 224 - k.length - s.length := by simp; omega
  rw [e]
  simp
theorem leafOne_len (k s : List UInt8) : (leafOne k s).length = 228 := nodeT_len _ _
theorem leafOne_0 (k s : List UInt8) (h : k.length + s.length ≤ 224) : (leafOne k s).getD 0 0 = 1 := by rw [leafOne_form k s h]; rfl
theorem leafOne_1 (k s : List UInt8) (h : k.length + s.length ≤ 224) : (leafOne k s).getD 1 0 = 1 := by rw [leafOne_form k s h]; rfl
theorem leafOne_2 (k s : List UInt8) (h : k.length + s.length ≤ 224) : ((leafOne k s).getD 2 0).toNat = k.length := by
  rw [leafOne_form k s h]
  show (UInt8.ofNat k.length).toNat = _
  simp; omega
theorem leafOne_k (k s : List UInt8) (h : k.length + s.length ≤ 224) : ((leafOne k s).drop 3).take k.length = k := by
  rw [leafOne_form k s h]
  simp
theorem leafOne_drop (k s : List UInt8) (h : k.length + s.length ≤ 224) : (leafOne k s).drop (3 + k.length) = UInt8.ofNat s.length :: (s ++ List.replicate (224 - k.length - s.length) 0) := by
  rw [leafOne_form k s h, Nat.add_comm 3]
  simp
theorem getD_drop (l : List UInt8) (n i : Nat) : l.getD (n + i) 0 = (l.drop n).getD i 0 := by simp
theorem leafOne_s (k s : List UInt8) (h : k.length + s.length ≤ 224) : ((leafOne k s).getD (3 + k.length) 0).toNat = s.length := by
  have := getD_drop (leafOne k s) (3 + k.length) 0
  rw [Nat.add_zero] at this
  rw [this, leafOne_drop k s h]
  show (UInt8.ofNat s.length).toNat = _
  simp; omega
theorem leafOne_v (k s : List UInt8) (h : k.length + s.length ≤ 224) : ((leafOne k s).drop (3 + k.length + 1)).take s.length = s := by
  rw [← List.drop_drop, leafOne_drop k s h]
  simp
theorem leafOne_z (k s : List UInt8) (h : k.length + s.length ≤ 224) (i : Nat) (hi : 3 + k.length + 1 + s.length ≤ i) : (leafOne k s).getD i 0 = 0 := by
  obtain ⟨j, rfl⟩ : ∃ j, i = (3 + k.length) + (1 + s.length + j) := ⟨i - (4 + k.length + s.length), by omega⟩
  rw [getD_drop, leafOne_drop k s h, Nat.add_assoc, Nat.add_comm 1, List.getD_cons_succ, getD_drop, List.drop_left]
  simp only [List.getD_eq_getElem?_getD, List.getElem?_replicate]
  split <;> rfl
end Go.Proofs.YtjnhlkaafnaooabGreatDoor

namespace Go.Proofs.YtjnhlkaafnaooabGreatDoor
open Go.RowKit
/-- A node in memory. -/
structure NodeAt (w : World) (n : Nat) (leaf : Bool) (place : Nat) (digest : List UInt8) (ev : Value) : Prop where
  blk : w.heap[n]? = some (.cells #[.bool leaf, .int .i64 place, strV digest, ev] 113 (0, 0))
section
variable {w : World} {n : Nat} {leaf : Bool} {place : Nat} {digest : List UInt8} {ev : Value}
theorem NodeAt.lt (h : NodeAt w n leaf place digest ev) : n < w.heap.size := lt_of_block h.blk
theorem NodeAt.fr (h : NodeAt w n leaf place digest ev) (i : Nat) : w.frozen? ⟨n, i, none⟩ = false := by simp [World.frozen?, h.blk]
theorem NodeAt.c0 (h : NodeAt w n leaf place digest ev) : w.cell? ⟨n, 0, none⟩ = some (.bool leaf) := by rw [cell_of_row _ _ _ _ _ _ h.blk]; rfl
theorem NodeAt.c1 (h : NodeAt w n leaf place digest ev) : w.cell? ⟨n, 1, none⟩ = some (.int .i64 place) := by rw [cell_of_row _ _ _ _ _ _ h.blk]; rfl
theorem NodeAt.c2 (h : NodeAt w n leaf place digest ev) : w.cell? ⟨n, 2, none⟩ = some (strV digest) := by rw [cell_of_row _ _ _ _ _ _ h.blk]; rfl
theorem NodeAt.c3 (h : NodeAt w n leaf place digest ev) : w.cell? ⟨n, 3, none⟩ = some ev := by rw [cell_of_row _ _ _ _ _ _ h.blk]; rfl
theorem NodeAt.of_block {w' : World} (h : NodeAt w n leaf place digest ev) (e : w'.heap[n]? = w.heap[n]?) : NodeAt w' n leaf place digest ev := ⟨e.trans h.blk⟩
theorem NodeAt.set1 (h : NodeAt w n leaf place digest ev) (y : Nat) : NodeAt (w.setCell ⟨n, 1, none⟩ (.int .i64 y)) n leaf y digest ev := ⟨by rw [set_prim h.blk 1 _]; simp⟩
theorem NodeAt.set2 (h : NodeAt w n leaf place digest ev) (y : List UInt8) : NodeAt (w.setCell ⟨n, 2, none⟩ (strV y)) n leaf place y ev := ⟨by rw [set_prim h.blk 2 _]; simp⟩
theorem NodeAt.set3 (h : NodeAt w n leaf place digest ev) (y : Value) : NodeAt (w.setCell ⟨n, 3, none⟩ y) n leaf place digest y := ⟨by rw [set_prim h.blk 3 _]; simp⟩
end
/-- A leaf of one entry in memory. -/
structure LeafAt (w : World) (n : Nat) (place : Nat) (digest k s : List UInt8) (be cap : Nat) : Prop where
  node : NodeAt w n true place digest (.slice (some ⟨be, 0, none⟩) 1 cap)
  own : w.ownsRow 0 128 5 (.slice (some ⟨be, 0, none⟩) 1 cap) 1 (entV k s 0 [] (.pointer none))
  ne : n ≠ be
theorem info_entry : (Tryz.prog.info? 128).map (fun i => (i.zero, i.size, i.bytes)) = some (some (.agg #[.string ⟨#[]⟩, .string ⟨#[]⟩, .int .i64 0, .string ⟨#[]⟩, .pointer none]), 5, 64) := by kernel_rfl
set_option maxRecDepth 100000 in
set_option maxHeartbeats 1000000 in
theorem nodeOf_one (k s : List UInt8) (w : World) (h1 : 1 ≤ k.length) (h8 : k.length ≤ 8) (h16 : s.length ≤ 16) :
    Calls Tryz.prog 126 #[.string ⟨(leafOne k s).toArray⟩] w fun e w' => ∃ n be cap, e = .returned (.tuple #[.pointer (some ⟨n, 0, none⟩), .bool true]) ∧ LeafAt w' n 0 [] k s be cap ∧ w.heap.size ≤ n ∧ w.heap.size ≤ be ∧ Below w.heap.size w w' := by
  obtain ⟨i0, hi, hz0, hz1, hz2⟩ := info_parts info_entry
  have hks : k.length + s.length ≤ 224 := by omega
  have htl := leafOne_len k s
  have ht0 := leafOne_0 k s hks
  have ht1 := leafOne_1 k s hks
  have hen := fun c r w h => entry_leaf c (leafOne k s) k s 2 r w (h : CurAt w c (leafOne k s) 2 r) (leafOne_2 k s hks) (leafOne_k k s hks) (by rw [show 2 + 1 + k.length = 3 + k.length from by omega]; exact leafOne_s k s hks) (by rw [show 2 + 1 + k.length + 1 = 3 + k.length + 1 from by omega]; exact leafOne_v k s hks) h1 h8 h16 (by rw [htl]; omega) (by rw [htl]; decide)
  have hno := fun c r w h => noughts_ok c (leafOne k s) (2 + 1 + k.length + 1 + s.length) r w h (fun i h _ => leafOne_z k s hks i (by omega)) (by rw [htl]; omega) (by rw [htl]; decide)
  have HEN := hide hen
  have HNO := hide hno
  have hsz : (ByteArray.mk (leafOne k s).toArray).size = 228 := htl
  have HT := hide (And.intro htl (And.intro ht0 ht1))
  clear hen hno htl ht0 ht1 h1 h8 h16 hks
  obtain ⟨E, hE⟩ : ∃ E, 2 + 1 + k.length + 1 + s.length = E := ⟨_, rfl⟩
  rw [hE] at HEN HNO
  generalize hT : leafOne k s = t at *
  clear hT hE
  obtain ⟨w0, hw0⟩ : ∃ w0, w.alloc (.cells #[strV t, .int .i64 0, .bool true] 193) = w0 := ⟨_, rfl⟩
  have hb0 : Below w.heap.size w w0 := hw0 ▸ (Below.refl _ _).alloc (Nat.le_refl _) _
  have hz0' : w0.heap.size = w.heap.size + 1 := by rw [← hw0]; simp
  have hc0 : CurAt w0 w.heap.size t 0 true := ⟨hw0 ▸ heap_alloc_new w _⟩
  have HN0 := hide (number_ok w.heap.size t 0 true w0 hc0 (by rw [HT.out.1]; decide) (by rw [HT.out.1]; decide))
  rw [HT.out.2.1] at HN0
  clear hc0
  go_enter Tryz.func126, Tryz.ntmps126
  go_wp2_with fail
  refine HN0.out.mono ?_
  rintro e w1 ⟨rfl, hc1, k1⟩
  have hz1' := k1.size
  have HN1 := hide (number_ok w.heap.size t 1 true w1 hc1 (by rw [HT.out.1]; decide) (by rw [HT.out.1]; decide))
  rw [HT.out.2.2] at HN1
  clear hc1 HN0 hw0
  go_wp2_with fail
  refine HN1.out.mono ?_
  rintro e w2 ⟨rfl, hc2, k2⟩
  have hz2' := k2.size
  clear HN1
  obtain ⟨w3, hw3⟩ : ∃ w3, w2.alloc (.cells #[.bool true, .int .i64 0, .string ⟨#[]⟩, .slice none 0 0] 113) = w3 := ⟨_, rfl⟩
  have hb3 : Below w2.heap.size w2 w3 := hw3 ▸ (Below.refl _ _).alloc (Nat.le_refl _) _
  have hz3' : w3.heap.size = w2.heap.size + 1 := by rw [← hw3]; simp
  have hn3 : NodeAt w3 w2.heap.size true 0 [] (.slice none 0 0) := ⟨hw3 ▸ heap_alloc_new w2 _⟩
  have c0 := hn3.c0
  have hc3 := hc2.of_block (hb3.block _ hc2.lt)
  have kk : Kp [w.heap.size] w w3 := ((Kp.of_below hb0).trans (k1.trans k2)).trans (Kp.of_below hb3)
  have H3 := hide (And.intro hn3 (And.intro hc3 kk))
  clear hn3 hc3 kk hb3 hc2 k1 k2 hb0
  go_wp2_with fail
  have HBK : ∀ w', Kp [w.heap.size] w w' → Below w.heap.size w w' := fun w' h => ⟨h.os, h.tape, h.output, h.size, fun j hj => h.block j hj (by simp; omega)⟩
  go_loopw [9, 10] (fun i _ wr => (i = .int .i64 0 ∧ NodeAt wr w2.heap.size true 0 [] (.slice none 0 0) ∧ CurAt wr w.heap.size t 2 true ∧ Below w.heap.size w wr) ∨
    (i = .int .i64 1 ∧ ∃ be cap, LeafAt wr w2.heap.size 0 [] k s be cap ∧ w.heap.size < be ∧ CurAt wr w.heap.size t E true ∧ Below w.heap.size w wr)) (fun i _ _ => (2 - intOf i).toNat)
  case atStart => exact .inl ⟨rfl, H3.out.1, H3.out.2.1, HBK _ H3.out.2.2⟩
  case round =>
    rcases hrel with ⟨rfl, hn, hc, hb⟩ | ⟨rfl, be, cap, hn, hbe, hc, hb⟩
    · have c0r := hn.c0
      have HE := hide (HEN.out w.heap.size true wr hc)
      have hnl := hn.lt
      have HR := hide (And.intro hn hb)
      clear hn hc hb HEN H3
      go_wp2_with fail
      refine HE.out.mono ?_
      rintro e w5 ⟨rfl, hc5, k5⟩
      have hn5 := HR.out.1.of_block (k5.block _ hnl (by simp; omega))
      have hz5 := k5.size
      have hb5 : Below w.heap.size w w5 := HBK _ ((Kp.of_below HR.out.2 : Kp [w.heap.size] w wr).trans k5)
      have H5 := hide (And.intro hn5 (And.intro hc5 hb5))
      clear hn5 hc5 k5 hb5 HE HR
      unfold entV
      go_wp2_with fail
      go_quiet (fail)
      obtain ⟨w6, hw6⟩ : ∃ w6, (w5.alloc (.cells #[.string ⟨k.toArray⟩, .string ⟨s.toArray⟩, .int .i64 0, .string ⟨#[]⟩, .pointer none] 128)).drewN nq = w6 := ⟨_, rfl⟩
      rw [hw6]
      have hb6 : Below w5.heap.size w5 w6 := hw6 ▸ below_drewN ((Below.refl _ _).alloc (Nat.le_refl _) _) nq
      have hz6 : w6.heap.size = w5.heap.size + 1 := by rw [← hw6]; show (w5.alloc _).heap.size = _; simp
      have q6 : w6.heap[w5.heap.size]? = some (.cells #[.string ⟨k.toArray⟩, .string ⟨s.toArray⟩, .int .i64 0, .string ⟨#[]⟩, .pointer none] 128 (0, 0)) := hw6 ▸ heap_alloc_new w5 _
      have e0 : w6.cell? ⟨w5.heap.size, 0, none⟩ = some (.string ⟨k.toArray⟩) := by rw [cell_of_row _ _ _ _ _ _ q6]; rfl
      have e1 : w6.cell? ⟨w5.heap.size, 1, none⟩ = some (.string ⟨s.toArray⟩) := by rw [cell_of_row _ _ _ _ _ _ q6]; rfl
      have e2 : w6.cell? ⟨w5.heap.size, 2, none⟩ = some (.int .i64 0) := by rw [cell_of_row _ _ _ _ _ _ q6]; rfl
      have e3 : w6.cell? ⟨w5.heap.size, 3, none⟩ = some (.string ⟨#[]⟩) := by rw [cell_of_row _ _ _ _ _ _ q6]; rfl
      have e4 : w6.cell? ⟨w5.heap.size, 4, none⟩ = some (.pointer none) := by rw [cell_of_row _ _ _ _ _ _ q6]; rfl
      have hn6 := H5.out.1.of_block (hb6.block _ H5.out.1.lt)
      have n3 := hn6.c3
      have hnl6 := hn6.lt
      have n3a : ∀ o, (w6.alloc o).cell? ⟨w2.heap.size, 3, none⟩ = some (.slice none 0 0) := fun o => (World.cell?_alloc_lt w6 o ⟨w2.heap.size, 3, none⟩ hnl6).trans n3
      have hc6 := H5.out.2.1.of_block (hb6.block _ H5.out.2.1.lt)
      have hb6' := H5.out.2.2.trans (hb6.mono H5.out.2.2.size)
      have H6 := hide (And.intro hn6 (And.intro hc6 hb6'))
      clear hw6 hb6 q6 hn6 hc6 hb6' H5
      go_wp2_with fail
      go_region_law (refine step_append_lies _ rfl (.tmp 76) (.tmp 78) 111 rfl 0 128 i0 _ 5 64 Tryz.underlying111 hi hz0 hz1 hz2 rfl (by decide) (.slice none 0 0) 0 [] (by simp [Act.eval]) (World.ownsRow_nil _ _ _ _) ⟨w6.heap.size, 0, none⟩ 1 1 (entV k s 0 [] (.pointer none)) (by simp [Act.eval]) rfl (by exact World.news_of_block (cs := (entV k s 0 [] (.pointer none)).toArray) (heap_alloc_new (w6.drewN _) _)) (by intro u hu; simp [entV] at hu; rcases hu with rfl | rfl | rfl | rfl | rfl <;> rfl) (by decide) (by decide) (by decide) (Nat.zero_le _) _ rfl ?_; intro g7 cap7 w7 hown7 hgrow7 hlie7 hlt7; have hb7 : Below w6.heap.size w6 w7 := Below.grown (a := w6) (h := Below.alloc (below_drewN (Below.refl _ _) _) (Nat.le_refl _) _) hgrow7 (by simp) (fun j hj => by cases hj); have n37 := (H6.out.1.of_block (hb7.block _ hnl6)).c3; have f37 := (H6.out.1.of_block (hb7.block _ hnl6)).fr 3)
      all_goals
        have hg7 : g7 = w6.heap.size + 1 := by
          rcases hlie7 with e | e
          · cases e
          · simpa using e
        subst hg7
        have hn7 := (H6.out.1.of_block (hb7.block _ hnl6)).set3 (.slice (some ⟨w6.heap.size + 1, 0, none⟩) 1 cap7)
        have hkk : Kp [w2.heap.size] w7 (w7.setCell ⟨w2.heap.size, 3, none⟩ (.slice (some ⟨w6.heap.size + 1, 0, none⟩) 1 cap7)) := (Kp.refl _ w7).setCell _ 3 _ (.inl (by simp))
        have ho7 := owns_kp hown7 hkk (fun j hj => by
          have : w6.heap.size + 1 = j := by simpa [Value.ownBlock] using hj
          simp; omega)
        have hc7 := (H6.out.2.1.of_block (hb7.block _ H6.out.2.1.lt)).of_block (hkk.block _ (Nat.lt_of_lt_of_le H6.out.2.1.lt hb7.size) (by simp; omega))
        have hbb : Below w.heap.size w (w7.setCell ⟨w2.heap.size, 3, none⟩ (.slice (some ⟨w6.heap.size + 1, 0, none⟩) 1 cap7)) := (H6.out.2.2.trans (hb7.mono H6.out.2.2.size)).setCell (by show w.heap.size ≤ w2.heap.size; omega) _
        have HF := hide (And.intro hn7 (And.intro ho7 (And.intro hc7 hbb)))
        clear hn7 hkk ho7 hc7 hbb hown7 hgrow7 hlie7 hlt7 n37 f37 H6 hb7
        go_wp2_with fail
        rw [← hz6]
        exact ⟨.inr ⟨rfl, w6.heap.size + 1, cap7, ⟨HF.out.1, HF.out.2.1, by omega⟩, by omega, HF.out.2.2.1, HF.out.2.2.2⟩, by decide⟩
    · have HO := hide (HNO.out w.heap.size true wr hc)
      have c2 := hc.c2
      have HF := hide (And.intro hn (And.intro hbe hb))
      clear hn hc hb hbe HNO HEN H3
      go_wp2_with fail
      refine HO.out.mono ?_
      rintro e w5 ⟨rfl, rfl⟩
      go_wp2_with fail
      go_ret2
      have hbe := HF.out.2.1
      exact ⟨w2.heap.size, be, cap, rfl, HF.out.1, by omega, by omega, HF.out.2.2⟩
end Go.Proofs.YtjnhlkaafnaooabGreatDoor
