import Derived.Test.YtjnhlkaafnaooabGreatDoorRmI
namespace Go.Proofs.YtjnhlkaafnaooabGreatDoor
open Go.RowKit
section
variable {w : World} {n place : Nat} {digest k s : List UInt8} {be cap : Nat}
theorem LeafAt.blk (h : LeafAt w n place digest k s be cap) : ∃ cur : Array Value, w.heap[be]? = some (.cells cur 128 (0, 0)) ∧ cur.size = cap * 5 ∧ cur.toList.take 5 = entV k s 0 [] (.pointer none) ∧ 1 ≤ cap ∧ cap ≤ maxLen := by
  rcases h.own.2 with ⟨hv, _⟩ | ⟨g, cap', cur, hv, _, hb, hle, hmx, hsz, htk⟩
  · cases hv
  · cases hv
    exact ⟨cur, hb, hsz, by simpa using htk, hle, hmx⟩
theorem LeafAt.e (h : LeafAt w n place digest k s be cap) (i : Nat) (hi : i < 5) : w.cell? ⟨be, i, none⟩ = (entV k s 0 [] (.pointer none))[i]? := by
  obtain ⟨cur, hb, hsz, htk, _⟩ := h.blk
  rw [cell_of_row _ _ _ _ _ _ hb, ← htk, List.getElem?_take_of_lt hi]
  simp
theorem LeafAt.ef (h : LeafAt w n place digest k s be cap) (i : Nat) : w.frozen? ⟨be, i, none⟩ = false := by
  obtain ⟨cur, hb, _⟩ := h.blk
  simp [World.frozen?, hb]
theorem LeafAt.elt (h : LeafAt w n place digest k s be cap) : be < w.heap.size := by
  obtain ⟨cur, hb, _⟩ := h.blk
  exact lt_of_block hb
theorem LeafAt.kp {S : List Nat} {w' : World} (h : LeafAt w n place digest k s be cap) (hk : Kp S w w') (h1 : n ∉ S) (h2 : be ∉ S) : LeafAt w' n place digest k s be cap :=
  ⟨h.node.of_block (hk.block n h.node.lt h1), owns_kp h.own hk (fun j hj => by
    have e : be = j := by simpa [Value.ownBlock] using hj
    rw [← e]; exact h2), h.ne⟩
/-- Another value for the one entry. -/
theorem LeafAt.setv (h : LeafAt w n place digest k s be cap) (y : List UInt8) : LeafAt (w.setCell ⟨be, 1, none⟩ (strV y)) n place digest k y be cap := by
  obtain ⟨cur, hb, hsz, htk, hc, hm⟩ := h.blk
  refine ⟨h.node.of_block (Below.heap_setCell w ⟨be, 1, none⟩ _ n h.ne), ⟨rfl, .inr ⟨be, cap, _, rfl, Nat.zero_le _, set_prim hb 1 _, hc, hm, by simpa using hsz, ?_⟩⟩, h.ne⟩
  have e : (cur.setIfInBounds 1 (strV y)).toList.take (1 * 5) = (cur.toList.take 5).set 1 (strV y) := by
    rw [Array.toList_setIfInBounds, Nat.one_mul, List.take_set]
  rw [e, htk]
  rfl
end
theorem len_maxLen {cap : Nat} (h : cap ≤ maxLen) : (cap : Int) ≤ 9223372036854775807 := by unfold maxLen at h; omega
theorem less_self : ∀ k : List UInt8, Op.bytesLess k k = false
  | [] => rfl
  | a :: k => by simp [Op.bytesLess, less_self k]
set_option maxRecDepth 100000 in
set_option maxHeartbeats 1000000 in
theorem entryOf_same (n place : Nat) (digest k s : List UInt8) (be cap : Nat) (w : World) (h : LeafAt w n place digest k s be cap) :
    Calls Tryz.prog 76 #[.pointer (some ⟨n, 0, none⟩), .string ⟨k.toArray⟩] w fun e w' => e = .returned (.tuple #[.int .i64 0, .bool true]) ∧ Below w.heap.size w w' := by
  have c3 := h.node.c3
  have e0 : w.cell? ⟨be, 0, none⟩ = some (strV k) := h.e 0 (by decide)
  have hls := less_self k
  clear h
  go_enter Tryz.func76, Tryz.ntmps76
  go_wp2_with fail
  go_loopw [6] (fun i wr => i = .int .i64 0 ∧ wr = w) (fun _ _ => 0)
  case atStart => exact ⟨rfl, rfl⟩
  case round =>
    obtain ⟨rfl, rfl⟩ := hrel
    go_wp2_with fail
    go_quiet (fail)
    go_wp2_with fail
    go_ret2
    exact ⟨rfl, below_drewN (Below.refl _ _) _⟩
set_option maxRecDepth 100000 in
set_option maxHeartbeats 1000000 in
theorem set_same (n place : Nat) (digest k s y : List UInt8) (be cap : Nat) (w : World) (h : LeafAt w n place digest k s be cap) :
    Calls Tryz.prog 130 #[.pointer (some ⟨n, 0, none⟩), .string ⟨k.toArray⟩, .string ⟨y.toArray⟩] w fun e w' => e = .returned (.tuple #[]) ∧ LeafAt w' n place digest k y be cap ∧ Kp [be] w w' := by
  have HE := hide (entryOf_same n place digest k s be cap w h)
  have HH := hide h
  clear h
  go_enter Tryz.func130, Tryz.ntmps130
  go_wp2_with fail
  refine HE.out.mono ?_
  rintro e w1 ⟨rfl, hb1⟩
  have h1 := HH.out.kp (S := []) (Kp.of_below hb1) (by simp) (by simp)
  have c3 := h1.node.c3
  have e1 : w1.cell? ⟨be, 1, none⟩ = some (strV s) := h1.e 1 (by decide)
  have f1 := h1.ef 1
  have HF := hide (And.intro (h1.setv y) ((Kp.of_below hb1 : Kp [be] w w1).setCell be 1 (strV y) (.inl (by simp))))
  clear h1 hb1 HE HH
  go_wp2_with fail
  refine bodyPost_ret (results_none rfl _ _ _) rfl ?_
  exact ⟨rfl, HF.out⟩
set_option maxRecDepth 100000 in
set_option maxHeartbeats 1000000 in
theorem split_none (n place : Nat) (digest k s : List UInt8) (be cap : Nat) (w : World) (h : LeafAt w n place digest k s be cap) :
    Calls Tryz.prog 131 #[.pointer (some ⟨n, 0, none⟩)] w fun e w' => e = .returned (.pointer none) ∧ w' = w := by
  have c3 := h.node.c3
  clear h
  go_enter Tryz.func131, Tryz.ntmps131
  go_wp2_with fail
  go_ret
  exact ⟨rfl, rfl⟩
/-- A Commit under way in memory. -/
structure WorkAt (w : World) (bw b lk : Nat) (top rv : Value) (ch : Bool) : Prop where
  blk : w.heap[bw]? = some (.cells #[.pointer (some ⟨b, 0, none⟩), .int .i64 lk, top, rv, .bool ch] 85 (0, 0))
section
variable {w : World} {bw b lk : Nat} {top rv : Value} {ch : Bool}
theorem WorkAt.lt (h : WorkAt w bw b lk top rv ch) : bw < w.heap.size := lt_of_block h.blk
theorem WorkAt.fr (h : WorkAt w bw b lk top rv ch) (i : Nat) : w.frozen? ⟨bw, i, none⟩ = false := by simp [World.frozen?, h.blk]
theorem WorkAt.c0 (h : WorkAt w bw b lk top rv ch) : w.cell? ⟨bw, 0, none⟩ = some (.pointer (some ⟨b, 0, none⟩)) := by rw [cell_of_row _ _ _ _ _ _ h.blk]; rfl
theorem WorkAt.c1 (h : WorkAt w bw b lk top rv ch) : w.cell? ⟨bw, 1, none⟩ = some (.int .i64 lk) := by rw [cell_of_row _ _ _ _ _ _ h.blk]; rfl
theorem WorkAt.c2 (h : WorkAt w bw b lk top rv ch) : w.cell? ⟨bw, 2, none⟩ = some top := by rw [cell_of_row _ _ _ _ _ _ h.blk]; rfl
theorem WorkAt.c3 (h : WorkAt w bw b lk top rv ch) : w.cell? ⟨bw, 3, none⟩ = some rv := by rw [cell_of_row _ _ _ _ _ _ h.blk]; rfl
theorem WorkAt.c4 (h : WorkAt w bw b lk top rv ch) : w.cell? ⟨bw, 4, none⟩ = some (.bool ch) := by rw [cell_of_row _ _ _ _ _ _ h.blk]; rfl
theorem WorkAt.of_block {w' : World} (h : WorkAt w bw b lk top rv ch) (e : w'.heap[bw]? = w.heap[bw]?) : WorkAt w' bw b lk top rv ch := ⟨e.trans h.blk⟩
theorem WorkAt.set1 (h : WorkAt w bw b lk top rv ch) (y : Nat) : WorkAt (w.setCell ⟨bw, 1, none⟩ (.int .i64 y)) bw b y top rv ch := ⟨by rw [set_prim h.blk 1 _]; simp⟩
theorem WorkAt.set2 (h : WorkAt w bw b lk top rv ch) (y : Value) : WorkAt (w.setCell ⟨bw, 2, none⟩ y) bw b lk y rv ch := ⟨by rw [set_prim h.blk 2 _]; simp⟩
theorem WorkAt.set3 (h : WorkAt w bw b lk top rv ch) (y : Value) : WorkAt (w.setCell ⟨bw, 3, none⟩ y) bw b lk top y ch := ⟨by rw [set_prim h.blk 3 _]; simp⟩
theorem WorkAt.set4 (h : WorkAt w bw b lk top rv ch) (y : Bool) : WorkAt (w.setCell ⟨bw, 4, none⟩ (.bool y)) bw b lk top rv y := ⟨by rw [set_prim h.blk 4 _]; simp⟩
end
set_option maxRecDepth 100000 in
set_option maxHeartbeats 1000000 in
theorem renew_one (bw b lk : Nat) (top : Value) (ch : Bool) (n p : Nat) (d k s : List UInt8) (be cap : Nat) (w : World) (hw : WorkAt w bw b lk top (.slice none 0 0) ch) (h : LeafAt w n p d k s be cap) (hp : 0 < p) (hne : bw ≠ n) (hne2 : bw ≠ be) :
    Calls Tryz.prog 127 #[.pointer (some ⟨bw, 0, none⟩), .pointer (some ⟨n, 0, none⟩)] w fun e w' => e = .returned (.tuple #[]) ∧ ∃ rv, WorkAt w' bw b lk top rv ch ∧ LeafAt w' n 0 [] k s be cap ∧ w'.ownsRow 0 3 1 rv 1 [.int .i64 p] ∧ (∀ j, rv.ownBlock = some j → w.heap.size ≤ j) ∧ Kp [bw, n] w w' := by
  obtain ⟨i0, hi, hz0, hz1, hz2⟩ := info_parts info_int
  have n1 := h.node.c1
  have n2 := h.node.c2
  have w3 := hw.c3
  have hnl := h.node.lt
  have hwl := hw.lt
  have hel := h.elt
  have hpi : ((p : Int) == 0) = false := by rw [beq_eq_false_iff_ne]; omega
  have hpn : ¬ (p = 0) := by omega
  have n1a : ∀ o, (w.alloc o).cell? ⟨n, 1, none⟩ = some (.int .i64 p) := fun o => (World.cell?_alloc_lt w o ⟨n, 1, none⟩ hnl).trans n1
  have w3a : ∀ o, (w.alloc o).cell? ⟨bw, 3, none⟩ = some (.slice none 0 0) := fun o => (World.cell?_alloc_lt w o ⟨bw, 3, none⟩ hwl).trans w3
  have HH := hide (And.intro hw h)
  clear hw h hp
  go_enter Tryz.func127, Tryz.ntmps127
  go_wp2_with fail
  go_region_law (refine step_append_lies _ rfl (.tmp 14) (.tmp 20) 24 rfl 0 3 i0 (.int .i64 0) 1 8 Tryz.underlying24 hi hz0 hz1 hz2 rfl (by decide) (.slice none 0 0) 0 [] (by simp [Act.eval]) (World.ownsRow_nil _ _ _ _) ⟨w.heap.size, 0, none⟩ 1 1 [.int .i64 p] (by simp [Act.eval]) rfl (by exact World.news_of_block (cs := #[.int .i64 (p : Int)]) (heap_alloc_new (w.drewN _) _)) (by intro u hu; simp at hu; subst hu; rfl) (by decide) (by decide) (by decide) (Nat.zero_le _) _ rfl ?_; intro g7 cap7 w7 hown7 hgrow7 hlie7 hlt7; have hb7 : Below w.heap.size w w7 := Below.grown (a := w) (h := Below.alloc (below_drewN (Below.refl _ _) _) (Nat.le_refl _) _) hgrow7 (by simp) (fun j hj => by cases hj); have w37 := (HH.out.1.of_block (hb7.block _ hwl)).c3; have f37 := (HH.out.1.of_block (hb7.block _ hwl)).fr 3)
  all_goals
    have hg7 : g7 = w.heap.size + 1 := by
      rcases hlie7 with e | e
      · cases e
      · simpa using e
    subst hg7
    have h7 := HH.out.2.kp (S := []) (Kp.of_below hb7) (by simp) (by simp)
    have kk : Kp [bw] w7 (w7.setCell ⟨bw, 3, none⟩ (.slice (some ⟨w.heap.size + 1, 0, none⟩) 1 cap7)) := (Kp.refl _ w7).setCell bw 3 _ (.inl (by simp))
    have h8 := h7.kp kk (by simpa using Ne.symm hne) (by simpa using Ne.symm hne2)
    have hw8 := (HH.out.1.of_block (hb7.block _ hwl)).set3 (.slice (some ⟨w.heap.size + 1, 0, none⟩) 1 cap7)
    have ho8 := owns_kp hown7 kk (fun j hj => by
      have : w.heap.size + 1 = j := by simpa [Value.ownBlock] using hj
      simp; omega)
    have k8 : Kp [bw, n] w (w7.setCell ⟨bw, 3, none⟩ (.slice (some ⟨w.heap.size + 1, 0, none⟩) 1 cap7)) := (Kp.of_below hb7).setCell bw 3 _ (.inl (by simp))
    obtain ⟨w8, hw8e⟩ : ∃ w8, w7.setCell ⟨bw, 3, none⟩ (.slice (some ⟨w.heap.size + 1, 0, none⟩) 1 cap7) = w8 := ⟨_, rfl⟩
    rw [hw8e] at h8 hw8 ho8 k8 ⊢
    have c1 := h8.node.c1
    have c2 := h8.node.c2
    have f1 := h8.node.fr 1
    have f2 := h8.node.fr 2
    have kn : Kp [n] w8 ((w8.setCell ⟨n, 1, none⟩ (.int .i64 (0 : Nat))).setCell ⟨n, 2, none⟩ (strV [])) := ((Kp.refl [n] w8).setCell n 1 _ (.inl (by simp))).setCell n 2 _ (.inl (by simp))
    have hn9 := (h8.node.set1 0).set2 []
    have ho9 := owns_kp h8.own kn (fun j hj => by
      have e : be = j := by simpa [Value.ownBlock] using hj
      have := h8.ne
      simp; omega)
    have hw9 := hw8.of_block (kn.block bw hw8.lt (by simpa using hne))
    have hr9 := owns_kp ho8 kn (fun j hj => by
      have : w.heap.size + 1 = j := by simpa [Value.ownBlock] using hj
      simp; omega)
    have k9 : Kp [bw, n] w ((w8.setCell ⟨n, 1, none⟩ (.int .i64 (0 : Nat))).setCell ⟨n, 2, none⟩ (strV [])) := k8.trans (kn.mono (fun j hj => by simp at hj; simp [hj]))
    have HF := hide (And.intro hw9 (And.intro hn9 (And.intro ho9 (And.intro h8.ne (And.intro hr9 k9)))))
    clear h7 kk h8 hw8 ho8 k8 kn hn9 ho9 hw9 hr9 k9 hw8e HH hown7 hgrow7 hlie7 hlt7 hb7 w37 f37
    go_wp2_with fail
    go_end0
    exact ⟨rfl, .slice (some ⟨w.heap.size + 1, 0, none⟩) 1 cap7, HF.out.1, ⟨HF.out.2.1, HF.out.2.2.1, HF.out.2.2.2.1⟩, HF.out.2.2.2.2.1, fun j hj => by
      have : w.heap.size + 1 = j := by simpa [Value.ownBlock] using hj
      omega, HF.out.2.2.2.2.2⟩
end Go.Proofs.YtjnhlkaafnaooabGreatDoor

namespace Go.Proofs.YtjnhlkaafnaooabGreatDoor
open Go.RowKit
set_option maxRecDepth 100000 in
set_option maxHeartbeats 1000000 in
theorem putBelow_leaf (bw b lk : Nat) (top : Value) (ch : Bool) (n p : Nat) (d k s y : List UInt8) (be cap : Nat) (w : World) (hw : WorkAt w bw b lk top (.slice none 0 0) ch) (h : LeafAt w n p d k s be cap) (hp : 0 < p) (hne : bw ≠ n) (hne2 : bw ≠ be) :
    Calls Tryz.prog 102 #[.pointer (some ⟨bw, 0, none⟩), .pointer (some ⟨n, 0, none⟩), .string ⟨k.toArray⟩, .string ⟨y.toArray⟩] w fun e w' => e = .returned (.tuple #[.pointer none, .int .i64 0]) ∧ ∃ rv, WorkAt w' bw b lk top rv ch ∧ LeafAt w' n 0 [] k y be cap ∧ w'.ownsRow 0 3 1 rv 1 [.int .i64 p] ∧ (∀ j, rv.ownBlock = some j → w.heap.size ≤ j) ∧ Kp [bw, n, be] w w' := by
  have HR := hide (renew_one bw b lk top ch n p d k s be cap w hw h hp hne hne2)
  have hel := h.elt
  clear hw h hp
  go_enter Tryz.func102, Tryz.ntmps102
  go_wp2_with fail
  refine HR.out.mono ?_
  rintro e w1 ⟨rfl, rv, hw1, h1, ho1, hrv, k1⟩
  have c0 := h1.node.c0
  have HS := hide (set_same n 0 [] k s y be cap w1 h1)
  have H1 := hide (And.intro hw1 (And.intro ho1 k1))
  clear hw1 h1 ho1 k1 HR
  go_wp2_with fail
  refine HS.out.mono ?_
  rintro e w2 ⟨rfl, h2, k2⟩
  have HSP := hide (split_none n 0 [] k y be cap w2 h2)
  have hw2 := H1.out.1.of_block (k2.block bw H1.out.1.lt (by simpa using hne2))
  have ho2 := owns_kp H1.out.2.1 k2 (fun j hj => by have := hrv j hj; simp; omega)
  have k02 : Kp [bw, n, be] w w2 := (H1.out.2.2.mono (fun j hj => by simp at hj; simp; omega)).trans (k2.mono (fun j hj => by simp at hj; simp [hj]))
  have H2 := hide (And.intro hw2 (And.intro h2 (And.intro ho2 k02)))
  clear hw2 h2 ho2 k02 k2 HS c0 H1
  go_wp2_with fail
  refine HSP.out.mono ?_
  rintro e w3 ⟨rfl, rfl⟩
  go_wp2_with fail
  go_ret2
  exact ⟨rfl, rv, H2.out.1, H2.out.2.1, H2.out.2.2.1, hrv, H2.out.2.2.2⟩
set_option maxRecDepth 100000 in
set_option maxHeartbeats 1000000 in
theorem wput_leaf (bw b lk : Nat) (ch : Bool) (n p : Nat) (d k s y : List UInt8) (be cap : Nat) (w : World) (hw : WorkAt w bw b lk (.pointer (some ⟨n, 0, none⟩)) (.slice none 0 0) ch) (h : LeafAt w n p d k s be cap) (hp : 0 < p) (hne : bw ≠ n) (hne2 : bw ≠ be) :
    Calls Tryz.prog 61 #[.pointer (some ⟨bw, 0, none⟩), .string ⟨k.toArray⟩, .string ⟨y.toArray⟩] w fun e w' => e = .returned (.int .i64 0) ∧ ∃ rv, WorkAt w' bw b lk (.pointer (some ⟨n, 0, none⟩)) rv true ∧ LeafAt w' n 0 [] k y be cap ∧ w'.ownsRow 0 3 1 rv 1 [.int .i64 p] ∧ (∀ j, rv.ownBlock = some j → w.heap.size ≤ j) ∧ Kp [bw, n, be] w w' := by
  have c4 := hw.c4
  have f4 := hw.fr 4
  have hw1 := hw.set4 true
  have kk : Kp [bw] w (w.setCell ⟨bw, 4, none⟩ (.bool true)) := (Kp.refl _ w).setCell bw 4 _ (.inl (by simp))
  have h1 := h.kp kk (by simpa using Ne.symm hne) (by simpa using Ne.symm hne2)
  have c2 := hw1.c2
  have HP := hide (putBelow_leaf bw b lk _ true n p d k s y be cap _ hw1 h1 hp hne hne2)
  have HK := hide kk
  clear hw h hw1 h1 kk hp
  go_enter Tryz.func61, Tryz.ntmps61
  go_wp2_with fail
  refine HP.out.mono ?_
  rintro e w2 ⟨rfl, rv, hw2, h2, ho2, hrv, k2⟩
  have hrv' : ∀ j, rv.ownBlock = some j → w.heap.size ≤ j := fun j hj => Nat.le_trans HK.out.size (hrv j hj)
  have k02 : Kp [bw, n, be] w w2 := (HK.out.mono (fun j hj => by simp at hj; simp [hj])).trans k2
  have HF := hide (And.intro hw2 (And.intro h2 (And.intro ho2 (And.intro hrv' k02))))
  clear hw2 h2 ho2 hrv hrv' k02 k2 HP
  go_wp2_with fail
  go_ret
  exact ⟨rfl, rv, HF.out⟩
set_option maxRecDepth 100000 in
set_option maxHeartbeats 1000000 in
theorem wput_none (bw b lk : Nat) (ch : Bool) (k y : List UInt8) (w : World) (hw : WorkAt w bw b lk (.pointer none) (.slice none 0 0) ch) :
    Calls Tryz.prog 61 #[.pointer (some ⟨bw, 0, none⟩), .string ⟨k.toArray⟩, .string ⟨y.toArray⟩] w fun e w' => e = .returned (.int .i64 0) ∧ ∃ n be cap, WorkAt w' bw b lk (.pointer (some ⟨n, 0, none⟩)) (.slice none 0 0) true ∧ LeafAt w' n 0 [] k y be cap ∧ w.heap.size ≤ n ∧ w.heap.size ≤ be ∧ Kp [bw] w w' := by
  have c4 := hw.c4
  have f4 := hw.fr 4
  have hw1 := hw.set4 true
  have kk : Kp [bw] w (w.setCell ⟨bw, 4, none⟩ (.bool true)) := (Kp.refl _ w).setCell bw 4 _ (.inl (by simp))
  obtain ⟨w1, hw1e⟩ : ∃ w1, w.setCell ⟨bw, 4, none⟩ (.bool true) = w1 := ⟨_, rfl⟩
  rw [hw1e] at hw1 kk
  have hz1 : w1.heap.size = w.heap.size := by rw [← hw1e]; simp [World.setCell]
  have hwl := hw.lt
  have c2 := hw1.c2
  obtain ⟨w2, hw2e⟩ : ∃ w2, (w1.alloc (.cells #[.string ⟨k.toArray⟩, .string ⟨y.toArray⟩, .int .i64 0, .string ⟨#[]⟩, .pointer none] 128)).alloc (.cells #[.bool true, .int .i64 0, .string ⟨#[]⟩, .slice (some ⟨w.heap.size, 0, none⟩) 1 1] 113) = w2 := ⟨_, rfl⟩
  have hb2 : Below w1.heap.size w1 w2 := hw2e ▸ ((Below.refl _ _).alloc (Nat.le_refl _) _).alloc (by simp) _
  have hz2 : w2.heap.size = w.heap.size + 2 := by rw [← hw2e]; simp [hz1]
  have qn : w2.heap[w.heap.size + 1]? = some (.cells #[.bool true, .int .i64 0, .string ⟨#[]⟩, .slice (some ⟨w.heap.size, 0, none⟩) 1 1] 113 (0, 0)) := by
    have := heap_alloc_new (w1.alloc (.cells #[.string ⟨k.toArray⟩, .string ⟨y.toArray⟩, .int .i64 0, .string ⟨#[]⟩, .pointer none] 128)) (.cells #[.bool true, .int .i64 0, .string ⟨#[]⟩, .slice (some ⟨w.heap.size, 0, none⟩) 1 1] 113)
    rw [World.size_alloc, hz1] at this
    rw [← hw2e]; exact this
  have qe : w2.heap[w.heap.size]? = some (.cells #[.string ⟨k.toArray⟩, .string ⟨y.toArray⟩, .int .i64 0, .string ⟨#[]⟩, .pointer none] 128 (0, 0)) := by
    have h1 := heap_alloc_new w1 (.cells #[.string ⟨k.toArray⟩, .string ⟨y.toArray⟩, .int .i64 0, .string ⟨#[]⟩, .pointer none] 128)
    rw [hz1] at h1
    rw [← hw2e]
    exact (((Kp.refl [] _).alloc _).block _ (by simp [hz1]) (by simp)).trans h1
  have hl2 : LeafAt w2 (w.heap.size + 1) 0 [] k y w.heap.size 1 := ⟨⟨qn⟩, ⟨rfl, .inr ⟨w.heap.size, 1, _, rfl, Nat.zero_le _, qe, by decide, by decide, rfl, rfl⟩⟩, by omega⟩
  have hw2 := hw1.of_block (hb2.block bw (by omega))
  have c22 := hw2.c2
  have f22 := hw2.fr 2
  have hw3 := hw2.set2 (.pointer (some ⟨w.heap.size + 1, 0, none⟩))
  have k3 : Kp [bw] w2 (w2.setCell ⟨bw, 2, none⟩ (.pointer (some ⟨w.heap.size + 1, 0, none⟩))) := (Kp.refl _ w2).setCell bw 2 _ (.inl (by simp))
  have hl3 := hl2.kp k3 (by simp; omega) (by simp; omega)
  have k03 : Kp [bw] w (w2.setCell ⟨bw, 2, none⟩ (.pointer (some ⟨w.heap.size + 1, 0, none⟩))) := (kk.trans (Kp.of_below hb2)).trans k3
  have HF := hide (And.intro hw3 (And.intro hl3 k03))
  clear hw hw1 kk hb2 qn qe hl2 hw2 hw3 k3 hl3 k03
  go_enter Tryz.func61, Tryz.ntmps61
  go_wp2_with fail
  go_ret
  exact ⟨rfl, w.heap.size + 1, w.heap.size, 1, HF.out.1, HF.out.2.1, by omega, by omega, HF.out.2.2⟩
end Go.Proofs.YtjnhlkaafnaooabGreatDoor

namespace Go.Proofs.YtjnhlkaafnaooabGreatDoor
open Go.RowKit
theorem OneChange.form {w : World} {cv : Value} {k s : List UInt8} {gone : Bool} (h : OneChange w cv k s gone) : ∃ g cap, cv = .slice (some ⟨g, 0, none⟩) 1 cap ∧ w.cell? ⟨g, 0, none⟩ = some (strV k) ∧ w.cell? ⟨g, 1, none⟩ = some (strV s) ∧ w.cell? ⟨g, 2, none⟩ = some (.bool gone) := by
  rcases h.2 with ⟨_, h0⟩ | ⟨g, cap, cur, hv, _, hb, hle, _, hsz, htk⟩
  · cases h0
  · have e : ∀ i, i < 3 → w.cell? ⟨g, i, none⟩ = [strV k, strV s, .bool gone][i]? := fun i hi => by
      rw [cell_of_row _ _ _ _ _ _ hb, ← htk, Nat.one_mul, List.getElem?_take_of_lt hi]
      simp
    exact ⟨g, cap, hv, e 0 (by decide), e 1 (by decide), e 2 (by decide)⟩
set_option maxRecDepth 100000 in
set_option maxHeartbeats 1000000 in
theorem apply_gen (P : Option Addr → World → Prop) (Q : World → Prop) (bw : Nat) (cv : Value) (k y : List UInt8) (w : World)
    (hroot : Calls Tryz.prog 59 #[.pointer (some ⟨bw, 0, none⟩)] w fun e w' => ∃ top, e = .returned (.tuple #[.pointer top, .int .i64 0]) ∧ P top w')
    (hcv : ∃ g cap, cv = .slice (some ⟨g, 0, none⟩) 1 cap)
    (hP : ∀ top w', P top w' → (∃ o, w'.cell? ⟨bw, 2, none⟩ = some o) ∧ w'.frozen? ⟨bw, 2, none⟩ = false ∧ OneChange (w'.setCell ⟨bw, 2, none⟩ (.pointer top)) cv k y false)
    (hput : ∀ top w', P top w' → Calls Tryz.prog 61 #[.pointer (some ⟨bw, 0, none⟩), .string ⟨k.toArray⟩, .string ⟨y.toArray⟩] ((w'.setCell ⟨bw, 2, none⟩ (.pointer top)).alloc (.cells #[.string ⟨k.toArray⟩, .string ⟨y.toArray⟩, .bool false] 79)) fun e w2 => e = .returned (.int .i64 0) ∧ Q w2) :
    Calls Tryz.prog 34 #[.pointer (some ⟨bw, 0, none⟩), cv] w fun e w' => e = .returned (.int .i64 0) ∧ Q w' := by
  obtain ⟨g, cap, rfl⟩ := hcv
  have HR := hide hroot
  have HP := hide hP
  have HPU := hide hput
  clear hroot hP hput
  go_enter Tryz.func34, Tryz.ntmps34
  go_wp2_with fail
  refine HR.out.mono ?_
  rintro e w1 ⟨top, rfl, hp⟩
  obtain ⟨⟨o, c2⟩, f2, hoc⟩ := HP.out top w1 hp
  obtain ⟨g', cap', hv, o0, o1, o2⟩ := hoc.form
  cases hv
  have HPT := hide (HPU.out top w1 hp)
  clear HR HP HPU hoc hp
  obtain ⟨w2, hw2⟩ : ∃ w2, w1.setCell ⟨bw, 2, none⟩ (.pointer top) = w2 := ⟨_, rfl⟩
  rw [hw2] at o0 o1 o2 HPT
  go_wp2_with fail
  go_loopw [6, 7, 8] (fun e i _ wr => e = .int .i64 0 ∧ ((i = .int .i64 0 ∧ wr = w2) ∨ (i = .int .i64 1 ∧ Q wr))) (fun _ i _ _ => (2 - intOf i).toNat)
  case atStart => exact ⟨rfl, .inl ⟨rfl, by first | exact hw2 | rfl⟩⟩
  case round =>
    obtain ⟨rfl, hrel⟩ := hrel
    rcases hrel with ⟨rfl, rfl⟩ | ⟨rfl, hq⟩
    · clear hw2
      go_wp2_with fail
      refine HPT.out.mono ?_
      rintro e w3 ⟨rfl, hq⟩
      go_wp2_with fail
      exact ⟨⟨rfl, .inr ⟨rfl, hq⟩⟩, by decide⟩
    · have HQ := hide hq
      clear hq
      go_wp2_with fail
      go_ret
      exact ⟨rfl, HQ.out⟩
/-- The new tree is one leaf; these places are replaced. -/
def Made (w0 w' : World) (bw b : Nat) (k y : List UInt8) (rl : List Nat) : Prop :=
  ∃ n be cap rv lk, WorkAt w' bw b lk (.pointer (some ⟨n, 0, none⟩)) rv true ∧ LeafAt w' n 0 [] k y be cap ∧ w'.ownsRow 0 3 1 rv rl.length (rl.map (fun p : Nat => .int .i64 p)) ∧ w0.heap.size ≤ n ∧ w0.heap.size ≤ be ∧ (∀ j, rv.ownBlock = some j → w0.heap.size ≤ j) ∧ Kp [bw] w0 w'
theorem OneChange.kp {w w' : World} {cv : Value} {k s : List UInt8} {gone : Bool} {S : List Nat} (h : OneChange w cv k s gone) (hk : Kp S w w') (hs : ∀ j, cv.ownBlock = some j → j ∉ S) : OneChange w' cv k s gone := owns_kp h hk hs
theorem apply_none (x : DX) (b bw lk : Nat) (m : DM) (v : VM) (wv cv : Value) (k y : List UInt8) (w : World) (h : Sys w x b m v wv) (hp : v.place = 0) (hw : WorkAt w bw b lk (.pointer none) (.slice none 0 0) false) (hc : OneChange w cv k y false) (hcb : ∀ j, cv.ownBlock = some j → j ≠ bw) :
    Calls Tryz.prog 34 #[.pointer (some ⟨bw, 0, none⟩), cv] w fun e w' => e = .returned (.int .i64 0) ∧ Made w w' bw b k y [] := by
  obtain ⟨g, cap, hv, _⟩ := hc.form
  refine apply_gen (fun top w' => top = none ∧ w' = w) _ bw cv k y w ?_ ⟨g, cap, hv⟩ ?_ ?_
  · refine (root_none x b bw m v wv w h hp hw.c0).mono ?_
    rintro e w' ⟨rfl, rfl⟩
    exact ⟨none, rfl, rfl, rfl⟩
  · rintro top w' ⟨rfl, rfl⟩
    refine ⟨⟨_, hw.c2⟩, hw.fr 2, hc.kp ((Kp.refl [bw] w').setCell bw 2 _ (.inl (by simp))) (fun j hj => by simpa using hcb j hj)⟩
  · rintro top w' ⟨rfl, rfl⟩
    have k1 : Kp [bw] w' ((w'.setCell ⟨bw, 2, none⟩ (.pointer none)).alloc (.cells #[.string ⟨k.toArray⟩, .string ⟨y.toArray⟩, .bool false] 79)) := ((Kp.refl [bw] w').setCell bw 2 _ (.inl (by simp))).alloc _
    have hw1 : WorkAt ((w'.setCell ⟨bw, 2, none⟩ (.pointer none)).alloc (.cells #[.string ⟨k.toArray⟩, .string ⟨y.toArray⟩, .bool false] 79)) bw b lk (.pointer none) (.slice none 0 0) false :=
      (hw.set2 (.pointer none)).of_block (((Kp.refl [] _).alloc _).block bw (by have := hw.lt; simpa [World.setCell] using this) (by simp))
    refine (wput_none bw b lk false k y _ hw1).mono ?_
    rintro e w2 ⟨rfl, n, be, cap, h1, h2, h3, h4, h5⟩
    have hz := k1.size
    exact ⟨rfl, n, be, cap, .slice none 0 0, lk, h1, h2, World.ownsRow_nil _ _ _ _, by omega, by omega, (fun j hj => by cases hj), k1.trans h5⟩
theorem apply_leaf (x : DX) (b bp bw lk : Nat) (m : DM) (v : VM) (wv cv : Value) (rk k s y : List UInt8) (w : World) (h : Sys w x b m v wv) (hpv : v.pv = .pointer (some ⟨bp, 0, none⟩)) (hk : KeyAt w bp rk) (hw : WorkAt w bw b lk (.pointer none) (.slice none 0 0) false) (hc : OneChange w cv k y false) (hcb : ∀ j, cv.ownBlock = some j → j ≠ bw)
    (hvb : Foreign x b wv bw) (hbp : bp ≠ bw) (hlk : lk < 48)
    (h2 : 2 ≤ v.place) (hp : v.place < m.blocks.length) (hbl : (m.look v.place).length = 256) (hd : shaL (m.look v.place) = v.digest) (ho : openL rk (m.look v.place) v.place = some (leafOne k s)) (h1 : 1 ≤ k.length) (h8 : k.length ≤ 8) (h16 : s.length ≤ 16) :
    Calls Tryz.prog 34 #[.pointer (some ⟨bw, 0, none⟩), cv] w fun e w' => e = .returned (.int .i64 0) ∧ Made w w' bw b k y [v.place] := by
  obtain ⟨g, cap, hv, _⟩ := hc.form
  have hcl : ∀ j, cv.ownBlock = some j → j < w.heap.size := fun j hj => owns_lt hc j hj
  refine apply_gen (fun top w' => ∃ n be cap, top = some ⟨n, 0, none⟩ ∧ LeafAt w' n v.place v.digest k s be cap ∧ WorkAt w' bw b (lk + 1) (.pointer none) (.slice none 0 0) false ∧ OneChange w' cv k y false ∧ w.heap.size ≤ n ∧ w.heap.size ≤ be ∧ Kp [bw] w w') _ bw cv k y w ?_ ⟨g, cap, hv⟩ ?_ ?_
  · refine (root_leaf x b bp bw m v wv rk k s lk w h hpv hk hw.c0 hw.c1 (hw.fr 1) hvb hbp hlk h2 hp hbl hd ho h1 h8 h16).mono ?_
    rintro e w' ⟨n, be, cap, rfl, hl, hn, hbe, hkp, hvv⟩
    exact ⟨some ⟨n, 0, none⟩, rfl, n, be, cap, rfl, hl, ⟨hvv.trans (hw.set1 (lk + 1)).blk⟩, hc.kp hkp (fun j hj => by simpa using hcb j hj), hn, hbe, hkp⟩
  · rintro top w' ⟨n, be, cap, rfl, hl, hw', hc', hn, hbe, hkp⟩
    exact ⟨⟨_, hw'.c2⟩, hw'.fr 2, hc'.kp ((Kp.refl [bw] w').setCell bw 2 _ (.inl (by simp))) (fun j hj => by simpa using hcb j hj)⟩
  · rintro top w' ⟨n, be, cap, rfl, hl, hw', hc', hn, hbe, hkp⟩
    have hwl := hw.lt
    have k1 : Kp [bw] w' ((w'.setCell ⟨bw, 2, none⟩ (.pointer (some ⟨n, 0, none⟩))).alloc (.cells #[.string ⟨k.toArray⟩, .string ⟨y.toArray⟩, .bool false] 79)) := ((Kp.refl [bw] w').setCell bw 2 _ (.inl (by simp))).alloc _
    have hw1 : WorkAt ((w'.setCell ⟨bw, 2, none⟩ (.pointer (some ⟨n, 0, none⟩))).alloc (.cells #[.string ⟨k.toArray⟩, .string ⟨y.toArray⟩, .bool false] 79)) bw b (lk + 1) (.pointer (some ⟨n, 0, none⟩)) (.slice none 0 0) false :=
      (hw'.set2 _).of_block (((Kp.refl [] _).alloc _).block bw (by have := hw'.lt; simpa [World.setCell] using this) (by simp))
    have hl1 := hl.kp k1 (by simp; omega) (by simp; omega)
    refine (wput_leaf bw b (lk + 1) false n v.place v.digest k s y be cap _ hw1 hl1 (by omega) (by omega) (by omega)).mono ?_
    rintro e w2 ⟨rfl, rv, g1, g2, g3, g4, g5⟩
    have hz := hkp.size
    have hz1 := k1.size
    exact ⟨rfl, n, be, cap, rv, lk + 1, g1, g2, by simpa using g3, by omega, by omega, (fun j hj => by have := g4 j hj; omega), (hkp.trans k1).step g5 (fun j hj => by simp at hj; simp; omega)⟩
end Go.Proofs.YtjnhlkaafnaooabGreatDoor
