import Derived.Test.YtjnhlkaafnaooaaDoorRootW
import Derived.Test.YtjnhlkaafnaooaaDoorFieldW
import Derived.Test.YtjnhlkaafnaooaaDoorConsts
import Derived.Deep.AppendLies
namespace Go.Proofs.YtjnhlkaafnaooaaDoor
open Go.RowKit

def vals (k : IntKind) (xs : List Nat) : List Value := xs.map fun n : Nat => .int k (n : Int)
theorem vals_snoc (k : IntKind) (xs : List Nat) (n : Nat) : vals k (xs ++ [n]) = vals k xs ++ [.int k (n : Int)] := by simp [vals]

/-- The three lists of words in mid-make. -/
structure CI (w : World) (hs ks ss : List Nat) (ah : Option Addr) (nh ch : Nat) (ak : Option Addr) (nk ck : Nat) (sa : Option Addr) (ns cs : Nat) (wr : World) : Prop where
  blk : wr.heap[w.heap.size]? = some (.cells #[.slice ah nh ch, .slice ak nk ck, .slice sa ns cs] 38 (0, 0))
  oh : wr.ownsRow (w.heap.size + 1) 3 1 (.slice ah nh ch) nh (vals .i64 hs)
  ok : wr.ownsRow (w.heap.size + 1) 3 1 (.slice ak nk ck) nk (vals .i64 ks)
  os : wr.ownsRow (w.heap.size + 1) 3 1 (.slice sa ns cs) ns (vals .i64 ss)
  lh : nh = hs.length
  lk : nk = ks.length
  ls : ns = ss.length
  dhk : ∀ g, (Value.slice ah nh ch).ownBlock = some g → (Value.slice ak nk ck).ownBlock ≠ some g
  dhs : ∀ g, (Value.slice ah nh ch).ownBlock = some g → (Value.slice sa ns cs).ownBlock ≠ some g
  dks : ∀ g, (Value.slice ak nk ck).ownBlock = some g → (Value.slice sa ns cs).ownBlock ≠ some g
  bel : Below w.heap.size w wr

theorem ownsRow_setCell_far {w : World} {base : Nat} {e : TypeId} {v : Value} {n : Nat} {xs : List Value} (h : w.ownsRow base e 1 v n xs) {a : Addr} (ha : a.block < base) (u : Value) : (w.setCell a u).ownsRow base e 1 v n xs := ownsRow_setCell_below h ha u
theorem keep_other {w w' : World} {base : Nat} {e : TypeId} {v v2 : Value} {n : Nat} {xs : List Value} (h : w.ownsRow base e 1 v n xs) (hg : w.grownBy w' v2.ownBlock) (hd : ∀ g, v.ownBlock = some g → v2.ownBlock ≠ some g) : w'.ownsRow base e 1 v n xs := by
  refine h.kept hg ?_
  cases hv : v.ownBlock with
  | none => exact .inl rfl
  | some g => exact .inr fun e => hd g hv (by rw [← e])
theorem set_prim {w : World} {b : Nat} {c : Array Value} {t : TypeId} (h : w.heap[b]? = some (.cells c t (0, 0))) (j : Nat) (v : Value) : (w.setCell ⟨b, j, none⟩ v).heap[b]? = some (.cells (c.setIfInBounds j v) t (0, 0)) := by
  simp [World.setCell, Array.getElem?_modify, h]

theorem CI.pushh {w : World} {hs ks ss : List Nat} {ah : Option Addr} {nh ch : Nat} {ak : Option Addr} {nk ck : Nat} {sa : Option Addr} {ns cs : Nat} {wr w' : World} (h : CI w hs ks ss ah nh ch ak nk ck sa ns cs wr) (r : Nat) (o : Obj) (g cap : Nat)
    (hown : w'.ownsRow (w.heap.size + 1) 3 1 (.slice (some ⟨g, 0, none⟩) (nh + 1) cap) (nh + 1) (vals .i64 hs ++ [.int .i64 (r : Int)])) (hg : (wr.alloc o).grownBy w' (Value.slice ah nh ch).ownBlock)
    (hl : (Value.slice ah nh ch).ownBlock = some g ∨ g = wr.heap.size + 1) :
    CI w (hs ++ [r]) ks ss (some ⟨g, 0, none⟩) (nh + 1) cap ak nk ck sa ns cs (w'.setCell ⟨w.heap.size, 0, none⟩ (.slice (some ⟨g, 0, none⟩) (nh + 1) cap)) := by
  have hN : w.heap.size < wr.heap.size := lt_of_block h.blk
  have ho := h.oh
  have hb : w'.heap[w.heap.size]? = some (.cells #[.slice ah nh ch, .slice ak nk ck, .slice sa ns cs] 38 (0, 0)) := by
    rw [hg.block _ (by simp; omega) (fun e => by have := ho.lt _ e.symm; omega), Below.heap_alloc _ _ _ hN]
    exact h.blk
  have hsz := hg.size
  simp at hsz
  refine ⟨by rw [set_prim hb]; rfl, ?_, ?_, ?_, ?_, ?_, ?_, ?_, ?_, ?_, ?_⟩
  · rw [vals_snoc]; exact ownsRow_setCell_far hown (by simp) _
  · exact ownsRow_setCell_far (keep_other (h.ok.alloc _) hg (fun g e1 e2 => h.dhk g e2 e1)) (by simp) _
  · exact ownsRow_setCell_far (keep_other (h.os.alloc _) hg (fun g e1 e2 => h.dhs g e2 e1)) (by simp) _
  · simp [h.lh]
  · exact h.lk
  · exact h.ls
  · intro g' e1 e2
    have e3 : g = g' := by simpa [Value.ownBlock] using e1
    subst e3
    rcases hl with hl | hl
    · exact h.dhk g hl e2
    · have := h.ok.lt g e2; omega
  · intro g' e1 e2
    have e3 : g = g' := by simpa [Value.ownBlock] using e1
    subst e3
    rcases hl with hl | hl
    · exact h.dhs g hl e2
    · have := h.os.lt g e2; omega
  · exact h.dks
  · refine Below.setCell (B := w.heap.size) ?_ (Nat.le_refl w.heap.size) _
    refine Below.grown (h.bel.alloc (by omega) _) hg (by simp; omega) ?_
    intro k hk
    have := ho.lt k hk
    omega

theorem CI.pushk {w : World} {hs ks ss : List Nat} {ah : Option Addr} {nh ch : Nat} {ak : Option Addr} {nk ck : Nat} {sa : Option Addr} {ns cs : Nat} {wr w' : World} (h : CI w hs ks ss ah nh ch ak nk ck sa ns cs wr) (r : Nat) (o : Obj) (g cap : Nat)
    (hown : w'.ownsRow (w.heap.size + 1) 3 1 (.slice (some ⟨g, 0, none⟩) (nk + 1) cap) (nk + 1) (vals .i64 ks ++ [.int .i64 (r : Int)])) (hg : (wr.alloc o).grownBy w' (Value.slice ak nk ck).ownBlock)
    (hl : (Value.slice ak nk ck).ownBlock = some g ∨ g = wr.heap.size + 1) :
    CI w hs (ks ++ [r]) ss ah nh ch (some ⟨g, 0, none⟩) (nk + 1) cap sa ns cs (w'.setCell ⟨w.heap.size, 1, none⟩ (.slice (some ⟨g, 0, none⟩) (nk + 1) cap)) := by
  have hN : w.heap.size < wr.heap.size := lt_of_block h.blk
  have ho := h.ok
  have hb : w'.heap[w.heap.size]? = some (.cells #[.slice ah nh ch, .slice ak nk ck, .slice sa ns cs] 38 (0, 0)) := by
    rw [hg.block _ (by simp; omega) (fun e => by have := ho.lt _ e.symm; omega), Below.heap_alloc _ _ _ hN]
    exact h.blk
  have hsz := hg.size
  simp at hsz
  refine ⟨by rw [set_prim hb]; rfl, ?_, ?_, ?_, ?_, ?_, ?_, ?_, ?_, ?_, ?_⟩
  · exact ownsRow_setCell_far (keep_other (h.oh.alloc _) hg h.dhk) (by simp) _
  · rw [vals_snoc]; exact ownsRow_setCell_far hown (by simp) _
  · exact ownsRow_setCell_far (keep_other (h.os.alloc _) hg (fun g e1 e2 => h.dks g e2 e1)) (by simp) _
  · exact h.lh
  · simp [h.lk]
  · exact h.ls
  · intro g' e1 e2
    have e3 : g = g' := by simpa [Value.ownBlock] using e2
    subst e3
    rcases hl with hl | hl
    · exact h.dhk g e1 hl
    · have := h.oh.lt g e1; omega
  · exact h.dhs
  · intro g' e1 e2
    have e3 : g = g' := by simpa [Value.ownBlock] using e1
    subst e3
    rcases hl with hl | hl
    · exact h.dks g hl e2
    · have := h.os.lt g e2; omega
  · refine Below.setCell (B := w.heap.size) ?_ (Nat.le_refl w.heap.size) _
    refine Below.grown (h.bel.alloc (by omega) _) hg (by simp; omega) ?_
    intro k hk
    have := ho.lt k hk
    omega

theorem CI.pushs {w : World} {hs ks ss : List Nat} {ah : Option Addr} {nh ch : Nat} {ak : Option Addr} {nk ck : Nat} {sa : Option Addr} {ns cs : Nat} {wr w' : World} (h : CI w hs ks ss ah nh ch ak nk ck sa ns cs wr) (r : Nat) (o : Obj) (g cap : Nat)
    (hown : w'.ownsRow (w.heap.size + 1) 3 1 (.slice (some ⟨g, 0, none⟩) (ns + 1) cap) (ns + 1) (vals .i64 ss ++ [.int .i64 (r : Int)])) (hg : (wr.alloc o).grownBy w' (Value.slice sa ns cs).ownBlock)
    (hl : (Value.slice sa ns cs).ownBlock = some g ∨ g = wr.heap.size + 1) :
    CI w hs ks (ss ++ [r]) ah nh ch ak nk ck (some ⟨g, 0, none⟩) (ns + 1) cap (w'.setCell ⟨w.heap.size, 2, none⟩ (.slice (some ⟨g, 0, none⟩) (ns + 1) cap)) := by
  have hN : w.heap.size < wr.heap.size := lt_of_block h.blk
  have ho := h.os
  have hb : w'.heap[w.heap.size]? = some (.cells #[.slice ah nh ch, .slice ak nk ck, .slice sa ns cs] 38 (0, 0)) := by
    rw [hg.block _ (by simp; omega) (fun e => by have := ho.lt _ e.symm; omega), Below.heap_alloc _ _ _ hN]
    exact h.blk
  have hsz := hg.size
  simp at hsz
  refine ⟨by rw [set_prim hb]; rfl, ?_, ?_, ?_, ?_, ?_, ?_, ?_, ?_, ?_, ?_⟩
  · exact ownsRow_setCell_far (keep_other (h.oh.alloc _) hg h.dhs) (by simp) _
  · exact ownsRow_setCell_far (keep_other (h.ok.alloc _) hg h.dks) (by simp) _
  · rw [vals_snoc]; exact ownsRow_setCell_far hown (by simp) _
  · exact h.lh
  · exact h.lk
  · simp [h.ls]
  · exact h.dhk
  · intro g' e1 e2
    have e3 : g = g' := by simpa [Value.ownBlock] using e2
    subst e3
    rcases hl with hl | hl
    · exact h.dhs g e1 hl
    · have := h.oh.lt g e1; omega
  · intro g' e1 e2
    have e3 : g = g' := by simpa [Value.ownBlock] using e2
    subst e3
    rcases hl with hl | hl
    · exact h.dks g e1 hl
    · have := h.ok.lt g e1; omega
  · refine Below.setCell (B := w.heap.size) ?_ (Nat.le_refl w.heap.size) _
    refine Below.grown (h.bel.alloc (by omega) _) hg (by simp; omega) ?_
    intro k hk
    have := ho.lt k hk
    omega


theorem CI.start (w : World) : CI w [] [] [] none 0 0 none 0 0 none 0 0 (w.alloc (.cells #[.slice none 0 0, .slice none 0 0, .slice none 0 0] 38)) :=
  ⟨heap_alloc_new w _, by exact World.ownsRow_nil _ _ _ _, by exact World.ownsRow_nil _ _ _ _, by exact World.ownsRow_nil _ _ _ _, rfl, rfl, rfl, by simp [Value.ownBlock], by simp [Value.ownBlock], by simp [Value.ownBlock], (Below.refl _ _).alloc (Nat.le_refl _) _⟩

theorem grown_of_below {w w' : World} (h : Below w.heap.size w w') (v : Value) (hv : v.ownBlock = none) : w.grownBy w' v.ownBlock := by
  rw [hv]
  exact ⟨h.os, h.tape, h.output, h.size, fun k hk _ => h.block k hk⟩
theorem owns_below {w w' : World} {base : Nat} {e : TypeId} {v : Value} {n : Nat} {xs : List Value} (h : w.ownsRow base e 1 v n xs) (hb : Below w.heap.size w w') : w'.ownsRow base e 1 v n xs := by
  refine h.kept (grown_of_below hb (.slice none 0 0) rfl) ?_
  cases hv : v.ownBlock with
  | none => exact .inl rfl
  | some g => exact .inr (by simp [Value.ownBlock])
theorem CI.below {w : World} {hs ks ss : List Nat} {ah : Option Addr} {nh ch : Nat} {ak : Option Addr} {nk ck : Nat} {sa : Option Addr} {ns cs : Nat} {wr w' : World} (h : CI w hs ks ss ah nh ch ak nk ck sa ns cs wr) (hb : Below wr.heap.size wr w') : CI w hs ks ss ah nh ch ak nk ck sa ns cs w' :=
  ⟨by rw [hb.block _ (lt_of_block h.blk)]; exact h.blk, owns_below h.oh hb, owns_below h.ok hb, owns_below h.os hb, h.lh, h.lk, h.ls, h.dhk, h.dhs, h.dks, h.bel.trans (hb.mono h.bel.size)⟩
theorem CI.c0 {w : World} {hs ks ss : List Nat} {ah : Option Addr} {nh ch : Nat} {ak : Option Addr} {nk ck : Nat} {sa : Option Addr} {ns cs : Nat} {wr : World} (h : CI w hs ks ss ah nh ch ak nk ck sa ns cs wr) : wr.cell? ⟨w.heap.size, 0, none⟩ = some (.slice ah nh ch) := by rw [cell_of_row _ _ _ _ _ _ h.blk]; rfl
theorem CI.c1 {w : World} {hs ks ss : List Nat} {ah : Option Addr} {nh ch : Nat} {ak : Option Addr} {nk ck : Nat} {sa : Option Addr} {ns cs : Nat} {wr : World} (h : CI w hs ks ss ah nh ch ak nk ck sa ns cs wr) : wr.cell? ⟨w.heap.size, 1, none⟩ = some (.slice ak nk ck) := by rw [cell_of_row _ _ _ _ _ _ h.blk]; rfl
theorem CI.c2 {w : World} {hs ks ss : List Nat} {ah : Option Addr} {nh ch : Nat} {ak : Option Addr} {nk ck : Nat} {sa : Option Addr} {ns cs : Nat} {wr : World} (h : CI w hs ks ss ah nh ch ak nk ck sa ns cs wr) : wr.cell? ⟨w.heap.size, 2, none⟩ = some (.slice sa ns cs) := by rw [cell_of_row _ _ _ _ _ _ h.blk]; rfl
theorem CI.lt {w : World} {hs ks ss : List Nat} {ah : Option Addr} {nh ch : Nat} {ak : Option Addr} {nk ck : Nat} {sa : Option Addr} {ns cs : Nat} {wr : World} (h : CI w hs ks ss ah nh ch ak nk ck sa ns cs wr) : w.heap.size < wr.heap.size := lt_of_block h.blk
/-- Behind the append the block of the three slices is as it was. -/
theorem CI.later {w : World} {hs ks ss : List Nat} {ah : Option Addr} {nh ch : Nat} {ak : Option Addr} {nk ck : Nat} {sa : Option Addr} {ns cs : Nat} {wr w' : World} (h : CI w hs ks ss ah nh ch ak nk ck sa ns cs wr) (o : Obj) (v : Value) (hg : (wr.alloc o).grownBy w' v.ownBlock) (hv : ∀ k, v.ownBlock = some k → w.heap.size + 1 ≤ k) (j : Nat) : w'.frozen? ⟨w.heap.size, j, none⟩ = false ∧ w'.cell? ⟨w.heap.size, j, none⟩ = wr.cell? ⟨w.heap.size, j, none⟩ := by
  have hb : w'.heap[w.heap.size]? = some (.cells #[.slice ah nh ch, .slice ak nk ck, .slice sa ns cs] 38 (0, 0)) := by
    rw [hg.block _ (by have := h.lt; simp; omega) (fun e => by have := hv _ e.symm; omega), Below.heap_alloc _ _ _ h.lt]
    exact h.blk
  exact ⟨by simp [World.frozen?, hb], by rw [cell_of_row _ _ _ _ _ _ hb, cell_of_row _ _ _ _ _ _ h.blk]⟩

theorem CI.drewN {w : World} {hs ks ss : List Nat} {ah : Option Addr} {nh ch : Nat} {ak : Option Addr} {nk ck : Nat} {sa : Option Addr} {ns cs : Nat} {wr : World} (h : CI w hs ks ss ah nh ch ak nk ck sa ns cs wr) (q : Nat) : CI w hs ks ss ah nh ch ak nk ck sa ns cs (wr.drewN q) := h.below (below_drewN (Below.refl _ _) q)
theorem own_some {w : World} {base : Nat} {e : TypeId} {a : Option Addr} {n c : Nat} {xs : List Value} (h : w.ownsRow base e 1 (.slice a n c) n xs) (hn : 0 < n) : ∃ g, a = some ⟨g, 0, none⟩ := by
  rcases h.2 with ⟨_, h0⟩ | ⟨g, cap, cur, hv, _⟩
  · omega
  · simp at hv
    exact ⟨g, hv.1⟩
theorem constTo_next (n : Nat) (hn : 2 ≤ n) : constTo (n + 1 - 2) = stepC n (constTo (n - 2)) := by
  obtain ⟨m, rfl⟩ : ∃ m, n = m + 2 := ⟨n - 2, by omega⟩
  rw [show m + 2 + 1 - 2 = m + 1 from by omega, show m + 2 - 2 = m from by omega]
  rfl

set_option maxRecDepth 100000 in
set_option maxHeartbeats 2000000 in
theorem constants_any (w : World) :
    Calls Tryd.prog 5 #[] w fun e w' => e = .returned (.pointer (some ⟨w.heap.size, 0, none⟩)) ∧
      ∃ gh ch gk ck gs cs, CI w hWords kWords (sList 256) (some ⟨gh, 0, none⟩) 8 ch (some ⟨gk, 0, none⟩) 64 ck (some ⟨gs, 0, none⟩) 256 cs w' := by
  obtain ⟨i0, hi, hz0, hz1, hz2⟩ := info_parts info_int
  go_enter Tryd.func5, Tryd.ntmps5
  go_wp2
  go_loopw [2, 3, 4, 5] (fun nv _ _ _ wr => ∃ n : Nat, 2 ≤ n ∧ n ≤ 312 ∧ nv = .int .i64 (n : Int) ∧ ∃ ah nh ch ak nk ck, CI w (constTo (n - 2)).1 (constTo (n - 2)).2 [] ah nh ch ak nk ck none 0 0 wr) (fun n _ _ _ _ => (400 - intOf n).toNat)
  case atStart => exact ⟨2, by omega, by omega, rfl, _, _, _, _, _, _, CI.start w⟩
  case round =>
    obtain ⟨n, hn2, hn, rfl, ah, nh, ch, ak, nk, ck, hci⟩ := hrel
    have c0 := hci.c0
    have c1 := hci.c1
    have hnx := constTo_next n hn2
    have hh8 := constTo_h8 (n - 2)
    by_cases hlt : n < 312
    · have hk64 : nk < 64 := by rw [hci.lk]; exact constTo_lt (n - 2) (by omega)
      have hh9 : nh ≤ 8 := by rw [hci.lh]; exact hh8
      cases hp : primeN n with
      | false =>
        have hst : constTo (n + 1 - 2) = constTo (n - 2) := by rw [hnx, stepC, hp]; rfl
        have HS := hide hst
        have HP := hide hp
        clear hst hnx hh8
        have hpr := fun w => prime_any n w (by omega)
        rw [hp] at hpr
        have HPR := hide hpr
        clear hp hpr
        go_wp2_with (go_at_call 17; refine (HPR.out _).mono ?_; rintro e w' ⟨rfl, rfl⟩)
        go_roundw
        case rel => exact ⟨n + 1, by omega, by omega, by go_num, ah, nh, ch, ak, nk, ck, by rw [HS.out]; exact hci⟩
        case measure => simp [intOf]; omega
      | true =>
        have hpr := fun w => prime_any n w (by omega)
        rw [hp] at hpr
        have HPR := hide hpr
        clear hpr
        by_cases h8 : nh < 8
        · have hst : constTo (n + 1 - 2) = ((constTo (n - 2)).1 ++ [rootN n 2], (constTo (n - 2)).2 ++ [rootN n 3]) := by
            rw [hnx, stepC, hp, if_pos rfl, if_pos (by rw [← hci.lh]; exact h8)]
          have HS := hide hst
          clear hst hnx hh8 hp
          go_wp2_with (go_at_call 17; refine (HPR.out _).mono ?_; rintro e w' ⟨rfl, rfl⟩)
          refine (root2_any n _ (by omega)).mono ?_
          rintro e w1 ⟨rfl, hb1⟩
          obtain ⟨r2, hr2⟩ : ∃ r, rootN n 2 = r := ⟨_, rfl⟩
          have hci1 := hci.below hb1
          rw [hr2]
          rw [hr2] at HS
          clear c0 c1 hci hb1 hr2
          have c0 := hci1.c0
          have c1 := hci1.c1
          go_wp2_with (at_builtin; refine wpList_append_lies _ rfl _ _ 22 rfl (w.heap.size + 1) 3 i0 (.int .i64 0) 1 8 Tryd.underlying22 hi hz0 hz1 hz2 rfl (by decide) _ _ _ rfl (hci1.oh.alloc _) ⟨w1.heap.size, 0, none⟩ 1 1 [.int .i64 r2] rfl rfl ?c1 ?c2 (by decide) ?c3 ?c4 ?c5 _ rfl ?_)
          case c1 =>
            intro j u hj
            match j, hj with
            | 0, hj => simp at hj; subst hj; simp [Addr.add]
          case c2 => intro u hu; simp at hu; subst hu; rfl
          case c3 => unfold maxLen; omega
          case c4 => omega
          case c5 => have := hci1.lt; simp; omega
          intro g cap w2 hown hgrow hlie hg2
          have hN := hci1.pushh r2 _ g cap hown hgrow (by simpa using hlie)
          have hL := hci1.later _ _ hgrow (fun k hk => (hci1.oh.lt k hk).1) 0
          rw [c0] at hL
          obtain ⟨f0, e0⟩ := hL
          clear c0 c1 hown hgrow hlie hci1
          have d1 := hN.c1
          go_wp2_with fail
          refine (root3_any n _ (by omega)).mono ?_
          rintro e w3 ⟨rfl, hb3⟩
          obtain ⟨r3, hr3⟩ : ∃ r, rootN n 3 = r := ⟨_, rfl⟩
          have hci3 := CI.below hN hb3
          rw [hr3]
          rw [hr3] at HS
          clear hN d1 hb3 hr3
          have c1 := hci3.c1
          go_wp2_with (at_builtin; refine wpList_append_lies _ rfl _ _ 22 rfl (w.heap.size + 1) 3 i0 (.int .i64 0) 1 8 Tryd.underlying22 hi hz0 hz1 hz2 rfl (by decide) _ _ _ rfl (hci3.ok.alloc _) ⟨w3.heap.size, 0, none⟩ 1 1 [.int .i64 r3] rfl rfl ?c1a ?c2a (by decide) ?c3a ?c4a ?c5a _ rfl ?_)
          case c1a =>
            intro j u hj
            match j, hj with
            | 0, hj => simp at hj; subst hj; simp [Addr.add]
          case c2a => intro u hu; simp at hu; subst hu; rfl
          case c3a => unfold maxLen; omega
          case c4a => omega
          case c5a => have := hci3.lt; simp; omega
          intro g3 cap3 w4 hown3 hgrow3 hlie3 hg3
          have hN3 := hci3.pushk r3 _ g3 cap3 hown3 hgrow3 (by simpa using hlie3)
          have hL3 := hci3.later _ _ hgrow3 (fun k hk => (hci3.ok.lt k hk).1) 1
          rw [c1] at hL3
          obtain ⟨f1, e1⟩ := hL3
          clear c1 hown3 hgrow3 hlie3 hci3
          go_wp2_with fail
          go_roundw
          case rel => exact ⟨n + 1, by omega, by omega, by go_num, _, _, _, _, _, _, by rw [HS.out]; exact hN3⟩
          case measure => simp [intOf]; omega
        · have hst : constTo (n + 1 - 2) = ((constTo (n - 2)).1, (constTo (n - 2)).2 ++ [rootN n 3]) := by
            rw [hnx, stepC, hp, if_pos rfl, if_neg (by rw [← hci.lh]; exact h8)]
          have HS := hide hst
          clear hst hnx hh8 hp
          go_wp2_with (go_at_call 17; refine (HPR.out _).mono ?_; rintro e w' ⟨rfl, rfl⟩)
          refine (root3_any n _ (by omega)).mono ?_
          rintro e w3 ⟨rfl, hb3⟩
          obtain ⟨r3, hr3⟩ : ∃ r, rootN n 3 = r := ⟨_, rfl⟩
          have hci3 := CI.below hci hb3
          rw [hr3]
          rw [hr3] at HS
          clear hci c0 c1 hb3 hr3
          have c1 := hci3.c1
          go_wp2_with (at_builtin; refine wpList_append_lies _ rfl _ _ 22 rfl (w.heap.size + 1) 3 i0 (.int .i64 0) 1 8 Tryd.underlying22 hi hz0 hz1 hz2 rfl (by decide) _ _ _ rfl (hci3.ok.alloc _) ⟨w3.heap.size, 0, none⟩ 1 1 [.int .i64 r3] rfl rfl ?c1b ?c2b (by decide) ?c3b ?c4b ?c5b _ rfl ?_)
          case c1b =>
            intro j u hj
            match j, hj with
            | 0, hj => simp at hj; subst hj; simp [Addr.add]
          case c2b => intro u hu; simp at hu; subst hu; rfl
          case c3b => unfold maxLen; omega
          case c4b => omega
          case c5b => have := hci3.lt; simp; omega
          intro g3 cap3 w4 hown3 hgrow3 hlie3 hg3
          have hN3 := hci3.pushk r3 _ g3 cap3 hown3 hgrow3 (by simpa using hlie3)
          have hL3 := hci3.later _ _ hgrow3 (fun k hk => (hci3.ok.lt k hk).1) 1
          rw [c1] at hL3
          obtain ⟨f1, e1⟩ := hL3
          clear c1 hown3 hgrow3 hlie3 hci3
          go_wp2_with fail
          go_roundw
          case rel => exact ⟨n + 1, by omega, by omega, by go_num, _, _, _, _, _, _, by rw [HS.out]; exact hN3⟩
          case measure => simp [intOf]; omega
    · have hn3 : n = 312 := by omega
      subst hn3
      have hci0 : CI w hWords kWords [] ah nh ch ak nk ck none 0 0 wr := by
        have := hci
        rw [show (312 - 2) = 310 from rfl, constTo_end] at this
        exact this
      have hk : nk = 64 := hci0.lk
      have hh : nh = 8 := hci0.lh
      subst hk hh
      clear hci hnx hh8 hn2 hn hlt
      go_wp2_with fail
      clear c0 c1
      go_loopw [6, 7, 8, 9, 10] (fun b _ _ _ _ wq => ∃ m : Nat, m ≤ 256 ∧ b = .int .i64 (m : Int) ∧ ∃ sa ns cs, CI w hWords kWords (sList m) ah 8 ch ak 64 ck sa ns cs wq) (fun b _ _ _ _ _ => (300 - intOf b).toNat)
      case atStart => exact ⟨0, by omega, rfl, _, _, _, hci0⟩
      case round =>
        clear hci0
        rename_i wq _
        obtain ⟨m, hm, rfl, sa, ns, cs, hci⟩ := hrel
        by_cases hlt : m < 256
        · have hxl := invN_lt m
          go_wp2_with (go_at_call 19; refine (inverse_any m _ hlt).mono ?_; rintro e w' ⟨rfl, rfl⟩)
          obtain ⟨x, hx⟩ : ∃ x, invN m = x := ⟨_, rfl⟩
          rw [hx] at hxl ⊢
          have HX := hide hx
          clear hx
          go_loopw [8, 9, 10] (fun y i _ wv => ∃ k : Nat, k ≤ 8 ∧ i = .int .i64 (k : Int) ∧ y = .int .i64 ((sTo x k : Nat) : Int) ∧ CI w hWords kWords (sList m) ah 8 ch ak 64 ck sa ns cs wv) (fun _ i _ _ => (9 - intOf i).toNat)
          case atStart => exact ⟨0, by omega, rfl, rfl, hci⟩
          case round =>
            clear hci
            obtain ⟨k, hk, rfl, rfl, hci⟩ := hrel
            by_cases hk8 : k < 8
            · have hro := hide (sh_round k x hxl hk8)
              go_wp2
              go_quiet (fail)
              go_wp2
              go_roundw
              case rel => exact ⟨k + 1, by omega, by go_num, val_int hro.out, hci.drewN _⟩
              case measure => simp [intOf]; omega
            · have hk9 : k = 8 := by omega
              subst hk9
              obtain ⟨y, hy⟩ : ∃ y, sTo x 8 = y := ⟨_, rfl⟩
              have HY := hide hy
              rw [hy]
              clear hy
              have c2 := hci.c2
              have hns : ns = m := by rw [hci.ls, sList_len]
              have hns2 : ns ≤ 255 := by omega
              have HM := hide hns
              clear hns hk hk8
              go_wp2_with (at_builtin; refine wpList_append_lies _ rfl _ _ 22 rfl (w.heap.size + 1) 3 i0 (.int .i64 0) 1 8 Tryd.underlying22 hi hz0 hz1 hz2 rfl (by decide) _ _ _ rfl (hci.os.alloc _) ⟨wr.heap.size, 0, none⟩ 1 1 [.int .i64 y] rfl rfl ?c1s ?c2s (by decide) ?c3s ?c4s ?c5s _ rfl ?_)
              case c1s =>
                intro j u hj
                match j, hj with
                | 0, hj => simp at hj; subst hj; simp [Addr.add]
              case c2s => intro u hu; simp at hu; subst hu; rfl
              case c3s => unfold maxLen; omega
              case c4s => omega
              case c5s => have := hci.lt; simp; omega
              intro g cap w2 hown hgrow hlie hg2
              have hN := hci.pushs y _ g cap hown hgrow (by simpa using hlie)
              have hL := hci.later _ _ hgrow (fun k hk => (hci.os.lt k hk).1) 2
              rw [c2] at hL
              obtain ⟨f0, e0⟩ := hL
              clear c2 hown hgrow hlie hci
              have hsl : sList (m + 1) = sList m ++ [y] := by rw [sList_succ, sboxN, HX.out, HY.out]
              have HSL := hide hsl
              clear hsl
              go_wp2_with fail
              go_roundw
              case rel =>
                (repeat apply Exists.intro)
                exact ⟨⟨m + 1, by omega, by go_num, _, _, _, by rw [HSL.out]; exact hN⟩, rfl⟩
              case measure => simp [intOf]; omega
        · have hm3 : m = 256 := by omega
          subst hm3
          have hns : ns = 256 := by rw [hci.ls, sList_len]
          subst hns
          go_wp2
          go_ret
          obtain ⟨gh, hgh⟩ := own_some hci.oh (by omega)
          obtain ⟨gk, hgk⟩ := own_some hci.ok (by omega)
          obtain ⟨gs, hgs⟩ := own_some hci.os (by omega)
          subst hgh hgk hgs
          exact ⟨rfl, gh, ch, gk, ck, gs, cs, hci⟩
end Go.Proofs.YtjnhlkaafnaooaaDoor
