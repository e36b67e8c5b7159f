import Derived.Test.YtjnhlkaafnaooabGreatDoorHashW
namespace Go.Proofs.YtjnhlkaafnaooabGreatDoor
open Go.RowKit
abbrev strV (l : List UInt8) : Value := .string ⟨l.toArray⟩
/-- All is as it was, but for these blocks (and what is new). -/
structure Kp (S : List Nat) (w w' : World) : Prop where
  os : w'.os = w.os
  tape : w'.tape = w.tape
  output : w'.output = w.output
  size : w.heap.size ≤ w'.heap.size
  block : ∀ k, k < w.heap.size → k ∉ S → w'.heap[k]? = w.heap[k]?
theorem Kp.refl (S : List Nat) (w : World) : Kp S w w := ⟨rfl, rfl, rfl, Nat.le_refl _, fun _ _ _ => rfl⟩
theorem Kp.trans {S : List Nat} {x y z : World} (h : Kp S x y) (k : Kp S y z) : Kp S x z :=
  ⟨k.os.trans h.os, k.tape.trans h.tape, k.output.trans h.output, Nat.le_trans h.size k.size, fun j hj hn => (k.block j (Nat.lt_of_lt_of_le hj h.size) hn).trans (h.block j hj hn)⟩
theorem Kp.mono {S T : List Nat} {x y : World} (h : Kp S x y) (hs : ∀ k, k ∈ S → k ∈ T) : Kp T x y := ⟨h.os, h.tape, h.output, h.size, fun j hj hn => h.block j hj fun e => hn (hs j e)⟩
/-- What the later step touched is new, or is named. -/
theorem Kp.step {S T : List Nat} {x y z : World} (h : Kp S x y) (k : Kp T y z) (hs : ∀ j, j ∈ T → j ∈ S ∨ x.heap.size ≤ j) : Kp S x z :=
  ⟨k.os.trans h.os, k.tape.trans h.tape, k.output.trans h.output, Nat.le_trans h.size k.size, fun j hj hn => (k.block j (Nat.lt_of_lt_of_le hj h.size) (fun e => (hs j e).elim hn (fun g => by omega))).trans (h.block j hj hn)⟩
theorem Kp.of_below {S : List Nat} {x y : World} (h : Below x.heap.size x y) : Kp S x y := ⟨h.os, h.tape, h.output, h.size, fun k hk _ => h.block k hk⟩
theorem Kp.drew {S : List Nat} {x y : World} (h : Kp S x y) : Kp S x y.drew := ⟨h.os, h.tape, h.output, h.size, h.block⟩
theorem Kp.drewN {S : List Nat} {x y : World} (h : Kp S x y) (n : Nat) : Kp S x (y.drewN n) := ⟨h.os, h.tape, h.output, h.size, h.block⟩
theorem Kp.alloc {S : List Nat} {x y : World} (h : Kp S x y) (o : Obj) : Kp S x (y.alloc o) := h.trans (Kp.of_below ((Below.refl _ _).alloc (Nat.le_refl _) o))
theorem Kp.setCell {S : List Nat} {x y : World} (h : Kp S x y) (b o : Nat) (v : Value) (hb : b ∈ S ∨ x.heap.size ≤ b) : Kp S x (y.setCell ⟨b, o, none⟩ v) :=
  ⟨h.os, h.tape, h.output, by simpa [World.setCell] using h.size, fun k hk hn => (Below.heap_setCell y ⟨b, o, none⟩ v k (by rintro rfl; exact hb.elim (fun g => hn g) (fun g => by omega))).trans (h.block k hk hn)⟩
theorem Kp.setCells {S : List Nat} {x y : World} (h : Kp S x y) (b o : Nat) (vs : List Value) (hb : b ∈ S ∨ x.heap.size ≤ b) : Kp S x (y.setCells b o vs) := by
  obtain ⟨h1, h2, h3, h4, h5⟩ := setCells_block b vs o y
  exact ⟨h2.trans h.os, h3.trans h.tape, h4.trans h.output, by rw [h1]; exact h.size, fun k hk hn => (h5 k (by rintro rfl; exact hb.elim (fun g => hn g) (fun g => by omega))).trans (h.block k hk hn)⟩
theorem Kp.grown {S : List Nat} {x y z : World} {row : Option Nat} (h : Kp S x y) (hg : y.grownBy z row) (hr : ∀ k, row = some k → k ∈ S ∨ x.heap.size ≤ k) : Kp S x z :=
  ⟨hg.os.trans h.os, hg.tape.trans h.tape, hg.output.trans h.output, Nat.le_trans h.size hg.size, fun k hk hn => (hg.block k (Nat.lt_of_lt_of_le hk h.size) (fun e => (hr k e.symm).elim hn (fun g => by omega))).trans (h.block k hk hn)⟩
theorem Kp.cells {S : List Nat} {g : Nat} {x y : World} {k : IntKind} {xs : List Nat} (h : Kp S x y) (hc : Cells x g k xs) (hg : g ∉ S) : Cells y g k xs :=
  ⟨Nat.lt_of_lt_of_le hc.lt h.size, fun i hi => (World.cell?_of_block (w := x) (h.block g hc.lt hg) (a := ⟨g, i, none⟩)).trans (hc.at_ i hi)⟩
/-- A row of texts, of which the first are told. -/
structure Strs (w : World) (b cap : Nat) (xs : List (List UInt8)) : Prop where
  ex : ∃ c : Array Value, w.heap[b]? = some (.cells c 9 (0, 0)) ∧ c.size = cap ∧ ∀ i, i < xs.length → c[i]? = some (strV (xs.getD i []))
  le : xs.length ≤ cap
theorem Strs.lt {w : World} {b cap : Nat} {xs : List (List UInt8)} (h : Strs w b cap xs) : b < w.heap.size := by
  obtain ⟨c, hc, _⟩ := h.ex
  exact lt_of_block hc
theorem Strs.cell {w : World} {b cap : Nat} {xs : List (List UInt8)} (h : Strs w b cap xs) {i : Nat} (hi : i < xs.length) : w.cell? ⟨b, i, none⟩ = some (strV (xs.getD i [])) := by
  obtain ⟨c, hc, _, h3⟩ := h.ex
  rw [cell_of_row _ _ _ _ _ _ hc]
  exact h3 i hi
theorem Strs.frozen {w : World} {b cap : Nat} {xs : List (List UInt8)} (h : Strs w b cap xs) (i : Nat) : w.frozen? ⟨b, i, none⟩ = false := by
  obtain ⟨c, hc, _, h3⟩ := h.ex
  simp [World.frozen?, hc]
theorem Strs.of_block {w w' : World} {b cap : Nat} {xs : List (List UInt8)} (h : Strs w b cap xs) (e : w'.heap[b]? = w.heap[b]?) : Strs w' b cap xs := by
  obtain ⟨c, hc, h2, h3⟩ := h.ex
  exact ⟨⟨c, e.trans hc, h2, h3⟩, h.le⟩
theorem Strs.kp {S : List Nat} {w w' : World} {b cap : Nat} {xs : List (List UInt8)} (h : Strs w b cap xs) (k : Kp S w w') (hb : b ∉ S) : Strs w' b cap xs := h.of_block (k.block b h.lt hb)
theorem Strs.set {w : World} {b cap : Nat} {xs : List (List UInt8)} (h : Strs w b cap xs) (i : Nat) (y : List UInt8) : Strs (w.setCell ⟨b, i, none⟩ (strV y)) b cap (xs.set i y) := by
  obtain ⟨c, hc, h2, h3⟩ := h.ex
  refine ⟨⟨c.setIfInBounds i (strV y), set_prim hc i (strV y), by simpa using h2, fun j hj => ?_⟩, by simpa using h.le⟩
  have hj' : j < xs.length := by simpa using hj
  have hjc : j < c.size := by have := h.le; omega
  by_cases e : i = j
  · subst e
    simp [hjc, hj']
  · rw [Array.getElem?_setIfInBounds_ne e, h3 j hj']
    simp [e]
theorem Strs.of_own {w : World} {base g cap n : Nat} {xs : List (List UInt8)} (h : w.ownsRow base 9 1 (.slice (some ⟨g, 0, none⟩) n cap) n (xs.map strV)) : Strs w g cap xs := by
  obtain ⟨h1, h2⟩ := h
  have hl : xs.length = n := by simpa using h1
  rcases h2 with ⟨hv, _⟩ | ⟨g', cap', cur, hv, _, hb, hle, _, hsz, htk⟩
  · cases hv
  · cases hv
    refine ⟨⟨cur, hb, by omega, fun i hi => ?_⟩, by omega⟩
    have e : (cur.toList.take (n * 1))[i]? = (xs.map strV)[i]? := by rw [htk]
    rw [List.getElem?_take_of_lt (by omega)] at e
    simpa [List.getElem?_eq_getElem hi] using e
theorem owns_kp {w w' : World} {S : List Nat} {base n size : Nat} {e : TypeId} {v : Value} {xs : List Value} (h : w.ownsRow base e size v n xs) (k : Kp S w w') (hs : ∀ j, v.ownBlock = some j → j ∉ S) : w'.ownsRow base e size v n xs := by
  obtain ⟨h1, h2⟩ := h
  refine ⟨h1, ?_⟩
  rcases h2 with h2 | ⟨g, cap, cur, hv, hb, hg, rest⟩
  · exact .inl h2
  · exact .inr ⟨g, cap, cur, hv, hb, (k.block g (lt_of_block hg) (hs _ (by rw [hv]; rfl))).trans hg, rest⟩
theorem owns_lt {w : World} {base n size : Nat} {e : TypeId} {v : Value} {xs : List Value} (h : w.ownsRow base e size v n xs) (j : Nat) (hj : v.ownBlock = some j) : j < w.heap.size := by
  rcases h.2 with ⟨hv, _⟩ | ⟨g, cap, cur, hv, hb, hg, rest⟩
  · rw [hv] at hj; cases hj
  · rw [hv] at hj; cases hj; exact lt_of_block hg
theorem set_far {w : World} {b : Nat} {c : Array Value} {t : TypeId} {fz : Nat × Nat} (h : w.heap[b]? = some (.cells c t fz)) (a : Addr) (v : Value) (ha : b ≠ a.block) : (w.setCell a v).heap[b]? = some (.cells c t fz) := (Below.heap_setCell w a v b ha).trans h
end Go.Proofs.YtjnhlkaafnaooabGreatDoor

namespace Go.Proofs.YtjnhlkaafnaooabGreatDoor
open Go.RowKit
set_option maxHeartbeats 400000 in
theorem works_any (d : Nat) (w : World) (h5 : w.cell? ⟨d, 5, none⟩ = some (.int .i64 (-1))) :
    Calls Tryz.prog 52 #[.pointer (some ⟨d, 0, none⟩)] w fun e w' => e = .returned (.bool true) ∧ w' = w := by
  go_enter Tryz.func52, Tryz.ntmps52
  go_wp2_with fail
  go_ret
  exact ⟨rfl, rfl⟩
set_option maxHeartbeats 400000 in
theorem ceiling_any (d : Nat) (w : World) (c : Nat) (h3 : w.cell? ⟨d, 3, none⟩ = some (.int .i64 c)) :
    Calls Tryz.prog 27 #[.pointer (some ⟨d, 0, none⟩)] w fun e w' => e = .returned (.int .i64 c) ∧ w' = w := by
  go_enter Tryz.func27, Tryz.ntmps27
  go_wp2_with fail
  go_ret
  exact ⟨rfl, rfl⟩
set_option maxHeartbeats 400000 in
theorem blocks_any (d bb cb n : Nat) (w : World) (h0 : w.cell? ⟨d, 0, none⟩ = some (.slice (some ⟨bb, 0, none⟩) n cb)) :
    Calls Tryz.prog 85 #[.pointer (some ⟨d, 0, none⟩)] w fun e w' => e = .returned (.int .i64 n) ∧ w' = w := by
  go_enter Tryz.func85, Tryz.ntmps85
  go_wp2_with fail
  go_ret
  exact ⟨rfl, rfl⟩
set_option maxHeartbeats 400000 in
theorem count_any (d : Nat) (w : World) (c : Nat) (h2 : w.cell? ⟨d, 2, none⟩ = some (.int .i64 c)) (h5 : w.cell? ⟨d, 5, none⟩ = some (.int .i64 (-1))) :
    Calls Tryz.prog 51 #[.pointer (some ⟨d, 0, none⟩)] w fun e w' => e = .returned (.tuple #[.int .i64 c, .bool true]) ∧ w' = w := by
  have HW := hide (works_any d w h5)
  go_enter Tryz.func51, Tryz.ntmps51
  go_wp2_with fail
  refine HW.out.mono ?_
  rintro e w' ⟨rfl, rfl⟩
  go_wp2_with fail
  go_ret2
  exact ⟨rfl, rfl⟩
set_option maxHeartbeats 400000 in
theorem bump_any (d : Nat) (w : World) (c m : Nat) (h2 : w.cell? ⟨d, 2, none⟩ = some (.int .i64 c)) (h3 : w.cell? ⟨d, 3, none⟩ = some (.int .i64 m)) (h5 : w.cell? ⟨d, 5, none⟩ = some (.int .i64 (-1))) (hf : w.frozen? ⟨d, 2, none⟩ = false) (hc : c < m) (hm : m ≤ 1048576) :
    Calls Tryz.prog 99 #[.pointer (some ⟨d, 0, none⟩)] w fun e w' => e = .returned (.bool true) ∧ ∃ n, w' = (w.drewN n).setCell ⟨d, 2, none⟩ (.int .i64 (c + 1 : Nat)) := by
  have HW := hide (works_any d w h5)
  have hci : (c : Int) < (m : Int) := by omega
  have hmi : (m : Int) ≤ 1048576 := by omega
  clear hc hm
  go_enter Tryz.func99, Tryz.ntmps99
  go_wp2_with fail
  refine HW.out.mono ?_
  rintro e w' ⟨rfl, rfl⟩
  go_wp2_with fail
  go_region
  go_wp2_with fail
  go_ret
  exact ⟨rfl, 1, rfl⟩
/-- Where a disk lies. -/
structure DX where
  d : Nat
  bb : Nat
  cb : Nat
  bc : Nat
  cc : Nat
/-- A disk all of whose operations work, and for which no salt was laid. -/
structure DM where
  blocks : List (List UInt8)
  cache : List (List UInt8)
  count : Nat
  ceiling : Nat
  wrote : List (Nat × List UInt8)
def wcells (l : List (Nat × List UInt8)) : List Value := l.flatMap fun p => [.int .i64 (p.1 : Int), strV p.2]
theorem wcells_len (l : List (Nat × List UInt8)) : (wcells l).length = l.length * 2 := by
  induction l with
  | nil => rfl
  | cons a l ih => simp only [wcells, List.flatMap_cons, List.length_append, List.length_cons, List.length_nil] at ih ⊢; omega
theorem wcells_snoc (l : List (Nat × List UInt8)) (k : Nat) (t : List UInt8) : wcells (l ++ [(k, t)]) = wcells l ++ [.int .i64 (k : Int), strV t] := by simp [wcells]
def DM.look (m : DM) (k : Nat) : List UInt8 := if m.cache.getD k [] = [] then m.blocks.getD k [] else m.cache.getD k []
structure DiskAt (w : World) (x : DX) (m : DM) (wv : Value) : Prop where
  blk : w.heap[x.d]? = some (.cells #[.slice (some ⟨x.bb, 0, none⟩) m.blocks.length x.cb, .slice (some ⟨x.bc, 0, none⟩) m.blocks.length x.cc, .int .i64 m.count, .int .i64 m.ceiling, .slice none 0 0, .int .i64 (-1), wv] 41 (0, 0))
  rb : Strs w x.bb x.cb m.blocks
  rc : Strs w x.bc x.cc m.cache
  own : w.ownsRow 0 43 2 wv m.wrote.length (wcells m.wrote)
  same : m.cache.length = m.blocks.length
  ge : 3 ≤ m.blocks.length
  le : m.blocks.length ≤ 48
  cl : m.ceiling ≤ 1048576
  n1 : x.d ≠ x.bb
  n2 : x.d ≠ x.bc
  n3 : x.bb ≠ x.bc
  n4 : ∀ k, wv.ownBlock = some k → k ≠ x.d ∧ k ≠ x.bb ∧ k ≠ x.bc
  wl : m.wrote.length ≤ 100000
/-- The blocks that a disk has. -/
def DX.set (x : DX) (wv : Value) : List Nat := [x.d, x.bb, x.bc] ++ wv.ownBlock.toList
theorem DiskAt.lt {w : World} {x : DX} {m : DM} {wv : Value} (h : DiskAt w x m wv) : x.d < w.heap.size := lt_of_block h.blk
theorem DiskAt.fr {w : World} {x : DX} {m : DM} {wv : Value} (h : DiskAt w x m wv) (i : Nat) : w.frozen? ⟨x.d, i, none⟩ = false := by simp [World.frozen?, h.blk]
section
variable {w : World} {x : DX} {m : DM} {wv : Value}
theorem DiskAt.c0 (h : DiskAt w x m wv) : w.cell? ⟨x.d, 0, none⟩ = some (.slice (some ⟨x.bb, 0, none⟩) m.blocks.length x.cb) := by rw [cell_of_row _ _ _ _ _ _ h.blk]; rfl
theorem DiskAt.c1 (h : DiskAt w x m wv) : w.cell? ⟨x.d, 1, none⟩ = some (.slice (some ⟨x.bc, 0, none⟩) m.blocks.length x.cc) := by rw [cell_of_row _ _ _ _ _ _ h.blk]; rfl
theorem DiskAt.c2 (h : DiskAt w x m wv) : w.cell? ⟨x.d, 2, none⟩ = some (.int .i64 m.count) := by rw [cell_of_row _ _ _ _ _ _ h.blk]; rfl
theorem DiskAt.c3 (h : DiskAt w x m wv) : w.cell? ⟨x.d, 3, none⟩ = some (.int .i64 m.ceiling) := by rw [cell_of_row _ _ _ _ _ _ h.blk]; rfl
theorem DiskAt.c4 (h : DiskAt w x m wv) : w.cell? ⟨x.d, 4, none⟩ = some (.slice none 0 0) := by rw [cell_of_row _ _ _ _ _ _ h.blk]; rfl
theorem DiskAt.c5 (h : DiskAt w x m wv) : w.cell? ⟨x.d, 5, none⟩ = some (.int .i64 (-1)) := by rw [cell_of_row _ _ _ _ _ _ h.blk]; rfl
theorem DiskAt.c6 (h : DiskAt w x m wv) : w.cell? ⟨x.d, 6, none⟩ = some wv := by rw [cell_of_row _ _ _ _ _ _ h.blk]; rfl
theorem DiskAt.kp {S : List Nat} {w' : World} (h : DiskAt w x m wv) (k : Kp S w w') (hs : ∀ j, j ∈ x.set wv → j ∉ S) : DiskAt w' x m wv := by
  refine ⟨(k.block _ h.lt (hs _ (by simp [DX.set]))).trans h.blk, h.rb.kp k (hs _ (by simp [DX.set])), h.rc.kp k (hs _ (by simp [DX.set])), ?_, h.same, h.ge, h.le, h.cl, h.n1, h.n2, h.n3, h.n4, h.wl⟩
  exact owns_kp h.own k (fun j hj => hs j (by simp [DX.set, hj]))
end
set_option maxHeartbeats 400000 in
theorem look_any (x : DX) (m : DM) (wv : Value) (k : Nat) (w : World) (h : DiskAt w x m wv) (hk : k < m.blocks.length) :
    Calls Tryz.prog 88 #[.pointer (some ⟨x.d, 0, none⟩), .int .i64 k] w fun e w' => e = .returned (strV (m.look k)) ∧ w' = w := by
  have c0 := h.c0
  have c1 := h.c1
  have hb := h.rb.cell hk
  have hc := h.rc.cell (i := k) (by rw [h.same]; exact hk)
  have hki : (k : Int) < (m.blocks.length : Int) := by omega
  obtain ⟨L, hL⟩ : ∃ L, m.look k = L := ⟨_, rfl⟩
  rw [hL]
  unfold DM.look at hL
  clear h hk
  generalize m.blocks.length = n at *
  generalize m.cache.getD k [] = C at *
  generalize m.blocks.getD k [] = B at *
  by_cases hC : C = []
  · rw [if_pos hC] at hL
    subst hC
    subst hL
    go_enter Tryz.func88, Tryz.ntmps88
    go_wp2_with fail
    go_ret
    exact ⟨rfl, rfl⟩
  · rw [if_neg hC] at hL
    subst hL
    have hne : C.isEmpty = false := by simpa using hC
    clear hC
    go_enter Tryz.func88, Tryz.ntmps88
    go_wp2_with fail
    go_ret
    exact ⟨rfl, rfl⟩
set_option maxHeartbeats 400000 in
theorem read_any (x : DX) (m : DM) (wv : Value) (k : Nat) (w : World) (h : DiskAt w x m wv) (hk : k < m.blocks.length) :
    Calls Tryz.prog 67 #[.pointer (some ⟨x.d, 0, none⟩), .int .i64 k] w fun e w' => e = .returned (.tuple #[strV (m.look k), .bool true]) ∧ w' = w := by
  have HW := hide (works_any x.d w h.c5)
  have HL := hide (look_any x m wv k w h hk)
  clear h hk
  go_enter Tryz.func67, Tryz.ntmps67
  go_wp2_with fail
  refine HW.out.mono ?_
  rintro e w' ⟨rfl, rfl⟩
  go_wp2_with fail
  refine HL.out.mono ?_
  rintro e w' ⟨rfl, rfl⟩
  go_wp2_with fail
  go_ret2
  exact ⟨rfl, rfl⟩
set_option maxRecDepth 100000 in
set_option maxHeartbeats 400000 in
theorem draw_any (x : DX) (m : DM) (wv : Value) (w : World) (h : DiskAt w x m wv) :
    Calls Tryz.prog 28 #[.pointer (some ⟨x.d, 0, none⟩)] w fun e w' => e = .returned (.tuple #[strV (List.replicate 16 0), .bool true]) ∧ Below w.heap.size w w' := by
  have HW := hide (works_any x.d w h.c5)
  have c4 := h.c4
  have hmk : ∀ w, (Instr.makeSlice 52 (.int .i64 16) (.int .i64 16)).run Tryz.prog w = .ok (.slice (some ⟨w.heap.size, 0, none⟩) 16 16) (w.alloc (.cells (madeCells #[.int .u8 0] 16) 5)) := make_u8 16 (by decide)
  have hcv := conv_row (cap := 16) (Row.made w 5 .u8 16)
  rw [List.length_replicate, List.map_replicate] at hcv
  clear h
  go_enter Tryz.func28, Tryz.ntmps28
  go_wp2_with fail
  refine HW.out.mono ?_
  rintro e w' ⟨rfl, rfl⟩
  go_wp2_with fail
  go_ret2
  exact ⟨rfl, (Below.refl _ _).alloc (Nat.le_refl _) _⟩
theorem info_written : (Tryz.prog.info? 43).map (fun i => (i.zero, i.size, i.bytes)) = some (some (.agg #[.int .i64 0, .string ⟨#[]⟩]), 2, 24) := by kernel_rfl
def DM.write (m : DM) (k : Nat) (t : List UInt8) : DM := { m with cache := m.cache.set k t, wrote := m.wrote ++ [(k, t)] }
set_option maxHeartbeats 1000000 in
theorem write_disk (x : DX) (m : DM) (wv : Value) (k : Nat) (t : List UInt8) (w : World) (h : DiskAt w x m wv) (hk : k < m.blocks.length) (hl : m.wrote.length < 100000) :
    Calls Tryz.prog 98 #[.pointer (some ⟨x.d, 0, none⟩), .int .i64 k, .string ⟨t.toArray⟩] w fun e w' => e = .returned (.bool true) ∧ Kp (x.set wv) w w' ∧ ∃ wv', DiskAt w' x (m.write k t) wv' ∧ ∀ j, wv'.ownBlock = some j → wv.ownBlock = some j ∨ w.heap.size ≤ j := by
  have HW := hide (works_any x.d w h.c5)
  obtain ⟨i0, hi, hz0, hz1, hz2⟩ := info_parts info_written
  have c1 := h.c1
  have hc := h.rc.cell (i := k) (by rw [h.same]; exact hk)
  have hcf := h.rc.frozen k
  have hki : (k : Int) < (m.blocks.length : Int) := by omega
  have hrc := h.rc.set k t
  have hsz : (w.setCell ⟨x.bc, k, none⟩ (strV t)).heap.size = w.heap.size := by simp [World.setCell]
  have hkp1 : Kp [x.bc] w (w.setCell ⟨x.bc, k, none⟩ (strV t)) := (Kp.refl _ w).setCell x.bc k _ (.inl (by simp))
  have hblk1 := (hkp1.block x.d h.lt (by simpa using h.n2)).trans h.blk
  have h6 : (w.setCell ⟨x.bc, k, none⟩ (strV t)).cell? ⟨x.d, 6, none⟩ = some wv := by rw [cell_of_row _ _ _ _ _ _ hblk1]; rfl
  have HOWN := hide h.own
  have HH := hide h
  have HR := hide hrc
  have HS := hide (And.intro hsz (And.intro hkp1 hblk1))
  clear h hrc hsz hkp1 hblk1 hk
  generalize hn : m.blocks.length = n at *
  go_enter Tryz.func98, Tryz.ntmps98
  go_wp2_with fail
  refine HW.out.mono ?_
  rintro e w' ⟨rfl, rfl⟩
  go_wp2_with (at_builtin; refine wpList_append_lies _ rfl _ _ 33 rfl 0 43 i0 _ 2 24 Tryz.underlying33 hi hz0 hz1 hz2 rfl (by decide) wv m.wrote.length (wcells m.wrote) rfl ?own ⟨w'.heap.size, 0, none⟩ 1 1 [.int .i64 (k : Int), strV t] rfl rfl ?c1 ?c2 (by decide) ?c3 ?c4 (Nat.zero_le _) _ rfl ?_)
  case own => exact owns_kp HOWN.out (HS.out.2.1.alloc _) (fun j hj => by have := (HH.out.n4 j hj).2.2; simpa using this)
  case c1 => exact World.news_of_block (cs := #[.int .i64 (k : Int), strV t]) (by rw [← HS.out.1]; exact heap_alloc_new _ _)
  case c2 => intro u hu; simp at hu; rcases hu with rfl | rfl <;> rfl
  case c3 => unfold maxLen; omega
  case c4 => omega
  intro g cap w3 hown3 hgrow hg hlt3
  have hd : x.d < w'.heap.size := HH.out.lt
  have hwl : ∀ j, wv.ownBlock = some j → j < w'.heap.size := fun j hj => owns_lt HOWN.out j hj
  have hn4 := HH.out.n4
  have hkp2 : Kp ([x.bc] ++ wv.ownBlock.toList) w' w3 := ((HS.out.2.1.alloc _).mono (fun j hj => by simp at hj; simp [hj])).grown hgrow (fun j hj => .inl (by simp [hj]))
  have hszW : ((w'.setCell ⟨x.bc, k, none⟩ (.string ⟨t.toArray⟩)).alloc (.cells #[.int .i64 (k : Int), .string ⟨t.toArray⟩] 43)).heap.size = w'.heap.size + 1 := by simp [World.setCell]
  have hb3 : w3.heap[x.d]? = some (.cells #[.slice (some ⟨x.bb, 0, none⟩) n x.cb, .slice (some ⟨x.bc, 0, none⟩) n x.cc, .int .i64 m.count, .int .i64 m.ceiling, .slice none 0 0, .int .i64 (-1), wv] 41 (0, 0)) :=
    (hgrow.block x.d (by rw [hszW]; omega) (fun e => (hn4 _ e.symm).1 rfl)).trans ((((Kp.refl [] _).alloc _).block x.d (by rw [HS.out.1]; exact hd) (by simp)).trans HS.out.2.2)
  have c63 : w3.cell? ⟨x.d, 6, none⟩ = some wv := by rw [cell_of_row _ _ _ _ _ _ hb3]; rfl
  have f63 : w3.frozen? ⟨x.d, 6, none⟩ = false := by simp [World.frozen?, hb3]
  have hrc3 : Strs w3 x.bc x.cc (m.cache.set k t) := HR.out.of_block ((hgrow.block x.bc (by rw [hszW]; have := HH.out.rc.lt; omega) (fun e => (hn4 _ e.symm).2.2 rfl)).trans (((Kp.refl [] _).alloc _).block x.bc (by rw [HS.out.1]; exact HH.out.rc.lt) (by simp)))
  have hrb3 : Strs w3 x.bb x.cb m.blocks := HH.out.rb.kp hkp2 (by
    intro e
    simp only [List.mem_append, List.mem_singleton, Option.mem_toList] at e
    rcases e with e | e
    · exact HH.out.n3 e
    · exact (hn4 _ e).2.1 rfl)
  have HF := hide (And.intro hown3 (And.intro hkp2 (And.intro hb3 (And.intro hg (And.intro hszW (And.intro hrc3 hrb3))))))
  clear hown3 hgrow hkp2 hb3 hszW hg hlt3 hrc3 hrb3
  go_wp2_with fail
  go_ret
  obtain ⟨hown3, hkp2, hb3, hg, hszW, hrc3, hrb3⟩ := HF.out
  have hgd : g ≠ x.d ∧ g ≠ x.bb ∧ g ≠ x.bc := by
    rcases hg with hg | hg
    · exact hn4 g hg
    · have h1 := HH.out.rb.lt
      have h2 := HH.out.rc.lt
      omega
  refine ⟨rfl, (hkp2.mono (fun j hj => ?_)).setCell x.d 6 _ (.inl (by simp [DX.set])), .slice (some ⟨g, 0, none⟩) (m.wrote.length + 1) cap, ⟨?_, ?_, ?_, ?_, ?_, ?_, ?_, HH.out.cl, HH.out.n1, HH.out.n2, HH.out.n3, ?_, ?_⟩, ?_⟩
  · simp only [List.mem_append, List.mem_singleton] at hj
    simp only [DX.set, List.mem_append, List.mem_cons]
    rcases hj with e | e
    · exact .inl (.inr (.inr (.inl e)))
    · exact .inr e
  · have e := set_prim hb3 6 (.slice (some ⟨g, 0, none⟩) (m.wrote.length + 1) cap)
    rw [e]
    simp [DM.write, hn]
  · exact hrb3.of_block (Below.heap_setCell w3 ⟨x.d, 6, none⟩ _ x.bb (Ne.symm HH.out.n1))
  · exact hrc3.of_block (Below.heap_setCell w3 ⟨x.d, 6, none⟩ _ x.bc (Ne.symm HH.out.n2))
  · have e1 : (m.write k t).wrote = m.wrote ++ [(k, t)] := rfl
    rw [e1, wcells_snoc, List.length_append]
    exact owns_kp hown3 ((Kp.refl [x.d] w3).setCell x.d 6 _ (.inl (by simp))) (fun j hj => by
      have : g = j := by simpa [Value.ownBlock] using hj
      subst this
      simpa using hgd.1)
  · simpa [DM.write] using HH.out.same
  · exact HH.out.ge
  · exact HH.out.le
  · intro j hj
    have : g = j := by simpa [Value.ownBlock] using hj
    subst this
    exact hgd
  · simp [DM.write]; omega
  · intro j hj
    have : g = j := by simpa [Value.ownBlock] using hj
    subst this
    rcases hg with hg | hg
    · exact .inl hg
    · right; omega
end Go.Proofs.YtjnhlkaafnaooabGreatDoor

namespace Go.Proofs.YtjnhlkaafnaooabGreatDoor
open Go.RowKit
def DM.flushTo (m : DM) (j : Nat) : DM := { m with blocks := (List.range m.blocks.length).map (fun i => if i < j then m.look i else m.blocks.getD i []), cache := (List.range m.blocks.length).map (fun i => if i < j then [] else m.cache.getD i []) }
def DM.flush (m : DM) : DM := { m with blocks := (List.range m.blocks.length).map m.look, cache := List.replicate m.blocks.length [] }
theorem DM.flushTo_zero (m : DM) (h : m.cache.length = m.blocks.length) : m.flushTo 0 = m := by
  cases m with | mk b c n cl wr =>
  simp only [DM.flushTo, DM.mk.injEq, and_true, Nat.not_lt_zero, if_false]
  constructor
  · apply List.ext_getElem
    · simp
    · intro i h1 h2; simp [h2]
  · apply List.ext_getElem
    · simp; exact h.symm
    · intro i h1 h2; simp [h2]
theorem DM.flushTo_all (m : DM) : m.flushTo m.blocks.length = m.flush := by
  simp only [DM.flushTo, DM.flush, DM.mk.injEq, and_true]
  constructor
  · apply List.map_congr_left
    intro i hi
    rw [if_pos (List.mem_range.1 hi)]
  · apply List.ext_getElem
    · simp
    · intro i h1 h2
      simp at h1 h2
      simp [h2]
theorem range_set {α : Type} (f : Nat → α) (n k : Nat) (y : α) : ((List.range n).map f).set k y = (List.range n).map (fun i => if i = k then y else f i) := by
  apply List.ext_getElem
  · simp
  · intro i h1 h2
    simp only [List.getElem_set, List.getElem_map, List.getElem_range]
    by_cases e : k = i
    · subst e; simp
    · simp [e, Ne.symm e]
theorem DM.flushTo_blocks (m : DM) (j : Nat) : (m.flushTo j).blocks.set j (m.look j) = (m.flushTo (j + 1)).blocks := by
  simp only [DM.flushTo]
  rw [range_set]
  apply List.map_congr_left
  intro i _
  by_cases e : i = j
  · subst e; simp
  · simp only [e, if_false]
    by_cases h : i < j
    · rw [if_pos h, if_pos (by omega)]
    · rw [if_neg h, if_neg (by omega)]
theorem DM.flushTo_cache (m : DM) (j : Nat) : (m.flushTo j).cache.set j [] = (m.flushTo (j + 1)).cache := by
  simp only [DM.flushTo]
  rw [range_set]
  apply List.map_congr_left
  intro i _
  by_cases e : i = j
  · subst e; simp
  · simp only [e, if_false]
    by_cases h : i < j
    · rw [if_pos h, if_pos (by omega)]
    · rw [if_neg h, if_neg (by omega)]
theorem DM.flushTo_len (m : DM) (j : Nat) : (m.flushTo j).blocks.length = m.blocks.length := by simp [DM.flushTo]
theorem DM.flushTo_c (m : DM) (j : Nat) (hj : j < m.blocks.length) : (m.flushTo j).cache.getD j [] = m.cache.getD j [] := by
  simp [DM.flushTo, hj]
theorem DM.flushTo_b (m : DM) (j : Nat) (hj : j < m.blocks.length) : (m.flushTo j).blocks.getD j [] = m.blocks.getD j [] := by
  simp [DM.flushTo, hj]
theorem DM.flushTo_skip (m : DM) (j : Nat) (hj : j < m.blocks.length) (hc : m.cache.getD j [] = []) : m.flushTo (j + 1) = m.flushTo j := by
  have hb := m.flushTo_blocks j
  have hc' := m.flushTo_cache j
  have e1 : m.look j = (m.flushTo j).blocks.getD j [] := by rw [m.flushTo_b j hj]; simp only [DM.look, hc, if_true]
  have e2 : [] = (m.flushTo j).cache.getD j [] := by rw [m.flushTo_c j hj, hc]
  have l1 : j < (m.flushTo j).blocks.length := by rw [m.flushTo_len]; exact hj
  have l2 : j < (m.flushTo j).cache.length := by simp [DM.flushTo]; exact hj
  rw [e1] at hb
  rw [e2] at hc'
  simp only [List.getD_eq_getElem?_getD, List.getElem?_eq_getElem l1, Option.getD_some, List.set_getElem_self] at hb
  simp only [List.getD_eq_getElem?_getD, List.getElem?_eq_getElem l2, Option.getD_some, List.set_getElem_self] at hc'
  have : m.flushTo (j + 1) = { m.flushTo j with blocks := (m.flushTo (j + 1)).blocks, cache := (m.flushTo (j + 1)).cache } := rfl
  rw [this, ← hb, ← hc']
set_option maxRecDepth 100000 in
set_option maxHeartbeats 1000000 in
theorem flush_any (x : DX) (m : DM) (wv : Value) (w : World) (h : DiskAt w x m wv) :
    Calls Tryz.prog 65 #[.pointer (some ⟨x.d, 0, none⟩)] w fun e w' => e = .returned (.bool true) ∧ Kp [x.bb, x.bc] w w' ∧ DiskAt w' x m.flush wv := by
  have HW := hide (works_any x.d w h.c5)
  have hn1 := h.n1
  have hn2 := h.n2
  have hn3 := h.n3
  have hle := h.le
  go_enter Tryz.func65, Tryz.ntmps65
  go_wp2_with fail
  refine HW.out.mono ?_
  rintro e w' ⟨rfl, rfl⟩
  go_wp2_with fail
  go_loopw [4] (fun i wr => ∃ k : Nat, k ≤ m.blocks.length ∧ i = .int .i64 (k : Int) ∧ DiskAt wr x (m.flushTo k) wv ∧ Kp [x.bb, x.bc] w' wr) (fun i _ => m.blocks.length - (intOf i).toNat)
  case atStart => exact ⟨0, by omega, rfl, by rw [m.flushTo_zero h.same]; exact h, Kp.refl _ _⟩
  case round =>
    obtain ⟨k, hk, rfl, hd, hkp⟩ := hrel
    by_cases hlt : k < m.blocks.length
    · have c0 := hd.c0
      have c1 := hd.c1
      have hbl := m.flushTo_len k
      have hc := hd.rc.cell (i := k) (by rw [hd.same, hbl]; exact hlt)
      have hb := hd.rb.cell (i := k) (by rw [hbl]; exact hlt)
      have fb := hd.rb.frozen k
      rw [m.flushTo_c k hlt] at hc
      rw [hbl] at c0 c1
      have hki : (k : Int) < (m.blocks.length : Int) := by omega
      have hni : (m.blocks.length : Int) ≤ 48 := by omega
      obtain ⟨C, hC⟩ : ∃ C, m.cache.getD k [] = C := ⟨_, rfl⟩
      rw [hC] at hc
      obtain ⟨B, hB⟩ : ∃ B, (m.flushTo k).blocks.getD k [] = B := ⟨_, rfl⟩
      rw [hB] at hb
      by_cases hCe : C = []
      · subst hCe
        have HD := hide (m.flushTo_skip k hlt hC ▸ hd : DiskAt wr x (m.flushTo (k + 1)) wv)
        have HLT := hide hlt
        clear hd h hlt hbl hC hB hle hk
        generalize m.blocks.length = n at *
        go_wp2_with fail
        go_roundw
        case rel => exact ⟨k + 1, by have := HLT.out; omega, by go_num, HD.out, hkp⟩
        case measure => have := HLT.out; simp [intOf]; omega
      · have hne : C.isEmpty = false := by simpa using hCe
        have hlk : m.look k = C := by unfold DM.look; rw [hC, if_neg hCe]
        have k1 : Kp [x.bb, x.bc] wr (wr.setCell ⟨x.bb, k, none⟩ (strV C)).drew := ((Kp.refl _ wr).setCell x.bb k _ (.inl (by simp))).drew
        have b1 : (wr.setCell ⟨x.bb, k, none⟩ (strV C)).drew.heap[x.d]? = wr.heap[x.d]? := k1.block x.d hd.lt (by simp; exact ⟨hn1, hn2⟩)
        have b2 : (wr.setCell ⟨x.bb, k, none⟩ (strV C)).drew.heap[x.bc]? = wr.heap[x.bc]? := Below.heap_setCell wr ⟨x.bb, k, none⟩ _ x.bc (Ne.symm hn3)
        have c11 : (wr.setCell ⟨x.bb, k, none⟩ (strV C)).drew.cell? ⟨x.d, 1, none⟩ = _ := (World.cell?_of_block (a := ⟨x.d, 1, none⟩) b1).trans c1
        have hc1 : (wr.setCell ⟨x.bb, k, none⟩ (strV C)).drew.cell? ⟨x.bc, k, none⟩ = _ := (World.cell?_of_block (a := ⟨x.bc, k, none⟩) b2).trans hc
        have fc1 : (wr.setCell ⟨x.bb, k, none⟩ (strV C)).drew.frozen? ⟨x.bc, k, none⟩ = false := (World.frozen?_of_block (a := ⟨x.bc, k, none⟩) b2).trans (hd.rc.frozen k)
        have hdn : DiskAt ((wr.setCell ⟨x.bb, k, none⟩ (strV C)).drew.setCell ⟨x.bc, k, none⟩ (strV [])) x (m.flushTo (k + 1)) wv := by
          refine ⟨?_, ?_, ?_, ?_, ?_, ?_, ?_, hd.cl, hd.n1, hd.n2, hd.n3, hd.n4, hd.wl⟩
          · rw [m.flushTo_len, ← hbl]
            exact set_far (b1.trans hd.blk) _ _ hn2
          · have := hd.rb.set k C
            rw [← hlk, m.flushTo_blocks k, hlk] at this
            exact Strs.of_block (w := (wr.setCell ⟨x.bb, k, none⟩ (strV C)).drew) ⟨this.ex, this.le⟩ (Below.heap_setCell _ ⟨x.bc, k, none⟩ _ x.bb hn3)
          · have := (Strs.of_block hd.rc b2).set k []
            rw [m.flushTo_cache k] at this
            exact this
          · refine owns_kp hd.own (k1.setCell x.bc k _ (.inl (by simp))) (fun j hj => ?_)
            have := hd.n4 j hj
            simp; exact ⟨this.2.1, this.2.2⟩
          · simp [DM.flushTo]
          · rw [m.flushTo_len, ← hbl]; exact hd.ge
          · rw [m.flushTo_len, ← hbl]; exact hd.le
        have HD := hide (And.intro hdn (k1.setCell x.bc k (strV []) (.inl (by simp))))
        have HLT := hide hlt
        clear hd h hlt hbl hC hB hle hk hdn b1 b2 k1 hCe hlk
        generalize m.blocks.length = n at *
        go_wp2_with fail
        go_region
        go_wp2_with fail
        go_roundw
        case rel => exact ⟨k + 1, by have := HLT.out; omega, by go_num, HD.out.1, hkp.trans HD.out.2⟩
        case measure => have := HLT.out; simp [intOf]; omega
    · have hkn : k = m.blocks.length := by omega
      rw [hkn, m.flushTo_all] at hd
      have c0 := hd.c0
      have e0 : m.flush.blocks.length = m.blocks.length := by simp [DM.flush]
      rw [e0] at c0
      subst hkn
      have HD := hide hd
      clear hd h hlt e0
      generalize m.blocks.length = n at *
      go_wp2_with fail
      go_ret
      exact ⟨rfl, hkp, HD.out⟩
end Go.Proofs.YtjnhlkaafnaooabGreatDoor

namespace Go.Proofs.YtjnhlkaafnaooabGreatDoor
open Go.RowKit
theorem bump_disk (x : DX) (m : DM) (wv : Value) (w : World) (h : DiskAt w x m wv) (hc : m.count < m.ceiling) :
    Calls Tryz.prog 99 #[.pointer (some ⟨x.d, 0, none⟩)] w fun e w' => e = .returned (.bool true) ∧ Kp [x.d] w w' ∧ DiskAt w' x { m with count := m.count + 1 } wv := by
  refine (bump_any x.d w m.count m.ceiling h.c2 h.c3 h.c5 (h.fr 2) hc h.cl).mono ?_
  rintro e w' ⟨rfl, n, rfl⟩
  have k : Kp [x.d] w ((w.drewN n).setCell ⟨x.d, 2, none⟩ (.int .i64 (m.count + 1 : Nat))) := ((Kp.refl _ w).drewN n).setCell x.d 2 _ (.inl (by simp))
  refine ⟨rfl, k, ?_, h.rb.kp k (by simpa using Ne.symm h.n1), h.rc.kp k (by simpa using Ne.symm h.n2), owns_kp h.own k (fun j hj => by simpa using (h.n4 j hj).1), h.same, h.ge, h.le, h.cl, h.n1, h.n2, h.n3, h.n4, h.wl⟩
  rw [set_prim (w := w.drewN n) h.blk 2 _]
  simp
theorem info_string : (Tryz.prog.info? 9).map (fun i => (i.zero, i.size, i.bytes)) = some (some (.string ⟨#[]⟩), 1, 16) := by kernel_rfl
def zeroBlock : List UInt8 := List.replicate 256 0
def mk7 (v0 v1 : Value) (c : Nat) : Array Value := #[v0, v1, .int .i64 0, .int .i64 (c : Int), .slice none 0 0, .int .i64 (-1), .slice none 0 0]
structure MakeI (w : World) (c k : Nat) (v0 v1 : Value) (wr : World) : Prop where
  blk : wr.heap[w.heap.size]? = some (.cells (mk7 v0 v1 c) 41 (0, 0))
  o0 : wr.ownsRow (w.heap.size + 1) 9 1 v0 k (List.replicate k (strV zeroBlock))
  o1 : wr.ownsRow (w.heap.size + 1) 9 1 v1 k (List.replicate k (strV []))
  ne : ∀ i j, v0.ownBlock = some i → v1.ownBlock = some j → i ≠ j
  bel : Below w.heap.size w wr
theorem MakeI.lt {w wr : World} {c k : Nat} {v0 v1 : Value} (h : MakeI w c k v0 v1 wr) : w.heap.size < wr.heap.size := lt_of_block h.blk
/-- One text more in the one row. -/
theorem MakeI.push0 {w wr w3 : World} {c k g cap : Nat} {v0 v1 : Value} (h : MakeI w c k v0 v1 wr)
    (hown : w3.ownsRow (w.heap.size + 1) 9 1 (.slice (some ⟨g, 0, none⟩) (k + 1) cap) (k + 1) (List.replicate k (strV zeroBlock) ++ [strV zeroBlock]))
    (hg : (wr.alloc (.cells #[strV zeroBlock] 9)).grownBy w3 v0.ownBlock) (hl : v0.ownBlock = some g ∨ g = wr.heap.size + 1) :
    w3.heap[w.heap.size]? = some (.cells (mk7 v0 v1 c) 41 (0, 0)) ∧
    ((w3.setCell ⟨w.heap.size, 0, none⟩ (.slice (some ⟨g, 0, none⟩) (k + 1) cap)).heap[w.heap.size]? = some (.cells (mk7 (.slice (some ⟨g, 0, none⟩) (k + 1) cap) v1 c) 41 (0, 0)) ∧
      (w3.setCell ⟨w.heap.size, 0, none⟩ (.slice (some ⟨g, 0, none⟩) (k + 1) cap)).ownsRow (w.heap.size + 1) 9 1 (.slice (some ⟨g, 0, none⟩) (k + 1) cap) (k + 1) (List.replicate (k + 1) (strV zeroBlock)) ∧
      (w3.setCell ⟨w.heap.size, 0, none⟩ (.slice (some ⟨g, 0, none⟩) (k + 1) cap)).ownsRow (w.heap.size + 1) 9 1 v1 k (List.replicate k (strV [])) ∧
      (∀ j, v1.ownBlock = some j → g ≠ j) ∧ Below w.heap.size w (w3.setCell ⟨w.heap.size, 0, none⟩ (.slice (some ⟨g, 0, none⟩) (k + 1) cap))) := by
  have hlt := h.lt
  have hr0 : ∀ j, v0.ownBlock = some j → w.heap.size + 1 ≤ j := fun j hj => (h.o0.lt j hj).1
  have hgb : g ≥ w.heap.size + 1 := by rcases hl with e | e; exact hr0 g e; omega
  have hr1 : ∀ j, v1.ownBlock = some j → w.heap.size + 1 ≤ j ∧ j < wr.heap.size := fun j hj => h.o1.lt j hj
  have k1 : Kp v0.ownBlock.toList wr w3 := ((Kp.refl _ wr).alloc _).grown hg (fun j hj => .inl (by simp [hj]))
  have hb : w3.heap[w.heap.size]? = some (.cells (mk7 v0 v1 c) 41 (0, 0)) := (k1.block _ hlt (fun e => by have := hr0 _ (by simpa using e); omega)).trans h.blk
  have k2 : Kp [w.heap.size] w3 (w3.setCell ⟨w.heap.size, 0, none⟩ (.slice (some ⟨g, 0, none⟩) (k + 1) cap)) := (Kp.refl _ w3).setCell _ 0 _ (.inl (by simp))
  refine ⟨hb, ?_, ?_, ?_, ?_, ?_⟩
  · rw [set_prim hb 0 _]; rfl
  · rw [List.replicate_succ']
    exact owns_kp hown k2 (fun j hj => by have : g = j := by simpa [Value.ownBlock] using hj
                                          subst this; simp; omega)
  · refine owns_kp (owns_kp h.o1 k1 (fun j hj e => h.ne j j (by simpa using e) hj rfl)) k2 (fun j hj => ?_)
    have := (hr1 j hj).1
    simp; omega
  · intro j hj
    rcases hl with e | e
    · exact h.ne g j e hj
    · have := (hr1 j hj).2; omega
  · exact ((Below.alloc h.bel (by omega) _).grown hg (by simp; omega) (fun j hj => by have := hr0 j hj; omega)).setCell (Nat.le_refl _) _
theorem MakeI.push1 {w wr w3 : World} {c k g cap : Nat} {v0 v1 : Value}
    (blk : wr.heap[w.heap.size]? = some (.cells (mk7 v0 v1 c) 41 (0, 0)))
    (o0 : wr.ownsRow (w.heap.size + 1) 9 1 v0 (k + 1) (List.replicate (k + 1) (strV zeroBlock)))
    (o1 : wr.ownsRow (w.heap.size + 1) 9 1 v1 k (List.replicate k (strV [])))
    (ne : ∀ i j, v0.ownBlock = some i → v1.ownBlock = some j → i ≠ j) (bel : Below w.heap.size w wr)
    (hown : w3.ownsRow (w.heap.size + 1) 9 1 (.slice (some ⟨g, 0, none⟩) (k + 1) cap) (k + 1) (List.replicate k (strV []) ++ [strV []]))
    (hg : (wr.alloc (.cells #[strV []] 9)).grownBy w3 v1.ownBlock) (hl : v1.ownBlock = some g ∨ g = wr.heap.size + 1) :
    w3.heap[w.heap.size]? = some (.cells (mk7 v0 v1 c) 41 (0, 0)) ∧
      MakeI w c (k + 1) v0 (.slice (some ⟨g, 0, none⟩) (k + 1) cap) (w3.setCell ⟨w.heap.size, 1, none⟩ (.slice (some ⟨g, 0, none⟩) (k + 1) cap)) := by
  have hlt : w.heap.size < wr.heap.size := lt_of_block blk
  have hr0 : ∀ j, v1.ownBlock = some j → w.heap.size + 1 ≤ j := fun j hj => (o1.lt j hj).1
  have hgb : g ≥ w.heap.size + 1 := by rcases hl with e | e; exact hr0 g e; omega
  have hr1 : ∀ j, v0.ownBlock = some j → w.heap.size + 1 ≤ j ∧ j < wr.heap.size := fun j hj => o0.lt j hj
  have k1 : Kp v1.ownBlock.toList wr w3 := ((Kp.refl _ wr).alloc _).grown hg (fun j hj => .inl (by simp [hj]))
  have hb : w3.heap[w.heap.size]? = some (.cells (mk7 v0 v1 c) 41 (0, 0)) := (k1.block _ hlt (fun e => by have := hr0 _ (by simpa using e); omega)).trans blk
  have k2 : Kp [w.heap.size] w3 (w3.setCell ⟨w.heap.size, 1, none⟩ (.slice (some ⟨g, 0, none⟩) (k + 1) cap)) := (Kp.refl _ w3).setCell _ 1 _ (.inl (by simp))
  refine ⟨hb, ?_, ?_, ?_, ?_, ?_⟩
  · rw [set_prim hb 1 _]; rfl
  · refine owns_kp (owns_kp o0 k1 (fun j hj e => ne j j hj (by simpa using e) rfl)) k2 (fun j hj => ?_)
    have := (hr1 j hj).1
    simp; omega
  · rw [List.replicate_succ']
    exact owns_kp hown k2 (fun j hj => by have : g = j := by simpa [Value.ownBlock] using hj
                                          subst this; simp; omega)
  · intro i j hi hj
    have : g = j := by simpa [Value.ownBlock] using hj
    subst this
    rcases hl with e | e
    · exact ne i g hi e
    · have := (hr1 i hi).2; omega
  · exact ((Below.alloc bel (by omega) _).grown hg (by simp; omega) (fun j hj => by have := hr0 j hj; omega)).setCell (Nat.le_refl _) _
theorem MakeI.done {w wr : World} {c n : Nat} {v0 v1 : Value} (h : MakeI w c n v0 v1 wr) (h3 : 3 ≤ n) (h48 : n ≤ 48) (hc : c ≤ 1048576) :
    ∃ x : DX, x.d = w.heap.size ∧ w.heap.size ≤ x.bb ∧ w.heap.size ≤ x.bc ∧ DiskAt wr x ⟨List.replicate n zeroBlock, List.replicate n [], 0, c, []⟩ (.slice none 0 0) := by
  obtain ⟨g0, cap0, rfl⟩ := own_form h.o0 (by omega)
  obtain ⟨g1, cap1, rfl⟩ := own_form h.o1 (by omega)
  have a0 := h.o0.lt g0 rfl
  have a1 := h.o1.lt g1 rfl
  refine ⟨⟨w.heap.size, g0, cap0, g1, cap1⟩, rfl, by show w.heap.size ≤ g0; omega, by show w.heap.size ≤ g1; omega, ?_, Strs.of_own (xs := List.replicate n zeroBlock) (by rw [List.map_replicate]; exact h.o0), Strs.of_own (xs := List.replicate n []) (by rw [List.map_replicate]; exact h.o1), World.ownsRow_nil _ _ _ _, ?_, ?_, ?_, hc, ?_, ?_, ?_, ?_, ?_⟩
  · rw [h.blk]; simp [mk7]
  · simp
  · simpa using h3
  · simpa using h48
  · show w.heap.size ≠ g0; omega
  · show w.heap.size ≠ g1; omega
  · exact h.ne g0 g1 rfl rfl
  · intro k hk; cases hk
  · simp
set_option maxRecDepth 100000 in
set_option maxHeartbeats 1000000 in
theorem make_any (n c : Nat) (w : World) (h3 : 3 ≤ n) (h48 : n ≤ 48) (hc : c ≤ 1048576) :
    Calls Tryz.prog 24 #[.int .i64 n, .int .i64 c] w fun e w' => e = .returned (.tuple #[.pointer (some ⟨w.heap.size, 0, none⟩), .int .i64 0]) ∧ Below w.heap.size w w' ∧
      ∃ x : DX, x.d = w.heap.size ∧ w.heap.size ≤ x.bb ∧ w.heap.size ≤ x.bc ∧ DiskAt w' x ⟨List.replicate n zeroBlock, List.replicate n [], 0, c, []⟩ (.slice none 0 0) := by
  obtain ⟨i0, hi, hz0, hz1, hz2⟩ := info_parts info_string
  have hmk : ∀ w, (Instr.makeSlice 52 (.int .i64 256) (.int .i64 256)).run Tryz.prog w = .ok (.slice (some ⟨w.heap.size, 0, none⟩) 256 256) (w.alloc (.cells (madeCells #[.int .u8 0] 256) 5)) := make_u8 256 (by decide)
  have hcv : ∀ w : World, (convert 52 9 (.slice (some ⟨w.heap.size, 0, none⟩) 256 256)).run Tryz.prog (w.alloc (.cells (madeCells #[.int .u8 0] 256) 5)) = .ok (strV zeroBlock) (w.alloc (.cells (madeCells #[.int .u8 0] 256) 5)) := fun w => by
    have := conv_row (cap := 256) (Row.made w 5 .u8 256)
    rw [List.length_replicate, List.map_replicate] at this
    exact this
  have hcv1 : (convert 52 9 (.slice (some ⟨w.heap.size + 1, 0, none⟩) 256 256)).run Tryz.prog ((w.alloc (.cells (mk7 (.slice none 0 0) (.slice none 0 0) c) 41)).alloc (.cells (madeCells #[.int .u8 0] 256) 5)) = .ok (strV zeroBlock) ((w.alloc (.cells (mk7 (.slice none 0 0) (.slice none 0 0) c) 41)).alloc (.cells (madeCells #[.int .u8 0] 256) 5)) := by
    have := hcv (w.alloc (.cells (mk7 (.slice none 0 0) (.slice none 0 0) c) 41))
    rwa [World.size_alloc] at this
  have HST := hide (show MakeI w c 0 (.slice none 0 0) (.slice none 0 0) ((w.alloc (.cells (mk7 (.slice none 0 0) (.slice none 0 0) c) 41)).alloc (.cells (madeCells #[.int .u8 0] 256) 5)) from
    ⟨(((Kp.refl [] _).alloc _).block _ (by simp) (by simp)).trans (heap_alloc_new w _), World.ownsRow_nil _ _ _ _, World.ownsRow_nil _ _ _ _, (by intro i j hi; cases hi), ((Below.refl _ _).alloc (Nat.le_refl _) _).alloc (by simp) _⟩)
  unfold mk7 at hcv1
  have e4 : decide ((c : Int) < 0) = false := by simp
  have e1 : decide ((n : Int) < 3) = false := by simp; omega
  have e2 : decide ((48 : Int) < n) = false := by simp; omega
  have e3 : decide ((1048576 : Int) < c) = false := by simp; omega
  have hci : (c : Int) ≤ 1048576 := by omega
  have hni : (n : Int) ≤ 48 := by omega
  have HB := hide (And.intro h3 (And.intro h48 hc))
  clear h3 h48 hc
  clear hcv
  generalize hZ : zeroBlock = Z at hcv1
  go_enter Tryz.func24, Tryz.ntmps24
  go_wp2_with fail
  go_loopw [8] (fun i wr => ∃ (k : Nat) (v0 v1 : Value), k ≤ n ∧ i = .int .i64 (k : Int) ∧ MakeI w c k v0 v1 wr) (fun i _ => n - (intOf i).toNat)
  case atStart => exact ⟨0, _, _, by omega, rfl, HST.out⟩
  case round =>
    obtain ⟨k, v0, v1, hk, rfl, hI⟩ := hrel
    by_cases hlt : k < n
    · have hki : (k : Int) < (n : Int) := by omega
      have c0 : wr.cell? ⟨w.heap.size, 0, none⟩ = some v0 := by rw [cell_of_row _ _ _ _ _ _ hI.blk]; rfl
      have HI := hide hI
      have HLT := hide hlt
      have hk48 : k ≤ 48 := by omega
      clear hI hlt hk hcv1 HST hmk
      go_wp2_with (at_builtin; refine wpList_append_lies _ rfl _ _ 34 rfl (w.heap.size + 1) 9 i0 (.string ⟨#[]⟩) 1 16 Tryz.underlying34 hi hz0 hz1 hz2 rfl (by decide) v0 k (List.replicate k (strV zeroBlock)) rfl ?own ⟨wr.heap.size, 0, none⟩ 1 1 [strV Z] rfl rfl ?c1 ?c2 (by decide) ?c3 ?c4 ?c5 _ rfl ?_)
      case own => exact owns_kp HI.out.o0 ((Kp.refl [] _).alloc _) (fun j hj => by simp)
      case c1 => exact World.news_of_block (cs := #[strV Z]) (heap_alloc_new _ _)
      case c2 => intro u hu; simp at hu; subst hu; rfl
      case c3 => unfold maxLen; omega
      case c4 => omega
      case c5 => have := HI.out.lt; simp; omega
      intro g cap w3 hown3 hgrow hg hlt3
      subst hZ
      obtain ⟨hb3, hb4, ho0, ho1, hne, hbel⟩ := HI.out.push0 hown3 hgrow (by simpa using hg)
      have c03 : w3.cell? ⟨w.heap.size, 0, none⟩ = some v0 := by rw [cell_of_row _ _ _ _ _ _ hb3]; rfl
      have f03 : w3.frozen? ⟨w.heap.size, 0, none⟩ = false := by simp [World.frozen?, hb3]
      have c14 : (w3.setCell ⟨w.heap.size, 0, none⟩ (.slice (some ⟨g, 0, none⟩) (k + 1) cap)).cell? ⟨w.heap.size, 1, none⟩ = some v1 := by rw [cell_of_row _ _ _ _ _ _ hb4]; rfl
      have HG := hide (And.intro hb4 (And.intro ho0 (And.intro ho1 (And.intro hne hbel))))
      have hsz4 := hbel.size
      have hsz5 : (w3.setCell ⟨w.heap.size, 0, none⟩ (.slice (some ⟨g, 0, none⟩) (k + 1) cap)).heap.size = w3.heap.size := by simp [World.setCell]
      rw [hsz5] at hsz4
      have hlt4 : w.heap.size < (w3.setCell ⟨w.heap.size, 0, none⟩ (.slice (some ⟨g, 0, none⟩) (k + 1) cap)).heap.size := lt_of_block hb4
      rw [hsz5] at hlt4
      clear hown3 hgrow hg hlt3 hb3 hb4 ho0 ho1 hne hbel HI
      go_wp2_with (at_builtin; refine wpList_append_lies _ rfl _ _ 34 rfl (w.heap.size + 1) 9 i0 (.string ⟨#[]⟩) 1 16 Tryz.underlying34 hi hz0 hz1 hz2 rfl (by decide) v1 k (List.replicate k (strV [])) rfl ?own ⟨w3.heap.size, 0, none⟩ 1 1 [strV []] rfl rfl ?c1 ?c2 (by decide) ?c3 ?c4 ?c5 _ rfl ?_)
      case own => exact owns_kp HG.out.2.2.1 ((Kp.refl [] _).alloc _) (fun j hj => by simp)
      case c1 => exact World.news_of_block (cs := #[strV []]) (by have := heap_alloc_new (w3.setCell ⟨w.heap.size, 0, none⟩ (.slice (some ⟨g, 0, none⟩) (k + 1) cap)) (.cells #[strV []] 9); rwa [hsz5] at this)
      case c2 => intro u hu; simp at hu; subst hu; rfl
      case c3 => unfold maxLen; omega
      case c4 => omega
      case c5 => simp; omega
      intro g1 cap1 w5 hown5 hgrow5 hg5 hlt5
      obtain ⟨hb5, hI6⟩ := MakeI.push1 HG.out.1 HG.out.2.1 HG.out.2.2.1 (fun i j hi hj => by have : g = i := by simpa [Value.ownBlock] using hi
                                                                                             subst this; exact HG.out.2.2.2.1 j hj) HG.out.2.2.2.2 hown5 hgrow5 (by simpa using hg5)
      have c15 : w5.cell? ⟨w.heap.size, 1, none⟩ = some v1 := by rw [cell_of_row _ _ _ _ _ _ hb5]; rfl
      have f15 : w5.frozen? ⟨w.heap.size, 1, none⟩ = false := by simp [World.frozen?, hb5]
      have HI6 := hide hI6
      clear hown5 hgrow5 hg5 hlt5 hb5 hI6 HG
      go_wp2_with fail
      go_roundw
      case rel => exact ⟨k + 1, _, _, by have := HLT.out; omega, by go_num, HI6.out⟩
      case measure => have := HLT.out; simp [intOf]; omega
    · have hkn : k = n := by omega
      subst hkn
      have HD := hide (And.intro (hI.done HB.out.1 HB.out.2.1 HB.out.2.2) hI.bel)
      clear hI hlt hk hcv1 HST hmk
      subst hZ
      go_wp2_with fail
      go_ret2
      exact ⟨rfl, HD.out.2, HD.out.1⟩
end Go.Proofs.YtjnhlkaafnaooabGreatDoor
