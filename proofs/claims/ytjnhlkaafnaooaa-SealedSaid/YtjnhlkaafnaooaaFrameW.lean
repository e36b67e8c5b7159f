import Derived.Test.YtjnhlkaafnaooaaHashW
namespace Go.Proofs.Ytjnhlkaafnaooaa
open Go.RowKit
abbrev strV (l : List UInt8) : Value := .string ⟨l.toArray⟩
/-- All is as it was, but for these blocks (and what is new). -/
structure Kp (S : List Nat) (w w' : World) : Prop where
  os : w'.os = w.os
  tape : w'.tape = w.tape
  output : w'.output = w.output
  size : w.heap.size ≤ w'.heap.size
  block : ∀ k, k < w.heap.size → k ∉ S → w'.heap[k]? = w.heap[k]?
theorem Kp.refl (S : List Nat) (w : World) : Kp S w w := ⟨rfl, rfl, rfl, Nat.le_refl _, fun _ _ _ => rfl⟩
theorem Kp.trans {S : List Nat} {x y z : World} (h : Kp S x y) (k : Kp S y z) : Kp S x z :=
  ⟨k.os.trans h.os, k.tape.trans h.tape, k.output.trans h.output, Nat.le_trans h.size k.size, fun j hj hn => (k.block j (Nat.lt_of_lt_of_le hj h.size) hn).trans (h.block j hj hn)⟩
theorem Kp.mono {S T : List Nat} {x y : World} (h : Kp S x y) (hs : ∀ k, k ∈ S → k ∈ T) : Kp T x y := ⟨h.os, h.tape, h.output, h.size, fun j hj hn => h.block j hj fun e => hn (hs j e)⟩
/-- What the later step touched is new, or is named. -/
theorem Kp.step {S T : List Nat} {x y z : World} (h : Kp S x y) (k : Kp T y z) (hs : ∀ j, j ∈ T → j ∈ S ∨ x.heap.size ≤ j) : Kp S x z :=
  ⟨k.os.trans h.os, k.tape.trans h.tape, k.output.trans h.output, Nat.le_trans h.size k.size, fun j hj hn => (k.block j (Nat.lt_of_lt_of_le hj h.size) (fun e => (hs j e).elim hn (fun g => by omega))).trans (h.block j hj hn)⟩
theorem Kp.of_below {S : List Nat} {x y : World} (h : Below x.heap.size x y) : Kp S x y := ⟨h.os, h.tape, h.output, h.size, fun k hk _ => h.block k hk⟩
theorem Kp.drew {S : List Nat} {x y : World} (h : Kp S x y) : Kp S x y.drew := ⟨h.os, h.tape, h.output, h.size, h.block⟩
theorem Kp.drewN {S : List Nat} {x y : World} (h : Kp S x y) (n : Nat) : Kp S x (y.drewN n) := ⟨h.os, h.tape, h.output, h.size, h.block⟩
theorem Kp.alloc {S : List Nat} {x y : World} (h : Kp S x y) (o : Obj) : Kp S x (y.alloc o) := h.trans (Kp.of_below ((Below.refl _ _).alloc (Nat.le_refl _) o))
theorem Kp.setCell {S : List Nat} {x y : World} (h : Kp S x y) (b o : Nat) (v : Value) (hb : b ∈ S ∨ x.heap.size ≤ b) : Kp S x (y.setCell ⟨b, o, none⟩ v) :=
  ⟨h.os, h.tape, h.output, by simpa [World.setCell] using h.size, fun k hk hn => (Below.heap_setCell y ⟨b, o, none⟩ v k (by rintro rfl; exact hb.elim (fun g => hn g) (fun g => by omega))).trans (h.block k hk hn)⟩
theorem Kp.setCells {S : List Nat} {x y : World} (h : Kp S x y) (b o : Nat) (vs : List Value) (hb : b ∈ S ∨ x.heap.size ≤ b) : Kp S x (y.setCells b o vs) := by
  obtain ⟨h1, h2, h3, h4, h5⟩ := setCells_block b vs o y
  exact ⟨h2.trans h.os, h3.trans h.tape, h4.trans h.output, by rw [h1]; exact h.size, fun k hk hn => (h5 k (by rintro rfl; exact hb.elim (fun g => hn g) (fun g => by omega))).trans (h.block k hk hn)⟩
theorem Kp.grown {S : List Nat} {x y z : World} {row : Option Nat} (h : Kp S x y) (hg : y.grownBy z row) (hr : ∀ k, row = some k → k ∈ S ∨ x.heap.size ≤ k) : Kp S x z :=
  ⟨hg.os.trans h.os, hg.tape.trans h.tape, hg.output.trans h.output, Nat.le_trans h.size hg.size, fun k hk hn => (hg.block k (Nat.lt_of_lt_of_le hk h.size) (fun e => (hr k e.symm).elim hn (fun g => by omega))).trans (h.block k hk hn)⟩
theorem Kp.cells {S : List Nat} {g : Nat} {x y : World} {k : IntKind} {xs : List Nat} (h : Kp S x y) (hc : Cells x g k xs) (hg : g ∉ S) : Cells y g k xs :=
  ⟨Nat.lt_of_lt_of_le hc.lt h.size, fun i hi => (World.cell?_of_block (w := x) (h.block g hc.lt hg) (a := ⟨g, i, none⟩)).trans (hc.at_ i hi)⟩
/-- A row of texts, of which the first are told. -/
structure Strs (w : World) (b cap : Nat) (xs : List (List UInt8)) : Prop where
  ex : ∃ c : Array Value, w.heap[b]? = some (.cells c 9 (0, 0)) ∧ c.size = cap ∧ ∀ i, i < xs.length → c[i]? = some (strV (xs.getD i []))
  le : xs.length ≤ cap
theorem Strs.lt {w : World} {b cap : Nat} {xs : List (List UInt8)} (h : Strs w b cap xs) : b < w.heap.size := by
  obtain ⟨c, hc, _⟩ := h.ex
  exact lt_of_block hc
theorem Strs.cell {w : World} {b cap : Nat} {xs : List (List UInt8)} (h : Strs w b cap xs) {i : Nat} (hi : i < xs.length) : w.cell? ⟨b, i, none⟩ = some (strV (xs.getD i [])) := by
  obtain ⟨c, hc, _, h3⟩ := h.ex
  rw [cell_of_row _ _ _ _ _ _ hc]
  exact h3 i hi
theorem Strs.frozen {w : World} {b cap : Nat} {xs : List (List UInt8)} (h : Strs w b cap xs) (i : Nat) : w.frozen? ⟨b, i, none⟩ = false := by
  obtain ⟨c, hc, _, h3⟩ := h.ex
  simp [World.frozen?, hc]
theorem Strs.of_block {w w' : World} {b cap : Nat} {xs : List (List UInt8)} (h : Strs w b cap xs) (e : w'.heap[b]? = w.heap[b]?) : Strs w' b cap xs := by
  obtain ⟨c, hc, h2, h3⟩ := h.ex
  exact ⟨⟨c, e.trans hc, h2, h3⟩, h.le⟩
theorem Strs.kp {S : List Nat} {w w' : World} {b cap : Nat} {xs : List (List UInt8)} (h : Strs w b cap xs) (k : Kp S w w') (hb : b ∉ S) : Strs w' b cap xs := h.of_block (k.block b h.lt hb)
theorem Strs.set {w : World} {b cap : Nat} {xs : List (List UInt8)} (h : Strs w b cap xs) (i : Nat) (y : List UInt8) : Strs (w.setCell ⟨b, i, none⟩ (strV y)) b cap (xs.set i y) := by
  obtain ⟨c, hc, h2, h3⟩ := h.ex
  refine ⟨⟨c.setIfInBounds i (strV y), set_prim hc i (strV y), by simpa using h2, fun j hj => ?_⟩, by simpa using h.le⟩
  have hj' : j < xs.length := by simpa using hj
  have hjc : j < c.size := by have := h.le; omega
  by_cases e : i = j
  · subst e
    simp [hjc, hj']
  · rw [Array.getElem?_setIfInBounds_ne e, h3 j hj']
    simp [e]
theorem Strs.of_own {w : World} {base g cap n : Nat} {xs : List (List UInt8)} (h : w.ownsRow base 9 1 (.slice (some ⟨g, 0, none⟩) n cap) n (xs.map strV)) : Strs w g cap xs := by
  obtain ⟨h1, h2⟩ := h
  have hl : xs.length = n := by simpa using h1
  rcases h2 with ⟨hv, _⟩ | ⟨g', cap', cur, hv, _, hb, hle, _, hsz, htk⟩
  · cases hv
  · cases hv
    refine ⟨⟨cur, hb, by omega, fun i hi => ?_⟩, by omega⟩
    have e : (cur.toList.take (n * 1))[i]? = (xs.map strV)[i]? := by rw [htk]
    rw [List.getElem?_take_of_lt (by omega)] at e
    simpa [List.getElem?_eq_getElem hi] using e
theorem owns_kp {w w' : World} {S : List Nat} {base n size : Nat} {e : TypeId} {v : Value} {xs : List Value} (h : w.ownsRow base e size v n xs) (k : Kp S w w') (hs : ∀ j, v.ownBlock = some j → j ∉ S) : w'.ownsRow base e size v n xs := by
  obtain ⟨h1, h2⟩ := h
  refine ⟨h1, ?_⟩
  rcases h2 with h2 | ⟨g, cap, cur, hv, hb, hg, rest⟩
  · exact .inl h2
  · exact .inr ⟨g, cap, cur, hv, hb, (k.block g (lt_of_block hg) (hs _ (by rw [hv]; rfl))).trans hg, rest⟩
theorem owns_lt {w : World} {base n size : Nat} {e : TypeId} {v : Value} {xs : List Value} (h : w.ownsRow base e size v n xs) (j : Nat) (hj : v.ownBlock = some j) : j < w.heap.size := by
  rcases h.2 with ⟨hv, _⟩ | ⟨g, cap, cur, hv, hb, hg, rest⟩
  · rw [hv] at hj; cases hj
  · rw [hv] at hj; cases hj; exact lt_of_block hg
theorem set_far {w : World} {b : Nat} {c : Array Value} {t : TypeId} {fz : Nat × Nat} (h : w.heap[b]? = some (.cells c t fz)) (a : Addr) (v : Value) (ha : b ≠ a.block) : (w.setCell a v).heap[b]? = some (.cells c t fz) := (Below.heap_setCell w a v b ha).trans h
end Go.Proofs.Ytjnhlkaafnaooaa
