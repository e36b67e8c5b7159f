import Derived.Test.YtjnhlkaafnaooabGreatDoorRmM
import Derived.Deep.AppendLies
import Derived.Test.YtjnhlkaafnaooabGreatDoorRmO
namespace Go.Proofs.YtjnhlkaafnaooabGreatDoor
open Go.RowKit
/-- What the law keeps of its world. -/
structure LM where
  may : Value
  opened : Bool
  n : Nat
  wv : Value
  base : Nat
  sv : Value
  pass : List UInt8
  tv : Value
  ov : Value
def lcells (d b : Nat) (l : LM) : List Value := [.pointer (some ⟨d, 0, none⟩), .pointer (some ⟨b, 0, none⟩), l.may, .bool l.opened, .slice none 0 0, .bool false, .bool false, .bool false, .int .i64 l.n, l.wv, .int .i64 l.base, l.sv, strV l.pass, l.tv, l.ov, .slice none 0 0, .bool false, .bool false]
structure LawAt (w : World) (bW d b : Nat) (l : LM) : Prop where
  blk : w.heap[bW]? = some (.cells (lcells d b l).toArray 36 (0, 0))
section
variable {w : World} {bW d b : Nat} {l : LM}
theorem LawAt.lt (h : LawAt w bW d b l) : bW < w.heap.size := lt_of_block h.blk
theorem LawAt.fr (h : LawAt w bW d b l) (i : Nat) : w.frozen? ⟨bW, i, none⟩ = false := by simp [World.frozen?, h.blk]
theorem LawAt.c (h : LawAt w bW d b l) (i : Nat) : w.cell? ⟨bW, i, none⟩ = (lcells d b l)[i]? := by rw [cell_of_row _ _ _ _ _ _ h.blk]; simp
theorem LawAt.of_block {w' : World} (h : LawAt w bW d b l) (e : w'.heap[bW]? = w.heap[bW]?) : LawAt w' bW d b l := ⟨e.trans h.blk⟩
theorem LawAt.set2 (h : LawAt w bW d b l) (y : Value) : LawAt (w.setCell ⟨bW, 2, none⟩ y) bW d b { l with may := y } := ⟨by rw [set_prim h.blk 2 _]; simp [lcells]⟩
theorem LawAt.set3 (h : LawAt w bW d b l) (y : Bool) : LawAt (w.setCell ⟨bW, 3, none⟩ (.bool y)) bW d b { l with opened := y } := ⟨by rw [set_prim h.blk 3 _]; simp [lcells]⟩
theorem LawAt.set4 (h : LawAt w bW d b l) : LawAt (w.setCell ⟨bW, 4, none⟩ (.slice none 0 0)) bW d b l := ⟨by rw [set_prim h.blk 4 _]; simp [lcells]⟩
theorem LawAt.set8 (h : LawAt w bW d b l) (y : Nat) : LawAt (w.setCell ⟨bW, 8, none⟩ (.int .i64 y)) bW d b { l with n := y } := ⟨by rw [set_prim h.blk 8 _]; simp [lcells]⟩
theorem LawAt.set9 (h : LawAt w bW d b l) (y : Value) : LawAt (w.setCell ⟨bW, 9, none⟩ y) bW d b { l with wv := y } := ⟨by rw [set_prim h.blk 9 _]; simp [lcells]⟩
theorem LawAt.set10 (h : LawAt w bW d b l) (y : Nat) : LawAt (w.setCell ⟨bW, 10, none⟩ (.int .i64 y)) bW d b { l with base := y } := ⟨by rw [set_prim h.blk 10 _]; simp [lcells]⟩
theorem LawAt.set11 (h : LawAt w bW d b l) (y : Value) : LawAt (w.setCell ⟨bW, 11, none⟩ y) bW d b { l with sv := y } := ⟨by rw [set_prim h.blk 11 _]; simp [lcells]⟩
theorem LawAt.set12 (h : LawAt w bW d b l) (y : List UInt8) : LawAt (w.setCell ⟨bW, 12, none⟩ (strV y)) bW d b { l with pass := y } := ⟨by rw [set_prim h.blk 12 _]; simp [lcells]⟩
theorem LawAt.set13 (h : LawAt w bW d b l) (y : Value) : LawAt (w.setCell ⟨bW, 13, none⟩ y) bW d b { l with tv := y } := ⟨by rw [set_prim h.blk 13 _]; simp [lcells]⟩
theorem LawAt.set14 (h : LawAt w bW d b l) (y : Value) : LawAt (w.setCell ⟨bW, 14, none⟩ y) bW d b { l with ov := y } := ⟨by rw [set_prim h.blk 14 _]; simp [lcells]⟩
end
/-- Two rows lie apart. -/
def Sep (a b : Value) : Prop := ∀ j, a.ownBlock = some j → b.ownBlock ≠ some j
theorem Sep.symm {a b : Value} (h : Sep a b) : Sep b a := fun j h1 h2 => h j h2 h1
theorem Sep.grow {a b : Value} {g n c H : Nat} (h : Sep a b) (hg : a.ownBlock = some g ∨ H ≤ g) (hb : ∀ j, b.ownBlock = some j → j < H) : Sep (.slice (some ⟨g, 0, none⟩) n c) b := fun j h1 h2 => by
  have e : g = j := by simpa [Value.ownBlock] using h1
  subst e
  rcases hg with e | e
  · exact h g e h2
  · have := hb g h2; omega
/-- Texts in a row. -/
abbrev SRow (w : World) (v : Value) (l : List (List UInt8)) : Prop := w.ownsRow 0 9 1 v l.length (l.map strV)
abbrev WRow (w : World) (v : Value) (l : List (Nat × List UInt8)) : Prop := w.ownsRow 0 43 2 v l.length (wcells l)
/-- The blocks of the law's own. -/
def LM.set (bW : Nat) (l : LM) : List Nat := [bW] ++ l.wv.ownBlock.toList ++ l.sv.ownBlock.toList ++ l.tv.ownBlock.toList ++ l.ov.ownBlock.toList
theorem LM.mem {bW : Nat} {l : LM} {k : Nat} : k ∈ l.set bW ↔ k = bW ∨ l.wv.ownBlock = some k ∨ l.sv.ownBlock = some k ∨ l.tv.ownBlock = some k ∨ l.ov.ownBlock = some k := by
  simp only [LM.set, List.mem_append, List.mem_singleton, Option.mem_toList]
  simp [or_assoc]
structure LawSt (w : World) (bW d b : Nat) (l : LM) (wr : List (Nat × List UInt8)) (sl tr ow : List (List UInt8)) : Prop where
  at_ : LawAt w bW d b l
  w_ : WRow w l.wv wr
  s_ : SRow w l.sv sl
  t_ : SRow w l.tv tr
  o_ : SRow w l.ov ow
  ws : Sep l.wv l.sv
  wt : Sep l.wv l.tv
  wo : Sep l.wv l.ov
  st : Sep l.sv l.tv
  so : Sep l.sv l.ov
  to : Sep l.tv l.ov
  nw : l.wv.ownBlock ≠ some bW
  ns : l.sv.ownBlock ≠ some bW
  nt : l.tv.ownBlock ≠ some bW
  no : l.ov.ownBlock ≠ some bW
section
variable {w w' : World} {bW d b : Nat} {l : LM} {wr : List (Nat × List UInt8)} {sl tr ow : List (List UInt8)}
theorem LawSt.bound (h : LawSt w bW d b l wr sl tr ow) {k : Nat} (hk : k ∈ l.set bW) : k < w.heap.size := by
  rcases LM.mem.1 hk with rfl | e | e | e | e
  · exact h.at_.lt
  · exact owns_lt h.w_ k e
  · exact owns_lt h.s_ k e
  · exact owns_lt h.t_ k e
  · exact owns_lt h.o_ k e
theorem LawSt.kp {S : List Nat} (h : LawSt w bW d b l wr sl tr ow) (hk : Kp S w w') (hs : ∀ k ∈ l.set bW, k ∉ S) : LawSt w' bW d b l wr sl tr ow :=
  ⟨h.at_.of_block (hk.block bW h.at_.lt (hs bW (LM.mem.2 (.inl rfl)))), owns_kp h.w_ hk (fun j hj => hs j (LM.mem.2 (.inr (.inl hj)))), owns_kp h.s_ hk (fun j hj => hs j (LM.mem.2 (.inr (.inr (.inl hj))))),
    owns_kp h.t_ hk (fun j hj => hs j (LM.mem.2 (.inr (.inr (.inr (.inl hj)))))), owns_kp h.o_ hk (fun j hj => hs j (LM.mem.2 (.inr (.inr (.inr (.inr hj)))))), h.ws, h.wt, h.wo, h.st, h.so, h.to, h.nw, h.ns, h.nt, h.no⟩
theorem LawSt.below (h : LawSt w bW d b l wr sl tr ow) (hb : Below w.heap.size w w') : LawSt w' bW d b l wr sl tr ow := h.kp (S := []) (Kp.of_below hb) (by simp)
/-- A store into the law's own cells, the rows being as they were. -/
theorem LawSt.cell {l' : LM} (h : LawSt w bW d b l wr sl tr ow) (i : Nat) (y : Value) (ha : LawAt (w.setCell ⟨bW, i, none⟩ y) bW d b l') (e1 : l'.wv = l.wv) (e2 : l'.sv = l.sv) (e3 : l'.tv = l.tv) (e4 : l'.ov = l.ov) : LawSt (w.setCell ⟨bW, i, none⟩ y) bW d b l' wr sl tr ow := by
  have hk : Kp [bW] w (w.setCell ⟨bW, i, none⟩ y) := (Kp.refl _ w).setCell bW i _ (.inl (by simp))
  refine ⟨ha, ?_, ?_, ?_, ?_, by rw [e1, e2]; exact h.ws, by rw [e1, e3]; exact h.wt, by rw [e1, e4]; exact h.wo, by rw [e2, e3]; exact h.st, by rw [e2, e4]; exact h.so, by rw [e3, e4]; exact h.to, by rw [e1]; exact h.nw, by rw [e2]; exact h.ns, by rw [e3]; exact h.nt, by rw [e4]; exact h.no⟩
  · rw [e1]; exact owns_kp h.w_ hk (fun j hj => by simp; rintro rfl; exact h.nw hj)
  · rw [e2]; exact owns_kp h.s_ hk (fun j hj => by simp; rintro rfl; exact h.ns hj)
  · rw [e3]; exact owns_kp h.t_ hk (fun j hj => by simp; rintro rfl; exact h.nt hj)
  · rw [e4]; exact owns_kp h.o_ hk (fun j hj => by simp; rintro rfl; exact h.no hj)
end
section
variable {w w' : World} {bW d b : Nat} {l : LM} {wr : List (Nat × List UInt8)} {sl tr ow : List (List UInt8)}
theorem kp_set {S : List Nat} (hk : Kp S w w') (bW i : Nat) (y : Value) : Kp (bW :: S) w (w'.setCell ⟨bW, i, none⟩ y) := (hk.mono (fun _ h => List.mem_cons_of_mem _ h)).setCell bW i y (.inl (by simp))
/-- The row wv has grown. -/
theorem LawSt.grow_w {g m c : Nat} {new : List ((Nat × List UInt8))} (h : LawSt w bW d b l wr sl tr ow) (hk : Kp l.wv.ownBlock.toList w w') (hg : l.wv.ownBlock = some g ∨ w.heap.size ≤ g) (hr : WRow w' (.slice (some ⟨g, 0, none⟩) m c) new) :
    LawSt (w'.setCell ⟨bW, 9, none⟩ (.slice (some ⟨g, 0, none⟩) m c)) bW d b { l with wv := .slice (some ⟨g, 0, none⟩) m c } new sl tr ow := by
  have hs := kp_set hk bW 9 (.slice (some ⟨g, 0, none⟩) m c)
  have hbl := h.at_.lt
  have hgb : g ≠ bW := by
    rcases hg with e | e
    · rintro rfl; exact h.nw e
    · omega
  refine ⟨(h.at_.of_block (hk.block bW h.at_.lt (by simpa using h.nw))).set9 _, ?_, owns_kp h.s_ hs (fun j hj => by simp only [List.mem_cons, Option.mem_toList, not_or]; exact ⟨fun e => h.ns (e ▸ hj), fun e => h.ws j e hj⟩), owns_kp h.t_ hs (fun j hj => by simp only [List.mem_cons, Option.mem_toList, not_or]; exact ⟨fun e => h.nt (e ▸ hj), fun e => h.wt j e hj⟩), owns_kp h.o_ hs (fun j hj => by simp only [List.mem_cons, Option.mem_toList, not_or]; exact ⟨fun e => h.no (e ▸ hj), fun e => h.wo j e hj⟩), h.ws.grow hg (fun j hj => owns_lt h.s_ j hj), h.wt.grow hg (fun j hj => owns_lt h.t_ j hj), h.wo.grow hg (fun j hj => owns_lt h.o_ j hj), h.st, h.so, h.to, (by simpa [Value.ownBlock] using hgb), h.ns, h.nt, h.no⟩
  exact owns_kp hr ((Kp.refl [bW] w').setCell bW 9 _ (.inl (by simp))) (fun j hj => by
    have e : g = j := by simpa [Value.ownBlock] using hj
    rw [← e]; simpa using hgb)
/-- The row sv has grown. -/
theorem LawSt.grow_s {g m c : Nat} {new : List (List UInt8)} (h : LawSt w bW d b l wr sl tr ow) (hk : Kp l.sv.ownBlock.toList w w') (hg : l.sv.ownBlock = some g ∨ w.heap.size ≤ g) (hr : SRow w' (.slice (some ⟨g, 0, none⟩) m c) new) :
    LawSt (w'.setCell ⟨bW, 11, none⟩ (.slice (some ⟨g, 0, none⟩) m c)) bW d b { l with sv := .slice (some ⟨g, 0, none⟩) m c } wr new tr ow := by
  have hs := kp_set hk bW 11 (.slice (some ⟨g, 0, none⟩) m c)
  have hbl := h.at_.lt
  have hgb : g ≠ bW := by
    rcases hg with e | e
    · rintro rfl; exact h.ns e
    · omega
  refine ⟨(h.at_.of_block (hk.block bW h.at_.lt (by simpa using h.ns))).set11 _, owns_kp h.w_ hs (fun j hj => by simp only [List.mem_cons, Option.mem_toList, not_or]; exact ⟨fun e => h.nw (e ▸ hj), fun e => h.ws j hj e⟩), ?_, owns_kp h.t_ hs (fun j hj => by simp only [List.mem_cons, Option.mem_toList, not_or]; exact ⟨fun e => h.nt (e ▸ hj), fun e => h.st j e hj⟩), owns_kp h.o_ hs (fun j hj => by simp only [List.mem_cons, Option.mem_toList, not_or]; exact ⟨fun e => h.no (e ▸ hj), fun e => h.so j e hj⟩), (h.ws.symm.grow hg (fun j hj => owns_lt h.w_ j hj)).symm, h.wt, h.wo, h.st.grow hg (fun j hj => owns_lt h.t_ j hj), h.so.grow hg (fun j hj => owns_lt h.o_ j hj), h.to, h.nw, (by simpa [Value.ownBlock] using hgb), h.nt, h.no⟩
  exact owns_kp hr ((Kp.refl [bW] w').setCell bW 11 _ (.inl (by simp))) (fun j hj => by
    have e : g = j := by simpa [Value.ownBlock] using hj
    rw [← e]; simpa using hgb)
/-- The row tv has grown. -/
theorem LawSt.grow_t {g m c : Nat} {new : List (List UInt8)} (h : LawSt w bW d b l wr sl tr ow) (hk : Kp l.tv.ownBlock.toList w w') (hg : l.tv.ownBlock = some g ∨ w.heap.size ≤ g) (hr : SRow w' (.slice (some ⟨g, 0, none⟩) m c) new) :
    LawSt (w'.setCell ⟨bW, 13, none⟩ (.slice (some ⟨g, 0, none⟩) m c)) bW d b { l with tv := .slice (some ⟨g, 0, none⟩) m c } wr sl new ow := by
  have hs := kp_set hk bW 13 (.slice (some ⟨g, 0, none⟩) m c)
  have hbl := h.at_.lt
  have hgb : g ≠ bW := by
    rcases hg with e | e
    · rintro rfl; exact h.nt e
    · omega
  refine ⟨(h.at_.of_block (hk.block bW h.at_.lt (by simpa using h.nt))).set13 _, owns_kp h.w_ hs (fun j hj => by simp only [List.mem_cons, Option.mem_toList, not_or]; exact ⟨fun e => h.nw (e ▸ hj), fun e => h.wt j hj e⟩), owns_kp h.s_ hs (fun j hj => by simp only [List.mem_cons, Option.mem_toList, not_or]; exact ⟨fun e => h.ns (e ▸ hj), fun e => h.st j hj e⟩), ?_, owns_kp h.o_ hs (fun j hj => by simp only [List.mem_cons, Option.mem_toList, not_or]; exact ⟨fun e => h.no (e ▸ hj), fun e => h.to j e hj⟩), h.ws, (h.wt.symm.grow hg (fun j hj => owns_lt h.w_ j hj)).symm, h.wo, (h.st.symm.grow hg (fun j hj => owns_lt h.s_ j hj)).symm, h.so, h.to.grow hg (fun j hj => owns_lt h.o_ j hj), h.nw, h.ns, (by simpa [Value.ownBlock] using hgb), h.no⟩
  exact owns_kp hr ((Kp.refl [bW] w').setCell bW 13 _ (.inl (by simp))) (fun j hj => by
    have e : g = j := by simpa [Value.ownBlock] using hj
    rw [← e]; simpa using hgb)
/-- The row ov has grown. -/
theorem LawSt.grow_o {g m c : Nat} {new : List (List UInt8)} (h : LawSt w bW d b l wr sl tr ow) (hk : Kp l.ov.ownBlock.toList w w') (hg : l.ov.ownBlock = some g ∨ w.heap.size ≤ g) (hr : SRow w' (.slice (some ⟨g, 0, none⟩) m c) new) :
    LawSt (w'.setCell ⟨bW, 14, none⟩ (.slice (some ⟨g, 0, none⟩) m c)) bW d b { l with ov := .slice (some ⟨g, 0, none⟩) m c } wr sl tr new := by
  have hs := kp_set hk bW 14 (.slice (some ⟨g, 0, none⟩) m c)
  have hbl := h.at_.lt
  have hgb : g ≠ bW := by
    rcases hg with e | e
    · rintro rfl; exact h.no e
    · omega
  refine ⟨(h.at_.of_block (hk.block bW h.at_.lt (by simpa using h.no))).set14 _, owns_kp h.w_ hs (fun j hj => by simp only [List.mem_cons, Option.mem_toList, not_or]; exact ⟨fun e => h.nw (e ▸ hj), fun e => h.wo j hj e⟩), owns_kp h.s_ hs (fun j hj => by simp only [List.mem_cons, Option.mem_toList, not_or]; exact ⟨fun e => h.ns (e ▸ hj), fun e => h.so j hj e⟩), owns_kp h.t_ hs (fun j hj => by simp only [List.mem_cons, Option.mem_toList, not_or]; exact ⟨fun e => h.nt (e ▸ hj), fun e => h.to j hj e⟩), ?_, h.ws, h.wt, (h.wo.symm.grow hg (fun j hj => owns_lt h.w_ j hj)).symm, h.st, (h.so.symm.grow hg (fun j hj => owns_lt h.s_ j hj)).symm, (h.to.symm.grow hg (fun j hj => owns_lt h.t_ j hj)).symm, h.nw, h.ns, h.nt, (by simpa [Value.ownBlock] using hgb)⟩
  exact owns_kp hr ((Kp.refl [bW] w').setCell bW 14 _ (.inl (by simp))) (fun j hj => by
    have e : g = j := by simpa [Value.ownBlock] using hj
    rw [← e]; simpa using hgb)
end
theorem owns_form {w : World} {B T s n : Nat} {v : Value} {xs : List Value} (h : w.ownsRow B T s v n xs) : ∃ a cap, v = .slice a n cap := by
  rcases h.2 with ⟨hv, hn⟩ | ⟨g, cap, cur, hv, _⟩
  · exact ⟨none, 0, by rw [hv, hn]⟩
  · exact ⟨_, cap, hv⟩
/-- A row's cells, by number. -/
theorem srow_cell {w : World} {v : Value} {l : List (List UInt8)} (h : SRow w v l) (h0 : l ≠ []) : ∃ g cap, v = .slice (some ⟨g, 0, none⟩) l.length cap ∧ g < w.heap.size ∧ l.length ≤ cap ∧ cap ≤ maxLen ∧ ∀ i x, l[i]? = some x → w.cell? ⟨g, i, none⟩ = some (strV x) := by
  rcases h.2 with ⟨_, hn⟩ | ⟨g, cap, cur, hv, _, hb, hle, hmx, hsz, htk⟩
  · exact absurd (List.length_eq_zero_iff.1 hn) h0
  · refine ⟨g, cap, hv, lt_of_block hb, hle, hmx, fun i x hi => ?_⟩
    have hil : i < l.length := (List.getElem?_eq_some_iff.1 hi).1
    have e : (l.map strV)[i]? = some (strV x) := by simp [hi]
    rw [cell_of_row _ _ _ _ _ _ hb, ← e, ← htk, List.getElem?_take_of_lt (by omega)]
    simp
theorem wrow_cell {w : World} {v : Value} {l : List (Nat × List UInt8)} (h : WRow w v l) (h0 : l ≠ []) : ∃ g cap, v = .slice (some ⟨g, 0, none⟩) l.length cap ∧ g < w.heap.size ∧ l.length ≤ cap ∧ cap ≤ maxLen ∧ ∀ i x, l[i]? = some x → w.cell? ⟨g, i * 2, none⟩ = some (.int .i64 (x.1 : Int)) ∧ w.cell? ⟨g, i * 2 + 1, none⟩ = some (strV x.2) := by
  rcases h.2 with ⟨_, hn⟩ | ⟨g, cap, cur, hv, _, hb, hle, hmx, hsz, htk⟩
  · exact absurd (List.length_eq_zero_iff.1 hn) h0
  · refine ⟨g, cap, hv, lt_of_block hb, hle, hmx, fun i x hi => ?_⟩
    have hil : i < l.length := (List.getElem?_eq_some_iff.1 hi).1
    have key : ∀ (l : List (Nat × List UInt8)) (i : Nat) (x : Nat × List UInt8), l[i]? = some x → (wcells l)[i * 2]? = some (.int .i64 (x.1 : Int)) ∧ (wcells l)[i * 2 + 1]? = some (strV x.2) := by
      intro l
      induction l with
      | nil => intro i x h; simp at h
      | cons a l ih =>
        intro i x h
        cases i with
        | zero => simp at h; subst h; simp [wcells]
        | succ i =>
          simp at h
          have := ih i x h
          simp only [wcells, List.flatMap_cons] at this ⊢
          rw [List.getElem?_append_right (by simp; omega), List.getElem?_append_right (by simp; omega)]
          simp only [List.length_cons, List.length_nil]
          rw [show (i + 1) * 2 - (0 + 1 + 1) = i * 2 from by omega, show (i + 1) * 2 + 1 - (0 + 1 + 1) = i * 2 + 1 from by omega]
          exact this
    have k := key l i x hi
    refine ⟨?_, ?_⟩
    · rw [cell_of_row _ _ _ _ _ _ hb, ← k.1, ← htk, List.getElem?_take_of_lt (by omega)]; simp
    · rw [cell_of_row _ _ _ _ _ _ hb, ← k.2, ← htk, List.getElem?_take_of_lt (by omega)]; simp
end Go.Proofs.YtjnhlkaafnaooabGreatDoor

namespace Go.Proofs.YtjnhlkaafnaooabGreatDoor
open Go.RowKit
set_option maxHeartbeats 400000 in
theorem tally_any (d : Nat) (w : World) (c : Nat) (h2 : w.cell? ⟨d, 2, none⟩ = some (.int .i64 c)) :
    Calls Tryz.prog 36 #[.pointer (some ⟨d, 0, none⟩)] w fun e w' => e = .returned (.int .i64 c) ∧ w' = w := by
  go_enter Tryz.func36, Tryz.ntmps36
  go_wp2_with fail
  go_ret
  exact ⟨rfl, rfl⟩
set_option maxRecDepth 100000 in
set_option maxHeartbeats 1000000 in
/-- A password that was not tried yet. -/
theorem tries_new (bW d b : Nat) (l : LM) (wr : List (Nat × List UInt8)) (sl tr ow : List (List UInt8)) (pass : List UInt8) (w : World) (h : LawSt w bW d b l wr sl tr ow) (ho : l.opened = false) (hp : pass.length ≤ 40) (hn : pass ∉ tr) (htl : tr.length ≤ 1000) :
    Calls Tryz.prog 17 #[.pointer (some ⟨bW, 0, none⟩), .string ⟨pass.toArray⟩] w fun e w' => e = .returned (.tuple #[]) ∧ ∃ tv, LawSt w' bW d b { l with pass := pass, tv := tv } wr sl (tr ++ [pass]) ow ∧ Kp (bW :: l.tv.ownBlock.toList) w w' ∧ (∀ j, tv.ownBlock = some j → l.tv.ownBlock = some j ∨ w.heap.size ≤ j) := by
  obtain ⟨i0, hi, hz0, hz1, hz2⟩ := info_parts info_string
  have c3 : w.cell? ⟨bW, 3, none⟩ = some (.bool false) := by rw [h.at_.c 3, ← ho]; rfl
  have c12 : w.cell? ⟨bW, 12, none⟩ = some (strV l.pass) := by rw [h.at_.c 12]; rfl
  have f12 := h.at_.fr 12
  have hd : decide ((40 : Int) < (pass.length : Int)) = false := by simp; omega
  have hsz : (ByteArray.mk pass.toArray).size = pass.length := rfl
  have h1 := h.cell 12 (strV pass) (h.at_.set12 pass) rfl rfl rfl rfl
  have k1 : Kp [bW] w (w.setCell ⟨bW, 12, none⟩ (strV pass)) := (Kp.refl _ w).setCell bW 12 _ (.inl (by simp))
  have c13 : (w.setCell ⟨bW, 12, none⟩ (strV pass)).cell? ⟨bW, 13, none⟩ = some l.tv := by rw [h1.at_.c 13]; rfl
  have f13 := h1.at_.fr 13
  have hz : (w.setCell ⟨bW, 12, none⟩ (strV pass)).heap.size = w.heap.size := by simp [World.setCell]
  have hbl := h.at_.lt
  obtain ⟨w1, hw1⟩ : ∃ w1, w.setCell ⟨bW, 12, none⟩ (strV pass) = w1 := ⟨_, rfl⟩
  rw [hw1] at h1 k1 c13 f13 hz
  obtain ⟨a, cap, hv⟩ := owns_form h1.t_
  simp only at hv
  rw [hv] at c13
  have HH := hide (And.intro h1 k1)
  have HZ := hide hz
  clear hz
  have HP := hide (And.intro hn (And.intro htl hv))
  have htli : (tr.length : Int) ≤ 1000 := by omega
  clear h ho hp hn htl h1 k1 hv
  generalize hL : pass.length = L at *
  clear hL
  go_enter Tryz.func17, Tryz.ntmps17
  go_wp2_with fail
  go_loopw [4] (fun i wr => ∃ k : Nat, k ≤ tr.length ∧ i = .int .i64 (k : Int) ∧ wr = w1) (fun i _ => tr.length - (intOf i).toNat)
  case atStart => exact ⟨0, by omega, rfl, rfl⟩
  case round =>
    obtain ⟨k, hk, rfl, rfl⟩ := hrel
    by_cases hlt : k < tr.length
    · obtain ⟨y, hy⟩ : ∃ y, tr[k]? = some y := ⟨tr[k], List.getElem?_eq_getElem hlt⟩
      have hne : y ≠ pass := by rintro rfl; exact HP.out.1 (List.mem_of_getElem? hy)
      have hb : (y == pass) = false := by simpa using hne
      obtain ⟨g, cap', hv', hgl, hcl, hcm, hcell⟩ := srow_cell HH.out.1.t_ (by rintro rfl; simp at hlt)
      rw [HP.out.2.2] at hv'
      simp only [Value.slice.injEq, true_and] at hv'
      obtain ⟨rfl, rfl⟩ := hv'
      have ck := hcell k y hy
      have hki : (k : Int) < (tr.length : Int) := by omega
      have HLT := hide hlt
      clear hcell hlt hk hy hcl hcm hgl
      generalize tr.length = n at *
      go_wp2_with fail
      go_roundw
      case rel => exact ⟨k + 1, by have := HLT.out; omega, by go_num, by trivial⟩
      case measure => have := HLT.out; simp [intOf]; omega
    · obtain rfl : k = tr.length := by omega
      have hdl : decide ((tr.length : Int) < (tr.length : Int)) = false := by simp
      clear hlt hk
      go_wp2_with (at_builtin; refine wpList_append_lies _ rfl _ _ 34 rfl 0 9 i0 _ 1 16 Tryz.underlying34 hi hz0 hz1 hz2 rfl (by decide) (.slice a tr.length cap) tr.length (tr.map strV) rfl ?own ⟨wr.heap.size, 0, none⟩ 1 1 [strV pass] rfl rfl ?c1 ?c2 (by decide) ?c3 ?c4 (Nat.zero_le _) _ rfl ?_)
      case own => rw [← HP.out.2.2]; exact HH.out.1.t_.alloc _
      case c1 => exact World.news_of_block (cs := #[strV pass]) (heap_alloc_new _ _)
      case c2 => intro u hu; simp at hu; subst hu; rfl
      case c3 => have := HP.out.2.1; unfold maxLen; omega
      case c4 => have := HP.out.2.1; omega
      intro g7 cap7 w7 hown7 hgrow7 hlie7 hlt7
      have k7 : Kp l.tv.ownBlock.toList wr w7 := ((Kp.refl _ wr).alloc _).grown hgrow7 (fun j hj => .inl (by rw [HP.out.2.2]; simp [hj]))
      have hlie : l.tv.ownBlock = some g7 ∨ wr.heap.size ≤ g7 := by
        rw [HP.out.2.2]
        rcases hlie7 with e | e
        · exact .inl e
        · refine .inr ?_
          have : g7 = wr.heap.size + 1 := by simpa using e
          omega
      have hb7 := k7.block bW HH.out.1.at_.lt (by simpa using HH.out.1.nt)
      have la7 := HH.out.1.at_.of_block hb7
      have d13 : w7.cell? ⟨bW, 13, none⟩ = some (.slice a tr.length cap) := by rw [la7.c 13, ← HP.out.2.2]; rfl
      have e13 := la7.fr 13
      have hst := HH.out.1.grow_t (new := tr ++ [pass]) (m := tr.length + 1) (c := cap7) k7 hlie (by simpa [SRow] using hown7)
      have k0 : Kp (bW :: l.tv.ownBlock.toList) w w7 := (HH.out.2.mono (fun _ h => by simp at h; simp [h])).trans (k7.mono (fun _ h => List.mem_cons_of_mem _ h))
      have kk : Kp (bW :: l.tv.ownBlock.toList) w (w7.setCell ⟨bW, 13, none⟩ (.slice (some ⟨g7, 0, none⟩) (tr.length + 1) cap7)) := k0.setCell bW 13 _ (.inl (by simp))
      have HF := hide (And.intro hst (And.intro kk hlie))
      clear hst kk k0 hlie hown7 hgrow7 hlie7 hlt7 k7 hb7 la7
      go_wp2_with fail
      go_end0
      exact ⟨rfl, _, HF.out.1, HF.out.2.1, fun j hj => by
        have e : g7 = j := by simpa [Value.ownBlock] using hj
        subst e
        rcases HF.out.2.2 with e | e
        · exact .inl e
        · exact .inr (by rw [← HZ.out]; exact e)⟩
end Go.Proofs.YtjnhlkaafnaooabGreatDoor

namespace Go.Proofs.YtjnhlkaafnaooabGreatDoor
open Go.RowKit
def lm0 : LM := ⟨.slice none 0 0, false, 0, .slice none 0 0, 0, .slice none 0 0, [], .slice none 0 0, .slice none 0 0⟩
theorem lm0_st {w : World} {bW d b : Nat} (h : LawAt w bW d b lm0) : LawSt w bW d b lm0 [] [] [] [] := by
  have e : ∀ j : Nat, (Value.slice none 0 0).ownBlock ≠ some j := fun j h => by cases h
  exact ⟨h, World.ownsRow_nil _ _ _ _, World.ownsRow_nil _ _ _ _, World.ownsRow_nil _ _ _ _, World.ownsRow_nil _ _ _ _, fun j hj => absurd hj (e j), fun j hj => absurd hj (e j), fun j hj => absurd hj (e j), fun j hj => absurd hj (e j), fun j hj => absurd hj (e j), fun j hj => absurd hj (e j), e _, e _, e _, e _⟩
theorem lm0_set (bW k : Nat) : k ∈ lm0.set bW ↔ k = bW := by simp [LM.set, lm0, Value.ownBlock]
set_option maxRecDepth 100000 in
set_option maxHeartbeats 1000000 in
theorem world_law (n c : Nat) (w : World) (h3 : 3 ≤ n) (h48 : n ≤ 48) (hc : c ≤ 1048576) (hk : Cells w 1 .u32 kWords) (h0 : Cells w 0 .u32 hWords) :
    Calls Tryz.prog 10 #[.int .i64 n, .int .i64 c] w fun e w' => ∃ x b bW, e = .returned (.pointer (some ⟨bW, 0, none⟩)) ∧ Sys w' x b ⟨List.replicate n zeroBlock, List.replicate n [], 0, c, []⟩ zeroVM (.slice none 0 0) ∧ LawSt w' bW x.d b lm0 [] [] [] [] ∧ Apart w' x b (.slice none 0 0) bW ∧ Below w.heap.size w w' ∧ w.heap.size ≤ bW ∧ (∀ j ∈ Sys.set x b (.slice none 0 0), w.heap.size ≤ j) := by
  have HM := hide (make_any n c w h3 h48 hc)
  have hkl := hk.lt
  have h0l := h0.lt
  have HT := hide (And.intro hk h0)
  clear h3 h48 hc hk h0
  go_enter Tryz.func10, Tryz.ntmps10
  go_wp2_with fail
  refine HM.out.mono ?_
  rintro e w1 ⟨rfl, hb1, x, hxd, hxb, hxc, hd1⟩
  have HO := hide (vaultOf_any w.heap.size w1)
  have H1 := hide (And.intro hb1 hd1)
  clear hb1 hd1 HM
  go_wp2_with fail
  refine HO.out.mono ?_
  rintro e w2 ⟨rfl, hv2, hb2, hz2⟩
  obtain ⟨hb1, hd1⟩ := H1.out
  have hd2 := hd1.kp (S := []) (Kp.of_below hb2) (by simp)
  have hb02 := hb1.trans (hb2.mono hb1.size)
  have hdl := hd1.lt
  have hbl := hd1.rb.lt
  have hcl := hd1.rc.lt
  have s2 : Sys w2 x w1.heap.size ⟨List.replicate n zeroBlock, List.replicate n [], 0, c, []⟩ zeroVM (.slice none 0 0) :=
    ⟨hd2, hxd ▸ hv2, HT.out.1.below hb02 hkl, HT.out.2.below hb02 h0l, by simp [DX.set, Value.ownBlock]; omega, ⟨by simp [DX.set, Value.ownBlock]; omega, by omega⟩, ⟨by simp [DX.set, Value.ownBlock]; omega, by omega⟩⟩
  have hlo : ∀ j ∈ Sys.set x w1.heap.size (.slice none 0 0), w.heap.size ≤ j := fun j hj => by
    simp [Sys.set, DX.set, Value.ownBlock] at hj
    omega
  have H2 := hide (And.intro s2 (And.intro hb02 hlo))
  have HX := hide hxd
  clear hlo hb1 hd1 hd2 hb02 s2 hv2 hb2 HO H1 HT hz2 hxd
  go_wp2_with fail
  go_ret
  have hba : ∀ o, Below w2.heap.size w2 (w2.alloc o) := fun o => (Below.refl _ _).alloc (Nat.le_refl _) _
  refine ⟨x, w1.heap.size, w2.heap.size, rfl, H2.out.1.later (hba _), lm0_st ⟨(heap_alloc_new w2 _).trans ?_⟩, H2.out.1.apart (Nat.le_refl _) (by simp), H2.out.2.1.trans ((hba _).mono H2.out.2.1.size), H2.out.2.1.size, H2.out.2.2⟩
  rw [HX.out]
  rfl
theorem mac_law {w : World} {bt bW d b : Nat} {k : List UInt8} {l : LM} (h : MacFor w bt k) (hl : LawAt w bW d b l) : bt ≠ bW := by
  rintro rfl
  obtain ⟨_, _, _, _, h, _⟩ := h
  have e := h.blk.symm.trans hl.blk
  simp only [Option.some.injEq, Obj.cells.injEq] at e
  exact absurd e.2.1 (by decide)
theorem key_law {w : World} {bp bW d b : Nat} {k : List UInt8} {l : LM} (h : KeyAt w bp k) (hl : LawAt w bW d b l) : bp ≠ bW := by
  rintro rfl
  have e := (h.box 0 (by decide)).symm.trans (hl.c 0)
  simp [lcells] at e
set_option maxRecDepth 100000 in
set_option maxHeartbeats 1000000 in
theorem formatted_new (x : DX) (b bW : Nat) (m : DM) (v : VM) (wv : Value) (pass : List UInt8) (w : World) (h : Sys w x b m v wv) (hl : LawSt w bW x.d b lm0 [] [] [] []) (hf : Foreign x b wv bW) (ho : v.opened = false) (hp : pass.length ≤ 40) (hc : m.count + 2 ≤ m.ceiling) (hpl : v.place < 9223372036854775808) (hwl : m.wrote.length < 99000) :
    Calls Tryz.prog 14 #[.pointer (some ⟨bW, 0, none⟩), .string ⟨pass.toArray⟩] w fun e w' => e = .returned (.bool true) ∧ ∃ wv' bt bp may tv, Kit w' x b (m.begin (tagsL pass salt0) salt0 v.place v.digest) { v with salt := salt0, tv := .pointer (some ⟨bt, 0, none⟩), pv := .pointer (some ⟨bp, 0, none⟩), version := m.count + 2, session := m.count + 2, opened := true } wv' bt bp (tagsL pass salt0) (keysL (pagesL pass salt0)) ∧
      LawSt w' bW x.d b ⟨may, true, 0, .slice none 0 0, 0, .slice none 0 0, pass, tv, .slice none 0 0⟩ [] [] [pass] [] ∧ Kp (bW :: Sys.set x b wv) w w' ∧ Later wv wv' w.heap.size ∧ (∀ j, tv.ownBlock = some j → w.heap.size ≤ j ∧ j ∉ Sys.set x b wv') ∧ bW ∉ Sys.set x b wv' := by
  have c0 : w.cell? ⟨bW, 0, none⟩ = some (.pointer (some ⟨x.d, 0, none⟩)) := by rw [hl.at_.c 0]; rfl
  have hbW := hl.at_.lt
  have HTA := hide (tally_any x.d w m.count h.disk.c2)
  have HTR := hide (tries_new bW x.d b lm0 [] [] [] [] pass w hl rfl hp (by simp) (by simp))
  have HF := hide (fun w h => format_any x b m v wv pass w h ho hp hc hpl hwl)
  have HH := hide (And.intro h hf)
  have hsz : (ByteArray.mk pass.toArray).size = pass.length := rfl
  have hd : decide ((40 : Int) < (pass.length : Int)) = false := by simp; omega
  clear h hl hf ho hp hc hpl hwl
  generalize pass.length = L at *
  go_enter Tryz.func14, Tryz.ntmps14
  go_wp2_with fail
  refine HTA.out.mono ?_
  rintro e w' ⟨rfl, hw'⟩
  rw [hw']
  clear hw' w' HTA
  go_wp2_with fail
  refine HTR.out.mono ?_
  rintro e w1 ⟨rfl, tv, l1, k1, ht1⟩
  have k1' : Kp [bW] w w1 := k1.mono (fun j hj => by simpa [lm0, Value.ownBlock] using hj)
  have s1 := HH.out.1.kp k1' (fun j hj => by simp at hj; subst hj; exact HH.out.2)
  have ht1' : ∀ j, tv.ownBlock = some j → w.heap.size ≤ j := fun j hj => by
    rcases ht1 j hj with e | e
    · cases e
    · exact e
  have hap : ∀ k ∈ LM.set bW { lm0 with pass := pass, tv := tv }, k ∉ Sys.set x b wv := fun k hk => by
    rcases LM.mem.1 hk with rfl | e | e | e | e
    · exact HH.out.2.1
    · cases e
    · cases e
    · have := ht1' k e
      exact fun g => by have := HH.out.1.bound g; omega
    · cases e
  have c1 : w1.cell? ⟨bW, 1, none⟩ = some (.pointer (some ⟨b, 0, none⟩)) := by rw [l1.at_.c 1]; rfl
  have HF1 := hide (HF.out w1 s1)
  have H1 := hide (And.intro l1 (And.intro k1' (And.intro ht1' hap)))
  have hz1 := k1.size
  clear HTR HF l1 k1 k1' ht1 ht1' hap s1 c0
  go_wp2_with fail
  refine HF1.out.mono ?_
  rintro e w2 ⟨rfl, wv2, bt, bp, s2, m2, ky2, abt, abp, kp2, lt2⟩
  obtain ⟨l1, k1, ht1, hap⟩ := H1.out
  have l2 := l1.kp kp2 hap
  have hz2 := kp2.size
  have hbW2 := l2.at_.lt
  obtain ⟨w4, hw4⟩ : ∃ w4, (w2.alloc (.cells #[.string ⟨pass.toArray⟩, .slice none 0 0] 90)).alloc (.cells #[.string ⟨pass.toArray⟩, .slice none 0 0] 90) = w4 := ⟨_, rfl⟩
  have hb4 : Below w2.heap.size w2 w4 := hw4 ▸ ((Below.refl _ _).alloc (Nat.le_refl _) _).alloc (by simp) _
  have l4 := l2.below hb4
  have kit4 : Kit w4 x b _ _ wv2 bt bp (tagsL pass salt0) (keysL (pagesL pass salt0)) := (⟨s2, rfl, rfl, m2, ky2, abt, abp, by show salt0.length = 16; simp [salt0]⟩ : Kit w2 x b _ _ wv2 bt bp _ _).below hb4
  have c3 : w2.cell? ⟨bW, 3, none⟩ = some (.bool false) := by rw [l2.at_.c 3]; rfl
  have d2 : w4.cell? ⟨bW, 2, none⟩ = some (.slice none 0 0) := by rw [l4.at_.c 2]; rfl
  have d3 : w4.cell? ⟨bW, 3, none⟩ = some (.bool false) := by rw [l4.at_.c 3]; rfl
  have d4 : w4.cell? ⟨bW, 4, none⟩ = some (.slice none 0 0) := by rw [l4.at_.c 4]; rfl
  have d10 : w4.cell? ⟨bW, 10, none⟩ = some (.int .i64 0) := by rw [l4.at_.c 10]; rfl
  have d11 : w4.cell? ⟨bW, 11, none⟩ = some (.slice none 0 0) := by rw [l4.at_.c 11]; rfl
  have g2 := l4.at_.fr 2
  have g3 := l4.at_.fr 3
  have g4 := l4.at_.fr 4
  have g10 := l4.at_.fr 10
  have H4 := hide (And.intro l4 (And.intro kit4 (And.intro kp2 (And.intro lt2 hb4))))
  clear l1 k1 ht1 hap l2 l4 kit4 s2 m2 ky2 abt abp kp2 lt2 hb4 HF1
  go_wp2_with fail
  go_ret
  obtain ⟨l4, kit4, kp2, lt2, hb4⟩ := H4.out
  obtain ⟨l1, k1, ht1, hap⟩ := H1.out
  have lA := l4.cell 2 (.slice (some ⟨w2.heap.size + 1, 0, none⟩) 1 1) (l4.at_.set2 _) rfl rfl rfl rfl
  have lB := lA.cell 3 (.bool true) (lA.at_.set3 true) rfl rfl rfl rfl
  have lC := lB.cell 4 (.slice none 0 0) lB.at_.set4 rfl rfl rfl rfl
  have lD := lC.cell 10 (.int .i64 (0 : Nat)) (lC.at_.set10 0) rfl rfl rfl rfl
  have kk : Kp [bW] w4 ((((w4.setCell ⟨bW, 2, none⟩ (.slice (some ⟨w2.heap.size + 1, 0, none⟩) 1 1)).setCell ⟨bW, 3, none⟩ (.bool true)).setCell ⟨bW, 4, none⟩ (.slice none 0 0)).setCell ⟨bW, 10, none⟩ (.int .i64 (0 : Nat))) :=
    ((((Kp.refl _ _).setCell bW 2 _ (.inl (by simp))).setCell bW 3 _ (.inl (by simp))).setCell bW 4 _ (.inl (by simp))).setCell bW 10 _ (.inl (by simp))
  have out : ∀ j, (j = bW ∨ tv.ownBlock = some j) → j ∉ Sys.set x b wv2 := fun j hj e => by
    rcases lt2.sub e with g | g
    · exact hap j (LM.mem.2 (hj.elim .inl (fun e => .inr (.inr (.inr (.inl e)))))) g
    · have := l1.bound (LM.mem.2 (hj.elim .inl (fun e => .inr (.inr (.inr (.inl e))))))
      omega
  have fW : Foreign x b wv2 bW := ⟨out bW (.inl rfl), HH.out.2.2⟩
  have hbt := mac_law kit4.mac l4.at_
  have hbp := key_law kit4.key l4.at_
  refine ⟨rfl, wv2, bt, bp, _, tv, kit4.step (kit4.sys.kp kk (fun j hj => by simp at hj; subst hj; exact fW)) kk (Later.refl _ _) (by simpa using hbt) (by simpa using hbp) rfl rfl rfl, lD, ?_, fun j hj => ?_, fun j hj => ⟨ht1 j hj, out j (.inr hj)⟩, out bW (.inl rfl)⟩
  · exact ((((k1.mono (fun j hj => by simp at hj; simp [hj])).trans (kp2.mono (fun j hj => List.mem_cons_of_mem _ hj))).trans (Kp.of_below hb4)).trans (kk.mono (fun j hj => by simp at hj; simp [hj])))
  · rcases lt2 j hj with e | e
    · exact .inl e
    · exact .inr (by omega)
end Go.Proofs.YtjnhlkaafnaooabGreatDoor

namespace Go.Proofs.YtjnhlkaafnaooabGreatDoor
open Go.RowKit
theorem ext_eq (t : List UInt8) (a b : Nat) : (ByteArray.mk t.toArray).extract a b = ⟨((t.drop a).take (b - a)).toArray⟩ := by
  apply ByteArray.ext
  simp [ByteArray.data_extract]
/-- Was a text written under a password? -/
def WroteBy (wr : List (Nat × List UInt8)) (ow : List (List UInt8)) (t pass : List UInt8) (i : Nat) : Prop := ∃ o y, ow[i]? = some o ∧ wr[i]? = some y ∧ y.2.take 128 = t.take 128 ∧ o = pass
open Classical in
noncomputable def forgedC (wr : List (Nat × List UInt8)) (ow : List (List UInt8)) (t pass : List UInt8) : Bool := if ∃ i, WroteBy wr ow t pass i then false else (macL (tagsL pass (slotSalt t)) (t.take 61) == (t.drop 61).take 32)
theorem forgedC_true {wr : List (Nat × List UInt8)} {ow : List (List UInt8)} {t pass : List UInt8} (h : pass ∉ ow) (hm : (macL (tagsL pass (slotSalt t)) (t.take 61) == (t.drop 61).take 32) = true) : forgedC wr ow t pass = true := by
  unfold forgedC
  rw [if_neg]
  · exact hm
  · rintro ⟨i, o, y, ho, _, _, rfl⟩
    exact h (List.mem_of_getElem? ho)
set_option maxRecDepth 100000 in
set_option maxHeartbeats 2000000 in
theorem forged_any (bW d b : Nat) (l : LM) (wr : List (Nat × List UInt8)) (sl tr ow : List (List UInt8)) (t pass : List UInt8) (w : World) (hl : LawSt w bW d b l wr sl tr ow) (hk : Cells w 1 .u32 kWords) (h0 : Cells w 0 .u32 hWords) (ht : t.length = 256) (hp : pass.length ≤ 40) (hwr : ∀ e ∈ wr, e.2.length = 256) (hlen : ow.length = wr.length) (hol : ow.length ≤ 1000) :
    Calls Tryz.prog 41 #[.pointer (some ⟨bW, 0, none⟩), .string ⟨t.toArray⟩, .string ⟨pass.toArray⟩] w fun e w' => e = .returned (.bool (forgedC wr ow t pass)) ∧ Below w.heap.size w w' := by
  have hts : (ByteArray.mk t.toArray).size = 256 := ht
  have hps : (ByteArray.mk pass.toArray).size = pass.length := rfl
  have c9 : w.cell? ⟨bW, 9, none⟩ = some l.wv := by rw [hl.at_.c 9]; rfl
  have c14 : w.cell? ⟨bW, 14, none⟩ = some l.ov := by rw [hl.at_.c 14]; rfl
  obtain ⟨ao, co, hvo⟩ := owns_form hl.o_
  rw [hvo] at c14
  have hx1 : (ByteArray.mk t.toArray).extract 0 128 = ⟨(t.take 128).toArray⟩ := by rw [ext_eq]; simp
  have hx3 : (ByteArray.mk t.toArray).extract 4 20 = ⟨(slotSalt t).toArray⟩ := by rw [ext_eq]; rfl
  have hx5 : (ByteArray.mk t.toArray).extract 0 61 = ⟨(t.take 61).toArray⟩ := by rw [ext_eq]; simp
  have hx6 : (ByteArray.mk t.toArray).extract 61 93 = ⟨((t.drop 61).take 32).toArray⟩ := by rw [ext_eq]
  have HH := hide (And.intro hl (And.intro hwr (And.intro hlen (And.intro hol hvo))))
  have HT := hide (And.intro hk (And.intro h0 (And.intro ht hp)))
  have holi : (ow.length : Int) ≤ 1000 := by omega
  have hpi : (pass.length : Int) ≤ 40 := by omega
  clear hl hk h0 ht hp hwr hlen hol hvo
  go_enter Tryz.func41, Tryz.ntmps41
  go_wp2_with fail
  go_loopw [7] (fun i wr' => ∃ k n : Nat, k ≤ ow.length ∧ i = .int .i64 (k : Int) ∧ wr' = w.drewN n ∧ ∀ i, i < k → ¬ WroteBy wr ow t pass i) (fun i _ => ow.length - (intOf i).toNat)
  case atStart => exact ⟨0, 0, by omega, rfl, rfl, fun i hi => by omega⟩
  case round =>
    obtain ⟨k, n, hkl, rfl, rfl, hnone⟩ := hrel
    have HNO := hide hnone
    clear hnone
    by_cases hlt : k < ow.length
    · obtain ⟨o, ho⟩ : ∃ o, ow[k]? = some o := ⟨ow[k], List.getElem?_eq_getElem hlt⟩
      obtain ⟨⟨pt, y⟩, hy⟩ : ∃ y, wr[k]? = some y := ⟨wr[k]'(by have := HH.out.2.2.1; omega), List.getElem?_eq_getElem _⟩
      have hyl : (ByteArray.mk y.toArray).size = 256 := HH.out.2.1 _ (List.mem_of_getElem? hy)
      obtain ⟨g, cap', hv', hgl, hcl, hcm, hcell⟩ := srow_cell HH.out.1.o_ (by rintro rfl; simp at hlt)
      rw [HH.out.2.2.2.2] at hv'
      simp only [Value.slice.injEq, true_and] at hv'
      obtain ⟨rfl, rfl⟩ := hv'
      obtain ⟨gw, cw, hvw, hgwl, hcwl, hcwm, hcellw⟩ := wrow_cell HH.out.1.w_ (by rintro rfl; have h := HH.out.2.2.1; rw [List.length_nil] at h; omega)
      rw [hvw, ← HH.out.2.2.1] at c9
      have ck := hcell k o ho
      have ckw := (hcellw k _ hy).2
      simp only at ckw
      have hx2 : (ByteArray.mk y.toArray).extract 0 128 = ⟨(y.take 128).toArray⟩ := by rw [ext_eq]; simp
      have hki : (k : Int) < (ow.length : Int) := by omega
      have HLT := hide hlt
      have HM := hide (And.intro ho hy)
      clear hcell hcellw hlt ho hy hcl hcwl hgl hgwl hvw hx3 hx5 hx6
      generalize hOL : ow.length = L at *
      generalize hYY : y.take 128 = Y at *
      generalize hTK : t.take 128 = T at *
      have HY := hide hYY
      have HTK := hide hTK
      clear hYY hTK
      by_cases h1 : (Y == T) = true
      · by_cases h2 : (o == pass) = true
        · go_wp2_with fail
          go_quiet (fail)
          go_wp2_with fail
          go_ret
          refine ⟨?_, below_drewN (below_drewN (Below.refl _ _) _) _⟩
          have : forgedC wr ow t pass = false := by
            unfold forgedC
            rw [if_pos ⟨k, o, _, HM.out.1, HM.out.2, by rw [HY.out, HTK.out]; exact beq_iff_eq.1 h1, beq_iff_eq.1 h2⟩]
          rw [this]
          rfl
        · have h2' : (o == pass) = false := by simpa using h2
          clear h2
          go_wp2_with fail
          go_quiet (fail)
          go_wp2_with fail
          go_roundw
          case rel => exact ⟨k + 1, n + nq, by have := HLT.out; omega, by go_num, by simp [World.drewN], fun i hi => by
            rcases Nat.lt_or_eq_of_le (Nat.le_of_lt_succ hi) with e | rfl
            · exact HNO.out i e
            · rintro ⟨o', y', h3, h4, _, rfl⟩
              rw [HM.out.1] at h3
              injection h3 with h3
              subst h3
              simp at h2'⟩
          case measure => have := HLT.out; simp [intOf]; omega
      · have h1' : (Y == T) = false := by simpa using h1
        clear h1
        go_wp2_with fail
        go_quiet (fail)
        go_wp2_with fail
        go_roundw
        case rel => exact ⟨k + 1, n + nq, by have := HLT.out; omega, by go_num, by simp [World.drewN], fun i hi => by
            rcases Nat.lt_or_eq_of_le (Nat.le_of_lt_succ hi) with e | rfl
            · exact HNO.out i e
            · rintro ⟨o', y', h3, h4, h5, _⟩
              rw [HM.out.2] at h4
              injection h4 with h4
              subst h4
              rw [HY.out, HTK.out] at h5
              subst h5
              simp at h1'⟩
        case measure => have := HLT.out; simp [intOf]; omega
    · obtain rfl : k = ow.length := by omega
      have hdl : decide ((ow.length : Int) < (ow.length : Int)) = false := by simp
      obtain ⟨w1, hw1⟩ : ∃ w1, w.drewN n = w1 := ⟨_, rfl⟩
      have hb1 : Below w.heap.size w w1 := hw1 ▸ below_drewN (Below.refl _ _) n
      have d14 : w1.cell? ⟨bW, 14, none⟩ = some (.slice ao ow.length co) := hw1 ▸ c14
      obtain ⟨hk, h0, ht, hp⟩ := HT.out
      have hk1 := hk.below hb1 hk.lt
      have h01 := h0.below hb1 h0.lt
      obtain ⟨w2, hw2⟩ : ∃ w2, w1.alloc (.cells #[.int .u8 (pass.length : Int)] 5) = w2 := ⟨_, rfl⟩
      have hrw : Row w2 w1.heap.size 5 .u8 [pass.length] := hw2 ▸ Row.new w1 _ _ [pass.length] _ rfl (fun i hi => by
        match i, hi with
        | 0, _ => simp)
      have hcv1 := conv_row (cap := 1) hrw
      simp only [List.map_cons, List.map_nil, List.length_cons, List.length_nil, Nat.zero_add] at hcv1
      have hb2 : Below w1.heap.size w1 w2 := hw2 ▸ (Below.refl _ _).alloc (Nat.le_refl _) _
      have hadd := fun w => add_str [UInt8.ofNat pass.length] pass (by simp; omega) w
      have hPP : [UInt8.ofNat pass.length] ++ pass = onesL pass.length 1 ++ pass := by rw [ones1]
      rw [hPP] at hadd
      have HST := hide (stretch_any (onesL pass.length 1 ++ pass) (slotSalt t) 3 64 w2 (hk1.below hb2 hk1.lt) (h01.below hb2 h01.lt) (by simp [onesL_len]; omega) (by simp [slotSalt]; omega) (by decide) (by decide))
      have hTS : keyL (onesL pass.length 1 ++ pass) (slotSalt t) 3 64 = stretchL pass (slotSalt t) := rfl
      rw [show (64 : Int).toNat = 64 from rfl, hTS] at HST
      have hsl : (ByteArray.mk (stretchL pass (slotSalt t)).toArray).size = 64 := keyL_len _ _ _ _
      have hx4 : (ByteArray.mk (stretchL pass (slotSalt t)).toArray).extract 0 32 = ⟨(tagsL pass (slotSalt t)).toArray⟩ := by rw [ext_eq]; rfl
      have htl := tagsL_len pass (slotSalt t)
      have HB := hide (And.intro (hb1.trans (hb2.mono hb1.size)) (And.intro hk h0))
      have HTL := hide htl
      generalize hTT : tagsL pass (slotSalt t) = TT at *
      generalize stretchL pass (slotSalt t) = ST at *
      have HTT := hide hTT
      clear hTT hTS
      generalize hSA : slotSalt t = SA at *
      have HSA := hide hSA
      clear hSA
      generalize onesL pass.length 1 ++ pass = PP at *
      clear hk h0 ht hp hb1 hb2 hk1 h01 hrw c9 c14 hx1 hlt hkl htl
      rw [hw1]
      clear hw1
      go_wp2_with fail
      refine HST.out.mono ?_
      rintro e w3 ⟨rfl, hb3⟩
      obtain ⟨hb2, hk, h0⟩ := HB.out
      have hb3' := hb2.trans (hb3.mono hb2.size)
      have HKD := hide (keyed_any TT w3 (hk.below hb3' hk.lt) (h0.below hb3' h0.lt) (by rw [HTL.out]; decide))
      have HB3 := hide (And.intro hb3' (And.intro hk h0))
      clear hb2 hk h0 hb3 hb3' HST HB hcv1 hadd
      go_wp2_with fail
      refine HKD.out.mono ?_
      rintro e w4 ⟨bt, ist, ibuf, ost, obuf, rfl, hm4, hbt, hbt2, ht1, ht2, ho1, ho2, hb4⟩
      obtain ⟨hb3, hk, h0⟩ := HB3.out
      have hm : MacFor w4 bt TT := ⟨ist, ibuf, ost, obuf, hm4, ht1, ht2, ho1, ho2⟩
      have hb4' := hb3.trans (hb4.mono hb3.size)
      have HS := hide (macFor_any bt TT (t.take 61) w4 hm (hk.below hb4' hk.lt) (by simp; omega))
      have HB4 := hide hb4'
      clear hb3 hk h0 hm4 ht1 ht2 ho1 ho2 hb4 hb4' hm HKD HB3
      go_wp2_with fail
      refine HS.out.mono ?_
      rintro e w5 ⟨rfl, hb5⟩
      have hb5' := HB4.out.trans (hb5.mono HB4.out.size)
      clear HS hb5
      go_wp2_with fail
      go_ret
      refine ⟨?_, hb5'⟩
      have hno : ¬ ∃ i, WroteBy wr ow t pass i := by
        rintro ⟨i, hi⟩
        have hil : i < ow.length := by
          obtain ⟨o, y, h1, _⟩ := hi
          exact (List.getElem?_eq_some_iff.1 h1).1
        exact HNO.out i hil hi
      have : forgedC wr ow t pass = (macL TT (t.take 61) == (t.drop 61).take 32) := by
        unfold forgedC
        rw [if_neg hno, HSA.out, HTT.out]
      rw [this]
      rfl
end Go.Proofs.YtjnhlkaafnaooabGreatDoor

namespace Go.Proofs.YtjnhlkaafnaooabGreatDoor
open Go.RowKit
theorem run_index_strs (oi : Oper) (a : Act) (x i : Operand) (g n c k : Nat) (ho : oi.op = .indexAddr 34 x i) (hx : a.eval x = .slice (some ⟨g, 0, none⟩) n c) (hi : a.eval i = .int .i64 (k : Int)) (hk : (k : Int) < (n : Int)) (w : World) :
    (execOp a.eval oi).run Tryz.prog w = .ok (.value (.pointer (some ⟨g, k, none⟩))) w := by
  unfold execOp
  simp only [ho, hx, hi]
  clear hx ho hi
  go_simp
theorem run_load_strs (oi : Oper) (a : Act) (x : Operand) (b o : Nat) (v : Value) (ho : oi.op = .load 34 x) (hx : a.eval x = .pointer (some ⟨b, o, none⟩)) (w : World) (hc : w.cell? ⟨b, o, none⟩ = some v) :
    (execOp a.eval oi).run Tryz.prog w = .ok (.value v) w := by
  unfold execOp
  simp only [ho, hx]
  clear hx ho
  go_simp
theorem row_cell {w : World} {v : Value} {n : Nat} {xs : List Value} (h : w.ownsRow 0 9 1 v n xs) (h0 : 0 < n) : ∃ g cap, v = .slice (some ⟨g, 0, none⟩) n cap ∧ g < w.heap.size ∧ ∀ i x, i < n → xs[i]? = some x → w.cell? ⟨g, i, none⟩ = some x := by
  rcases h.2 with ⟨_, hn⟩ | ⟨g, cap, cur, hv, _, hb, hle, hmx, hsz, htk⟩
  · omega
  · refine ⟨g, cap, hv, lt_of_block hb, fun i x hin hi => ?_⟩
    rw [cell_of_row _ _ _ _ _ _ hb, ← hi, ← htk, List.getElem?_take_of_lt (by omega)]
    simp
set_option maxRecDepth 100000 in
set_option maxHeartbeats 4000000 in
/-- A slot whose tag is right under a password that was tried, and under which nobody wrote it, is found. -/
theorem witness_any (bW d b : Nat) (l : LM) (ws : List (Nat × List UInt8)) (sl tr ow : List (List UInt8)) (a c : Nat) (t pass : List UInt8) (w : World) (hl : LawSt w bW d b l ws sl tr ow) (hk : Cells w 1 .u32 kWords) (h0 : Cells w 0 .u32 hWords) (hwr : ∀ e ∈ ws, e.2.length = 256) (htr : ∀ e ∈ tr, e.length ≤ 40) (hlen : ow.length = ws.length) (hol : ow.length ≤ 1000) (htl : tr.length ≤ 1000)
    (ha : (ws.map (·.2))[a]? = some t) (hc : tr[c]? = some pass) (hno : pass ∉ ow) (hmac : (macL (tagsL pass (slotSalt t)) (t.take 61) == (t.drop 61).take 32) = true) :
    Calls Tryz.prog 19 #[.pointer (some ⟨bW, 0, none⟩)] w fun e w' => e = .returned (.bool true) ∧ Below w.heap.size w w' := by
  obtain ⟨i0, hi, hz0, hz1, hz2⟩ := info_parts info_string
  have c9 : w.cell? ⟨bW, 9, none⟩ = some l.wv := by rw [hl.at_.c 9]; rfl
  have hW := hl.at_.lt
  obtain ⟨aw, cw, hvw⟩ := owns_form hl.w_
  rw [hvw] at c9
  have hrl : ws.length ≤ 1000 := by omega
  have hrli : (ws.length : Int) ≤ 1000 := by omega
  have htli : (tr.length : Int) ≤ 1000 := by omega
  have HP := hide (And.intro hl (And.intro hk (And.intro h0 (And.intro hwr (And.intro htr (And.intro hlen (And.intro hol hvw)))))))
  have HRL := hide (And.intro hrl htl)
  obtain ⟨ALL, hALL⟩ : ∃ ALL : List (List UInt8), ws.map (·.2) = ALL := ⟨_, rfl⟩
  rw [hALL] at ha
  have hAl : ALL.length = ws.length := by rw [← hALL, List.length_map]
  have hA256 : ∀ (i : Nat) (y : List UInt8), ALL[i]? = some y → y.length = 256 := fun i y hi => by
    rw [← hALL] at hi
    obtain ⟨e, he, rfl⟩ := List.mem_map.1 (List.mem_of_getElem? hi)
    exact hwr e he
  have hAat : ∀ (i pt : Nat) (y : List UInt8), ws[i]? = some (pt, y) → ALL[i]? = some y := fun i pt y hi => by
    rw [← hALL, List.getElem?_map, hi]; rfl
  have HQ := hide (And.intro ha (And.intro hc (And.intro hno hmac)))
  have HAL := hide (And.intro hAl (And.intro hA256 hAat))
  clear hl hk h0 hwr htr hlen hol htl ha hc hno hmac hvw hrl hALL hAl hA256 hAat
  go_enter Tryz.func19, Tryz.ntmps19
  go_wp2_with fail
  go_loopw [3, 4] (fun av i w' => ∃ k : Nat, k ≤ ws.length ∧ i = .int .i64 (k : Int) ∧ w'.ownsRow 0 9 1 av k ((ALL.map strV).take k) ∧ (∀ j, av.ownBlock = some j → w.heap.size ≤ j) ∧ Below w.heap.size w w') (fun _ i _ => ws.length - (intOf i).toNat)
  case atStart => exact ⟨0, by omega, rfl, by rw [List.take_zero]; exact World.ownsRow_nil _ _ _ _, (fun j hj => by cases hj), Below.refl _ _⟩
  case round =>
    obtain ⟨k, hk, rfl, hrow, hfar, hb⟩ := hrel
    obtain ⟨av2, cv2, hav⟩ := owns_form hrow
    subst hav
    by_cases hlt : k < ws.length
    · obtain ⟨⟨pt, y⟩, hy⟩ : ∃ y, ws[k]? = some y := ⟨ws[k], List.getElem?_eq_getElem hlt⟩
      obtain ⟨gw, cw', hvw', hgwl, hcwl, hcwm, hcellw⟩ := wrow_cell HP.out.1.w_ (by rintro rfl; simp at hlt)
      rw [HP.out.2.2.2.2.2.2.2] at hvw'
      simp only [Value.slice.injEq, true_and] at hvw'
      obtain ⟨rfl, rfl⟩ := hvw'
      have ckw := (hb.cell (p := ⟨gw, k * 2 + 1, none⟩) hgwl).trans (hcellw k _ hy).2
      have d9 := (hb.cell (p := ⟨bW, 9, none⟩) hW).trans c9
      simp only at ckw
      have hki : (k : Int) < (ws.length : Int) := by omega
      have hAk := HAL.out.2.2 k pt y hy
      have hsnoc : (ALL.map strV).take (k + 1) = (ALL.map strV).take k ++ [strV y] := by
        have hl' : k < (ALL.map strV).length := by rw [List.length_map, HAL.out.1]; exact hlt
        rw [List.take_succ_eq_append_getElem hl']
        congr 1
        have : (ALL.map strV)[k]? = some (strV y) := by rw [List.getElem?_map, hAk]; rfl
        rw [List.getElem?_eq_getElem hl'] at this
        rw [Option.some.inj this]
      have HD := hide (And.intro hrow (And.intro hfar (And.intro hb (And.intro hsnoc hlt))))
      clear hrow hfar hb hsnoc hlt hcellw hcwl hcwm hgwl hy hk c9 hAk
      generalize hWL : ws.length = WL at *
      go_wp2_with (at_builtin; refine wpList_append_lies _ rfl _ _ 34 rfl 0 9 i0 _ 1 16 Tryz.underlying34 hi hz0 hz1 hz2 rfl (by decide) (.slice av2 k cv2) k ((ALL.map strV).take k) rfl ?own ⟨wr.heap.size, 0, none⟩ 1 1 [strV y] rfl rfl ?c1 ?c2 (by decide) ?c3 ?c4 (Nat.zero_le _) _ rfl ?_)
      case own => exact HD.out.1.alloc _
      case c1 => exact World.news_of_block (cs := #[strV y]) (heap_alloc_new _ _)
      case c2 => intro u hu; simp at hu; subst hu; rfl
      case c3 => have := HRL.out.1; have := HD.out.2.2.2.2; unfold maxLen; omega
      case c4 => have := HRL.out.1; have := HD.out.2.2.2.2; omega
      intro g2 cap2 w2 hown2 hgrow hlie hg2
      obtain ⟨hrow, hfar, hb, hsnoc, hlt⟩ := HD.out
      have hbs := hb.size
      have hb2 : Below w.heap.size w w2 := Below.grown (Below.alloc hb hbs _) hgrow (by simp; omega) hfar
      have hrow2 : w2.ownsRow 0 9 1 (.slice (some ⟨g2, 0, none⟩) (k + 1) cap2) (k + 1) ((ALL.map strV).take (k + 1)) := by
        rw [hsnoc]
        exact hown2
      have hfar2 : ∀ j, (Value.slice (some ⟨g2, 0, none⟩) (k + 1) cap2).ownBlock = some j → w.heap.size ≤ j := fun j hj => by
        have e : g2 = j := by simpa [Value.ownBlock] using hj
        subst e
        rcases hlie with e | e
        · exact hfar g2 e
        · have : g2 = wr.heap.size + 1 := by simpa using e
          omega
      have HF := hide (And.intro hrow2 (And.intro hfar2 (And.intro hb2 hlt)))
      clear hrow hfar hb hsnoc hlt hown2 hgrow hlie hg2 hb2 hrow2 hfar2 hbs HD ckw d9
      go_wp2_with fail
      go_roundw
      case rel => first
        | exact ⟨k + 1, by have := HF.out.2.2.2; omega, by go_num, HF.out.1, HF.out.2.1, HF.out.2.2.1⟩
        | ((repeat apply Exists.intro); exact ⟨⟨k + 1, by have := HF.out.2.2.2; omega, by go_num, HF.out.1, HF.out.2.1, HF.out.2.2.1⟩, rfl⟩)
      case measure => have := HF.out.2.2.2; simp [intOf]; omega
    · have hkw : k = ws.length := by omega
      have htake : (ALL.map strV).take k = ALL.map strV := by rw [hkw, ← HAL.out.1]; exact List.take_of_length_le (by simp)
      rw [htake] at hrow
      have d9 := (hb.cell (p := ⟨bW, 9, none⟩) hW).trans c9
      have d15 : wr.cell? ⟨bW, 15, none⟩ = some (.slice none 0 0) := (hb.cell (p := ⟨bW, 15, none⟩) hW).trans (by rw [HP.out.1.at_.c 15]; rfl)
      have hne : ALL ≠ [] := fun e => by have h := HQ.out.1; rw [e] at h; simp at h
      have hall : ALL.length = k := by rw [HAL.out.1, hkw]
      have hrow' : SRow wr (.slice av2 k cv2) ALL := by rw [SRow, hall]; exact hrow
      obtain ⟨ga, ca, hva, hgal, hcal, hcam, hcella⟩ := srow_cell hrow' hne
      rw [hall] at hva
      simp only [Value.slice.injEq, true_and] at hva
      obtain ⟨rfl, rfl⟩ := hva
      have hal : a < k := by
        have := (List.getElem?_eq_some_iff.1 HQ.out.1).1
        omega
      obtain ⟨w1, hw1⟩ : ∃ w1, w1 = wr := ⟨_, rfl⟩
      subst hw1
      have hki : (k : Int) ≤ 1000 := by have := HRL.out.1; omega
      have HD := hide (And.intro hb (And.intro hcella (And.intro hall (And.intro hal hgal))))
      have HOWN := hide hrow
      clear hrow hrow' hfar hb htake hk hkw c9 hne hcella hall hal hgal hcal hcam
      generalize hWL : ws.length = WL at *
      go_wp2_with (at_builtin; refine wpList_append_own_none rfl _ _ 34 rfl 0 9 i0 1 Tryz.underlying34 hi _ _ _ rfl HOWN.out rfl ?_)
      go_wp2_with fail
      go_loopw [5, 6, 7, 8, 9, 10] (fun sv i _ _ _ _ w' => ∃ q : Nat, q ≤ a ∧ i = .int .i64 (q : Int) ∧ w'.ownsRow 0 9 1 sv q ((ALL.map (fun y => strV (shaL y))).take q) ∧ (∀ j, sv.ownBlock = some j → w1.heap.size ≤ j) ∧ Below w1.heap.size w1 w') (fun _ i _ _ _ _ _ => a + 1 - (intOf i).toNat)
      case atStart => exact ⟨0, by omega, rfl, by rw [List.take_zero]; exact World.ownsRow_nil _ _ _ _, (fun j hj => by cases hj), Below.refl _ _⟩
      case round =>
        obtain ⟨q, hq, rfl, hrow, hfar, hb⟩ := hrel
        obtain ⟨asv, csv, hsv⟩ := owns_form hrow
        subst hsv
        obtain ⟨hbw, hcella, hall, hal, hgal⟩ := HD.out
        obtain ⟨y, hy⟩ : ∃ y, ALL[q]? = some y := ⟨ALL[q]'(by omega), List.getElem?_eq_getElem _⟩
        have hyl := HAL.out.2.1 q y hy
        have ck : wr.cell? ⟨ga, q, none⟩ = some (strV y) := (hb.cell (p := ⟨ga, q, none⟩) hgal).trans (hcella q y hy)
        have hqi : (q : Int) < (k : Int) := by omega
        have hqn : q < k := by omega
        have hb0 : Below w.heap.size w wr := hbw.trans (hb.mono hbw.size)
        have HOF := hide (of_any ⟨y.toArray⟩ wr (HP.out.2.1.below hb0 HP.out.2.1.lt) (HP.out.2.2.1.below hb0 HP.out.2.2.1.lt) (by show y.length ≤ _; omega))
        have hdl : shaL (ByteArray.mk y.toArray).data.toList = shaL y := by simp
        rw [hdl] at HOF
        have HE := hide (And.intro hrow (And.intro hfar (And.intro hb (And.intro hq (And.intro hy (And.intro hqn (And.intro hyl hb0)))))))
        clear hbw hcella hall hal hgal hrow hfar hb hq hy hyl hb0 hdl
        generalize hSY : shaL y = SY at *
        have HSY := hide hSY
        clear hSY
        go_wp2_with fail
        refine HOF.out.mono ?_
        rintro e w2 ⟨rfl, hb2⟩
        have HB2 := hide hb2
        clear hb2 HOF ck
        go_wp2_with (at_builtin; refine wpList_append_lies _ rfl _ _ 34 rfl 0 9 i0 _ 1 16 Tryz.underlying34 hi hz0 hz1 hz2 rfl (by decide) (.slice asv q csv) q ((ALL.map (fun y => strV (shaL y))).take q) rfl ?own ⟨w2.heap.size, 0, none⟩ 1 1 [strV SY] rfl rfl ?c1 ?c2 (by decide) ?c3 ?c4 (Nat.zero_le _) _ rfl ?_)
        case own => exact owns_kp HE.out.1 ((Kp.of_below HB2.out : Kp [] wr w2).alloc _) (by simp)
        case c1 => exact World.news_of_block (cs := #[strV SY]) (heap_alloc_new _ _)
        case c2 => intro u hu; simp at hu; subst hu; rfl
        case c3 => unfold maxLen; omega
        case c4 => omega
        intro g3 cap3 w3 hown3 hgrow3 hlie3 hg3
        obtain ⟨hrow, hfar, hb, hq, hy, hqn', hyl, hb0⟩ := HE.out
        obtain ⟨hbw, hcella, hall, hal, hgal⟩ := HD.out
        have hbs := hb.size
        have hb2s := HB2.out.size
        have hb3 : Below w1.heap.size w1 w3 := Below.grown (Below.alloc (hb.trans (HB2.out.mono hb.size)) (by omega) _) hgrow3 (by simp; omega) hfar
        have hsnoc : (ALL.map (fun y => strV (shaL y))).take (q + 1) = (ALL.map (fun y => strV (shaL y))).take q ++ [strV SY] := by
          have hl' : q < (ALL.map (fun y => strV (shaL y))).length := by rw [List.length_map]; omega
          rw [List.take_succ_eq_append_getElem hl']
          congr 1
          have : (ALL.map (fun y => strV (shaL y)))[q]? = some (strV SY) := by rw [List.getElem?_map, hy, ← HSY.out]; rfl
          rw [List.getElem?_eq_getElem hl'] at this
          rw [Option.some.inj this]
        have hrow3 : w3.ownsRow 0 9 1 (.slice (some ⟨g3, 0, none⟩) (q + 1) cap3) (q + 1) ((ALL.map (fun y => strV (shaL y))).take (q + 1)) := by
          rw [hsnoc]
          exact hown3
        have hfar3 : ∀ j, (Value.slice (some ⟨g3, 0, none⟩) (q + 1) cap3).ownBlock = some j → w1.heap.size ≤ j := fun j hj => by
          have e : g3 = j := by simpa [Value.ownBlock] using hj
          subst e
          rcases hlie3 with e | e
          · exact hfar g3 e
          · have : g3 = w2.heap.size + 1 := by simpa using e
            omega
        have hc3 : ∀ i x, i < q + 1 → ((ALL.map (fun y => strV (shaL y))).take (q + 1))[i]? = some x → w3.cell? ⟨g3, i, none⟩ = some x := by
          obtain ⟨g', c', hv', _, hh⟩ := row_cell hrow3 (by omega)
          simp only [Value.slice.injEq, Option.some.injEq, Addr.mk.injEq, and_true, true_and] at hv'
          obtain ⟨rfl, rfl⟩ := hv'
          exact hh
        have HF := hide (And.intro hrow3 (And.intro hfar3 (And.intro hb3 (And.intro hc3 (And.intro hq (And.intro hy (And.intro hyl (hbw.trans (hb3.mono hbw.size)))))))))
        clear hrow hfar hb hq hy hqn' hyl hb0 hbw hcella hall hal hgal hown3 hgrow3 hlie3 hg3 hb3 hsnoc hrow3 hfar3 hc3 hbs hb2s HE HB2
        go_wp2_with fail
        go_loopw [8] (fun j w' => ∃ i n : Nat, i ≤ q ∧ j = .int .i64 (i : Int) ∧ w' = w3.drewN n) (fun j _ => q - (intOf j).toNat)
        case atStart => exact ⟨0, 0, by omega, rfl, rfl⟩
        case round =>
          obtain ⟨i, n, hiq, rfl, rfl⟩ := hrel
          obtain ⟨hrow3, hfar3, hb3, hc3, hq, hy, hyl, hbw3⟩ := HF.out
          obtain ⟨hbw, hcella, hall, hal, hgal⟩ := HD.out
          have aq : w3.cell? ⟨ga, q, none⟩ = some (strV y) := (hb3.cell (p := ⟨ga, q, none⟩) hgal).trans (hcella q y hy)
          by_cases hlt : i < q
          · obtain ⟨z, hz⟩ : ∃ z, ALL[i]? = some z := ⟨ALL[i]'(by omega), List.getElem?_eq_getElem _⟩
            have ai : w3.cell? ⟨ga, i, none⟩ = some (strV z) := (hb3.cell (p := ⟨ga, i, none⟩) hgal).trans (hcella i z hz)
            have si : w3.cell? ⟨g3, i, none⟩ = some (strV (shaL z)) := hc3 i _ (by omega) (by rw [List.getElem?_take_of_lt (by omega), List.getElem?_map, hz]; rfl)
            have hii : (i : Int) < (q : Int) := by omega
            have hik : (i : Int) < (k : Int) := by omega
            have hiq1 : (i : Int) < (q : Int) + 1 := by omega
            have hin : i < k := by omega
            have HLT := hide hlt
            clear hrow3 hfar3 hb3 hc3 hq hy hyl hbw3 hbw hcella hall hal hgal hz hiq
            generalize shaL z = SZ at *
            by_cases e1 : (SZ == SY) = true
            · by_cases e2 : (y == z) = true
              · go_wp2_with fail
                go_quiet (fail)
                go_wp2_with fail
                go_roundw
                case rel => exact ⟨i + 1, n + nq, by have := HLT.out; omega, by go_num, by simp [World.drewN]⟩
                case measure => have := HLT.out; simp [intOf]; omega
              · have e2' : (y == z) = false := by simpa using e2
                clear e2
                go_wp2_with fail
                go_quiet (fail)
                go_wp2_with fail
                go_ret
                exact ⟨rfl, below_drewN (below_drewN HF.out.2.2.2.2.2.2.2 _) _⟩
            · have e1' : (SZ == SY) = false := by simpa using e1
              clear e1
              go_wp2_with fail
              go_quiet (fail)
              go_wp2_with fail
              go_roundw
              case rel => exact ⟨i + 1, n + nq, by have := HLT.out; omega, by go_num, by simp [World.drewN]⟩
              case measure => have := HLT.out; simp [intOf]; omega
          · obtain rfl : i = q := by omega
            have hdl : decide ((i : Int) < (i : Int)) = false := by simp
            have d13 : w3.cell? ⟨bW, 13, none⟩ = some l.tv := (hbw3.cell (p := ⟨bW, 13, none⟩) hW).trans (by rw [HP.out.1.at_.c 13]; rfl)
            obtain ⟨atv, ctv, hvt⟩ := owns_form HP.out.1.t_
            rw [hvt] at d13
            obtain ⟨w4, hw4⟩ : ∃ w4, w3.drewN n = w4 := ⟨_, rfl⟩
            have hb4 : Below w.heap.size w w4 := hw4 ▸ below_drewN hbw3 n
            have e13 : w4.cell? ⟨bW, 13, none⟩ = some (.slice atv tr.length ctv) := hw4 ▸ d13
            have eq4 : w4.cell? ⟨ga, i, none⟩ = some (strV y) := hw4 ▸ aq
            have hgal4 : ga < w4.heap.size := by rw [← hw4]; have := hb3.size; show ga < w3.heap.size; omega
            have hctr : c < tr.length := (List.getElem?_eq_some_iff.1 HQ.out.2.1).1
            have hrow4 : w4.ownsRow 0 9 1 (.slice (some ⟨g3, 0, none⟩) (i + 1) cap3) (i + 1) ((ALL.map (fun y => strV (shaL y))).take (i + 1)) := hw4 ▸ owns_kp hrow3 ((Kp.refl [] w3).drewN n) (by simp)
            have hb14 : Below w1.heap.size w1 w4 := hw4 ▸ below_drewN hb3 n
            have H4 := hide (And.intro hb4 (And.intro hgal4 (And.intro hctr (And.intro hvt (And.intro hq (And.intro hy (And.intro hyl (And.intro hrow4 (And.intro hfar3 hb14)))))))))
            have HS4 := hide (And.intro e13 eq4)
            have hW4 : bW < w4.heap.size := by have := hb4.size; omega
            clear hrow3 hfar3 hb3 hc3 hq hy hyl hbw3 hbw hcella hall hal hgal hlt hiq d13 aq hvt hgal4 hb4 hctr hrow4 hb14 HF
            rw [hw4]
            clear hw4
            go_wp2_with fail
            go_loopw [9, 10] (fun j _ w' => ∃ s : Nat, s ≤ (if i = a then c else tr.length) ∧ j = .int .i64 (s : Int) ∧ Below w4.heap.size w4 w') (fun j _ _ => tr.length - (intOf j).toNat)
            case atStart => exact ⟨0, by omega, rfl, Below.refl _ _⟩
            case round =>
              obtain ⟨s, hs, rfl, hb5⟩ := hrel
              have f13 : wr.cell? ⟨bW, 13, none⟩ = some (.slice atv tr.length ctv) := (hb5.cell (p := ⟨bW, 13, none⟩) hW4).trans e13
              by_cases hlt : s < tr.length
              · obtain ⟨p, hp⟩ : ∃ p, tr[s]? = some p := ⟨tr[s], List.getElem?_eq_getElem hlt⟩
                obtain ⟨hb4, hgal4, hctr, hvt, hq, hy, hyl, hrow4, hfar3, hb14⟩ := H4.out
                obtain ⟨gt, ct', hvt', hgtl, hctl, hctm, hcellt⟩ := srow_cell HP.out.1.t_ (by rintro rfl; simp at hlt)
                rw [hvt] at hvt'
                simp only [Value.slice.injEq, true_and] at hvt'
                obtain ⟨rfl, rfl⟩ := hvt'
                have hpl : p.length ≤ 40 := HP.out.2.2.2.2.1 p (List.mem_of_getElem? hp)
                have hsi : (s : Int) < (tr.length : Int) := by omega
                have HLD := hide (fun w' (hw : Below w4.heap.size w4 w') => And.intro ((hw.cell (p := ⟨ga, i, none⟩) hgal4).trans HS4.out.2) (And.intro ((hw.cell (p := ⟨bW, 13, none⟩) hW4).trans HS4.out.1) (((hb4.trans (hw.mono hb4.size)).cell (p := ⟨gt, s, none⟩) hgtl).trans (hcellt s p hp))))
                have HFO := hide (fun w' (hw : Below w4.heap.size w4 w') => forged_any bW d b l ws sl tr ow y p w' (HP.out.1.below (hb4.trans (hw.mono hb4.size))) (HP.out.2.1.below (hb4.trans (hw.mono hb4.size)) HP.out.2.1.lt) (HP.out.2.2.1.below (hb4.trans (hw.mono hb4.size)) HP.out.2.2.1.lt) hyl hpl HP.out.2.2.2.1 (by rw [hWL]; exact HP.out.2.2.2.2.2.1) HP.out.2.2.2.2.2.2.1)
                have hFc : i = a → s = c → forgedC ws ow y p = true := by
                  rintro rfl rfl
                  have h1 := HQ.out.1
                  rw [hy] at h1
                  obtain rfl := Option.some.inj h1
                  have h2 := HQ.out.2.1
                  rw [hp] at h2
                  obtain rfl := Option.some.inj h2
                  exact forgedC_true HQ.out.2.2.1 HQ.out.2.2.2
                have HX := hide (And.intro hFc (And.intro hs (And.intro hlt hctr)))
                have HB5 := hide hb5
                generalize forgedC ws ow y p = F at *
                clear hb4 hgal4 hctr hvt hq hy hyl hrow4 hfar3 hb14 hgtl hctl hctm hcellt hp hpl hFc hs hlt e13 eq4
                go_wp2_with fail
                refine wp_region_one (fun w' => Below w4.heap.size w4 w') (by kernel_rfl) (by kernel_rfl) HB5.out.drew ?_
                refine one_take 0 (.pointer (some ⟨bW, 0, none⟩)) rfl (by kernel_rfl) (by kernel_rfl) (by kernel_rfl) rfl (gives_pure fun _ => by kernel_rfl) ?_
                refine one_take 1 (.slice (some ⟨ga, 0, none⟩) k cv2) rfl (by kernel_rfl) (by kernel_rfl) (by kernel_rfl) rfl (gives_pure fun _ => by kernel_rfl) ?_
                refine one_take 2 (.int .i64 i) rfl (by kernel_rfl) (by kernel_rfl) (by kernel_rfl) rfl (gives_pure fun _ => by kernel_rfl) ?_
                refine one_take 3 (.pointer (some ⟨ga, i, none⟩)) rfl (by kernel_rfl) (by kernel_rfl) (by kernel_rfl) rfl (gives_pure fun w => run_index_strs _ _ _ _ ga k cv2 i rfl (by kernel_rfl) (by kernel_rfl) hqi w) ?_
                refine one_take 4 (strV y) rfl (by kernel_rfl) (by kernel_rfl) (by kernel_rfl) rfl (gives_read fun w hw => run_load_str _ _ _ _ _ _ rfl (by kernel_rfl) w ((HLD.out w hw).1)) ?_
                refine one_take 5 (.pointer (some ⟨bW, 0, none⟩)) rfl (by kernel_rfl) (by kernel_rfl) (by kernel_rfl) rfl (gives_pure fun _ => by kernel_rfl) ?_
                refine one_take 6 (.pointer (some ⟨bW, 0, none⟩)) rfl (by kernel_rfl) (by kernel_rfl) (by kernel_rfl) rfl (gives_pure fun _ => by kernel_rfl) ?_
                refine one_take 7 (.pointer (some ⟨bW, 13, none⟩)) rfl (by kernel_rfl) (by kernel_rfl) (by kernel_rfl) rfl (gives_pure fun _ => by kernel_rfl) ?_
                refine one_take 8 (.slice (some ⟨gt, 0, none⟩) tr.length ctv) rfl (by kernel_rfl) (by kernel_rfl) (by kernel_rfl) rfl (gives_read fun w hw => run_load_strs _ _ _ _ _ _ rfl (by kernel_rfl) w ((HLD.out w hw).2.1)) ?_
                refine one_take 9 (.int .i64 s) rfl (by kernel_rfl) (by kernel_rfl) (by kernel_rfl) rfl (gives_pure fun _ => by kernel_rfl) ?_
                refine one_take 10 (.pointer (some ⟨gt, s, none⟩)) rfl (by kernel_rfl) (by kernel_rfl) (by kernel_rfl) rfl (gives_pure fun w => run_index_strs _ _ _ _ gt tr.length ctv s rfl (by kernel_rfl) (by kernel_rfl) hsi w) ?_
                refine one_take 11 (strV p) rfl (by kernel_rfl) (by kernel_rfl) (by kernel_rfl) rfl (gives_read fun w hw => run_load_str _ _ _ _ _ _ rfl (by kernel_rfl) w ((HLD.out w hw).2.2)) ?_
                refine one_take 12 (.bool F) rfl (by kernel_rfl) (by kernel_rfl) (by kernel_rfl) rfl (gives_call (41) (#[.pointer (some ⟨bW, 0, none⟩), .string ⟨y.toArray⟩, .string ⟨p.toArray⟩]) (fun _ => by kernel_rfl) fun w hw => (HFO.out w hw).mono fun e w2 h => ⟨h.1, hw.trans (h.2.mono hw.size)⟩) ?_
                refine one_take 13 (.bool F) rfl (by kernel_rfl) (by kernel_rfl) (by kernel_rfl) rfl (gives_pure fun _ => by kernel_rfl) ?_
                refine OneWalk.done (by kernel_rfl) fun w6 hw6 => ?_
                simp only [Act.put, List.setIfInBounds_toArray, List.set_cons_succ, List.set_cons_zero]
                have HB6 := hide hw6
                clear hw6 HLD HFO f13
                cases F with
                | true =>
                  go_wp2_with fail
                  go_ret
                  exact ⟨rfl, H4.out.1.trans (HB6.out.mono H4.out.1.size)⟩
                | false =>
                  go_wp2_with fail
                  go_roundw
                  case rel =>
                    refine ⟨s + 1, ?_, by go_num, HB6.out⟩
                    obtain ⟨h1, h2, h3, h4⟩ := HX.out
                    split
                    · rename_i e
                      rw [if_pos e] at h2
                      have : s ≠ c := fun e2 => by simpa using h1 e e2
                      omega
                    · omega
                  case measure => have := HX.out.2.2.1; simp [intOf]; omega
              · have hna : i ≠ a ∧ s = tr.length := by
                  have hctr := H4.out.2.2.1
                  by_cases e : i = a
                  · rw [if_pos e] at hs; omega
                  · rw [if_neg e] at hs; exact ⟨e, by omega⟩
                obtain ⟨hna, rfl⟩ := hna
                have hdl2 : decide ((tr.length : Int) < (tr.length : Int)) = false := by simp
                obtain ⟨hb4, hgal4, hctr, hvt, hq, hy, hyl, hrow4, hfar3, hb14⟩ := H4.out
                have hrow5 : wr.ownsRow 0 9 1 (.slice (some ⟨g3, 0, none⟩) (i + 1) cap3) (i + 1) ((ALL.map (fun y => strV (shaL y))).take (i + 1)) := owns_kp hrow4 (Kp.of_below hb5 : Kp [] w4 wr) (by simp)
                have HR := hide (And.intro hrow5 (And.intro hfar3 (And.intro (hb14.trans (hb5.mono hb14.size)) (And.intro hna hq))))
                clear hb4 hgal4 hctr hvt hq hy hyl hrow4 hfar3 hb14 hrow5 hb5 hlt hs hna e13 eq4
                go_wp2_with fail
                go_roundw
                case rel => first
                  | exact ⟨i + 1, by have := HR.out.2.2.2; omega, by go_num, HR.out.1, HR.out.2.1, HR.out.2.2.1⟩
                  | ((repeat apply Exists.intro); exact ⟨⟨i + 1, by have := HR.out.2.2.2; omega, by go_num, HR.out.1, HR.out.2.1, HR.out.2.2.1⟩, rfl⟩)
                case measure => have := HR.out.2.2.2; simp [intOf]; omega
end Go.Proofs.YtjnhlkaafnaooabGreatDoor

namespace Go.Proofs.YtjnhlkaafnaooabGreatDoor
open Go.RowKit
theorem cutK {P Q : Prop} (k : P) (f : Hid P → Q) : Q := f (hide k)
/-- Where the law is in the disk's list. -/
def lawN (bW : Nat) (w : World) : Nat := (intOf ((w.cell? ⟨bW, 8, none⟩).getD undef)).toNat
/-- The law's world under way: what it has, and what was touched since w0. -/
structure Mid (w0 w : World) (x : DX) (b bW : Nat) (m : DM) (v : VM) (wv : Value) (l : LM) (tr : List (List UInt8)) (l' : LM) (wr : List (Nat × List UInt8)) (sl ow : List (List UInt8)) : Prop where
  sys : Sys w x b m v wv
  st : LawSt w bW x.d b l' wr sl tr ow
  pass : l'.pass = l.pass
  tv : l'.tv = l.tv
  op : l'.opened = l.opened
  ap : ∀ j ∈ l'.set bW, Foreign x b wv j
  lo : ∀ j ∈ l'.set bW, j ∈ l.set bW ∨ w0.heap.size ≤ j
  kp : Kp (l.set bW) w0 w
section
variable {w0 w w' : World} {x : DX} {b bW : Nat} {m : DM} {v : VM} {wv : Value} {l : LM} {tr : List (List UInt8)} {l' : LM} {wr : List (Nat × List UInt8)} {sl ow : List (List UInt8)}
theorem Mid.below (h : Mid w0 w x b bW m v wv l tr l' wr sl ow) (hb : Below w.heap.size w w') : Mid w0 w' x b bW m v wv l tr l' wr sl ow :=
  ⟨h.sys.later hb, h.st.below hb, h.pass, h.tv, h.op, h.ap, h.lo, h.kp.trans (Kp.of_below hb)⟩
theorem Mid.set8 (h : Mid w0 w x b bW m v wv l tr l' wr sl ow) (y : Nat) : Mid w0 (w.setCell ⟨bW, 8, none⟩ (.int .i64 y)) x b bW m v wv l tr { l' with n := y } wr sl ow := by
  have hk : Kp [bW] w (w.setCell ⟨bW, 8, none⟩ (.int .i64 y)) := (Kp.refl _ w).setCell bW 8 _ (.inl (by simp))
  have hm : bW ∈ l'.set bW := LM.mem.2 (.inl rfl)
  exact ⟨h.sys.kp hk (fun j hj => by simp at hj; subst hj; exact h.ap _ hm), h.st.cell 8 _ (h.st.at_.set8 y) rfl rfl rfl rfl, h.pass, h.tv, h.op, h.ap, h.lo, h.kp.step hk (fun j hj => by simp at hj; subst hj; exact h.lo _ hm)⟩
theorem Mid.grow_w {g n c : Nat} {new : List ((Nat × List UInt8))} (h : Mid w0 w x b bW m v wv l tr l' wr sl ow) (hk : Kp l'.wv.ownBlock.toList w w') (hg : l'.wv.ownBlock = some g ∨ w.heap.size ≤ g) (hr : WRow w' (.slice (some ⟨g, 0, none⟩) n c) new) :
    Mid w0 (w'.setCell ⟨bW, 9, none⟩ (.slice (some ⟨g, 0, none⟩) n c)) x b bW m v wv l tr { l' with wv := .slice (some ⟨g, 0, none⟩) n c } new sl ow := by
  have hs := kp_set hk bW 9 (.slice (some ⟨g, 0, none⟩) n c)
  have hS : ∀ j ∈ bW :: l'.wv.ownBlock.toList, j ∈ l'.set bW := fun j hj => by
    simp only [List.mem_cons, Option.mem_toList] at hj
    rcases hj with rfl | e
    · exact LM.mem.2 (.inl rfl)
    · exact LM.mem.2 (.inr (.inl e))
  have hN : ∀ j ∈ LM.set bW { l' with wv := .slice (some ⟨g, 0, none⟩) n c }, j ∈ l'.set bW ∨ w.heap.size ≤ j := fun j hj => by
    rcases LM.mem.1 hj with rfl | e | e | e | e
    · exact .inl (LM.mem.2 (.inl rfl))
    · have e' : g = j := by simpa [Value.ownBlock] using e
      subst e'
      rcases hg with e | e
      · exact .inl (LM.mem.2 (.inr (.inl e)))
      · exact .inr e
    · exact .inl (LM.mem.2 (.inr (.inr (.inl e))))
    · exact .inl (LM.mem.2 (.inr (.inr (.inr (.inl e)))))
    · exact .inl (LM.mem.2 (.inr (.inr (.inr (.inr e)))))
  exact ⟨h.sys.kp hs (fun j hj => h.ap j (hS j hj)), h.st.grow_w hk hg hr, h.pass, h.tv, h.op, fun j hj => (hN j hj).elim (h.ap j) (Foreign.new h.sys), fun j hj => (hN j hj).elim (h.lo j) (fun e => .inr (Nat.le_trans h.kp.size e)), h.kp.step hs (fun j hj => h.lo j (hS j hj))⟩
theorem Mid.grow_s {g n c : Nat} {new : List (List UInt8)} (h : Mid w0 w x b bW m v wv l tr l' wr sl ow) (hk : Kp l'.sv.ownBlock.toList w w') (hg : l'.sv.ownBlock = some g ∨ w.heap.size ≤ g) (hr : SRow w' (.slice (some ⟨g, 0, none⟩) n c) new) :
    Mid w0 (w'.setCell ⟨bW, 11, none⟩ (.slice (some ⟨g, 0, none⟩) n c)) x b bW m v wv l tr { l' with sv := .slice (some ⟨g, 0, none⟩) n c } wr new ow := by
  have hs := kp_set hk bW 11 (.slice (some ⟨g, 0, none⟩) n c)
  have hS : ∀ j ∈ bW :: l'.sv.ownBlock.toList, j ∈ l'.set bW := fun j hj => by
    simp only [List.mem_cons, Option.mem_toList] at hj
    rcases hj with rfl | e
    · exact LM.mem.2 (.inl rfl)
    · exact LM.mem.2 (.inr (.inr (.inl e)))
  have hN : ∀ j ∈ LM.set bW { l' with sv := .slice (some ⟨g, 0, none⟩) n c }, j ∈ l'.set bW ∨ w.heap.size ≤ j := fun j hj => by
    rcases LM.mem.1 hj with rfl | e | e | e | e
    · exact .inl (LM.mem.2 (.inl rfl))
    · exact .inl (LM.mem.2 (.inr (.inl e)))
    · have e' : g = j := by simpa [Value.ownBlock] using e
      subst e'
      rcases hg with e | e
      · exact .inl (LM.mem.2 (.inr (.inr (.inl e))))
      · exact .inr e
    · exact .inl (LM.mem.2 (.inr (.inr (.inr (.inl e)))))
    · exact .inl (LM.mem.2 (.inr (.inr (.inr (.inr e)))))
  exact ⟨h.sys.kp hs (fun j hj => h.ap j (hS j hj)), h.st.grow_s hk hg hr, h.pass, h.tv, h.op, fun j hj => (hN j hj).elim (h.ap j) (Foreign.new h.sys), fun j hj => (hN j hj).elim (h.lo j) (fun e => .inr (Nat.le_trans h.kp.size e)), h.kp.step hs (fun j hj => h.lo j (hS j hj))⟩
theorem Mid.grow_o {g n c : Nat} {new : List (List UInt8)} (h : Mid w0 w x b bW m v wv l tr l' wr sl ow) (hk : Kp l'.ov.ownBlock.toList w w') (hg : l'.ov.ownBlock = some g ∨ w.heap.size ≤ g) (hr : SRow w' (.slice (some ⟨g, 0, none⟩) n c) new) :
    Mid w0 (w'.setCell ⟨bW, 14, none⟩ (.slice (some ⟨g, 0, none⟩) n c)) x b bW m v wv l tr { l' with ov := .slice (some ⟨g, 0, none⟩) n c } wr sl new := by
  have hs := kp_set hk bW 14 (.slice (some ⟨g, 0, none⟩) n c)
  have hS : ∀ j ∈ bW :: l'.ov.ownBlock.toList, j ∈ l'.set bW := fun j hj => by
    simp only [List.mem_cons, Option.mem_toList] at hj
    rcases hj with rfl | e
    · exact LM.mem.2 (.inl rfl)
    · exact LM.mem.2 (.inr (.inr (.inr (.inr e))))
  have hN : ∀ j ∈ LM.set bW { l' with ov := .slice (some ⟨g, 0, none⟩) n c }, j ∈ l'.set bW ∨ w.heap.size ≤ j := fun j hj => by
    rcases LM.mem.1 hj with rfl | e | e | e | e
    · exact .inl (LM.mem.2 (.inl rfl))
    · exact .inl (LM.mem.2 (.inr (.inl e)))
    · exact .inl (LM.mem.2 (.inr (.inr (.inl e))))
    · exact .inl (LM.mem.2 (.inr (.inr (.inr (.inl e)))))
    · have e' : g = j := by simpa [Value.ownBlock] using e
      subst e'
      rcases hg with e | e
      · exact .inl (LM.mem.2 (.inr (.inr (.inr (.inr e)))))
      · exact .inr e
  exact ⟨h.sys.kp hs (fun j hj => h.ap j (hS j hj)), h.st.grow_o hk hg hr, h.pass, h.tv, h.op, fun j hj => (hN j hj).elim (h.ap j) (Foreign.new h.sys), fun j hj => (hN j hj).elim (h.lo j) (fun e => .inr (Nat.le_trans h.kp.size e)), h.kp.step hs (fun j hj => h.lo j (hS j hj))⟩
end
/-- What the law knows behind k writes. -/
structure NonI (w0 w : World) (x : DX) (b bW : Nat) (m : DM) (v : VM) (wv : Value) (l : LM) (tr : List (List UInt8)) (k : Nat) (l' : LM) (sl : List (List UInt8)) : Prop where
  mid : Mid w0 w x b bW m v wv l tr l' (m.wrote.take k) sl (List.replicate k l.pass)
  n : l'.n = k
  sl : sl.length ≤ k
theorem NonI.below {w0 w w' : World} {x : DX} {b bW : Nat} {m : DM} {v : VM} {wv : Value} {l : LM} {tr : List (List UInt8)} {k : Nat} {l' : LM} {sl : List (List UInt8)} (h : NonI w0 w x b bW m v wv l tr k l' sl) (hb : Below w.heap.size w w') : NonI w0 w' x b bW m v wv l tr k l' sl :=
  ⟨h.mid.below hb, h.n, h.sl⟩
theorem NonI.lawN {w0 w : World} {x : DX} {b bW : Nat} {m : DM} {v : VM} {wv : Value} {l : LM} {tr : List (List UInt8)} {k : Nat} {l' : LM} {sl : List (List UInt8)} (h : NonI w0 w x b bW m v wv l tr k l' sl) : lawN bW w = k := by
  unfold Proofs.YtjnhlkaafnaooabGreatDoor.lawN
  rw [h.mid.st.at_.c 8, ← h.n]
  simp [lcells, intOf]
/-- One write more. -/
theorem NonI.next {w0 w : World} {x : DX} {b bW : Nat} {m : DM} {v : VM} {wv : Value} {l : LM} {tr : List (List UInt8)} {k pt : Nat} {tx : List UInt8} {l' : LM} {sl P' : List (List UInt8)} {P : List (Nat × List UInt8)} (hP : m.wrote.take k = P) (hR : List.replicate k l.pass = P') (hel : m.wrote[k]? = some (pt, tx))
    (h : Mid w0 w x b bW m v wv l tr l' (P ++ [(pt, tx)]) sl (P' ++ [l.pass])) (hn : l'.n = k + 1) (hs : sl.length ≤ k + 1) : NonI w0 w x b bW m v wv l tr (k + 1) l' sl := by
  obtain ⟨hk, he⟩ := List.getElem?_eq_some_iff.1 hel
  refine ⟨?_, hn, hs⟩
  rw [List.take_succ_eq_append_getElem hk, he, hP, List.replicate_succ', hR]
  exact h
set_option maxRecDepth 100000 in
set_option maxHeartbeats 4000000 in
theorem nonces_any (x : DX) (b bW : Nat) (m : DM) (v : VM) (wv : Value) (l : LM) (tr : List (List UInt8)) (w : World) (h : NonI w w x b bW m v wv l tr 0 l []) (hf : ∀ e ∈ m.wrote, e.2.length = 256) (hlen : m.wrote.length ≤ 1000) :
    Calls Tryz.prog 16 #[.pointer (some ⟨bW, 0, none⟩)] w fun e w' => e = .returned (.bool true) ∧ ∃ l' sl, NonI w w' x b bW m v wv l tr m.wrote.length l' sl := by
  obtain ⟨iw, hiw, hw0, hw1, hw2⟩ := info_parts info_written
  obtain ⟨is, his, hs0, hs1, hs2⟩ := info_parts info_string
  have HH := hide (And.intro h (And.intro hf hlen))
  have hli : (m.wrote.length : Int) ≤ 1000 := by omega
  clear h hf hlen
  generalize hL : m.wrote.length = L at *
  go_enter Tryz.func16, Tryz.ntmps16
  go_wp2_with fail
  go_loopw [3, 4, 5] (fun _ _ _ wr => ∃ k l' sl, k ≤ L ∧ NonI w wr x b bW m v wv l tr k l' sl) (fun _ _ _ wr => L - lawN bW wr)
  case atStart => exact ⟨0, l, [], by omega, HH.out.1⟩
  case round =>
    obtain ⟨k, l', sl, hk, hI⟩ := hrel
    have c0 : wr.cell? ⟨bW, 0, none⟩ = some (.pointer (some ⟨x.d, 0, none⟩)) := by rw [hI.mid.st.at_.c 0]; rfl
    have c8 : wr.cell? ⟨bW, 8, none⟩ = some (.int .i64 (k : Int)) := by rw [hI.mid.st.at_.c 8, ← hI.n]; rfl
    have c6 := hI.mid.sys.disk.c6
    obtain ⟨a, cap, hv⟩ := owns_form hI.mid.sys.disk.own
    rw [hv, hL] at c6
    have HI := hide hI
    have HI0 := hide hI
    by_cases hlt : k < L
    · obtain ⟨⟨pt, tx⟩, hel⟩ : ∃ e, m.wrote[k]? = some e := ⟨m.wrote[k]'(by omega), List.getElem?_eq_getElem (by omega)⟩
      have htx : tx.length = 256 := HH.out.2.1 _ (List.mem_of_getElem? hel)
      obtain ⟨g, cap', hv', hgl, hcl, hcm, hcell⟩ := wrow_cell hI.mid.sys.disk.own (by rintro e; rw [e] at hL; simp at hL; omega)
      rw [hv] at hv'
      simp only [Value.slice.injEq, true_and] at hv'
      obtain ⟨rfl, rfl⟩ := hv'
      obtain ⟨ck0, ck1⟩ := hcell k _ hel
      have hki : (k : Int) < (L : Int) := by omega
      have HLT := hide hlt
      have HEL := hide (And.intro hel htx)
      have HV := hide hv
      clear hI hv hlt hel htx hcell hcl hk
      simp only at ck0 ck1
      go_wp2_with fail
      go_quiet (fail)
      obtain ⟨w1, hw1⟩ : ∃ w1, wr.drewN nq = w1 := ⟨_, rfl⟩
      have hI1 := HI.out.below (hw1 ▸ below_drewN (Below.refl wr.heap.size wr) nq : Below wr.heap.size wr w1)
      have d0 : w1.cell? ⟨bW, 0, none⟩ = some (.pointer (some ⟨x.d, 0, none⟩)) := hw1 ▸ c0
      have d8 : w1.cell? ⟨bW, 8, none⟩ = some (.int .i64 (k : Int)) := hw1 ▸ c8
      have d6 : w1.cell? ⟨x.d, 6, none⟩ = some (.slice (some ⟨g, 0, none⟩) L cap) := hw1 ▸ c6
      have dk0 : w1.cell? ⟨g, k * 2, none⟩ = some (.int .i64 (pt : Int)) := hw1 ▸ ck0
      have dk1 : w1.cell? ⟨g, k * 2 + 1, none⟩ = some (.string ⟨tx.toArray⟩) := hw1 ▸ ck1
      have hgl1 : g < w1.heap.size := hw1 ▸ hgl
      have hWl1 := hI1.mid.st.at_.lt
      have hdl1 := hI1.mid.sys.disk.lt
      have o0 : ∀ o, (w1.alloc o).cell? ⟨bW, 0, none⟩ = some (.pointer (some ⟨x.d, 0, none⟩)) := fun o => (World.cell?_alloc_lt w1 o ⟨bW, 0, none⟩ hWl1).trans d0
      have o8 : ∀ o, (w1.alloc o).cell? ⟨bW, 8, none⟩ = some (.int .i64 (k : Int)) := fun o => (World.cell?_alloc_lt w1 o ⟨bW, 8, none⟩ hWl1).trans d8
      have o6 : ∀ o, (w1.alloc o).cell? ⟨x.d, 6, none⟩ = some (.slice (some ⟨g, 0, none⟩) L cap) := fun o => (World.cell?_alloc_lt w1 o ⟨x.d, 6, none⟩ hdl1).trans d6
      have ok0 : ∀ o, (w1.alloc o).cell? ⟨g, k * 2, none⟩ = some (.int .i64 (pt : Int)) := fun o => (World.cell?_alloc_lt w1 o ⟨g, k * 2, none⟩ hgl1).trans dk0
      have ok1 : ∀ o, (w1.alloc o).cell? ⟨g, k * 2 + 1, none⟩ = some (.string ⟨tx.toArray⟩) := fun o => (World.cell?_alloc_lt w1 o ⟨g, k * 2 + 1, none⟩ hgl1).trans dk1
      rw [hw1]
      have HI1 := hide hI1
      have HI1L := hide (fun j hj => hI1.mid.st.bound (k := j) hj)
      clear hI1 hw1 c0 c8 c6 ck0 ck1 HI
      go_wp2_with fail
      go_region
      obtain ⟨w2, hw2⟩ : ∃ w2, (w1.alloc (.cells #[.int .i64 (pt : Int), .string ⟨tx.toArray⟩] 43)).drew = w2 := ⟨_, rfl⟩
      have hb2 : Below w1.heap.size w1 w2 := hw2 ▸ ((Below.refl _ _).alloc (Nat.le_refl _) _).drew
      have hI2 := HI1.out.below hb2
      have q2 : w2.heap[w1.heap.size]? = some (.cells #[.int .i64 (pt : Int), .string ⟨tx.toArray⟩] 43 (0, 0)) := hw2 ▸ heap_alloc_new w1 _
      have hz2 : w2.heap.size = w1.heap.size + 1 := by rw [← hw2]; show (w1.alloc _).heap.size = _; simp
      have e8 : w2.cell? ⟨bW, 8, none⟩ = some (.int .i64 (k : Int)) := by rw [hI2.mid.st.at_.c 8, ← hI2.n]; rfl
      have g8 := hI2.mid.st.at_.fr 8
      have m3 := hI2.mid.set8 (k + 1)
      rw [hw2]
      have hbq : w1.heap.size ≠ bW := by omega
      obtain ⟨w3, hw3⟩ : ∃ w3, w2.setCell ⟨bW, 8, none⟩ (.int .i64 ((k : Int) + 1)) = w3 := ⟨_, rfl⟩
      have hw3' : w2.setCell ⟨bW, 8, none⟩ (.int .i64 ((k + 1 : Nat) : Int)) = w3 := hw3
      obtain ⟨P, hP⟩ : ∃ P, m.wrote.take k = P := ⟨_, rfl⟩
      obtain ⟨R, hR⟩ : ∃ R, List.replicate k l.pass = R := ⟨_, rfl⟩
      rw [hw3', hP, hR] at m3
      have hPl : P.length = k := by rw [← hP, List.length_take]; have := HLT.out; omega
      have hRl : R.length = k := by rw [← hR]; simp
      have HPR := hide (And.intro hP (And.intro hR (And.intro hPl hRl)))
      have q3 : w3.heap[w1.heap.size]? = some (.cells #[.int .i64 (pt : Int), .string ⟨tx.toArray⟩] 43 (0, 0)) := hw3 ▸ set_far q2 _ _ hbq
      have hz3 : w3.heap.size = w2.heap.size := by rw [← hw3]; simp [World.setCell]
      have p0 : w3.cell? ⟨w1.heap.size, 0, none⟩ = some (.int .i64 (pt : Int)) := by rw [cell_of_row _ _ _ _ _ _ q3]; rfl
      have p1 : w3.cell? ⟨w1.heap.size, 1, none⟩ = some (.string ⟨tx.toArray⟩) := by rw [cell_of_row _ _ _ _ _ _ q3]; rfl
      have n9 : w3.cell? ⟨bW, 9, none⟩ = some l'.wv := by rw [m3.st.at_.c 9]; rfl
      have hWl3 := m3.st.at_.lt
      have n9a : ∀ o, (w3.alloc o).cell? ⟨bW, 9, none⟩ = some l'.wv := fun o => (World.cell?_alloc_lt w3 o ⟨bW, 9, none⟩ hWl3).trans n9
      have hk1 : (k : Int) < 1000 := by omega
      have H3 := hide (And.intro m3 (And.intro q3 (And.intro hI2.sl (show P.length ≤ 1000 ∧ R.length ≤ 1000 from by omega))))
      have HZ := hide (And.intro hz2 hz3)
      clear hI2 hb2 q2 hw2 m3 hw3' q3 hz2 hz3 hP hR hPl hRl HI1 d0 d8 d6 dk0 dk1 o0 o8 o6 ok0 ok1 hgl1 hWl1 hdl1
      go_wp2_with fail
      apply cutK
      case f =>
        intro KK
        go_region_law (refine step_append_lies _ rfl (.tmp 43) (.tmp 45) 33 rfl 0 43 iw _ 2 24 Tryz.underlying33 hiw hw0 hw1 hw2 rfl (by decide) l'.wv _ _ (by simp [Act.eval]) (by exact owns_kp H3.out.1.st.w_ (((Kp.refl [] w3).drewN _).alloc _) (by simp)) ⟨w3.heap.size, 0, none⟩ 1 1 [.int .i64 (pt : Int), .string ⟨tx.toArray⟩] (by simp [Act.eval]) rfl (by exact World.news_of_block (cs := #[.int .i64 (pt : Int), .string ⟨tx.toArray⟩]) (heap_alloc_new (w3.drewN _) _)) (by intro u hu; simp at hu; rcases hu with rfl | rfl <;> rfl) (by decide) (by have := H3.out.2.2.2.1; unfold maxLen; omega) (by have := H3.out.2.2.2.1; omega) (Nat.zero_le _) _ rfl ?_; intro g7 cap7 w7 hown7 hgrow7 hlie7 hlt7; have k7 : Kp l'.wv.ownBlock.toList w3 w7 := (((Kp.refl _ w3).drewN _).alloc _).grown hgrow7 (fun j hj => .inl (by simp [hj])); have hnn : bW ∉ l'.wv.ownBlock.toList := (fun hm => H3.out.1.st.nw (by simpa using hm)); have la7 := H3.out.1.st.at_.of_block (k7.block bW hWl3 hnn); have n97 : w7.cell? ⟨bW, 9, none⟩ = some l'.wv := (by rw [la7.c 9]; rfl); have f97 := la7.fr 9)
        all_goals
          have hlie : l'.wv.ownBlock = some g7 ∨ w3.heap.size ≤ g7 := by
            rcases hlie7 with e | e
            · exact .inl e
            · refine .inr ?_
              have : g7 = w3.heap.size + 1 := by simpa using e
              omega
          have m8 := H3.out.1.grow_w (new := P ++ [(pt, tx)]) k7 hlie (by
            rw [WRow, List.length_append, wcells_snoc]
            exact hown7)
          obtain ⟨w8, hw8⟩ : ∃ w8, w7.setCell ⟨bW, 9, none⟩ (.slice (some ⟨g7, 0, none⟩) (P.length + 1) cap7) = w8 := ⟨_, rfl⟩
          have hnb : w1.heap.size ∉ bW :: l'.wv.ownBlock.toList := fun hm => by
            have hlt := H3.out.1.st.bound (k := w1.heap.size)
            have hl1 := HI1L.out w1.heap.size (by
              simp only [List.mem_cons, Option.mem_toList] at hm
              rcases hm with e | e
              · exact LM.mem.2 (.inl e)
              · exact LM.mem.2 (.inr (.inl e)))
            omega
          have k8 : Kp (bW :: l'.wv.ownBlock.toList) w3 w8 := hw8 ▸ kp_set k7 bW 9 _
          rw [hw8] at m8
          have hz3l := lt_of_block H3.out.2.1
          have q8 := (k8.block w1.heap.size hz3l hnb).trans H3.out.2.1
          have H8 := hide (And.intro m8 (And.intro q8 (And.intro H3.out.2.2 k8.size)))
          clear m8 q8 k8 hnb hz3l hlie hown7 hgrow7 hlie7 hlt7 n97 f97 la7 hnn k7
          rw [hw8]
          clear hw8
          revert H8
          revert w8 cap7 g7
          exact KK.out
      case k =>
        intro g7 cap7 w8 H8
        clear H3 n9 n9a p0 p1
        have m8 := H8.out.1
        have n14 : w8.cell? ⟨bW, 14, none⟩ = some l'.ov := by rw [m8.st.at_.c 14]; rfl
        have n12 : w8.cell? ⟨bW, 12, none⟩ = some (strV l.pass) := by rw [m8.st.at_.c 12, ← m8.pass]; rfl
        have hWl8 := m8.st.at_.lt
        have n14a : ∀ o, (w8.alloc o).cell? ⟨bW, 14, none⟩ = some l'.ov := fun o => (World.cell?_alloc_lt w8 o ⟨bW, 14, none⟩ hWl8).trans n14
        have n12a : ∀ o, (w8.alloc o).cell? ⟨bW, 12, none⟩ = some (strV l.pass) := fun o => (World.cell?_alloc_lt w8 o ⟨bW, 12, none⟩ hWl8).trans n12
        clear m8
        go_wp2_with fail
        apply cutK
        case f =>
          intro KK
          go_region_law (refine step_append_lies _ rfl (.tmp 53) (.tmp 58) 34 rfl 0 9 is _ 1 16 Tryz.underlying34 his hs0 hs1 hs2 rfl (by decide) l'.ov _ _ (by simp [Act.eval]) (by exact owns_kp H8.out.1.st.o_ (((Kp.refl [] w8).drewN _).alloc _) (by simp)) ⟨w8.heap.size, 0, none⟩ 1 1 [strV l.pass] (by simp [Act.eval]) rfl (by exact World.news_of_block (cs := #[strV l.pass]) (heap_alloc_new (w8.drewN _) _)) (by intro u hu; simp at hu; subst hu; rfl) (by decide) (by have := H8.out.2.2.1.2.2; unfold maxLen; omega) (by have := H8.out.2.2.1.2.2; omega) (Nat.zero_le _) _ rfl ?_; intro g9 cap9 w9 hown9 hgrow9 hlie9 hlt9; have k9 : Kp l'.ov.ownBlock.toList w8 w9 := (((Kp.refl _ w8).drewN _).alloc _).grown hgrow9 (fun j hj => .inl (by simp [hj])); have hnn : bW ∉ l'.ov.ownBlock.toList := (fun hm => H8.out.1.st.no (by simpa using hm)); have la9 := H8.out.1.st.at_.of_block (k9.block bW hWl8 hnn); have n149 : w9.cell? ⟨bW, 14, none⟩ = some l'.ov := (by rw [la9.c 14]; rfl); have f149 := la9.fr 14)
          all_goals
            have hlie : l'.ov.ownBlock = some g9 ∨ w8.heap.size ≤ g9 := by
              rcases hlie9 with e | e
              · exact .inl e
              · refine .inr ?_
                have : g9 = w8.heap.size + 1 := by simpa using e
                omega
            have m10 := H8.out.1.grow_o (new := R ++ [l.pass]) k9 hlie (by
              rw [SRow, List.length_append, List.map_append]
              exact hown9)
            obtain ⟨w10, hw10⟩ : ∃ w10, w9.setCell ⟨bW, 14, none⟩ (.slice (some ⟨g9, 0, none⟩) (R.length + 1) cap9) = w10 := ⟨_, rfl⟩
            have hnb : w1.heap.size ∉ bW :: l'.ov.ownBlock.toList := fun hm => by
              have hl1 := HI1L.out w1.heap.size (by
                simp only [List.mem_cons, Option.mem_toList] at hm
                rcases hm with e | e
                · exact LM.mem.2 (.inl e)
                · exact LM.mem.2 (.inr (.inr (.inr (.inr e)))))
              omega
            have k10 : Kp (bW :: l'.ov.ownBlock.toList) w8 w10 := hw10 ▸ kp_set k9 bW 14 _
            rw [hw10] at m10
            have q10 := (k10.block w1.heap.size (lt_of_block H8.out.2.1) hnb).trans H8.out.2.1
            have H10 := hide (And.intro m10 (And.intro q10 H8.out.2.2.1.1))
            clear m10 q10 k10 hnb hlie hown9 hgrow9 hlie9 hlt9 n149 f149 la9 hnn k9
            rw [hw10]
            clear hw10
            revert H10
            revert w10 cap9 g9
            exact KK.out
        case k =>
          intro g9 cap9 w10 H10
          clear H8 n14 n14a n12 n12a
          obtain ⟨m10, q10, hsl⟩ := H10.out
          have p0 : w10.cell? ⟨w1.heap.size, 0, none⟩ = some (.int .i64 (pt : Int)) := by rw [cell_of_row _ _ _ _ _ _ q10]; rfl
          have p1 : w10.cell? ⟨w1.heap.size, 1, none⟩ = some (.string ⟨tx.toArray⟩) := by rw [cell_of_row _ _ _ _ _ _ q10]; rfl
          have htl : (ByteArray.mk tx.toArray).size = 256 := HEL.out.2
          have n11 : w10.cell? ⟨bW, 11, none⟩ = some l'.sv := by rw [m10.st.at_.c 11]; rfl
          have n17 : w10.cell? ⟨bW, 17, none⟩ = some (.bool false) := by rw [m10.st.at_.c 17]; rfl
          have HNX := hide (NonI.next HPR.out.1 HPR.out.2.1 HEL.out.1 m10 rfl (Nat.le_succ_of_le hsl))
          have HK0 := hide HI0.out.lawN
          clear m10 q10 hsl
          by_cases hpt : pt < 2
          · have d2 : decide ((pt : Int) < 2) = true := by simp; omega
            clear hpt n11 n17
            go_wp2_with fail
            go_roundw
            case rel => exact ⟨k + 1, _, sl, by have := HLT.out; omega, HNX.out⟩
            case measure => rw [HNX.out.lawN, HK0.out]; have := HLT.out; omega
          · have d2 : decide ((pt : Int) < 2) = false := by simp; omega
            obtain ⟨asv, cs, hvs⟩ := owns_form H10.out.1.st.s_
            simp only at hvs
            rw [hvs] at n11
            have hx : (ByteArray.mk tx.toArray).extract 0 12 = ⟨(tx.take 12).toArray⟩ := by
              apply ByteArray.ext
              simp [ByteArray.data_extract]
            have HVS := hide hvs
            have hsli : (sl.length : Int) ≤ 1000 := by have := H10.out.2.2; omega
            clear hpt hvs
            generalize tx.take 12 = S at *
            go_wp2_with fail
            go_loopw [5] (fun i wr' => ∃ j : Nat, j ≤ sl.length ∧ i = .int .i64 (j : Int) ∧ wr' = w10) (fun i _ => sl.length - (intOf i).toNat)
            case atStart => exact ⟨0, by omega, rfl, rfl⟩
            case round =>
              obtain ⟨j, hj, rfl, rfl⟩ := hrel
              by_cases hjl : j < sl.length
              · obtain ⟨y, hy⟩ : ∃ y, sl[j]? = some y := ⟨sl[j], List.getElem?_eq_getElem hjl⟩
                obtain ⟨gs, cap', hv', hgl, hcl, hcm, hcell⟩ := srow_cell H10.out.1.st.s_ (by rintro rfl; simp at hjl)
                simp only at hv'
                rw [HVS.out] at hv'
                simp only [Value.slice.injEq, true_and] at hv'
                obtain ⟨rfl, rfl⟩ := hv'
                have ck := hcell j y hy
                have hji : (j : Int) < (sl.length : Int) := by omega
                have HJ := hide hjl
                clear hcell hjl hj hy hcl hcm hgl
                generalize sl.length = SL at *
                by_cases he : (y == S) = true
                · go_wp2_with fail
                  go_roundw
                  case rel => exact ⟨j + 1, by have := HJ.out; omega, by go_num, by trivial⟩
                  case measure => have := HJ.out; simp [intOf]; omega
                · have he' : (y == S) = false := by simpa using he
                  clear he
                  go_wp2_with fail
                  go_roundw
                  case rel => exact ⟨j + 1, by have := HJ.out; omega, by go_num, by trivial⟩
                  case measure => have := HJ.out; simp [intOf]; omega
              · obtain rfl : j = sl.length := by omega
                have hdl : decide ((sl.length : Int) < (sl.length : Int)) = false := by simp
                clear hjl hj
                go_wp2_with (at_builtin; refine wpList_append_lies _ rfl _ _ 34 rfl 0 9 is _ 1 16 Tryz.underlying34 his hs0 hs1 hs2 rfl (by decide) (.slice asv sl.length cs) sl.length (sl.map strV) rfl ?own ⟨wr.heap.size, 0, none⟩ 1 1 [strV S] rfl rfl ?c1 ?c2 (by decide) ?c3 ?c4 (Nat.zero_le _) _ rfl ?_)
                case own => rw [← HVS.out]; exact H10.out.1.st.s_.alloc _
                case c1 => exact World.news_of_block (cs := #[strV S]) (heap_alloc_new _ _)
                case c2 => intro u hu; simp at hu; subst hu; rfl
                case c3 => unfold maxLen; omega
                case c4 => omega
                intro g11 cap11 w11 hown11 hgrow11 hlie11 hlt11
                have k11 : Kp l'.sv.ownBlock.toList wr w11 := ((Kp.refl _ wr).alloc _).grown hgrow11 (fun j hj => .inl (by rw [HVS.out]; simp [hj]))
                have hlie : l'.sv.ownBlock = some g11 ∨ wr.heap.size ≤ g11 := by
                  rw [HVS.out]
                  rcases hlie11 with e | e
                  · exact .inl e
                  · refine .inr ?_
                    have : g11 = wr.heap.size + 1 := by simpa using e
                    omega
                have m12 := H10.out.1.grow_s (new := sl ++ [S]) (n := sl.length + 1) (c := cap11) k11 hlie (by
                  rw [SRow, List.length_append, List.map_append]
                  exact hown11)
                have la11 := H10.out.1.st.at_.of_block (k11.block bW H10.out.1.st.at_.lt (by simpa using H10.out.1.st.ns))
                have n1111 : w11.cell? ⟨bW, 11, none⟩ = some (.slice asv sl.length cs) := by rw [la11.c 11, ← HVS.out]; rfl
                have f1111 := la11.fr 11
                have HN2 := hide (NonI.next HPR.out.1 HPR.out.2.1 HEL.out.1 m12 rfl (by have := H10.out.2.2; simp; omega))
                clear m12 la11 hlie hown11 hgrow11 hlie11 hlt11 k11
                go_wp2_with fail
                go_roundw
                case rel => exact ⟨k + 1, _, _, by have := HLT.out; omega, HN2.out⟩
                case measure => rw [HN2.out.lawN, HK0.out]; have := HLT.out; omega
    · obtain rfl : k = L := by omega
      have hdl : decide ((k : Int) < (k : Int)) = false := by simp
      clear hI hv hlt
      go_wp2_with fail
      go_quiet (fail)
      go_wp2_with fail
      go_ret
      exact ⟨rfl, l', sl, HI.out.below (below_drewN (Below.refl _ _) _)⟩
end Go.Proofs.YtjnhlkaafnaooabGreatDoor
