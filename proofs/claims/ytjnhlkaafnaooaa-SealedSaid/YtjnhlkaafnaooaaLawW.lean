import Derived.Test.YtjnhlkaafnaooaaWorldW
import Derived.Deep.AppendLies
namespace Go.Proofs.Ytjnhlkaafnaooaa
open Go.RowKit
/-- What the law keeps of its world. -/
structure LM where
  may : Value
  opened : Bool
  n : Nat
  wv : Value
  base : Nat
  sv : Value
  pass : List UInt8
  tv : Value
  ov : Value
def lcells (d b : Nat) (l : LM) : List Value := [.pointer (some ⟨d, 0, none⟩), .pointer (some ⟨b, 0, none⟩), l.may, .bool l.opened, .slice none 0 0, .bool false, .bool false, .bool false, .int .i64 l.n, l.wv, .int .i64 l.base, l.sv, strV l.pass, l.tv, l.ov, .slice none 0 0, .bool false, .bool false]
section
variable {w : World} {bW d b : Nat} {l : LM}
end
/-- Two rows lie apart. -/
def Sep (a b : Value) : Prop := ∀ j, a.ownBlock = some j → b.ownBlock ≠ some j
theorem Sep.symm {a b : Value} (h : Sep a b) : Sep b a := fun j h1 h2 => h j h2 h1
theorem Sep.grow {a b : Value} {g n c H : Nat} (h : Sep a b) (hg : a.ownBlock = some g ∨ H ≤ g) (hb : ∀ j, b.ownBlock = some j → j < H) : Sep (.slice (some ⟨g, 0, none⟩) n c) b := fun j h1 h2 => by
  have e : g = j := by simpa [Value.ownBlock] using h1
  subst e
  rcases hg with e | e
  · exact h g e h2
  · have := hb g h2; omega
/-- Texts in a row. -/
abbrev SRow (w : World) (v : Value) (l : List (List UInt8)) : Prop := w.ownsRow 0 9 1 v l.length (l.map strV)
/-- The blocks of the law's own. -/
def LM.set (bW : Nat) (l : LM) : List Nat := [bW] ++ l.wv.ownBlock.toList ++ l.sv.ownBlock.toList ++ l.tv.ownBlock.toList ++ l.ov.ownBlock.toList
theorem LM.mem {bW : Nat} {l : LM} {k : Nat} : k ∈ l.set bW ↔ k = bW ∨ l.wv.ownBlock = some k ∨ l.sv.ownBlock = some k ∨ l.tv.ownBlock = some k ∨ l.ov.ownBlock = some k := by
  simp only [LM.set, List.mem_append, List.mem_singleton, Option.mem_toList]
  simp [or_assoc]
section
variable {w w' : World} {bW d b : Nat} {l : LM} {wr : List (Nat × List UInt8)} {sl tr ow : List (List UInt8)}
end
section
variable {w w' : World} {bW d b : Nat} {l : LM} {wr : List (Nat × List UInt8)} {sl tr ow : List (List UInt8)}
theorem kp_set {S : List Nat} (hk : Kp S w w') (bW i : Nat) (y : Value) : Kp (bW :: S) w (w'.setCell ⟨bW, i, none⟩ y) := (hk.mono (fun _ h => List.mem_cons_of_mem _ h)).setCell bW i y (.inl (by simp))
end
theorem owns_form {w : World} {B T s n : Nat} {v : Value} {xs : List Value} (h : w.ownsRow B T s v n xs) : ∃ a cap, v = .slice a n cap := by
  rcases h.2 with ⟨hv, hn⟩ | ⟨g, cap, cur, hv, _⟩
  · exact ⟨none, 0, by rw [hv, hn]⟩
  · exact ⟨_, cap, hv⟩
/-- A row's cells, by number. -/
theorem srow_cell {w : World} {v : Value} {l : List (List UInt8)} (h : SRow w v l) (h0 : l ≠ []) : ∃ g cap, v = .slice (some ⟨g, 0, none⟩) l.length cap ∧ g < w.heap.size ∧ l.length ≤ cap ∧ cap ≤ maxLen ∧ ∀ i x, l[i]? = some x → w.cell? ⟨g, i, none⟩ = some (strV x) := by
  rcases h.2 with ⟨_, hn⟩ | ⟨g, cap, cur, hv, _, hb, hle, hmx, hsz, htk⟩
  · exact absurd (List.length_eq_zero_iff.1 hn) h0
  · refine ⟨g, cap, hv, lt_of_block hb, hle, hmx, fun i x hi => ?_⟩
    have hil : i < l.length := (List.getElem?_eq_some_iff.1 hi).1
    have e : (l.map strV)[i]? = some (strV x) := by simp [hi]
    rw [cell_of_row _ _ _ _ _ _ hb, ← e, ← htk, List.getElem?_take_of_lt (by omega)]
    simp
end Go.Proofs.Ytjnhlkaafnaooaa
