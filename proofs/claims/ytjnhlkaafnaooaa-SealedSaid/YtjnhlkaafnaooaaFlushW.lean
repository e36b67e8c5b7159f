import Derived.Test.YtjnhlkaafnaooaaDiskW
namespace Go.Proofs.Ytjnhlkaafnaooaa
open Go.RowKit
def DM.flushTo (m : DM) (j : Nat) : DM := { m with blocks := (List.range m.blocks.length).map (fun i => if i < j then m.look i else m.blocks.getD i []), cache := (List.range m.blocks.length).map (fun i => if i < j then [] else m.cache.getD i []) }
def DM.flush (m : DM) : DM := { m with blocks := (List.range m.blocks.length).map m.look, cache := List.replicate m.blocks.length [] }
theorem DM.flushTo_zero (m : DM) (h : m.cache.length = m.blocks.length) : m.flushTo 0 = m := by
  cases m with | mk b c n cl wr =>
  simp only [DM.flushTo, DM.mk.injEq, and_true, Nat.not_lt_zero, if_false]
  constructor
  · apply List.ext_getElem
    · simp
    · intro i h1 h2; simp [h2]
  · apply List.ext_getElem
    · simp; exact h.symm
    · intro i h1 h2; simp [h2]
theorem DM.flushTo_all (m : DM) : m.flushTo m.blocks.length = m.flush := by
  simp only [DM.flushTo, DM.flush, DM.mk.injEq, and_true]
  constructor
  · apply List.map_congr_left
    intro i hi
    rw [if_pos (List.mem_range.1 hi)]
  · apply List.ext_getElem
    · simp
    · intro i h1 h2
      simp at h1 h2
      simp [h2]
theorem range_set {α : Type} (f : Nat → α) (n k : Nat) (y : α) : ((List.range n).map f).set k y = (List.range n).map (fun i => if i = k then y else f i) := by
  apply List.ext_getElem
  · simp
  · intro i h1 h2
    simp only [List.getElem_set, List.getElem_map, List.getElem_range]
    by_cases e : k = i
    · subst e; simp
    · simp [e, Ne.symm e]
theorem DM.flushTo_blocks (m : DM) (j : Nat) : (m.flushTo j).blocks.set j (m.look j) = (m.flushTo (j + 1)).blocks := by
  simp only [DM.flushTo]
  rw [range_set]
  apply List.map_congr_left
  intro i _
  by_cases e : i = j
  · subst e; simp
  · simp only [e, if_false]
    by_cases h : i < j
    · rw [if_pos h, if_pos (by omega)]
    · rw [if_neg h, if_neg (by omega)]
theorem DM.flushTo_cache (m : DM) (j : Nat) : (m.flushTo j).cache.set j [] = (m.flushTo (j + 1)).cache := by
  simp only [DM.flushTo]
  rw [range_set]
  apply List.map_congr_left
  intro i _
  by_cases e : i = j
  · subst e; simp
  · simp only [e, if_false]
    by_cases h : i < j
    · rw [if_pos h, if_pos (by omega)]
    · rw [if_neg h, if_neg (by omega)]
theorem DM.flushTo_len (m : DM) (j : Nat) : (m.flushTo j).blocks.length = m.blocks.length := by simp [DM.flushTo]
theorem DM.flushTo_c (m : DM) (j : Nat) (hj : j < m.blocks.length) : (m.flushTo j).cache.getD j [] = m.cache.getD j [] := by
  simp [DM.flushTo, hj]
theorem DM.flushTo_b (m : DM) (j : Nat) (hj : j < m.blocks.length) : (m.flushTo j).blocks.getD j [] = m.blocks.getD j [] := by
  simp [DM.flushTo, hj]
theorem DM.flushTo_skip (m : DM) (j : Nat) (hj : j < m.blocks.length) (hc : m.cache.getD j [] = []) : m.flushTo (j + 1) = m.flushTo j := by
  have hb := m.flushTo_blocks j
  have hc' := m.flushTo_cache j
  have e1 : m.look j = (m.flushTo j).blocks.getD j [] := by rw [m.flushTo_b j hj]; simp only [DM.look, hc, if_true]
  have e2 : [] = (m.flushTo j).cache.getD j [] := by rw [m.flushTo_c j hj, hc]
  have l1 : j < (m.flushTo j).blocks.length := by rw [m.flushTo_len]; exact hj
  have l2 : j < (m.flushTo j).cache.length := by simp [DM.flushTo]; exact hj
  rw [e1] at hb
  rw [e2] at hc'
  simp only [List.getD_eq_getElem?_getD, List.getElem?_eq_getElem l1, Option.getD_some, List.set_getElem_self] at hb
  simp only [List.getD_eq_getElem?_getD, List.getElem?_eq_getElem l2, Option.getD_some, List.set_getElem_self] at hc'
  have : m.flushTo (j + 1) = { m.flushTo j with blocks := (m.flushTo (j + 1)).blocks, cache := (m.flushTo (j + 1)).cache } := rfl
  rw [this, ← hb, ← hc']
end Go.Proofs.Ytjnhlkaafnaooaa
