import Derived.Test.YtjnhlkaafnaooaaGetW
namespace Go.Proofs.Ytjnhlkaafnaooaa
open Go.RowKit
theorem freeTo_more (used : List Bool) (q d p : Nat) (rest : List Nat) (h : freeTo used q = p :: rest) : ∃ rest', freeTo used (q + d) = p :: rest' := by
  induction d with
  | zero => exact ⟨rest, h⟩
  | succ d ih =>
    obtain ⟨r, hr⟩ := ih
    rw [← Nat.add_assoc, freeTo_succ, hr]
    exact ⟨_, rfl⟩
theorem freeTo_first (used : List Bool) (n : Nat) (hn : 3 ≤ n) (h : used.getD 2 false = false) : ∃ rest, freeTo used n = 2 :: rest := by
  obtain ⟨d, rfl⟩ := Nat.exists_eq_add_of_le hn
  refine freeTo_more used 3 d 2 [] ?_
  rw [show 3 = 2 + 1 from rfl, freeTo_succ, freeTo_two, h]
  rfl
theorem freeTo_next (used : List Bool) (n : Nat) (hn : 4 ≤ n) (h : used.getD 2 false = true) (h3 : used.getD 3 false = false) : ∃ rest, freeTo used n = 3 :: rest := by
  obtain ⟨d, rfl⟩ := Nat.exists_eq_add_of_le hn
  refine freeTo_more used 4 d 3 [] ?_
  rw [show 4 = 2 + 1 + 1 from rfl, freeTo_succ, freeTo_succ, freeTo_two, h, h3]
  rfl
theorem freeTo_full (used : List Bool) (h : used.getD 2 false = true) : freeTo used 3 = [] := by
  rw [show 3 = 2 + 1 from rfl, freeTo_succ, freeTo_two, h]
  rfl
/-- One place is in use, or none (0). -/
def usedAt (p : Nat) : List Bool := if p = 0 then List.replicate 48 false else (List.replicate 48 false).set p true
theorem usedAt_len (p : Nat) : (usedAt p).length = 48 := by unfold usedAt; split <;> simp
theorem DM.look_write_same (m : DM) (k : Nat) (t : List UInt8) (hk : k < m.cache.length) (ht : t ≠ []) : (m.write k t).look k = t := by
  simp [DM.look, DM.write, hk, ht]
theorem DM.look_write_ne (m : DM) (k j : Nat) (t : List UInt8) (h : k ≠ j) : (m.write k t).look j = m.look j := by
  simp [DM.look, DM.write, h]
theorem DM.look_flush (m : DM) (k : Nat) (hk : k < m.blocks.length) : m.flush.look k = m.look k := by
  have h1 : m.flush.cache.getD k [] = [] := by simp [DM.flush, hk]
  have h2 : m.flush.blocks.getD k [] = m.look k := by simp [DM.flush, hk]
  unfold DM.look at *
  rw [h1, if_pos rfl]
  exact h2
theorem DM.look_settle (m : DM) (k : Nat) (hk : k < m.blocks.length) : m.settle.look k = m.look k := m.look_flush k hk
theorem saveM_len (tk rk : List UInt8) (m : DM) (v : VM) (p : Nat) (k y : List UInt8) : (saveM tk rk m v p k y).blocks.length = m.blocks.length := by
  simp [saveM, DM.advance, DM.settle, DM.flush, DM.write]
theorem saveM_count (tk rk : List UInt8) (m : DM) (v : VM) (p : Nat) (k y : List UInt8) : (saveM tk rk m v p k y).count = m.count + 1 := rfl
theorem saveM_ceiling (tk rk : List UInt8) (m : DM) (v : VM) (p : Nat) (k y : List UInt8) : (saveM tk rk m v p k y).ceiling = m.ceiling := rfl
theorem saveM_wrote (tk rk : List UInt8) (m : DM) (v : VM) (p : Nat) (k y : List UInt8) : (saveM tk rk m v p k y).wrote.length = m.wrote.length + 2 := by
  simp [saveM, DM.advance, DM.settle, DM.flush, DM.write]
theorem saveM_look (tk rk : List UInt8) (m : DM) (v : VM) (p : Nat) (k y : List UInt8) (hp : 2 ≤ p) (hpn : p < m.blocks.length) (hs : m.cache.length = m.blocks.length) (hr : rk.length = 240) : (saveM tk rk m v p k y).look p = newTree rk v p k y := by
  have hT : newTree rk v p k y ≠ [] := by
    intro e
    have := leafPage_len rk k y v.session (v.done + 1) p hr
    unfold newTree at e
    rw [e] at this
    cases this
  have l1 : (m.write p (newTree rk v p k y)).flush.blocks.length = m.blocks.length := by simp [DM.flush, DM.write]
  unfold saveM DM.advance
  rw [DM.look_settle _ _ (by simp [DM.write, DM.flush]; exact hpn), DM.look_write_ne _ _ _ _ (by omega), DM.look_flush _ _ (by simpa [DM.write] using hpn), DM.look_write_same _ _ _ (by omega) hT]
theorem save_leaf (tk rk : List UInt8) (m : DM) (v : VM) (p : Nat) (k y : List UInt8) (rl : List Nat) (cv : Value) (hp : 2 ≤ p) (hpn : p < m.blocks.length) (hs : m.cache.length = m.blocks.length) (hr : rk.length = 240) :
    OneLeaf (saveM tk rk m v p k y) { saveV rk v p k y rl with cv := cv } rk k y := by
  have hl := saveM_look tk rk m v p k y hp hpn hs hr
  refine ⟨hp, by rw [saveM_len]; exact hpn, ?_, ?_, ?_⟩
  · show ((saveM tk rk m v p k y).look p).length = 256
    rw [hl]; exact leafPage_len rk k y _ _ p hr
  · show shaL ((saveM tk rk m v p k y).look p) = shaL (newTree rk v p k y)
    rw [hl]
  · show openL rk ((saveM tk rk m v p k y).look p) p = some (leafOne k y)
    rw [hl]
    exact openL_page rk _ _ p (leafOne k y) hr (leafOne_len k y)
theorem used_first : freed [] ((usedAt 0).set 2 true) = usedAt 2 := by decide
theorem used_23 : freed [2] ((usedAt 2).set 3 true) = usedAt 3 := by decide
theorem used_32 : freed [3] ((usedAt 3).set 2 true) = usedAt 2 := by decide
end Go.Proofs.Ytjnhlkaafnaooaa
