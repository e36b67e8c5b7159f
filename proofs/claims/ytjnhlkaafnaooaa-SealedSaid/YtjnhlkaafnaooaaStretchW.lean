import Derived.Test.YtjnhlkaafnaooaaMacSumW
import Derived.Laws.CopyOwn
namespace Go.Proofs.Ytjnhlkaafnaooaa
open Go.RowKit
/-- Two texts of one length, the first k bytes of the second added to the first. -/
def addTo (F U : List UInt8) (k : Nat) : List UInt8 := xorL (F.take k) (U.take k) ++ F.drop k
theorem addTo_head (F U : List UInt8) (k : Nat) (h : F.length = U.length) (hk : k ≤ F.length) : (xorL (F.take k) (U.take k)).length = k := by
  rw [xorL_len _ _ (by simp; omega)]; simp; omega
theorem addTo_len (F U : List UInt8) (k : Nat) (h : F.length = U.length) (hk : k ≤ F.length) : (addTo F U k).length = F.length := by
  unfold addTo; rw [List.length_append, addTo_head F U k h hk]; simp; omega
theorem addTo_get (F U : List UInt8) (k : Nat) (h : F.length = U.length) (hk : k < F.length) : (nats (addTo F U k)).getD k 0 = F[k].toNat := by
  have hl := addTo_head F U k h (by omega)
  have e : (addTo F U k)[k]? = some F[k] := by
    unfold addTo
    rw [List.getElem?_append_right (by omega), hl, Nat.sub_self, List.getElem?_drop, Nat.add_zero, List.getElem?_eq_getElem hk]
  simp [nats, e]
theorem addTo_set (F U : List UInt8) (k : Nat) (h : F.length = U.length) (hk : k < F.length) : (nats (addTo F U k)).set k (F[k].toNat ^^^ U[k].toNat) = nats (addTo F U (k + 1)) := by
  have hl := addTo_head F U k h (by omega)
  have e : (addTo F U k).set k (F[k] ^^^ U[k]) = addTo F U (k + 1) := by
    unfold addTo
    rw [List.set_append_right k _ (by omega), hl, Nat.sub_self, List.drop_eq_getElem_cons hk, List.set_cons_zero, List.take_succ_eq_append_getElem hk, List.take_succ_eq_append_getElem (by omega : k < U.length)]
    unfold xorL
    rw [List.zipWith_append (by simp; omega), List.append_assoc]
    rfl
  rw [← e]
  simp [nats, List.map_set]
theorem addTo_all (F U : List UInt8) (n : Nat) (hF : F.length = n) (hU : U.length = n) : addTo F U n = xorL F U := by
  unfold addTo
  rw [List.take_of_length_le (by omega), List.take_of_length_le (by omega), List.drop_eq_nil_of_le (by omega), List.append_nil]
theorem copy_digest (U : List UInt8) (hU : U.length = 32) (w : World) (g : Nat) (t sT ty : TypeId) (c : Array Value) (hc : c.size = 32) (hg : w.heap[g]? = some (.cells c t (0, 0))) :
    (Builtin.copy_ #[34, sT] ty #[.slice (some ⟨g, 0, none⟩) 32 32, .string ⟨U.toArray⟩]).run Try.prog w =
      .ok (.int .i64 32) (w.setRow g (vals .u8 (nats U)).toArray) := by
  have hs : (ByteArray.mk U.toArray).size = 32 := by simpa [ByteArray.size] using hU
  have := Lib.run_copy_row_string (P := Try.prog) w 34 sT ty 5 g 0 32 32 ⟨U.toArray⟩ c t Try.underlying34 (by kernel_rfl) hg (by omega) (by omega)
  rw [this, hs, Nat.zero_add, List.drop_eq_nil_of_le (by simp; omega)]
  have e2 : vals .u8 (nats U) = Lib.byteCells U := by
    simp [vals, nats, Lib.byteCells, Function.comp_def]
  rw [e2]
  simp
  rfl

/-- The answer's place and the bytes so far, in mid-stretch. -/
structure SG (w : World) (F : List UInt8) (wr : World) : Prop where
  res : wr.there w.heap.size 0 32
  row : Row wr (w.heap.size + 1) 42 .u8 (nats F)
  bel : Below w.heap.size w wr
  sz : w.heap.size + 2 ≤ wr.heap.size
theorem SG.set {w : World} {F : List UInt8} {wr : World} (h : SG w F wr) (i x : Nat) (G : List UInt8) (hG : (nats F).set i x = nats G) : SG w G (wr.setCell ⟨w.heap.size + 1, i, none⟩ (.int .u8 (x : Int))) := by
  have hb : Below (w.heap.size + 1) wr (wr.setCell ⟨w.heap.size + 1, i, none⟩ (.int .u8 (x : Int))) := Below.setCell (B := w.heap.size + 1) (Below.refl _ _) (Nat.le_refl (w.heap.size + 1)) _
  exact ⟨there_below h.res hb (by omega), by rw [← hG]; exact h.row.set i x, h.bel.setCell (by simp) _, Nat.le_trans h.sz hb.size⟩
theorem SG.drew {w : World} {F : List UInt8} {wr : World} (h : SG w F wr) : SG w F wr.drew := ⟨h.res, h.row, h.bel.drew, h.sz⟩
theorem SG.below {w : World} {F : List UInt8} {wr w' : World} (h : SG w F wr) (hb : Below wr.heap.size wr w') : SG w F w' :=
  ⟨there_below h.res hb (by have := h.sz; omega), h.row.below hb h.row.lt, h.bel.trans (hb.mono (by have := h.sz; omega)), Nat.le_trans h.sz hb.size⟩
theorem SG.start {w w' : World} {Z : Array Value} (U : List UInt8) (hZ : Z.size = 32) (hb : Below ((w.alloc (.cells Z 42)).alloc (.cells Z 42)).heap.size ((w.alloc (.cells Z 42)).alloc (.cells Z 42)) w') :
    w'.heap[w.heap.size + 1]? = some (.cells Z 42 (0, 0)) ∧ SG w U (w'.setRow (w.heap.size + 1) (vals .u8 (nats U)).toArray) := by
  have hz : ((w.alloc (.cells Z 42)).alloc (.cells Z 42)).heap.size = w.heap.size + 2 := by simp
  rw [hz] at hb
  have h1 : w'.heap[w.heap.size + 1]? = some (.cells Z 42 (0, 0)) := by
    rw [hb.block (w.heap.size + 1) (by omega)]
    have := heap_alloc_new (w.alloc (.cells Z 42)) (.cells Z 42)
    simpa using this
  have h2 : w'.there w.heap.size 0 32 := by
    have h := there_new w Z 42
    rw [hZ] at h
    exact there_below (World.there_alloc h (.cells Z 42)) hb (by omega)
  have h3 : Below w.heap.size w w' := (((Below.refl _ _).alloc (Nat.le_refl _) _).alloc (by simp) _).trans (hb.mono (by omega))
  have h4 : Below (w.heap.size + 1) w' (w'.setRow (w.heap.size + 1) (vals .u8 (nats U)).toArray) := below_setRow (Below.refl _ _) (Nat.le_refl _) _
  refine ⟨h1, there_below h2 h4 (by omega), ⟨_, setRow_heap w' _ _ _ _ _ h1, by simp [vals], fun i hi => vals_get _ _ i hi⟩, h3.trans (h4.mono (by omega)), ?_⟩
  have := hb.size
  simp at this ⊢
  omega

end Go.Proofs.Ytjnhlkaafnaooaa
