import Derived.Test.YtjnhlkaafnaooabGreatDoorRmA
import Derived.Deep.RegionLaw
import Derived.Deep.RegionHeld
import Derived.Lib.Strings
namespace Go.Proofs.YtjnhlkaafnaooabGreatDoor
open Go.RowKit

theorem Row.cells {w : World} {g : Nat} {t : TypeId} {k : IntKind} {xs : List Nat} (h : Row w g t k xs) : Cells w g k xs := ⟨h.lt, fun _ hi => h.cell hi⟩

/-- What Constants has laid. -/
structure PrimIn (w : World) (pb gh ch gk ck gs cs : Nat) : Prop where
  lt : pb < w.heap.size
  c0 : w.cell? ⟨pb, 0, none⟩ = some (.slice (some ⟨gh, 0, none⟩) 8 ch)
  c1 : w.cell? ⟨pb, 1, none⟩ = some (.slice (some ⟨gk, 0, none⟩) 64 ck)
  c2 : w.cell? ⟨pb, 2, none⟩ = some (.slice (some ⟨gs, 0, none⟩) 256 cs)
  h : Cells w gh .i64 hWords
  k : Cells w gk .i64 kWords
  s : Cells w gs .i64 (sList 256)
theorem PrimIn.below {w w' : World} {pb gh ch gk ck gs cs : Nat} (p : PrimIn w pb gh ch gk ck gs cs) (hb : Below w.heap.size w w') : PrimIn w' pb gh ch gk ck gs cs :=
  ⟨Nat.lt_of_lt_of_le p.lt hb.size, (hb.cell (p := ⟨pb, 0, none⟩) p.lt).trans p.c0, (hb.cell (p := ⟨pb, 1, none⟩) p.lt).trans p.c1, (hb.cell (p := ⟨pb, 2, none⟩) p.lt).trans p.c2,
    p.h.below hb p.h.lt, p.k.below hb p.k.lt, p.s.below hb p.s.lt⟩
/-- A slice of the call's own. -/
structure Mine (w : World) (n k : Nat) (ao : Option Addr) (cap : Nat) (xs : List Nat) (wr : World) : Prop where
  own : wr.ownsRow w.heap.size 3 1 (.slice ao k cap) k (vals .i64 xs)
  len : k = n
  bel : Below w.heap.size w wr

theorem extract_list (s : ByteArray) (a b : Nat) : (s.extract a b).data.toList = (s.data.toList.drop a).take (b - a) := Lib.extract_data s a b

theorem sig0_int (x : Nat) (hx : x < 4294967296) : bits .xor .i64 ((rotr x 7 ^^^ rotr x 18 : Nat) : Int) ((x : Int) / 8) = ((sig0 x : Nat) : Int) := by
  have h1 := xor32 (rotr_lt x 7 hx (by decide) (by decide)) (rotr_lt x 18 hx (by decide) (by decide))
  rw [show (x : Int) / 8 = ((x / 8 : Nat) : Int) from by simp, i64_xor_nat _ _ (by omega) (by omega)]
  rfl
theorem sig1_int (x : Nat) (hx : x < 4294967296) : bits .xor .i64 ((rotr x 17 ^^^ rotr x 19 : Nat) : Int) ((x : Int) / 1024) = ((sig1 x : Nat) : Int) := by
  have h1 := xor32 (rotr_lt x 17 hx (by decide) (by decide)) (rotr_lt x 19 hx (by decide) (by decide))
  rw [show (x : Int) / 1024 = ((x / 1024 : Nat) : Int) from by simp, i64_xor_nat _ _ (by omega) (by omega)]
  rfl

theorem Cells.st {w : World} {g : Nat} {k : IntKind} {s : St} (h : Cells w g k s.list) : w.cell? ⟨g, 0, none⟩ = some (.int k (s.a : Int)) ∧ w.cell? ⟨g, 1, none⟩ = some (.int k (s.b : Int)) ∧ w.cell? ⟨g, 2, none⟩ = some (.int k (s.c : Int)) ∧ w.cell? ⟨g, 3, none⟩ = some (.int k (s.d : Int)) ∧ w.cell? ⟨g, 4, none⟩ = some (.int k (s.e : Int)) ∧ w.cell? ⟨g, 5, none⟩ = some (.int k (s.f : Int)) ∧ w.cell? ⟨g, 6, none⟩ = some (.int k (s.g : Int)) ∧ w.cell? ⟨g, 7, none⟩ = some (.int k (s.h : Int)) :=
  ⟨h.at_ 0 (by simp [St.list]), h.at_ 1 (by simp [St.list]), h.at_ 2 (by simp [St.list]), h.at_ 3 (by simp [St.list]), h.at_ 4 (by simp [St.list]), h.at_ 5 (by simp [St.list]), h.at_ 6 (by simp [St.list]), h.at_ 7 (by simp [St.list])⟩
theorem ch_int (e f g : Nat) (he : e < 4294967296) (hf : f < 4294967296) (hg : g < 4294967296) : bits .or .i64 (bits .and .i64 (e : Int) (f : Int)) (bits .and .i64 (4294967295 - (e : Int)) (g : Int)) = ((chN e f g : Nat) : Int) := by
  have h1 : e &&& f < 4294967296 := and32 he
  have h2 : (4294967295 - e) &&& g < 4294967296 := and32 (by omega)
  rw [show (4294967295 : Int) - (e : Int) = ((4294967295 - e : Nat) : Int) from by omega, i64_and_nat _ _ (by omega) (by omega), i64_and_nat _ _ (by omega) (by omega), i64_or_nat _ _ (by omega) (by omega)]
  rfl
theorem maj_int (a b c : Nat) (ha : a < 4294967296) (hb : b < 4294967296) (hc : c < 4294967296) : bits .or .i64 (bits .or .i64 (bits .and .i64 (a : Int) (b : Int)) (bits .and .i64 (a : Int) (c : Int))) (bits .and .i64 (b : Int) (c : Int)) = ((majN a b c : Nat) : Int) := by
  have h1 : a &&& b < 4294967296 := and32 ha
  have h2 : a &&& c < 4294967296 := and32 ha
  have h3 : b &&& c < 4294967296 := and32 hb
  have h4 : (a &&& b) ||| (a &&& c) < 4294967296 := or32 h1 h2
  rw [i64_and_nat _ _ (by omega) (by omega), i64_and_nat _ _ (by omega) (by omega), i64_and_nat _ _ (by omega) (by omega), i64_or_nat _ _ (by omega) (by omega), i64_or_nat _ _ (by omega) (by omega)]
  rfl
/-- The first k words added, the others not yet. -/
def partSt (R st : St) (k : Nat) : List Nat := (addSt R st).list.take k ++ R.list.drop k
theorem partSt_zero (R st : St) : partSt R st 0 = R.list := rfl
theorem partSt_end (R st : St) : partSt R st 8 = (addSt R st).list := rfl
theorem partSt_len (R st : St) (k : Nat) (hk : k ≤ 8) : (partSt R st k).length = 8 := by
  simp [partSt, St.list]; omega
theorem partSt_at (R st : St) (k : Nat) (hk : k < 8) (hR : R.ok) : (partSt R st k).getD k 0 = R.list.getD k 0 ∧ R.list.getD k 0 < 4294967296 := by
  obtain ⟨ba, bb, bc, bd, be, bf, bg, bh⟩ := hR
  match k, hk with
  | 0, _ => exact ⟨rfl, ba⟩
  | 1, _ => exact ⟨rfl, bb⟩
  | 2, _ => exact ⟨rfl, bc⟩
  | 3, _ => exact ⟨rfl, bd⟩
  | 4, _ => exact ⟨rfl, be⟩
  | 5, _ => exact ⟨rfl, bf⟩
  | 6, _ => exact ⟨rfl, bg⟩
  | 7, _ => exact ⟨rfl, bh⟩
theorem list_lt (st : St) (h : st.ok) (k : Nat) (hk : k < 8) : st.list.getD k 0 < 4294967296 := (partSt_at st st k hk h).2
theorem partSt_set (R st : St) (k : Nat) (hk : k < 8) : partSt R st (k + 1) = (partSt R st k).set k ((R.list.getD k 0 + st.list.getD k 0) % 4294967296) := by
  match k, hk with
  | 0, _ => rfl
  | 1, _ => rfl
  | 2, _ => rfl
  | 3, _ => rfl
  | 4, _ => rfl
  | 5, _ => rfl
  | 6, _ => rfl
  | 7, _ => rfl
theorem kWords_lt : ∀ x ∈ kWords, x < 4294967296 := by decide +kernel
theorem news_cells {w : World} {g : Nat} {k : IntKind} {xs : List Nat} (h : Cells w g k xs) : ∀ j u, (vals k xs)[j]? = some u → w.cell? ((⟨g, 0, none⟩ : Addr).add j) = some u := by
  intro j u hu
  have hadd : (⟨g, 0, none⟩ : Addr).add j = ⟨g, j, none⟩ := by unfold Addr.add; split <;> simp_all
  obtain ⟨hj, he⟩ := List.getElem?_eq_some_iff.1 hu
  have hj2 : j < xs.length := by simpa [vals] using hj
  rw [hadd, h.at_ j hj2, ← he]
  simp [vals, List.getElem?_eq_getElem hj2]
end Go.Proofs.YtjnhlkaafnaooabGreatDoor
