import Derived.Test.YtjnhlkaafnaooabGreatDoorTurnW
import Derived.Laws.Tables
namespace Go.Proofs.YtjnhlkaafnaooabGreatDoor
open Go.RowKit
theorem setCells_drew (b : Nat) : ∀ (vs : List Value) (o : Nat) (x : World), x.drew.setCells b o vs = (x.setCells b o vs).drew
  | [], _, _ => rfl
  | v :: vs, o, x => setCells_drew b vs (o + 1) (x.setCell ⟨b, o, none⟩ v)
/-- In mid-expansion. -/
structure XM (w : World) (xs : List Nat) (wr : World) : Prop where
  box : Cells wr w.heap.size .u8 sbLit
  res : wr.there (w.heap.size + 1 + 1) 0 240
  row : Row wr (w.heap.size + 1 + 1 + 1) 154 .u8 xs
  len : xs.length = 240
  bel : Below w.heap.size w wr
theorem XM.set {w : World} {xs : List Nat} {wr : World} (h : XM w xs wr) (i x : Nat) : XM w (xs.set i x) (wr.setCell ⟨w.heap.size + 1 + 1 + 1, i, none⟩ (.int .u8 (x : Int))) := by
  have hb : Below (w.heap.size + 3) wr (wr.setCell ⟨w.heap.size + 1 + 1 + 1, i, none⟩ (.int .u8 (x : Int))) := Below.setCell (B := w.heap.size + 3) (Below.refl _ _) (Nat.le_refl (w.heap.size + 3)) _
  exact ⟨h.box.below hb (by omega), there_below h.res hb (by omega), h.row.set i x, by simp [h.len], h.bel.setCell (by simp; omega) _⟩
theorem XM.drew {w : World} {xs : List Nat} {wr : World} (h : XM w xs wr) : XM w xs wr.drew := ⟨⟨h.box.lt, h.box.at_⟩, h.res, h.row, h.len, h.bel.drew⟩
theorem XM.drewN {w : World} {xs : List Nat} {wr : World} (h : XM w xs wr) (n : Nat) : XM w xs (wr.drewN n) := ⟨⟨h.box.lt, h.box.at_⟩, h.res, h.row.drewN n, h.len, below_drewN h.bel n⟩
theorem XM.cell {w : World} {xs : List Nat} {wr : World} (h : XM w xs wr) (i : Nat) (hi : i < 240) : wr.cell? ⟨w.heap.size + 1 + 1 + 1, i, none⟩ = some (.int .u8 ((xs.getD i 0 : Nat) : Int)) := h.row.cell (by rw [h.len]; exact hi)
theorem XM.boxAt {w : World} {xs : List Nat} {wr : World} (h : XM w xs wr) (i : Nat) (hi : i < 256) : wr.cell? ⟨w.heap.size, i, none⟩ = some (.int .u8 ((sboxN i : Nat) : Int)) := by
  have hl := sbLit_len
  rw [h.box.at_ i (by omega), sbLit_get i hi]
theorem XM.start (w : World) (ta tb : TypeId) (key : List UInt8) (Z : List UInt8) (hZ : Z = List.replicate 240 0) (hk : key.length = 32) :
    XM w (nats (key ++ List.replicate 208 0)) (((((w.alloc (.cells (vals .u8 sbLit).toArray ta)).alloc (.cells (bvals key).toArray tb)).alloc (.cells (bvals Z).toArray 154)).alloc (.cells (bvals Z).toArray 154)).setCells (w.heap.size + 1 + 1 + 1) 0 (bvals key)) := by
  have hZl : Z.length = 240 := by rw [hZ, List.length_replicate]
  have hb0 := (((((Below.refl w.heap.size w).alloc (Nat.le_refl _) (.cells (vals .u8 sbLit).toArray ta)).alloc (by simp) (.cells (bvals key).toArray tb)).alloc (by simp; omega) (.cells (bvals Z).toArray 154)).alloc (by simp; omega) (.cells (bvals Z).toArray 154)).trans (below_setCells _ _ (w.heap.size + 1 + 1 + 1) 0 (bvals key) (by omega))
  have hblk3 := heap_new3 w (.cells (vals .u8 sbLit).toArray ta) (.cells (bvals key).toArray tb) (.cells (bvals Z).toArray 154) (.cells (bvals Z).toArray 154)
  have hblk2 := heap_new2 w (.cells (vals .u8 sbLit).toArray ta) (.cells (bvals key).toArray tb) (.cells (bvals Z).toArray 154)
  have hsz : ((((w.alloc (.cells (vals .u8 sbLit).toArray ta)).alloc (.cells (bvals key).toArray tb)).alloc (.cells (bvals Z).toArray 154)).alloc (.cells (bvals Z).toArray 154)).heap.size = w.heap.size + 4 := by simp
  have hc0 : Cells ((((w.alloc (.cells (vals .u8 sbLit).toArray ta)).alloc (.cells (bvals key).toArray tb)).alloc (.cells (bvals Z).toArray 154)).alloc (.cells (bvals Z).toArray 154)) w.heap.size .u8 sbLit := (((Cells.of_block (heap_alloc_new w _)).alloc _).alloc _).alloc _
  have hr0 : Row ((((w.alloc (.cells (vals .u8 sbLit).toArray ta)).alloc (.cells (bvals key).toArray tb)).alloc (.cells (bvals Z).toArray 154)).alloc (.cells (bvals Z).toArray 154)) (w.heap.size + 1 + 1 + 1) 154 .u8 (nats Z) := ⟨_, hblk3, by simp [bvals, nats], fun i hi => by rw [← vals_nats]; exact vals_get .u8 _ i hi⟩
  have hr2 : Row ((((w.alloc (.cells (vals .u8 sbLit).toArray ta)).alloc (.cells (bvals key).toArray tb)).alloc (.cells (bvals Z).toArray 154)).alloc (.cells (bvals Z).toArray 154)) (w.heap.size + 1 + 1) 154 .u8 (nats Z) := ⟨_, (Below.heap_alloc _ _ _ (by simp)).trans hblk2, by simp [bvals, nats], fun i hi => by rw [← vals_nats]; exact vals_get .u8 _ i hi⟩
  generalize (((w.alloc (.cells (vals .u8 sbLit).toArray ta)).alloc (.cells (bvals key).toArray tb)).alloc (.cells (bvals Z).toArray 154)).alloc (.cells (bvals Z).toArray 154) = w4 at *
  obtain ⟨s1, s2, s3, s4, s5⟩ := setCells_block (w.heap.size + 1 + 1 + 1) (bvals key) 0 w4
  have hbk : Below (w.heap.size + 3) w4 (w4.setCells (w.heap.size + 1 + 1 + 1) 0 (bvals key)) := below_setCells _ _ _ _ _ (Nat.le_refl _)
  have hnl : (nats (key ++ List.replicate 208 0)).length = 240 := by rw [nats_len, List.length_append, List.length_replicate, hk]
  refine ⟨hc0.below hbk (by omega), ?_, ?_, hnl, hb0⟩
  · have hr2' := hr2.below hbk (by omega)
    intro i hi
    rw [Nat.zero_add]
    exact ⟨by rw [hr2'.cell (by rw [nats_len, hZl]; exact hi)]; rfl, hr2'.frozen i⟩
  · obtain ⟨c, h1, h2, h3⟩ := hr0
    obtain ⟨c', g1, g2⟩ := setCells_same (w.heap.size + 1 + 1 + 1) 154 (bvals key) 0 w4 c h1
    have hl2 : c'.size = 240 := by rw [g2, h2, nats_len, hZl]
    refine ⟨c', g1, by rw [hl2, hnl], fun i hi => ?_⟩
    have hi240 : i < 240 := by rw [hnl] at hi; exact hi
    have hci : (w4.setCells (w.heap.size + 1 + 1 + 1) 0 (bvals key)).cell? ⟨w.heap.size + 1 + 1 + 1, i, none⟩ = c'[i]? := cell_of_row _ _ _ _ _ _ g1
    rw [← hci]
    by_cases h32 : i < 32
    · have := World.cell?_setCells_in (w.heap.size + 1 + 1 + 1) (bvals key) 0 w4 (fun j hj => by
        rw [bvals_len, hk] at hj
        rw [Nat.zero_add, cell_of_row _ _ _ _ _ _ h1, h3 j (by rw [nats_len, hZl]; omega)]; rfl) i (by rw [bvals_len, hk]; exact h32)
      rw [Nat.zero_add] at this
      rw [this]
      have e3 : (nats (key ++ List.replicate 208 (0 : UInt8))).getD i 0 = (key.getD i 0).toNat := by
        rw [nats_get, List.getD_eq_getElem?_getD, List.getElem?_append_left (by rw [hk]; exact h32), ← List.getD_eq_getElem?_getD]
      dsimp only
      rw [e3]
      have hki : i < key.length := by rw [hk]; exact h32
      simp [bvals, List.getElem?_eq_getElem hki]
    · rw [World.cell?_setCells_out _ _ _ _ _ (fun _ _ => Or.inr (by rw [bvals_len, hk]; simp; omega)), cell_of_row _ _ _ _ _ _ h1, h3 i (by rw [nats_len, hZl]; exact hi240), hZ]
      have e1 : (nats (List.replicate 240 (0 : UInt8))).getD i 0 = 0 := by rw [nats_get, List.getD_eq_getElem?_getD, List.getElem?_replicate]; simp [hi240]
      have e2 : (nats (key ++ List.replicate 208 (0 : UInt8))).getD i 0 = 0 := by
        rw [nats_get, List.getD_eq_getElem?_getD, List.getElem?_append_right (by omega), List.getElem?_replicate]
        split <;> rfl
      dsimp only
      rw [e1, e2]
theorem four (K : List UInt8) (n : Nat) (h : n + 4 ≤ K.length) : (K.drop n).take 4 = [K.getD n 0, K.getD (n + 1) 0, K.getD (n + 2) 0, K.getD (n + 3) 0] := by
  have h0 : n < K.length := by omega
  have h1 : n + 1 < K.length := by omega
  have h2 : n + 1 + 1 < K.length := by omega
  have h3 : n + 1 + 1 + 1 < K.length := by omega
  rw [List.drop_eq_getElem_cons h0, List.drop_eq_getElem_cons h1, List.drop_eq_getElem_cons h2, List.drop_eq_getElem_cons h3]
  simp only [List.take_succ_cons, List.take_zero, List.getD_eq_getElem?_getD, List.getElem?_eq_getElem h0, List.getElem?_eq_getElem h1, Option.getD_some]
  have g2 : K[n + 2]? = some K[n + 1 + 1] := List.getElem?_eq_getElem h2
  have g3 : K[n + 3]? = some K[n + 1 + 1 + 1] := List.getElem?_eq_getElem h3
  rw [g2, g3]
  rfl
theorem set4 (L R : List Nat) (a b c d y0 y1 y2 y3 n : Nat) (hn : L.length = n) : ((((L ++ a :: b :: c :: d :: R).set n y0).set (n + 1) y1).set (n + 2) y2).set (n + 3) y3 = L ++ y0 :: y1 :: y2 :: y3 :: R := by
  subst hn
  rw [List.set_append_right _ _ (Nat.le_refl _), Nat.sub_self, List.set_cons_zero, List.set_append_right _ _ (by omega), show L.length + 1 - L.length = 1 by omega, List.set_append_right _ _ (by omega), show L.length + 2 - L.length = 2 by omega, List.set_append_right _ _ (by omega), show L.length + 3 - L.length = 3 by omega]
  rfl
theorem keys_set (key : List UInt8) (j P Q R S : Nat) (hk : key.length = 32) (hj : j < 52) (hP : P < 256) (hQ : Q < 256) (hR : R < 256) (hS : S < 256)
    (hw : wordL (keysTo key j) (j + 8) = [UInt8.ofNat P, UInt8.ofNat Q, UInt8.ofNat R, UInt8.ofNat S]) :
    ((((nats (keysTo key j ++ List.replicate (208 - 4 * j) 0)).set (32 + 4 * j) (((keysTo key j).getD (4 * j) 0).toNat ^^^ P)).set (32 + 4 * j + 1) (((keysTo key j).getD (4 * j + 1) 0).toNat ^^^ Q)).set (32 + 4 * j + 2) (((keysTo key j).getD (4 * j + 2) 0).toNat ^^^ R)).set (32 + 4 * j + 3) (((keysTo key j).getD (4 * j + 3) 0).toNat ^^^ S) =
      nats (keysTo key (j + 1) ++ List.replicate (208 - 4 * (j + 1)) 0) := by
  have hl := keysTo_len key hk j
  have e4 : 208 - 4 * j = 208 - 4 * (j + 1) + 1 + 1 + 1 + 1 := by omega
  have e1 : nats (keysTo key j ++ List.replicate (208 - 4 * j) 0) = nats (keysTo key j) ++ 0 :: 0 :: 0 :: 0 :: nats (List.replicate (208 - 4 * (j + 1)) 0) := by
    rw [e4]; simp [nats, List.replicate_succ]
  rw [e1, set4 (nats (keysTo key j)) _ 0 0 0 0 _ _ _ _ (32 + 4 * j) (by rw [nats_len, hl])]
  rw [keysTo, hw]
  have hd := four (keysTo key j) (4 * j) (by omega)
  rw [hd]
  have hx : ∀ (a : UInt8) (P : Nat), P < 256 → (UInt8.ofNat P ^^^ a).toNat = a.toNat ^^^ P := fun a P hP => by
    rw [UInt8.toNat_xor, UInt8.toNat_ofNat', Nat.mod_eq_of_lt hP, Nat.xor_comm]
  simp [nats, xorL, hx _ _ hP, hx _ _ hQ, hx _ _ hR, hx _ _ hS]
theorem before4 (K : List UInt8) (j : Nat) (hl : K.length = 32 + 4 * j) : wordBefore K (j + 8) = [K.getD (4 * j + 28) 0, K.getD (4 * j + 29) 0, K.getD (4 * j + 30) 0, K.getD (4 * j + 31) 0] := by
  unfold wordBefore
  have e : 4 * (j + 8) - 4 = 4 * j + 28 := by omega
  rw [e, four K (4 * j + 28) (by omega)]
theorem wordA (K : List UInt8) (j : Nat) (hl : K.length = 32 + 4 * j) (h : j % 8 = 0) :
    wordL K (j + 8) = [UInt8.ofNat (sboxN (K.getD (4 * j + 29) 0).toNat ^^^ rcN ((j + 7) / 8)), UInt8.ofNat (sboxN (K.getD (4 * j + 30) 0).toNat), UInt8.ofNat (sboxN (K.getD (4 * j + 31) 0).toNat), UInt8.ofNat (sboxN (K.getD (4 * j + 28) 0).toNat)] := by
  have e : (j + 8) / 8 - 1 = (j + 7) / 8 := by omega
  unfold wordL
  rw [if_pos (by omega), before4 K j hl, e]
  simp [subL, xorL]
theorem wordB (K : List UInt8) (j : Nat) (hl : K.length = 32 + 4 * j) (h : j % 8 = 4) :
    wordL K (j + 8) = [UInt8.ofNat (sboxN (K.getD (4 * j + 28) 0).toNat), UInt8.ofNat (sboxN (K.getD (4 * j + 29) 0).toNat), UInt8.ofNat (sboxN (K.getD (4 * j + 30) 0).toNat), UInt8.ofNat (sboxN (K.getD (4 * j + 31) 0).toNat)] := by
  unfold wordL
  rw [if_neg (by omega), if_pos (by omega), before4 K j hl]
  simp [subL]
theorem wordC (K : List UInt8) (j : Nat) (hl : K.length = 32 + 4 * j) (h : j % 8 ≠ 0) (h4 : j % 8 ≠ 4) :
    wordL K (j + 8) = [UInt8.ofNat (K.getD (4 * j + 28) 0).toNat, UInt8.ofNat (K.getD (4 * j + 29) 0).toNat, UInt8.ofNat (K.getD (4 * j + 30) 0).toNat, UInt8.ofNat (K.getD (4 * j + 31) 0).toNat] := by
  unfold wordL
  rw [if_neg (by omega), if_neg (by omega), before4 K j hl]
  simp
end Go.Proofs.YtjnhlkaafnaooabGreatDoor

namespace Go.Proofs.YtjnhlkaafnaooabGreatDoor
open Go.RowKit
theorem rc_next (j : Nat) (h : j % 8 = 0) : dbl (rcN ((j + 7) / 8)) = rcN ((j + 1 + 7) / 8) := by
  have e : (j + 1 + 7) / 8 = (j + 7) / 8 + 1 := by omega
  rw [e]
  show _ = prodN (rcN ((j + 7) / 8)) 2
  exact (prodR_fin ⟨rcN ((j + 7) / 8), rcN_lt _⟩).symm
theorem rc_same (j : Nat) (h : j % 8 ≠ 0) : rcN ((j + 7) / 8) = rcN ((j + 1 + 7) / 8) := by
  have e : (j + 1 + 7) / 8 = (j + 7) / 8 := by omega
  rw [e]
theorem xs_get (K Z : List UInt8) (i : Nat) (h : i < K.length) : (nats (K ++ Z)).getD i 0 = (K.getD i 0).toNat := by
  rw [nats_get, List.getD_eq_getElem?_getD, List.getElem?_append_left h, ← List.getD_eq_getElem?_getD]
theorem set_get (xs : List Nat) (a y i : Nat) (h : a ≠ i) : (xs.set a y).getD i 0 = xs.getD i 0 := by
  rw [List.getD_eq_getElem?_getD, List.getD_eq_getElem?_getD, List.getElem?_set_ne h]
set_option maxRecDepth 100000 in
set_option maxHeartbeats 8000000 in
theorem expand_any (key : List UInt8) (w : World) (hkl : key.length = 32) :
    Calls Tryz.prog 96 #[.agg (vals .u8 sbLit).toArray, .agg (bvals key).toArray] w fun x w' => x = .returned (.agg (bvals (keysL key)).toArray) ∧ Below w.heap.size w w' := by
  have hzv : ∀ w, (zeroValue 154).run Tryz.prog w = .ok (.agg (bvals (List.replicate 240 0)).toArray) w := fun _ => by kernel_rfl
  obtain ⟨Z, hZ⟩ : ∃ x, List.replicate 240 (0 : UInt8) = x := ⟨_, rfl⟩
  rw [hZ] at hzv
  have hst := XM.start w 152 141 key Z hZ.symm hkl
  have hcp : ∀ ty, (Builtin.copy_ #[52, 52] ty #[.slice (some ⟨w.heap.size + 1 + 1 + 1, 0, none⟩) 240 240, .slice (some ⟨w.heap.size + 1, 0, none⟩) 32 32]).run Tryz.prog ((((w.alloc (.cells (vals .u8 sbLit).toArray 152)).alloc (.cells (bvals key).toArray 141)).alloc (.cells (bvals Z).toArray 154)).alloc (.cells (bvals Z).toArray 154)).drew = .ok (goInt 32) (((((w.alloc (.cells (vals .u8 sbLit).toArray 152)).alloc (.cells (bvals key).toArray 141)).alloc (.cells (bvals Z).toArray 154)).alloc (.cells (bvals Z).toArray 154)).setCells (w.heap.size + 1 + 1 + 1) 0 (bvals key)).drew := fun ty => by
    have hbl : (bvals key).length = 32 := by rw [bvals_len, hkl]
    have hth : ((((w.alloc (.cells (vals .u8 sbLit).toArray 152)).alloc (.cells (bvals key).toArray 141)).alloc (.cells (bvals Z).toArray 154)).alloc (.cells (bvals Z).toArray 154)).drew.there (w.heap.size + 1 + 1 + 1) 0 240 := by
      have h := there_new (((w.alloc (.cells (vals .u8 sbLit).toArray 152)).alloc (.cells (bvals key).toArray 141)).alloc (.cells (bvals Z).toArray 154)) (bvals Z).toArray 154
      have hs : (bvals Z).toArray.size = 240 := by rw [List.size_toArray, bvals_len, ← hZ, List.length_replicate]
      have hs2 : (((w.alloc (.cells (vals .u8 sbLit).toArray 152)).alloc (.cells (bvals key).toArray 141)).alloc (.cells (bvals Z).toArray 154)).heap.size = w.heap.size + 1 + 1 + 1 := by simp
      rw [hs, hs2] at h
      exact h
    have hkc : ((((w.alloc (.cells (vals .u8 sbLit).toArray 152)).alloc (.cells (bvals key).toArray 141)).alloc (.cells (bvals Z).toArray 154)).alloc (.cells (bvals Z).toArray 154)).drew.rangeAt (w.heap.size + 1) 0 (bvals key) := by
      refine range_block (c := (bvals key).toArray) (t := 141) (fr := (0, 0)) ?_
      show ((((w.alloc (.cells (vals .u8 sbLit).toArray 152)).alloc (.cells (bvals key).toArray 141)).alloc (.cells (bvals Z).toArray 154)).alloc (.cells (bvals Z).toArray 154)).heap[w.heap.size + 1]? = _
      rw [Below.heap_alloc _ _ _ (by simp)]
      exact heap_old1 w _ _ _
    have h := run_copy_cells (P := Tryz.prog) ((((w.alloc (.cells (vals .u8 sbLit).toArray 152)).alloc (.cells (bvals key).toArray 141)).alloc (.cells (bvals Z).toArray 154)).alloc (.cells (bvals Z).toArray 154)).drew 52 52 ty 5 (w.heap.size + 1 + 1 + 1) 0 240 240 ⟨w.heap.size + 1, 0, none⟩ 32 32 (bvals key) Tryz.underlying52 (by kernel_rfl) (by rw [hbl]; rfl)
      (fun j v hv => by rw [Addr.add_mid]; exact hkc j v hv) (fun j hj => (hth j (by omega)).1) (fun j hj => (hth j (by omega)).2) (bvals_one key)
    rw [hbl] at h
    have e : ∀ (x : World), x.drew.setCells (w.heap.size + 1 + 1 + 1) 0 (bvals key) = (x.setCells (w.heap.size + 1 + 1 + 1) 0 (bvals key)).drew := fun x => setCells_drew _ _ _ x
    rw [e] at h
    exact h
  obtain ⟨SB, hSB⟩ : ∃ x, (vals .u8 sbLit).toArray = x := ⟨_, rfl⟩
  obtain ⟨KB, hKB⟩ : ∃ x, (bvals key).toArray = x := ⟨_, rfl⟩
  rw [hSB, hKB]
  rw [hSB, hKB] at hst hcp
  have hs1 : SB.size = 256 := by rw [← hSB, List.size_toArray, vals, List.length_map, sbLit_len]
  have hs2 : KB.size = 32 := by rw [← hKB]; simp [bvals, hkl]
  have HST := hide hst.drew
  have HKL := hide hkl
  clear hst hSB hKB hkl
  go_enter Tryz.func96, Tryz.ntmps96
  go_wp2_with fail
  go_region
  go_wp2_with fail
  go_loopw [6, 7] (fun mk i wr => ∃ j : Nat, j ≤ 52 ∧ mk = .int .u8 ((rcN ((j + 7) / 8) : Nat) : Int) ∧ i = .int .i64 ((32 + 4 * j : Nat) : Int) ∧ XM w (nats (keysTo key j ++ List.replicate (208 - 4 * j) 0)) wr) (fun _ i _ => (241 - intOf i).toNat)
  case atStart => exact ⟨0, by omega, rfl, rfl, HST.out⟩
  case round =>
    clear HST hzv hcp hs1 hs2
    obtain ⟨j, hj52, rfl, rfl, hr⟩ := hrel
    have hKl := keysTo_len key HKL.out j
    by_cases hlt : j < 52
    · have HJ := hide hlt
      have HKS : Hid (∀ P Q R S, P < 256 → Q < 256 → R < 256 → S < 256 → wordL (keysTo key j) (j + 8) = [UInt8.ofNat P, UInt8.ofNat Q, UInt8.ofNat R, UInt8.ofNat S] → _) := fun P Q R S h1 h2 h3 h4 h5 => keys_set key j P Q R S HKL.out hlt h1 h2 h3 h4 h5
      have HWA := hide (wordA (keysTo key j) j hKl)
      have HWB := hide (wordB (keysTo key j) j hKl)
      have HWC := hide (wordC (keysTo key j) j hKl)
      have v4 := xs_get (keysTo key j) (List.replicate (208 - 4 * j) 0) (4 * j + 28) (by omega)
      have v3 := xs_get (keysTo key j) (List.replicate (208 - 4 * j) 0) (4 * j + 29) (by omega)
      have v2 := xs_get (keysTo key j) (List.replicate (208 - 4 * j) 0) (4 * j + 30) (by omega)
      have v1 := xs_get (keysTo key j) (List.replicate (208 - 4 * j) 0) (4 * j + 31) (by omega)
      have g0 := xs_get (keysTo key j) (List.replicate (208 - 4 * j) 0) (4 * j) (by omega)
      have g1 := xs_get (keysTo key j) (List.replicate (208 - 4 * j) 0) (4 * j + 1) (by omega)
      have g2 := xs_get (keysTo key j) (List.replicate (208 - 4 * j) 0) (4 * j + 2) (by omega)
      have g3 := xs_get (keysTo key j) (List.replicate (208 - 4 * j) 0) (4 * j + 3) (by omega)
      have b4 : ((keysTo key j).getD (4 * j + 28) 0).toNat < 256 := UInt8.toNat_lt _
      have b3 : ((keysTo key j).getD (4 * j + 29) 0).toNat < 256 := UInt8.toNat_lt _
      have b2 : ((keysTo key j).getD (4 * j + 30) 0).toNat < 256 := UInt8.toNat_lt _
      have b1 : ((keysTo key j).getD (4 * j + 31) 0).toNat < 256 := UInt8.toNat_lt _
      have bk0 : ((keysTo key j).getD (4 * j) 0).toNat < 256 := UInt8.toNat_lt _
      have bk1 : ((keysTo key j).getD (4 * j + 1) 0).toNat < 256 := UInt8.toNat_lt _
      have bk2 : ((keysTo key j).getD (4 * j + 2) 0).toNat < 256 := UInt8.toNat_lt _
      have bk3 : ((keysTo key j).getD (4 * j + 3) 0).toNat < 256 := UInt8.toNat_lt _
      generalize ((keysTo key j).getD (4 * j + 28) 0).toNat = p0 at *
      generalize ((keysTo key j).getD (4 * j + 29) 0).toNat = q0 at *
      generalize ((keysTo key j).getD (4 * j + 30) 0).toNat = r0 at *
      generalize ((keysTo key j).getD (4 * j + 31) 0).toNat = s0 at *
      generalize ((keysTo key j).getD (4 * j) 0).toNat = k0 at *
      generalize ((keysTo key j).getD (4 * j + 1) 0).toNat = k1 at *
      generalize ((keysTo key j).getD (4 * j + 2) 0).toNat = k2 at *
      generalize ((keysTo key j).getD (4 * j + 3) 0).toNat = k3 at *
      obtain ⟨xs, hxs⟩ : ∃ x, nats (keysTo key j ++ List.replicate (208 - 4 * j) 0) = x := ⟨_, rfl⟩
      obtain ⟨n0, hn0⟩ : ∃ m, 32 + 4 * j = m := ⟨_, rfl⟩
      obtain ⟨n1, hn1⟩ : ∃ m, n0 + 1 = m := ⟨_, rfl⟩
      obtain ⟨n2, hn2⟩ : ∃ m, n0 + 2 = m := ⟨_, rfl⟩
      obtain ⟨n3, hn3⟩ : ∃ m, n0 + 3 = m := ⟨_, rfl⟩
      obtain ⟨a4, ha4⟩ : ∃ m, 4 * j + 28 = m := ⟨_, rfl⟩
      obtain ⟨a3, ha3⟩ : ∃ m, 4 * j + 29 = m := ⟨_, rfl⟩
      obtain ⟨a2, ha2⟩ : ∃ m, 4 * j + 30 = m := ⟨_, rfl⟩
      obtain ⟨a1, ha1⟩ : ∃ m, 4 * j + 31 = m := ⟨_, rfl⟩
      obtain ⟨c1, hc1⟩ : ∃ m, 4 * j + 1 = m := ⟨_, rfl⟩
      obtain ⟨c2, hc2⟩ : ∃ m, 4 * j + 2 = m := ⟨_, rfl⟩
      obtain ⟨c3, hc3⟩ : ∃ m, 4 * j + 3 = m := ⟨_, rfl⟩
      obtain ⟨c0, hc0⟩ : ∃ m, 4 * j = m := ⟨_, rfl⟩
      simp only [hxs, hn0, hn1, hn2, hn3] at HKS
      rw [hxs] at hr v1 v2 v3 v4 g0 g1 g2 g3
      rw [ha4] at v4
      rw [ha3] at v3
      rw [ha2] at v2
      rw [ha1] at v1
      rw [hc0] at g0
      rw [hc1] at g1
      rw [hc2] at g2
      rw [hc3] at g3
      have HKG := hide (And.intro g0 (And.intro g1 (And.intro g2 g3)))
      have d4 := hr.cell a4 (by omega)
      have d3 := hr.cell a3 (by omega)
      have d2 := hr.cell a2 (by omega)
      have d1 := hr.cell a1 (by omega)
      rw [v4] at d4
      rw [v3] at d3
      rw [v2] at d2
      rw [v1] at d1
      have HNN := hide hn0
      rw [hn0]
      have ia4 : (n0 : Int) - 4 = (a4 : Int) := by omega
      have ya4 : IntKind.i64.wrap ((n0 : Int) - 4) = (a4 : Int) := by rw [ia4]; exact wrap_i64_nat _ (by omega)
      have ia3 : (n0 : Int) - 3 = (a3 : Int) := by omega
      have ya3 : IntKind.i64.wrap ((n0 : Int) - 3) = (a3 : Int) := by rw [ia3]; exact wrap_i64_nat _ (by omega)
      have ia2 : (n0 : Int) - 2 = (a2 : Int) := by omega
      have ya2 : IntKind.i64.wrap ((n0 : Int) - 2) = (a2 : Int) := by rw [ia2]; exact wrap_i64_nat _ (by omega)
      have ia1 : (n0 : Int) - 1 = (a1 : Int) := by omega
      have ya1 : IntKind.i64.wrap ((n0 : Int) - 1) = (a1 : Int) := by rw [ia1]; exact wrap_i64_nat _ (by omega)
      have in1 : (n0 : Int) + 1 = (n1 : Int) := by omega
      have yn1 : IntKind.i64.wrap ((n0 : Int) + 1) = (n1 : Int) := by rw [in1]; exact wrap_i64_nat _ (by omega)
      have in2 : (n0 : Int) + 2 = (n2 : Int) := by omega
      have yn2 : IntKind.i64.wrap ((n0 : Int) + 2) = (n2 : Int) := by rw [in2]; exact wrap_i64_nat _ (by omega)
      have in3 : (n0 : Int) + 3 = (n3 : Int) := by omega
      have yn3 : IntKind.i64.wrap ((n0 : Int) + 3) = (n3 : Int) := by rw [in3]; exact wrap_i64_nat _ (by omega)
      have ic0 : (n0 : Int) - 32 = (c0 : Int) := by omega
      have yc0 : IntKind.i64.wrap ((n0 : Int) - 32) = (c0 : Int) := by rw [ic0]; exact wrap_i64_nat _ (by omega)
      have ic1 : (n1 : Int) - 32 = (c1 : Int) := by omega
      have yc1 : IntKind.i64.wrap ((n1 : Int) - 32) = (c1 : Int) := by rw [ic1]; exact wrap_i64_nat _ (by omega)
      have ic2 : (n2 : Int) - 32 = (c2 : Int) := by omega
      have yc2 : IntKind.i64.wrap ((n2 : Int) - 32) = (c2 : Int) := by rw [ic2]; exact wrap_i64_nat _ (by omega)
      have ic3 : (n3 : Int) - 32 = (c3 : Int) := by omega
      have yc3 : IntKind.i64.wrap ((n3 : Int) - 32) = (c3 : Int) := by rw [ic3]; exact wrap_i64_nat _ (by omega)
      have l3 : (n3 : Int) < 240 := by omega
      have l2 : (n2 : Int) < 240 := by omega
      have l1 : (n1 : Int) < 240 := by omega
      have l0 : (n0 : Int) < 240 := by omega
      have la4 : (a4 : Int) < 240 := by omega
      have la3 : (a3 : Int) < 240 := by omega
      have la2 : (a2 : Int) < 240 := by omega
      have la1 : (a1 : Int) < 240 := by omega
      have lc0 : (c0 : Int) < 240 := by omega
      have lc1 : (c1 : Int) < 240 := by omega
      have lc2 : (c2 : Int) < 240 := by omega
      have lc3 : (c3 : Int) < 240 := by omega
      have lp : (p0 : Int) < 256 := by omega
      have lq : (q0 : Int) < 256 := by omega
      have lr : (r0 : Int) < 256 := by omega
      have ls : (s0 : Int) < 256 := by omega
      have hmk := rcN_lt ((j + 7) / 8)
      have HMOD := hide (show n0 % 32 = 4 * (j % 8) by omega)
      have HR := hide hr
      clear v1 v2 v3 v4 g0 g1 g2 g3 hr hxs hKl hj52 hlt
      have HNV := hide (And.intro hn1 (And.intro hn2 (And.intro hn3 (And.intro ha4 (And.intro hc0 (And.intro hc1 (And.intro hc2 hc3)))))))
      generalize hmkq : rcN ((j + 7) / 8) = mk at *
      have HMK := hide hmkq
      clear hmkq ha1 ha2 ha3 hn0
      go_wp2_with fail
      go_quiet (fail)
      have hrd := HR.out.drewN nq
      clear HR d1 d2 d3 d4
      generalize wr.drewN nq = wd at *
      by_cases hj0 : j % 8 = 0
      · have hmod : ((n0 : Int) % 32 == 0) = true := by have := HMOD.out; simp; omega
        have hw := HWA.out hj0
        have HRC := hide (show dbl mk = rcN ((j + 1 + 7) / 8) by rw [← HMK.out]; exact rc_next j hj0)
        have bxp0 := hrd.boxAt p0 (by omega)
        have bxq0 := hrd.boxAt q0 (by omega)
        have bxr0 := hrd.boxAt r0 (by omega)
        have bxs0 := hrd.boxAt s0 (by omega)
        have ls1 := sboxN_lt p0
        have ls2 := sboxN_lt q0
        have ls3 := sboxN_lt r0
        have ls4 := sboxN_lt s0
        have hxm := u8_xor_nat (sboxN q0) mk (by omega) hmk
        have lP : sboxN q0 ^^^ mk < 256 := Nat.xor_lt_two_pow (n := 8) (by omega) hmk
        have HW := hide hw
        clear hw
        generalize sboxN q0 ^^^ mk = P at *
        generalize sboxN q0 = sq at *
        generalize sboxN r0 = Q at *
        generalize sboxN s0 = R at *
        generalize sboxN p0 = S at *
        have HRD := hide hrd
        clear hrd
        go_wp2_with fail
        go_quiet (fail)
        have hrd := HRD.out.drewN nq
        clear HRD bxp0 bxq0 bxr0 bxs0 hxm
        generalize wd.drewN nq = we at *
        go_wp2_with fail
        refine (double_any mk _ hmk).mono ?_
        rintro e w' ⟨rfl, rfl⟩
        rw [HRC.out]
        obtain ⟨z0, hz0⟩ : ∃ z, k0 ^^^ P = z := ⟨_, rfl⟩
        obtain ⟨z1, hz1⟩ : ∃ z, k1 ^^^ Q = z := ⟨_, rfl⟩
        obtain ⟨z2, hz2⟩ : ∃ z, k2 ^^^ R = z := ⟨_, rfl⟩
        obtain ⟨z3, hz3⟩ : ∃ z, k3 ^^^ S = z := ⟨_, rfl⟩
        have HFIN := hide (show (((xs.set n0 z0).set n1 z1).set n2 z2).set n3 z3 = nats (keysTo key (j + 1) ++ List.replicate (208 - 4 * (j + 1)) 0) by rw [← hz0, ← hz1, ← hz2, ← hz3]; exact HKS.out P Q R S (by omega) (by omega) (by omega) (by omega) HW.out)
        have rd0 := hrd.cell c0 (by omega)
        rw [HKG.out.1] at rd0
        have wc0 := hrd.cell n0 (by omega)
        have wf0 := hrd.row.frozen n0
        have x0 := u8_xor_nat k0 P (by omega) (by omega)
        rw [hz0] at x0
        have h0' := hrd.set n0 z0
        generalize (xs).getD n0 0 = g0 at wc0
        have rd1 := h0'.cell c1 (by omega)
        rw [set_get _ _ _ _ (by omega), HKG.out.2.1] at rd1
        have wc1 := h0'.cell n1 (by omega)
        have wf1 := h0'.row.frozen n1
        have x1 := u8_xor_nat k1 Q (by omega) (by omega)
        rw [hz1] at x1
        have h1' := h0'.set n1 z1
        generalize ((xs).set n0 z0).getD n1 0 = g1 at wc1
        have rd2 := h1'.cell c2 (by omega)
        rw [set_get _ _ _ _ (by omega), set_get _ _ _ _ (by omega), HKG.out.2.2.1] at rd2
        have wc2 := h1'.cell n2 (by omega)
        have wf2 := h1'.row.frozen n2
        have x2 := u8_xor_nat k2 R (by omega) (by omega)
        rw [hz2] at x2
        have h2' := h1'.set n2 z2
        generalize (((xs).set n0 z0).set n1 z1).getD n2 0 = g2 at wc2
        have rd3 := h2'.cell c3 (by omega)
        rw [set_get _ _ _ _ (by omega), set_get _ _ _ _ (by omega), set_get _ _ _ _ (by omega), HKG.out.2.2.2] at rd3
        have wc3 := h2'.cell n3 (by omega)
        have wf3 := h2'.row.frozen n3
        have x3 := u8_xor_nat k3 S (by omega) (by omega)
        rw [hz3] at x3
        have h3' := h2'.set n3 z3
        generalize ((((xs).set n0 z0).set n1 z1).set n2 z2).getD n3 0 = g3 at wc3
        rw [HFIN.out] at h3'
        have HQ3 := hide h3'
        clear hrd h0' h1' h2' h3' hz0 hz1 hz2 hz3 HKS HWA HWB HWC HFIN ia4 ia3 ia2 ia1 ya4 ya3 ya2 ya1 la4 la3 la2 la1 yn1 yn2 yn3 yc0 yc1 yc2 yc3 lp lq lr ls b1 b2 b3 b4 bk0 bk1 bk2 bk3 HMOD HKG hn1 hn2 hn3 ha4 hc0 hc1 hc2 hc3 hmk
        go_wp2_with fail
        go_roundw
        case rel => exact ⟨j + 1, by have := HJ.out; omega, rfl, val_int (by have := HNN.out; omega), HQ3.out⟩
        case measure => have := HJ.out; have := HNN.out; simp [intOf]; omega
      · by_cases hj4 : j % 8 = 4
        · have hmod : ((n0 : Int) % 32 == 0) = false := by have := HMOD.out; simp; omega
          have hmod2 : ((n0 : Int) % 32 == 16) = true := by have := HMOD.out; simp; omega
          have hw := HWB.out hj4
          have HRC := hide (show mk = rcN ((j + 1 + 7) / 8) by rw [← HMK.out]; exact rc_same j hj0)
          have bxp0 := hrd.boxAt p0 (by omega)
          have bxq0 := hrd.boxAt q0 (by omega)
          have bxr0 := hrd.boxAt r0 (by omega)
          have bxs0 := hrd.boxAt s0 (by omega)
          have ls1 := sboxN_lt p0
          have ls2 := sboxN_lt q0
          have ls3 := sboxN_lt r0
          have ls4 := sboxN_lt s0
          have HW := hide hw
          clear hw
          generalize sboxN p0 = P at *
          generalize sboxN q0 = Q at *
          generalize sboxN r0 = R at *
          generalize sboxN s0 = S at *
          have HRD := hide hrd
          clear hrd
          go_wp2_with fail
          go_quiet (fail)
          have hrd := HRD.out.drewN nq
          clear HRD bxp0 bxq0 bxr0 bxs0
          generalize wd.drewN nq = we at *
          obtain ⟨z0, hz0⟩ : ∃ z, k0 ^^^ P = z := ⟨_, rfl⟩
          obtain ⟨z1, hz1⟩ : ∃ z, k1 ^^^ Q = z := ⟨_, rfl⟩
          obtain ⟨z2, hz2⟩ : ∃ z, k2 ^^^ R = z := ⟨_, rfl⟩
          obtain ⟨z3, hz3⟩ : ∃ z, k3 ^^^ S = z := ⟨_, rfl⟩
          have HFIN := hide (show (((xs.set n0 z0).set n1 z1).set n2 z2).set n3 z3 = nats (keysTo key (j + 1) ++ List.replicate (208 - 4 * (j + 1)) 0) by rw [← hz0, ← hz1, ← hz2, ← hz3]; exact HKS.out P Q R S (by omega) (by omega) (by omega) (by omega) HW.out)
          have rd0 := hrd.cell c0 (by omega)
          rw [HKG.out.1] at rd0
          have wc0 := hrd.cell n0 (by omega)
          have wf0 := hrd.row.frozen n0
          have x0 := u8_xor_nat k0 P (by omega) (by omega)
          rw [hz0] at x0
          have h0' := hrd.set n0 z0
          generalize (xs).getD n0 0 = g0 at wc0
          have rd1 := h0'.cell c1 (by omega)
          rw [set_get _ _ _ _ (by omega), HKG.out.2.1] at rd1
          have wc1 := h0'.cell n1 (by omega)
          have wf1 := h0'.row.frozen n1
          have x1 := u8_xor_nat k1 Q (by omega) (by omega)
          rw [hz1] at x1
          have h1' := h0'.set n1 z1
          generalize ((xs).set n0 z0).getD n1 0 = g1 at wc1
          have rd2 := h1'.cell c2 (by omega)
          rw [set_get _ _ _ _ (by omega), set_get _ _ _ _ (by omega), HKG.out.2.2.1] at rd2
          have wc2 := h1'.cell n2 (by omega)
          have wf2 := h1'.row.frozen n2
          have x2 := u8_xor_nat k2 R (by omega) (by omega)
          rw [hz2] at x2
          have h2' := h1'.set n2 z2
          generalize (((xs).set n0 z0).set n1 z1).getD n2 0 = g2 at wc2
          have rd3 := h2'.cell c3 (by omega)
          rw [set_get _ _ _ _ (by omega), set_get _ _ _ _ (by omega), set_get _ _ _ _ (by omega), HKG.out.2.2.2] at rd3
          have wc3 := h2'.cell n3 (by omega)
          have wf3 := h2'.row.frozen n3
          have x3 := u8_xor_nat k3 S (by omega) (by omega)
          rw [hz3] at x3
          have h3' := h2'.set n3 z3
          generalize ((((xs).set n0 z0).set n1 z1).set n2 z2).getD n3 0 = g3 at wc3
          rw [HFIN.out] at h3'
          have HQ3 := hide h3'
          clear hrd h0' h1' h2' h3' hz0 hz1 hz2 hz3 HKS HWA HWB HWC HFIN ia4 ia3 ia2 ia1 ya4 ya3 ya2 ya1 la4 la3 la2 la1 yn1 yn2 yn3 yc0 yc1 yc2 yc3 lp lq lr ls b1 b2 b3 b4 bk0 bk1 bk2 bk3 HMOD HKG hn1 hn2 hn3 ha4 hc0 hc1 hc2 hc3 hmk
          go_wp2_with fail
          go_roundw
          case rel => exact ⟨j + 1, by have := HJ.out; omega, by rw [HRC.out], val_int (by have := HNN.out; omega), HQ3.out⟩
          case measure => have := HJ.out; have := HNN.out; simp [intOf]; omega
        · have hmod : ((n0 : Int) % 32 == 0) = false := by have := HMOD.out; simp; omega
          have hmod2 : ((n0 : Int) % 32 == 16) = false := by have := HMOD.out; simp; omega
          have hw := HWC.out hj0 hj4
          have HRC := hide (show mk = rcN ((j + 1 + 7) / 8) by rw [← HMK.out]; exact rc_same j hj0)
          have HW := hide hw
          clear hw
          obtain ⟨z0, hz0⟩ : ∃ z, k0 ^^^ p0 = z := ⟨_, rfl⟩
          obtain ⟨z1, hz1⟩ : ∃ z, k1 ^^^ q0 = z := ⟨_, rfl⟩
          obtain ⟨z2, hz2⟩ : ∃ z, k2 ^^^ r0 = z := ⟨_, rfl⟩
          obtain ⟨z3, hz3⟩ : ∃ z, k3 ^^^ s0 = z := ⟨_, rfl⟩
          have HFIN := hide (show (((xs.set n0 z0).set n1 z1).set n2 z2).set n3 z3 = nats (keysTo key (j + 1) ++ List.replicate (208 - 4 * (j + 1)) 0) by rw [← hz0, ← hz1, ← hz2, ← hz3]; exact HKS.out p0 q0 r0 s0 (by omega) (by omega) (by omega) (by omega) HW.out)
          have rd0 := hrd.cell c0 (by omega)
          rw [HKG.out.1] at rd0
          have wc0 := hrd.cell n0 (by omega)
          have wf0 := hrd.row.frozen n0
          have x0 := u8_xor_nat k0 p0 (by omega) (by omega)
          rw [hz0] at x0
          have h0' := hrd.set n0 z0
          generalize (xs).getD n0 0 = g0 at wc0
          have rd1 := h0'.cell c1 (by omega)
          rw [set_get _ _ _ _ (by omega), HKG.out.2.1] at rd1
          have wc1 := h0'.cell n1 (by omega)
          have wf1 := h0'.row.frozen n1
          have x1 := u8_xor_nat k1 q0 (by omega) (by omega)
          rw [hz1] at x1
          have h1' := h0'.set n1 z1
          generalize ((xs).set n0 z0).getD n1 0 = g1 at wc1
          have rd2 := h1'.cell c2 (by omega)
          rw [set_get _ _ _ _ (by omega), set_get _ _ _ _ (by omega), HKG.out.2.2.1] at rd2
          have wc2 := h1'.cell n2 (by omega)
          have wf2 := h1'.row.frozen n2
          have x2 := u8_xor_nat k2 r0 (by omega) (by omega)
          rw [hz2] at x2
          have h2' := h1'.set n2 z2
          generalize (((xs).set n0 z0).set n1 z1).getD n2 0 = g2 at wc2
          have rd3 := h2'.cell c3 (by omega)
          rw [set_get _ _ _ _ (by omega), set_get _ _ _ _ (by omega), set_get _ _ _ _ (by omega), HKG.out.2.2.2] at rd3
          have wc3 := h2'.cell n3 (by omega)
          have wf3 := h2'.row.frozen n3
          have x3 := u8_xor_nat k3 s0 (by omega) (by omega)
          rw [hz3] at x3
          have h3' := h2'.set n3 z3
          generalize ((((xs).set n0 z0).set n1 z1).set n2 z2).getD n3 0 = g3 at wc3
          rw [HFIN.out] at h3'
          have HQ3 := hide h3'
          clear hrd h0' h1' h2' h3' hz0 hz1 hz2 hz3 HKS HWA HWB HWC HFIN ia4 ia3 ia2 ia1 ya4 ya3 ya2 ya1 la4 la3 la2 la1 yn1 yn2 yn3 yc0 yc1 yc2 yc3 lp lq lr ls b1 b2 b3 b4 bk0 bk1 bk2 bk3 HMOD HKG hn1 hn2 hn3 ha4 hc0 hc1 hc2 hc3 hmk
          go_wp2_with fail
          go_roundw
          case rel => exact ⟨j + 1, by have := HJ.out; omega, by rw [HRC.out], val_int (by have := HNN.out; omega), HQ3.out⟩
          case measure => have := HJ.out; have := HNN.out; simp [intOf]; omega
    · have hj : j = 52 := by omega
      subst hj
      have e1 : keysTo key 52 ++ List.replicate (208 - 4 * 52) 0 = keysL key := by simp [keysL]
      rw [e1] at hr
      have hra := row_range hr.row
      rw [vals_nats] at hra
      have hth := hr.res
      have hvl : (bvals (keysL key)).length = 240 := by rw [bvals_len]; exact keysL_len key HKL.out
      have hb := hr.bel
      have hone := bvals_one (keysL key)
      generalize hV : bvals (keysL key) = V at *
      have HI := hide (show (Tryz.prog.info? 154).map (·.size) = some V.length from by rw [hvl]; kernel_rfl)
      have hb1 : Below w.heap.size w (wr.setCells (w.heap.size + 1 + 1) 0 V) := hb.trans (below_setCells wr w.heap.size _ 0 V (by omega))
      have hrr := World.rangeAt_setCells_same wr (w.heap.size + 1 + 1) 0 V (by rw [hvl]; exact hth)
      have HV := hide hvl
      have HRA := hide hra
      have HTH := hide hth
      clear hvl hr hlt hj52 hKl e1 hra hth
      simp only [show ((32 + 4 * 52 : Nat) : Int) = 240 from rfl]
      go_wp2_with (first | refine wpList_load_mid rfl 154 _ rfl (w.heap.size + 1 + 1 + 1) 0 rfl V _ HRA.out Tryz.underlying154 rfl HI.out ?_ | refine wpList_store_mid rfl 154 _ _ rfl (w.heap.size + 1 + 1) 0 V.toArray rfl rfl (by simpa [HV.out] using HTH.out) (by simpa using HI.out) (all_oneCell_toArray hone) ?_)
      exact bodyPost_ret (v := .agg V.toArray) (results_cell_mid Tryz.results96 _ _ (w.heap.size + 1 + 1) 0 V _ rfl hrr Tryz.underlying154 rfl HI.out) rfl ⟨by rw [hV], hb1⟩
end Go.Proofs.YtjnhlkaafnaooabGreatDoor

namespace Go.Proofs.YtjnhlkaafnaooabGreatDoor
open Go.RowKit
theorem foldl_set2 : ∀ (l : List Value) (cells : Array Value) (off k : Nat), off + k + l.length ≤ cells.size →
    ((l.zipIdx k).foldl (fun cs (p : Value × Nat) => cs.setIfInBounds (off + p.2) p.1) cells).toList = cells.toList.take (off + k) ++ l ++ cells.toList.drop (off + k + l.length)
  | [], cells, off, k, _ => by simp
  | x :: l, cells, off, k, h => by
    have hs : off + k < cells.toList.length := by simp at h ⊢; omega
    rw [List.zipIdx_cons, List.foldl_cons, foldl_set2 l _ off (k + 1) (by simp at h ⊢; omega)]
    simp only [Array.toList_setIfInBounds]
    have e1 : (cells.toList.set (off + k) x).take (off + (k + 1)) = cells.toList.take (off + k) ++ [x] := by
      rw [← Nat.add_assoc, List.take_succ_eq_append_getElem (by simpa using hs), List.getElem_set_self, List.take_set_of_le (Nat.le_refl _)]
    rw [e1, List.drop_set_of_lt (by omega)]
    have e2 : off + (k + 1) + l.length = off + k + (x :: l).length := by simp; omega
    rw [e2]
    simp
theorem fill_part2 (f : Nat → Option (Nat × Nat)) (cells : Array Value) (i off : Nat) (A : List Value) (rest : List (Nat × Value)) (hf : f i = some (off, A.length)) (hc : off + A.length ≤ cells.size) :
    Instr.fill f cells ((i, .agg A.toArray) :: rest) = Instr.fill f (cells.toList.take off ++ A ++ cells.toList.drop (off + A.length)).toArray rest := by
  have hcs : (Value.agg A.toArray).cells = A.toArray := rfl
  have hfold : (A.toArray.zipIdx.foldl (fun cs (p : Value × Nat) => cs.setIfInBounds (off + p.2) p.1) cells) = (cells.toList.take off ++ A ++ cells.toList.drop (off + A.length)).toArray := by
    apply Array.toList_inj.1
    have := foldl_set2 A cells off 0 (by omega)
    simp only [Nat.add_zero] at this
    rw [← Array.foldl_toList]
    simpa using this
  rw [Instr.fill, hf]
  simp only [hcs]
  rw [if_neg (by simp; omega)]
  exact congrArg (fun c => Instr.fill f c rest) hfold
theorem built_key (parts : List (Nat × Value)) : Tryz.prog.built 157 parts = Instr.fill (fun i => [(0, 256), (256, 240)][i]?) (vals .u8 (List.replicate 496 0)).toArray parts := by
  have h : Tryz.prog.built 157 = Instr.fill (fun i => [(0, 256), (256, 240)].toArray[i]?) (vals .u8 (List.replicate 496 0)).toArray := by kernel_rfl
  rw [h]
  congr 1
  funext i
  simp
theorem build_key (A B : List Value) (hA : A.length = 256) (hB : B.length = 240) (w : World) : (Instr.build 157 #[(0, .agg A.toArray), (1, .agg B.toArray)]).run Tryz.prog w = .ok (.agg (A ++ B).toArray) w := by
  refine run_build w _ _ _ ?_
  rw [built_key]
  have hz : (vals .u8 (List.replicate 496 0)).length = 496 := by rw [vals, List.length_map, List.length_replicate]
  obtain ⟨Z, hZ⟩ : ∃ Z, vals .u8 (List.replicate 496 0) = Z := ⟨_, rfl⟩
  rw [hZ] at hz ⊢
  show Instr.fill _ _ [(0, .agg A.toArray), (1, .agg B.toArray)] = _
  rw [fill_part2 _ _ 0 0 A _ (by rw [hA]; rfl) (by simp; omega), fill_part2 _ _ 1 256 B _ (by rw [hB]; rfl) (by simp; omega)]
  rw [Instr.fill]
  congr 2
  simp [hA, hB, hz]
section
variable {P : Program} {ops : Array Oper} {Q : Exit → Act → World → Prop} {S : World → Prop} {md : Region.Mode} {fuel : Nat} {listed : Array Bool} {a : Act} {w w' : World} {i : Nat} {op : Oper} {rs : List Nat}
theorem readyH_run (hi' : ops[i]? = some op) (hw : Region.wanted op (yielded ops a.tmps) = true) (v : Value) (hr : (execOp a.eval op).run P w = .ok (.value v) w') (hS : S w')
    (h : wpAnyH P md ops Q S fuel (listed.setIfInBounds i true) (a.put op.dst v) w') (hs : AllReadyH P md ops Q S fuel listed a w rs) : AllReadyH P md ops Q S fuel listed a w (i :: rs) :=
  AllReadyH.cons hi' (fun K' hK => by
    rw [if_pos hw]
    unfold Oper.wp
    rw [hr]
    exact hK.out _ _ hS (fun _ => h)) hs
theorem readyH_build (hi' : ops[i]? = some op) (hw : Region.wanted op (yielded ops a.tmps) = true) (t : TypeId) (parts : Array (Nat × Operand)) (ho : op.op = .build t parts) (v : Value) (ps : Array (Nat × Value)) (hp : (parts.map fun (i, x) => (i, a.eval x)) = ps)
    (hr : (Instr.build t ps).run P w = .ok v w) (hS : S w)
    (h : wpAnyH P md ops Q S fuel (listed.setIfInBounds i true) (a.put op.dst v) w) (hs : AllReadyH P md ops Q S fuel listed a w rs) : AllReadyH P md ops Q S fuel listed a w (i :: rs) :=
  AllReadyH.cons hi' (fun K' hK => by
    rw [if_pos hw]
    unfold Oper.wp execOp
    simp only [ho, hp, Sem.run_bind, hr, Result.andThen_ok, Sem.run_pure]
    exact hK.out _ _ hS (fun _ => h)) hs
end
set_option maxRecDepth 100000 in
set_option maxHeartbeats 400000 in
theorem gkeyed_any (key : List UInt8) (w : World) :
    Calls Tryz.prog 56 #[.string ⟨key.toArray⟩] w fun e w' => ∃ kb, e = .returned (.pointer (some ⟨kb, 0, none⟩)) ∧ KeyAt w' kb (keysL (fillL key 32)) ∧ w.heap.size ≤ kb ∧ Below w.heap.size w w' := by
  have hzv : ∀ w, (zeroValue 141).run Tryz.prog w = .ok (.agg (vals .u8 (List.replicate 32 0)).toArray) w := fun _ => by kernel_rfl
  have hcp : ∀ sT ty, (Builtin.copy_ #[52, sT] ty #[.slice (some ⟨w.heap.size, 0, none⟩) 32 32, .string ⟨key.toArray⟩]).run Tryz.prog (w.alloc (.cells (vals .u8 (List.replicate 32 0)).toArray 141)) = .ok (goInt (key.take 32).length) (w.alloc (.cells (bvals (fillL key 32)).toArray 141)) := fun sT ty => copy_new key 32 w sT ty 141
  obtain ⟨Z, hZ⟩ : ∃ x, (vals .u8 (List.replicate 32 0)).toArray = x := ⟨_, rfl⟩
  rw [hZ] at hzv hcp
  have hZs : Z.size = 32 := by rw [← hZ]; simp [vals]
  have hFl := fillL_len key 32
  have hkl := keysL_len (fillL key 32) hFl
  obtain ⟨F, hF⟩ : ∃ x, fillL key 32 = x := ⟨_, rfl⟩
  rw [hF] at hcp hFl hkl ⊢
  have hex := fun w => expand_any F w hFl
  obtain ⟨rk, hrk⟩ : ∃ x, keysL F = x := ⟨_, rfl⟩
  simp only [hrk] at hex
  rw [hrk] at hkl ⊢
  have HEX := hide hex
  have HFL := hide (And.intro hFl hkl)
  have hra : ∀ w1, Below (w.heap.size + 1) (w.alloc (.cells (bvals F).toArray 141)) w1 → w1.rangeAt w.heap.size 0 (bvals F) := fun w1 hb => range_block (c := (bvals F).toArray) ((hb.block w.heap.size (by omega)).trans (heap_alloc_new w _))
  have HRA := hide hra
  have HI32 := hide (show (Tryz.prog.info? 141).map (·.size) = some (bvals F).length by rw [bvals_len, hFl]; kernel_rfl)
  clear hrk hF hex hZ hkl hra
  go_enter Tryz.func56, Tryz.ntmps56
  go_wp2_with fail
  refine (makeBox_any _).mono ?_
  rintro e w1 ⟨rfl, hb1⟩
  have hb1' : Below (w.heap.size + 1) (w.alloc (.cells (bvals F).toArray 141)) w1 := by simpa using hb1
  have hrw := HRA.out w1 hb1'
  have hbel1 : Below w.heap.size w w1 := ((Below.refl _ _).alloc (Nat.le_refl _) _).trans (hb1'.mono (by omega))
  have HR1 := hide hrw
  have hsb : (vals .u8 sbLit).length = 256 := by rw [vals, List.length_map, sbLit_len]
  obtain ⟨SB, hSB⟩ : ∃ x, vals .u8 sbLit = x := ⟨_, rfl⟩
  have HSB := hide hSB
  have HEX2 : Hid (∀ w, Calls Tryz.prog 96 #[.agg SB.toArray, .agg (bvals F).toArray] w fun x w' => x = .returned (.agg (bvals rk).toArray) ∧ Below w.heap.size w w') := by rw [← hSB]; exact HEX.out
  rw [hSB] at hsb ⊢
  clear hSB HEX hb1 hb1' hrw hzv hcp HRA
  have hzb : ∀ w, (zeroValue 152).run Tryz.prog w = .ok (.agg (vals .u8 (List.replicate 256 0)).toArray) w := fun _ => by kernel_rfl
  obtain ⟨Z2, hZ2⟩ : ∃ x, (vals .u8 (List.replicate 256 0)).toArray = x := ⟨_, rfl⟩
  rw [hZ2] at hzb
  have hZ2s : Z2.size = 256 := by rw [← hZ2]; simp [vals]
  have hone : ∀ v ∈ SB, v.oneCell' = true := by rw [← HSB.out]; exact vals_one _ _
  have HI256 := hide (show (Tryz.prog.info? 152).map (·.size) = some SB.length by rw [hsb]; kernel_rfl)
  clear hZ2
  go_wp2_with (refine wpList_store_el rfl 152 _ _ rfl w1.heap.size 0 SB.toArray rfl rfl ?ht (by simpa using HI256.out) (all_oneCell_toArray hone) ?_)
  case ht =>
    have h := there_new w1 Z2 152
    rw [hZ2s] at h
    have e : SB.toArray.size = 256 := by simp [hsb]
    rw [e]; exact h
  intro w2 hw2
  have hb2 : Below w1.heap.size w1 w2 := by
    rw [hw2.out]
    exact ((Below.refl _ _).alloc (Nat.le_refl _) _).trans (below_setCells _ _ _ _ _ (Nat.le_refl _))
  have hrS : w2.rangeAt w1.heap.size 0 SB := by
    rw [hw2.out]
    have h := there_new w1 Z2 152
    rw [hZ2s] at h
    exact World.rangeAt_setCells_same _ w1.heap.size 0 SB (by rw [hsb]; exact h)
  have hgb : w1.heap.size < w2.heap.size := by
    rw [hw2.out, (setCells_block _ _ _ _).1]; simp
  have hNl : w.heap.size < w1.heap.size := by
    have := HR1.out 0
    rcases Nat.lt_or_ge w.heap.size w1.heap.size with g | g
    · exact g
    · exfalso
      have hv : (bvals F)[0]? = some ((bvals F)[0]'(by rw [bvals_len, hFl]; decide)) := List.getElem?_eq_getElem _
      have h2 := this _ hv
      have h3 : w1.cell? ⟨w.heap.size, 0 + 0, none⟩ = none := by
        unfold World.cell?
        simp [Array.getElem?_eq_none g]
      rw [h3] at h2; cases h2
  have hrF : w2.rangeAt w.heap.size 0 (bvals F) := by
    intro j v hv
    rw [World.cell?_of_block (w := w1) (hb2.block _ hNl)]
    exact HR1.out j v hv
  have hbel2 := hbel1.trans (hb2.mono hbel1.size)
  obtain ⟨gb, hgbq⟩ : ∃ g, w1.heap.size = g := ⟨_, rfl⟩
  rw [hgbq] at hrS hgb hNl ⊢
  have HSt := hide (And.intro hrS (And.intro hrF (And.intro hgb (And.intro hNl hbel2))))
  clear hw2 hb2 hrS hrF hgb hNl hbel2 hgbq hbel1 HR1
  go_wp2_with fail
  obtain ⟨rS, rF, hgb, hNl, hbel⟩ := HSt.out
  refine wp_region_held_drew (S := fun w' => w'.rangeAt gb 0 SB ∧ w'.rangeAt w.heap.size 0 (bvals F)) (by kernel_rfl) ⟨rS, rF⟩ ?_
  intro hS
  refine wpAnyH_take (i := 0) rfl (by kernel_rfl) (by kernel_rfl) (by kernel_rfl) (fun _ _ _ h => h) (yieldsIf_load_mid (by kernel_rfl) 152 _ rfl gb 0 (by kernel_rfl) SB _ (fun _ h => h.1) Tryz.underlying152 rfl HI256.out) hS ?_
  refine wpAnyH_take (i := 1) rfl (by kernel_rfl) (by kernel_rfl) (by kernel_rfl) (fun _ _ _ h => h) (yieldsIf_load_mid (by kernel_rfl) 152 _ rfl gb 0 (by kernel_rfl) SB _ (fun _ h => h.1) Tryz.underlying152 rfl HI256.out) hS ?_
  refine wpAnyH_take (i := 2) rfl (by kernel_rfl) (by kernel_rfl) (by kernel_rfl) (fun _ _ _ h => h) (yieldsIf_load_mid (by kernel_rfl) 141 _ rfl w.heap.size 0 (by kernel_rfl) (bvals F) _ (fun _ h => h.2) Tryz.underlying141 rfl HI32.out) hS ?_
  refine wpAnyH_ready (rs := [3]) (by kernel_rfl) (by simp) ?_
  refine readyH_call rfl (by kernel_rfl) 96 #[.agg SB.toArray, .agg (bvals F).toArray] (by kernel_rfl) ((HEX2.out w2.drew).mono ?_) AllReadyH.nil
  rintro e w3 ⟨rfl, hb3⟩
  have hgb' : gb < w2.drew.heap.size := hgb
  have hNl' : w.heap.size < w2.drew.heap.size := Nat.lt_trans hNl hgb
  have rS3 : w3.rangeAt gb 0 SB := fun j v hv => by rw [World.cell?_of_block (w := w2.drew) (hb3.block _ hgb')]; exact rS j v hv
  have rF3 : w3.rangeAt w.heap.size 0 (bvals F) := fun j v hv => by rw [World.cell?_of_block (w := w2.drew) (hb3.block _ hNl')]; exact rF j v hv
  have hbel3 := hbel.drew.trans (hb3.mono hbel.drew.size)
  refine ⟨_, rfl, ⟨rS3, rF3⟩, ?_⟩
  have hbrk : (bvals rk).length = 240 := by rw [bvals_len]; exact HFL.out.2
  refine wpAnyH_ready (rs := [4]) (by kernel_rfl) (by simp) ?_
  refine readyH_build rfl (by kernel_rfl) 157 _ rfl (.agg (SB ++ bvals rk).toArray) #[(0, .agg SB.toArray), (1, .agg (bvals rk).toArray)] (by kernel_rfl) (build_key SB (bvals rk) hsb hbrk _) ⟨rS3, rF3⟩ ?_ AllReadyH.nil
  have hC : (SB ++ bvals rk).length = 496 := by rw [List.length_append, hsb, hbrk]
  have hCe : SB ++ bvals rk = vals .u8 (sbLit ++ nats rk) := by rw [← HSB.out, ← vals_nats]; simp [vals]
  obtain ⟨C, hCC⟩ : ∃ C, (SB ++ bvals rk).toArray = C := ⟨_, rfl⟩
  rw [hCC]
  have hlt3 : gb < w3.heap.size := Nat.lt_of_lt_of_le hgb' hb3.size
  have hlt3' : w.heap.size < w3.heap.size := Nat.lt_of_lt_of_le hNl' hb3.size
  have rS4 : (w3.alloc (.cells C 157)).rangeAt gb 0 SB := fun j v hv => by rw [World.cell?_of_block (w := w3) (Below.heap_alloc w3 _ _ hlt3)]; exact rS3 j v hv
  have rF4 : (w3.alloc (.cells C 157)).rangeAt w.heap.size 0 (bvals F) := fun j v hv => by rw [World.cell?_of_block (w := w3) (Below.heap_alloc w3 _ _ hlt3')]; exact rF3 j v hv
  refine wpAnyH_ready (rs := [5]) (by kernel_rfl) (by simp) ?_
  refine readyH_run rfl (by kernel_rfl) (.pointer (some ⟨w3.heap.size, 0, none⟩)) (w' := w3.alloc (.cells C 157)) (by kernel_rfl) ⟨rS4, rF4⟩ ?_ AllReadyH.nil
  refine wpAnyH_ready (rs := [6]) (by kernel_rfl) (by simp) ?_
  refine readyH_run rfl (by kernel_rfl) (.pointer (some ⟨w3.heap.size, 0, none⟩)) (w' := w3.alloc (.cells C 157)) (by kernel_rfl) ⟨rS4, rF4⟩ ?_ AllReadyH.nil
  refine wpAnyH_done (by kernel_rfl) ?_ _
  have hblk : (w3.alloc (.cells C 157)).heap[w3.heap.size]? = some (.cells (vals .u8 (sbLit ++ nats rk)).toArray 157 (0, 0)) := by
    rw [← hCe, hCC]; exact heap_alloc_new w3 _
  have hkey : KeyAt (w3.alloc (.cells C 157)) w3.heap.size rk := ⟨Cells.of_block hblk, HFL.out.2⟩
  have HKY := hide (And.intro hkey (And.intro hbel3.size (hbel3.alloc hbel3.size (.cells C 157))))
  clear hkey hblk rS4 rF4 hS rS3 rF3 rS rF hb3 hbel hbel3
  go_wp2_with fail
  go_ret
  exact ⟨w3.heap.size, by kernel_rfl, HKY.out.1, HKY.out.2.1, HKY.out.2.2⟩
end Go.Proofs.YtjnhlkaafnaooabGreatDoor
