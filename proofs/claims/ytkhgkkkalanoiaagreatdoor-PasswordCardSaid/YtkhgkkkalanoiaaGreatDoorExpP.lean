import Derived.Test.YtkhgkkkalanoiaaGreatDoorTurnW
namespace Go.Proofs.YtkhgkkkalanoiaaGreatDoor
open Go.RowKit
theorem setCells_drew (b : Nat) : ∀ (vs : List Value) (o : Nat) (x : World), x.drew.setCells b o vs = (x.setCells b o vs).drew
  | [], _, _ => rfl
  | v :: vs, o, x => setCells_drew b vs (o + 1) (x.setCell ⟨b, o, none⟩ v)
/-- In mid-expansion. -/
structure XM (w : World) (xs : List Nat) (wr : World) : Prop where
  box : Cells wr w.heap.size .u8 sbLit
  res : wr.there (w.heap.size + 1 + 1) 0 240
  row : Row wr (w.heap.size + 1 + 1 + 1) 144 .u8 xs
  len : xs.length = 240
  bel : Below w.heap.size w wr
theorem XM.set {w : World} {xs : List Nat} {wr : World} (h : XM w xs wr) (i x : Nat) : XM w (xs.set i x) (wr.setCell ⟨w.heap.size + 1 + 1 + 1, i, none⟩ (.int .u8 (x : Int))) := by
  have hb : Below (w.heap.size + 3) wr (wr.setCell ⟨w.heap.size + 1 + 1 + 1, i, none⟩ (.int .u8 (x : Int))) := Below.setCell (B := w.heap.size + 3) (Below.refl _ _) (Nat.le_refl (w.heap.size + 3)) _
  exact ⟨h.box.below hb (by omega), there_below h.res hb (by omega), h.row.set i x, by simp [h.len], h.bel.setCell (by simp; omega) _⟩
theorem XM.drew {w : World} {xs : List Nat} {wr : World} (h : XM w xs wr) : XM w xs wr.drew := ⟨⟨h.box.lt, h.box.at_⟩, h.res, h.row, h.len, h.bel.drew⟩
theorem XM.drewN {w : World} {xs : List Nat} {wr : World} (h : XM w xs wr) (n : Nat) : XM w xs (wr.drewN n) := ⟨⟨h.box.lt, h.box.at_⟩, h.res, h.row.drewN n, h.len, below_drewN h.bel n⟩
theorem XM.cell {w : World} {xs : List Nat} {wr : World} (h : XM w xs wr) (i : Nat) (hi : i < 240) : wr.cell? ⟨w.heap.size + 1 + 1 + 1, i, none⟩ = some (.int .u8 ((xs.getD i 0 : Nat) : Int)) := h.row.cell (by rw [h.len]; exact hi)
theorem XM.boxAt {w : World} {xs : List Nat} {wr : World} (h : XM w xs wr) (i : Nat) (hi : i < 256) : wr.cell? ⟨w.heap.size, i, none⟩ = some (.int .u8 ((sboxN i : Nat) : Int)) := by
  have hl := sbLit_len
  rw [h.box.at_ i (by omega), sbLit_get i hi]
theorem XM.start (w : World) (ta tb : TypeId) (key : List UInt8) (Z : List UInt8) (hZ : Z = List.replicate 240 0) (hk : key.length = 32) :
    XM w (nats (key ++ List.replicate 208 0)) (((((w.alloc (.cells (vals .u8 sbLit).toArray ta)).alloc (.cells (bvals key).toArray tb)).alloc (.cells (bvals Z).toArray 144)).alloc (.cells (bvals Z).toArray 144)).setCells (w.heap.size + 1 + 1 + 1) 0 (bvals key)) := by
  have hZl : Z.length = 240 := by rw [hZ, List.length_replicate]
  have hb0 := (((((Below.refl w.heap.size w).alloc (Nat.le_refl _) (.cells (vals .u8 sbLit).toArray ta)).alloc (by simp) (.cells (bvals key).toArray tb)).alloc (by simp; omega) (.cells (bvals Z).toArray 144)).alloc (by simp; omega) (.cells (bvals Z).toArray 144)).trans (below_setCells _ _ (w.heap.size + 1 + 1 + 1) 0 (bvals key) (by omega))
  have hblk3 := heap_new3 w (.cells (vals .u8 sbLit).toArray ta) (.cells (bvals key).toArray tb) (.cells (bvals Z).toArray 144) (.cells (bvals Z).toArray 144)
  have hblk2 := heap_new2 w (.cells (vals .u8 sbLit).toArray ta) (.cells (bvals key).toArray tb) (.cells (bvals Z).toArray 144)
  have hsz : ((((w.alloc (.cells (vals .u8 sbLit).toArray ta)).alloc (.cells (bvals key).toArray tb)).alloc (.cells (bvals Z).toArray 144)).alloc (.cells (bvals Z).toArray 144)).heap.size = w.heap.size + 4 := by simp
  have hc0 : Cells ((((w.alloc (.cells (vals .u8 sbLit).toArray ta)).alloc (.cells (bvals key).toArray tb)).alloc (.cells (bvals Z).toArray 144)).alloc (.cells (bvals Z).toArray 144)) w.heap.size .u8 sbLit := (((Cells.of_block (heap_alloc_new w _)).alloc _).alloc _).alloc _
  have hr0 : Row ((((w.alloc (.cells (vals .u8 sbLit).toArray ta)).alloc (.cells (bvals key).toArray tb)).alloc (.cells (bvals Z).toArray 144)).alloc (.cells (bvals Z).toArray 144)) (w.heap.size + 1 + 1 + 1) 144 .u8 (nats Z) := ⟨_, hblk3, by simp [bvals, nats], fun i hi => by rw [← vals_nats]; exact vals_get .u8 _ i hi⟩
  have hr2 : Row ((((w.alloc (.cells (vals .u8 sbLit).toArray ta)).alloc (.cells (bvals key).toArray tb)).alloc (.cells (bvals Z).toArray 144)).alloc (.cells (bvals Z).toArray 144)) (w.heap.size + 1 + 1) 144 .u8 (nats Z) := ⟨_, (Below.heap_alloc _ _ _ (by simp)).trans hblk2, by simp [bvals, nats], fun i hi => by rw [← vals_nats]; exact vals_get .u8 _ i hi⟩
  generalize (((w.alloc (.cells (vals .u8 sbLit).toArray ta)).alloc (.cells (bvals key).toArray tb)).alloc (.cells (bvals Z).toArray 144)).alloc (.cells (bvals Z).toArray 144) = w4 at *
  obtain ⟨s1, s2, s3, s4, s5⟩ := setCells_block (w.heap.size + 1 + 1 + 1) (bvals key) 0 w4
  have hbk : Below (w.heap.size + 3) w4 (w4.setCells (w.heap.size + 1 + 1 + 1) 0 (bvals key)) := below_setCells _ _ _ _ _ (Nat.le_refl _)
  have hnl : (nats (key ++ List.replicate 208 0)).length = 240 := by rw [nats_len, List.length_append, List.length_replicate, hk]
  refine ⟨hc0.below hbk (by omega), ?_, ?_, hnl, hb0⟩
  · have hr2' := hr2.below hbk (by omega)
    intro i hi
    rw [Nat.zero_add]
    exact ⟨by rw [hr2'.cell (by rw [nats_len, hZl]; exact hi)]; rfl, hr2'.frozen i⟩
  · obtain ⟨c, h1, h2, h3⟩ := hr0
    obtain ⟨c', g1, g2⟩ := setCells_same (w.heap.size + 1 + 1 + 1) 144 (bvals key) 0 w4 c h1
    have hl2 : c'.size = 240 := by rw [g2, h2, nats_len, hZl]
    refine ⟨c', g1, by rw [hl2, hnl], fun i hi => ?_⟩
    have hi240 : i < 240 := by rw [hnl] at hi; exact hi
    have hci : (w4.setCells (w.heap.size + 1 + 1 + 1) 0 (bvals key)).cell? ⟨w.heap.size + 1 + 1 + 1, i, none⟩ = c'[i]? := cell_of_row _ _ _ _ _ _ g1
    rw [← hci]
    by_cases h32 : i < 32
    · have := World.cell?_setCells_in (w.heap.size + 1 + 1 + 1) (bvals key) 0 w4 (fun j hj => by
        rw [bvals_len, hk] at hj
        rw [Nat.zero_add, cell_of_row _ _ _ _ _ _ h1, h3 j (by rw [nats_len, hZl]; omega)]; rfl) i (by rw [bvals_len, hk]; exact h32)
      rw [Nat.zero_add] at this
      rw [this]
      have e3 : (nats (key ++ List.replicate 208 (0 : UInt8))).getD i 0 = (key.getD i 0).toNat := by
        rw [nats_get, List.getD_eq_getElem?_getD, List.getElem?_append_left (by rw [hk]; exact h32), ← List.getD_eq_getElem?_getD]
      dsimp only
      rw [e3]
      have hki : i < key.length := by rw [hk]; exact h32
      simp [bvals, List.getElem?_eq_getElem hki]
    · rw [World.cell?_setCells_out _ _ _ _ _ (fun _ _ => Or.inr (by rw [bvals_len, hk]; simp; omega)), cell_of_row _ _ _ _ _ _ h1, h3 i (by rw [nats_len, hZl]; exact hi240), hZ]
      have e1 : (nats (List.replicate 240 (0 : UInt8))).getD i 0 = 0 := by rw [nats_get, List.getD_eq_getElem?_getD, List.getElem?_replicate]; simp [hi240]
      have e2 : (nats (key ++ List.replicate 208 (0 : UInt8))).getD i 0 = 0 := by
        rw [nats_get, List.getD_eq_getElem?_getD, List.getElem?_append_right (by omega), List.getElem?_replicate]
        split <;> rfl
      dsimp only
      rw [e1, e2]
theorem four (K : List UInt8) (n : Nat) (h : n + 4 ≤ K.length) : (K.drop n).take 4 = [K.getD n 0, K.getD (n + 1) 0, K.getD (n + 2) 0, K.getD (n + 3) 0] := by
  have h0 : n < K.length := by omega
  have h1 : n + 1 < K.length := by omega
  have h2 : n + 1 + 1 < K.length := by omega
  have h3 : n + 1 + 1 + 1 < K.length := by omega
  rw [List.drop_eq_getElem_cons h0, List.drop_eq_getElem_cons h1, List.drop_eq_getElem_cons h2, List.drop_eq_getElem_cons h3]
  simp only [List.take_succ_cons, List.take_zero, List.getD_eq_getElem?_getD, List.getElem?_eq_getElem h0, List.getElem?_eq_getElem h1, Option.getD_some]
  have g2 : K[n + 2]? = some K[n + 1 + 1] := List.getElem?_eq_getElem h2
  have g3 : K[n + 3]? = some K[n + 1 + 1 + 1] := List.getElem?_eq_getElem h3
  rw [g2, g3]
  rfl
theorem set4 (L R : List Nat) (a b c d y0 y1 y2 y3 n : Nat) (hn : L.length = n) : ((((L ++ a :: b :: c :: d :: R).set n y0).set (n + 1) y1).set (n + 2) y2).set (n + 3) y3 = L ++ y0 :: y1 :: y2 :: y3 :: R := by
  subst hn
  rw [List.set_append_right _ _ (Nat.le_refl _), Nat.sub_self, List.set_cons_zero, List.set_append_right _ _ (by omega), show L.length + 1 - L.length = 1 by omega, List.set_append_right _ _ (by omega), show L.length + 2 - L.length = 2 by omega, List.set_append_right _ _ (by omega), show L.length + 3 - L.length = 3 by omega]
  rfl
theorem keys_set (key : List UInt8) (j P Q R S : Nat) (hk : key.length = 32) (hj : j < 52) (hP : P < 256) (hQ : Q < 256) (hR : R < 256) (hS : S < 256)
    (hw : wordL (keysTo key j) (j + 8) = [UInt8.ofNat P, UInt8.ofNat Q, UInt8.ofNat R, UInt8.ofNat S]) :
    ((((nats (keysTo key j ++ List.replicate (208 - 4 * j) 0)).set (32 + 4 * j) (((keysTo key j).getD (4 * j) 0).toNat ^^^ P)).set (32 + 4 * j + 1) (((keysTo key j).getD (4 * j + 1) 0).toNat ^^^ Q)).set (32 + 4 * j + 2) (((keysTo key j).getD (4 * j + 2) 0).toNat ^^^ R)).set (32 + 4 * j + 3) (((keysTo key j).getD (4 * j + 3) 0).toNat ^^^ S) =
      nats (keysTo key (j + 1) ++ List.replicate (208 - 4 * (j + 1)) 0) := by
  have hl := keysTo_len key hk j
  have e4 : 208 - 4 * j = 208 - 4 * (j + 1) + 1 + 1 + 1 + 1 := by omega
  have e1 : nats (keysTo key j ++ List.replicate (208 - 4 * j) 0) = nats (keysTo key j) ++ 0 :: 0 :: 0 :: 0 :: nats (List.replicate (208 - 4 * (j + 1)) 0) := by
    rw [e4]; simp [nats, List.replicate_succ]
  rw [e1, set4 (nats (keysTo key j)) _ 0 0 0 0 _ _ _ _ (32 + 4 * j) (by rw [nats_len, hl])]
  rw [keysTo, hw]
  have hd := four (keysTo key j) (4 * j) (by omega)
  rw [hd]
  have hx : ∀ (a : UInt8) (P : Nat), P < 256 → (UInt8.ofNat P ^^^ a).toNat = a.toNat ^^^ P := fun a P hP => by
    rw [UInt8.toNat_xor, UInt8.toNat_ofNat', Nat.mod_eq_of_lt hP, Nat.xor_comm]
  simp [nats, xorL, hx _ _ hP, hx _ _ hQ, hx _ _ hR, hx _ _ hS]
theorem before4 (K : List UInt8) (j : Nat) (hl : K.length = 32 + 4 * j) : wordBefore K (j + 8) = [K.getD (4 * j + 28) 0, K.getD (4 * j + 29) 0, K.getD (4 * j + 30) 0, K.getD (4 * j + 31) 0] := by
  unfold wordBefore
  have e : 4 * (j + 8) - 4 = 4 * j + 28 := by omega
  rw [e, four K (4 * j + 28) (by omega)]
theorem wordA (K : List UInt8) (j : Nat) (hl : K.length = 32 + 4 * j) (h : j % 8 = 0) :
    wordL K (j + 8) = [UInt8.ofNat (sboxN (K.getD (4 * j + 29) 0).toNat ^^^ rcN ((j + 7) / 8)), UInt8.ofNat (sboxN (K.getD (4 * j + 30) 0).toNat), UInt8.ofNat (sboxN (K.getD (4 * j + 31) 0).toNat), UInt8.ofNat (sboxN (K.getD (4 * j + 28) 0).toNat)] := by
  have e : (j + 8) / 8 - 1 = (j + 7) / 8 := by omega
  unfold wordL
  rw [if_pos (by omega), before4 K j hl, e]
  simp [subL, xorL]
theorem wordB (K : List UInt8) (j : Nat) (hl : K.length = 32 + 4 * j) (h : j % 8 = 4) :
    wordL K (j + 8) = [UInt8.ofNat (sboxN (K.getD (4 * j + 28) 0).toNat), UInt8.ofNat (sboxN (K.getD (4 * j + 29) 0).toNat), UInt8.ofNat (sboxN (K.getD (4 * j + 30) 0).toNat), UInt8.ofNat (sboxN (K.getD (4 * j + 31) 0).toNat)] := by
  unfold wordL
  rw [if_neg (by omega), if_pos (by omega), before4 K j hl]
  simp [subL]
theorem wordC (K : List UInt8) (j : Nat) (hl : K.length = 32 + 4 * j) (h : j % 8 ≠ 0) (h4 : j % 8 ≠ 4) :
    wordL K (j + 8) = [UInt8.ofNat (K.getD (4 * j + 28) 0).toNat, UInt8.ofNat (K.getD (4 * j + 29) 0).toNat, UInt8.ofNat (K.getD (4 * j + 30) 0).toNat, UInt8.ofNat (K.getD (4 * j + 31) 0).toNat] := by
  unfold wordL
  rw [if_neg (by omega), if_neg (by omega), before4 K j hl]
  simp
end Go.Proofs.YtkhgkkkalanoiaaGreatDoor
