import Derived.Test.YtjnhlkaafnaooabGreatDoorElemW
import Derived.Test.YtjnhlkaafnaooabGreatDoorRoundW
namespace Go.Proofs.YtjnhlkaafnaooabGreatDoor
open Go.RowKit
/-- In mid-reading of an element. -/
structure EM (w : World) (B : List UInt8) (hi lo : Nat) (wr : World) : Prop where
  blk : Cells wr w.heap.size .u8 (nats B)
  res : El wr (w.heap.size + 1) 0
  row : wr.heap[w.heap.size + 1 + 1]? = some (.cells #[.int .u64 (hi : Int), .int .u64 (lo : Int)] 204 (0, 0))
  bel : Below w.heap.size w wr
theorem EM.start (w : World) (tb : TypeId) (B : List UInt8) : EM w B 0 0 (((w.alloc (.cells (bvals B).toArray tb)).alloc (.cells #[.int .u64 0, .int .u64 0] 204)).alloc (.cells #[.int .u64 0, .int .u64 0] 204)) := by
  rw [← vals_nats]
  exact ⟨((Cells.of_block (heap_alloc_new w _)).alloc _).alloc _, heap_old1 w _ _ _, heap_new2 w _ _ _, below3 w _ _ _⟩
theorem EM.setHi {w : World} {B : List UInt8} {hi lo : Nat} {wr : World} (h : EM w B hi lo wr) (x : Nat) : EM w B x lo (wr.setCell ⟨w.heap.size + 1 + 1, 0, none⟩ (.int .u64 (x : Int))) := by
  have hb : Below (w.heap.size + 2) wr (wr.setCell ⟨w.heap.size + 1 + 1, 0, none⟩ (.int .u64 (x : Int))) := Below.setCell (B := w.heap.size + 2) (Below.refl _ _) (Nat.le_refl (w.heap.size + 2)) _
  exact ⟨h.blk.below hb (by omega), h.res.below hb (by omega), (set_prim h.row 0 _).trans (by simp), h.bel.setCell (by simp; omega) _⟩
theorem EM.setLo {w : World} {B : List UInt8} {hi lo : Nat} {wr : World} (h : EM w B hi lo wr) (x : Nat) : EM w B hi x (wr.setCell ⟨w.heap.size + 1 + 1, 1, none⟩ (.int .u64 (x : Int))) := by
  have hb : Below (w.heap.size + 2) wr (wr.setCell ⟨w.heap.size + 1 + 1, 1, none⟩ (.int .u64 (x : Int))) := Below.setCell (B := w.heap.size + 2) (Below.refl _ _) (Nat.le_refl (w.heap.size + 2)) _
  exact ⟨h.blk.below hb (by omega), h.res.below hb (by omega), (set_prim h.row 1 _).trans (by simp), h.bel.setCell (by simp; omega) _⟩
theorem EM.drew {w : World} {B : List UInt8} {hi lo : Nat} {wr : World} (h : EM w B hi lo wr) : EM w B hi lo wr.drew := ⟨⟨h.blk.lt, h.blk.at_⟩, h.res, h.row, h.bel.drew⟩
theorem EM.c0 {w : World} {B : List UInt8} {hi lo : Nat} {wr : World} (h : EM w B hi lo wr) : wr.cell? ⟨w.heap.size + 1 + 1, 0, none⟩ = some (.int .u64 (hi : Int)) := cell_of_row _ _ _ _ _ _ h.row
theorem EM.c1 {w : World} {B : List UInt8} {hi lo : Nat} {wr : World} (h : EM w B hi lo wr) : wr.cell? ⟨w.heap.size + 1 + 1, 1, none⟩ = some (.int .u64 (lo : Int)) := cell_of_row _ _ _ _ _ _ h.row
theorem EM.frozen {w : World} {B : List UInt8} {hi lo : Nat} {wr : World} (h : EM w B hi lo wr) (i : Nat) : wr.frozen? ⟨w.heap.size + 1 + 1, i, none⟩ = false := by
  have : wr.rowIs (w.heap.size + 1 + 1) 204 2 (fun i => (#[Value.int .u64 (hi : Int), .int .u64 (lo : Int)] : Array Value).getD i undef) := ⟨_, h.row, rfl, fun i hi => by
    match i, hi with
    | 0, _ => rfl
    | 1, _ => rfl⟩
  exact World.rowIs.frozen this i
theorem EM.at_ {w : World} {B : List UInt8} {hi lo : Nat} {wr : World} (h : EM w B hi lo wr) (i : Nat) (hi' : i < B.length) : wr.cell? ⟨w.heap.size, i, none⟩ = some (.int .u8 (((B.getD i 0).toNat : Nat) : Int)) := by
  rw [← nats_get]; exact h.blk.at_ i (by rw [nats_len]; exact hi')
theorem num_step (l : List UInt8) (k : Nat) (hk : k < l.length) : numL (l.take (k + 1)) = numL (l.take k) * 256 + (l.getD k 0).toNat := by
  rw [List.take_succ_eq_append_getElem hk, numL_snoc, List.getD_eq_getElem?_getD, List.getElem?_eq_getElem hk]
  rfl
theorem take_lt (l : List UInt8) (k : Nat) (hk : k ≤ 7) : numL (l.take k) < 72057594037927936 := by
  have h := numL_lt (l.take k)
  have h2 : 256 ^ (l.take k).length ≤ 256 ^ 7 := Nat.pow_le_pow_right (by decide) (by simp; omega)
  exact Nat.lt_of_lt_of_le h h2
theorem or_byte (x y : Nat) (hx : x < 72057594037927936) (hy : y < 256) : IntKind.u64.wrap ((x : Int) * 256) = ((x * 256 : Nat) : Int) ∧ bits .or .u64 ((x * 256 : Nat) : Int) (y : Int) = ((x * 256 + y : Nat) : Int) := by
  constructor
  · rw [show (x : Int) * 256 = ((x * 256 : Nat) : Int) by simp, wrap_u64_mod, Nat.mod_eq_of_lt (by omega)]
  · rw [u64_or_nat _ _ (by omega) (by omega), or_join64 _ _ 8 (by omega) hy]
set_option maxRecDepth 100000 in
set_option maxHeartbeats 400000 in
theorem elementOf_any (B : List UInt8) (w : World) (hB : B.length = 16) :
    Calls Tryz.prog 149 #[.agg (bvals B).toArray] w fun e w' => e = .returned (.agg (elA (numL B))) ∧ Below w.heap.size w w' := by
  have hst := EM.start w 206 B
  have hCs : (bvals B).toArray.size = 16 := by simp [bvals, hB]
  obtain ⟨C, hC⟩ : ∃ C, (bvals B).toArray = C := ⟨_, rfl⟩
  rw [hC] at hst hCs ⊢
  have HST := hide hst
  have HB := hide hB
  clear hst hC hB
  go_enter Tryz.func149, Tryz.ntmps149
  go_wp2_with fail
  go_loopw [4] (fun i wr => ∃ k : Nat, k ≤ 8 ∧ i = .int .i64 (k : Int) ∧ EM w B (numL (B.take k)) (numL ((B.drop 8).take k)) wr) (fun i _ => (9 - intOf i).toNat)
  case atStart => exact ⟨0, by omega, rfl, HST.out⟩
  case round =>
    clear HST
    obtain ⟨k, hk, rfl, hr⟩ := hrel
    by_cases hlt : k < 8
    · have hki : (k : Int) < 8 := by omega
      have hB := HB.out
      have hi1 := take_lt B k (by omega)
      have hi2 := take_lt (B.drop 8) k (by omega)
      have n1 := num_step B k (by omega)
      have n2 := num_step (B.drop 8) k (by simp; omega)
      have eg : (B.drop 8).getD k 0 = B.getD (8 + k) 0 := by rw [List.getD_eq_getElem?_getD, List.getD_eq_getElem?_getD, List.getElem?_drop]
      rw [eg] at n2
      have a1 := hr.at_ k (by omega)
      have s1 := (hr.setHi (numL (B.take (k + 1)))).drew
      have a2 := s1.at_ (8 + k) (by omega)
      have s2 := s1.setLo (numL ((B.drop 8).take (k + 1)))
      have b1 : (B.getD k 0).toNat < 256 := UInt8.toNat_lt _
      have b2 : (B.getD (8 + k) 0).toNat < 256 := UInt8.toNat_lt _
      obtain ⟨o1, o2⟩ := or_byte _ _ hi1 b1
      obtain ⟨o3, o4⟩ := or_byte _ _ hi2 b2
      rw [← n1] at o2
      rw [← n2] at o4
      have c0 := hr.c0
      have f0 := hr.frozen 0
      have c1 := s1.c1
      have f1 := s1.frozen 1
      have HS := hide s2
      clear s1 s2 hr hB hi1 hi2 n1 n2 eg
      generalize hh' : numL (B.take (k + 1)) = h' at *
      generalize hl' : numL ((B.drop 8).take (k + 1)) = l' at *
      have HH := hide (And.intro hh' hl')
      clear hh' hl'
      generalize numL (B.take k) = h0 at *
      generalize numL ((B.drop 8).take k) = l0 at *
      generalize (B.getD k 0).toNat = y1 at *
      generalize (B.getD (8 + k) 0).toNat = y2 at *
      generalize h0 * 256 = m1 at *
      generalize l0 * 256 = m2 at *
      obtain ⟨j, hj⟩ : ∃ j, 8 + k = j := ⟨_, rfl⟩
      rw [hj] at a2
      have i1 : (8 : Int) + (k : Int) = (j : Int) := by omega
      have y1w : IntKind.i64.wrap (8 + (k : Int)) = (j : Int) := by rw [i1]; exact wrap_i64_nat _ (by omega)
      have i2 : (j : Int) < 16 := by omega
      have i3 : (k : Int) < 16 := by omega
      have z1 : (y1 : Int) < 256 := by omega
      have z2 : (y2 : Int) < 256 := by omega
      have HK := hide (And.intro hk hlt)
      clear hj hlt hk b1 b2
      obtain ⟨wy, hwy⟩ : ∃ x, (wr.setCell ⟨w.heap.size + 1 + 1, 0, none⟩ (.int .u64 (h' : Int))).drew = x := ⟨_, rfl⟩
      rw [hwy] at a2 c1 f1 HS
      have HWY := hide hwy
      clear hwy
      go_wp2_with fail
      go_region
      rw [HWY.out]
      clear c0 f0 a1 o1 o2 HWY
      go_wp2_with fail
      go_region
      go_wp2_with fail
      go_roundw
      case rel => exact ⟨k + 1, by have := HK.out.2; omega, by go_num, by rw [HH.out.1, HH.out.2]; exact HS.out.drew⟩
      case measure => have := HK.out.2; simp [intOf]; omega
    · have hk8 : k = 8 := by omega
      subst hk8
      have hhv := num_halves B HB.out
      have e8 : (B.drop 8).take 8 = B.drop 8 := List.take_of_length_le (by simp [HB.out])
      rw [e8, ← hhv.1, ← hhv.2] at hr
      have hrow : El wr (w.heap.size + 1 + 1) (numL B) := hr.row
      have HRZ := hide hrow.range
      have HTR := hide hr.res.there
      have hb1 : Below w.heap.size w (wr.setCells (w.heap.size + 1) 0 (elA (numL B)).toList) := hr.bel.trans (below_setCells _ _ _ _ _ (by omega))
      have hfin := hr.res.store (numL B)
      clear hr hrow hlt hk hhv e8
      go_wp2_with (first | refine wpList_load_mid rfl 204 _ rfl (w.heap.size + 1 + 1) 0 rfl (elA (numL B)).toList _ HRZ.out Tryz.underlying204 rfl (infoElA _) ?_ | refine wpList_store_mid rfl 204 _ _ rfl (w.heap.size + 1) 0 (elA (numL B)) rfl rfl HTR.out (infoElA' _) (elA_one _) ?_)
      exact bodyPost_ret (results_el Tryz.results149 _ _ _ _ _ rfl hfin) rfl ⟨rfl, hb1⟩
end Go.Proofs.YtjnhlkaafnaooabGreatDoor
