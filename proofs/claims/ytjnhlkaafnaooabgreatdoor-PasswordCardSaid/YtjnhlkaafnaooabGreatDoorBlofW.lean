import Derived.Test.YtjnhlkaafnaooabGreatDoorElofW
import Derived.Test.YtjnhlkaafnaooabGreatDoorAesW
namespace Go.Proofs.YtjnhlkaafnaooabGreatDoor
open Go.RowKit
theorem onesL_get : ∀ (n v i : Nat), i < n → (onesL v n).getD i 0 = UInt8.ofNat (v / 256 ^ (n - 1 - i) % 256) := by
  intro n
  induction n with
  | zero => intro v i h; omega
  | succ n ih =>
    intro v i h
    rw [onesL, List.getD_eq_getElem?_getD]
    by_cases hi : i < n
    · rw [List.getElem?_append_left (by rw [onesL_len]; exact hi), ← List.getD_eq_getElem?_getD, ih _ _ hi, Nat.div_div_eq_div_mul, ← Nat.pow_succ', show (n - 1 - i).succ = n + 1 - 1 - i by omega]
    · have : i = n := by omega
      subst this
      rw [List.getElem?_append_right (by rw [onesL_len]; exact Nat.le_refl _), onesL_len, Nat.sub_self]
      simp
def blkTo (A : List UInt8) : Nat → List UInt8
  | 0 => List.replicate 16 0
  | k + 1 => ((blkTo A k).set k (A.getD k 0)).set (8 + k) (A.getD (8 + k) 0)
theorem blkTo_len (A : List UInt8) (k : Nat) : (blkTo A k).length = 16 := by
  induction k with
  | zero => simp [blkTo]
  | succ k ih => simp [blkTo, ih]
theorem blkTo_all (A : List UInt8) (h : A.length = 16) : blkTo A 8 = A := by
  match A, h with
  | [_, _, _, _, _, _, _, _, _, _, _, _, _, _, _, _], _ => rfl
theorem byte_of (v k : Nat) (hk : k < 8) : (v : Int) / 2 ^ (56 - 8 * k) % 256 = ((((onesL v 8).getD k 0).toNat : Nat) : Int) := by
  rw [onesL_get 8 v k hk]
  have h1 : (UInt8.ofNat (v / 256 ^ (8 - 1 - k) % 256)).toNat = v / 256 ^ (8 - 1 - k) % 256 := by rw [UInt8.toNat_ofNat']; omega
  have h2 : (256 : Nat) ^ (8 - 1 - k) = 2 ^ (56 - 8 * k) := by rw [show (256 : Nat) = 2 ^ 8 from rfl, ← Nat.pow_mul]; congr 1; omega
  rw [h1, h2]
  simp
theorem blk_set (A : List UInt8) (k : Nat) : ((nats (blkTo A k)).set k (A.getD k 0).toNat).set (8 + k) (A.getD (8 + k) 0).toNat = nats (blkTo A (k + 1)) := by
  simp [blkTo, nats, List.map_set]
theorem halves_get (e k : Nat) (hk : k < 8) : (onesL (e / 2 ^ 64) 8).getD k 0 = (onesL e 16).getD k 0 ∧ (onesL (e % 2 ^ 64) 8).getD k 0 = (onesL e 16).getD (8 + k) 0 := by
  rw [← ones_halves e]
  constructor
  · rw [List.getD_eq_getElem?_getD, List.getD_eq_getElem?_getD, List.getElem?_append_left (by rw [onesL_len]; exact hk)]
  · rw [List.getD_eq_getElem?_getD, List.getD_eq_getElem?_getD, List.getElem?_append_right (by rw [onesL_len]; omega), onesL_len, Nat.add_sub_cancel_left]
/-- In mid-writing of a block. -/
structure BM (w : World) (e : Nat) (xs : List Nat) (wr : World) : Prop where
  el : El wr w.heap.size e
  res : wr.there (w.heap.size + 1) 0 16
  row : Row wr (w.heap.size + 1 + 1) 206 .u8 xs
  len : xs.length = 16
  bel : Below w.heap.size w wr
theorem BM.start (w : World) (e : Nat) (Z : Array Value) (hZ : (vals .u8 (List.replicate 16 0)).toArray = Z) : BM w e (nats (blkTo (onesL e 16) 0)) (((w.alloc (.cells (elA e) 204)).alloc (.cells Z 206)).alloc (.cells Z 206)) := by
  have hZs : Z.size = 16 := by rw [← hZ]; simp [vals]
  have hn : nats (blkTo (onesL e 16) 0) = List.replicate 16 0 := by simp [blkTo, nats]
  rw [hn]
  refine ⟨?_, ?_, ?_, by simp, below3 w _ _ _⟩
  · unfold El
    rw [Below.heap_alloc _ _ _ (by simp; omega), Below.heap_alloc _ _ _ (by simp)]
    exact heap_alloc_new w _
  · have h := there_new (w.alloc (.cells (elA e) 204)) Z 206
    rw [hZs] at h
    have h2 := World.there_alloc h (.cells Z 206)
    simpa using h2
  · have h := Row.new ((w.alloc (.cells (elA e) 204)).alloc (.cells Z 206)) 206 .u8 (List.replicate 16 0) Z (by rw [hZs]; simp) (fun i hi => by rw [← hZ]; exact vals_get .u8 _ i hi)
    simpa using h
theorem BM.set {w : World} {e : Nat} {xs : List Nat} {wr : World} (h : BM w e xs wr) (i x : Nat) : BM w e (xs.set i x) (wr.setCell ⟨w.heap.size + 1 + 1, i, none⟩ (.int .u8 (x : Int))) := by
  have hb : Below (w.heap.size + 2) wr (wr.setCell ⟨w.heap.size + 1 + 1, i, none⟩ (.int .u8 (x : Int))) := Below.setCell (B := w.heap.size + 2) (Below.refl _ _) (Nat.le_refl (w.heap.size + 2)) _
  exact ⟨h.el.below hb (by omega), there_below h.res hb (by omega), h.row.set i x, by simp [h.len], h.bel.setCell (by simp; omega) _⟩
theorem BM.cell {w : World} {e : Nat} {xs : List Nat} {wr : World} (h : BM w e xs wr) (i : Nat) (hi : i < 16) : wr.cell? ⟨w.heap.size + 1 + 1, i, none⟩ = some (.int .u8 ((xs.getD i 0 : Nat) : Int)) := h.row.cell (by rw [h.len]; exact hi)
theorem BM.drew {w : World} {e : Nat} {xs : List Nat} {wr : World} (h : BM w e xs wr) : BM w e xs wr.drew := ⟨h.el, h.res, h.row, h.len, h.bel.drew⟩
set_option maxRecDepth 100000 in
set_option maxHeartbeats 400000 in
theorem blockOf_any (e : Nat) (w : World) (_he : e < 2 ^ 128) :
    Calls Tryz.prog 155 #[.agg (elA e)] w fun x w' => x = .returned (.agg (bvals (onesL e 16)).toArray) ∧ Below w.heap.size w w' := by
  have hzv : ∀ w, (zeroValue 206).run Tryz.prog w = .ok (.agg (vals .u8 (List.replicate 16 0)).toArray) w := fun _ => by kernel_rfl
  obtain ⟨Z, hZ⟩ : ∃ x, (vals .u8 (List.replicate 16 0)).toArray = x := ⟨_, rfl⟩
  rw [hZ] at hzv
  have hZs : Z.size = 16 := by rw [← hZ]; simp [vals]
  have hst := BM.start w e Z hZ
  have hsa : (elA e).size = 2 := rfl
  generalize hA : elA e = C at *
  have HST := hide hst
  clear hst hZ hA
  go_enter Tryz.func155, Tryz.ntmps155
  go_wp2_with fail
  go_loopw [4] (fun i wr => ∃ k : Nat, k ≤ 8 ∧ i = .int .i64 (k : Int) ∧ BM w e (nats (blkTo (onesL e 16) k)) wr) (fun i _ => (9 - intOf i).toNat)
  case atStart => exact ⟨0, by omega, rfl, HST.out⟩
  case round =>
    clear HST hzv hZs hsa
    obtain ⟨k, hk, rfl, hr⟩ := hrel
    by_cases hlt : k < 8
    · have hki : (k : Int) < 8 := by omega
      have c0 := hr.el.hi
      have c1 := hr.el.lo
      have c2 := hr.cell k (by omega)
      have f2 := hr.row.frozen k
      obtain ⟨g1, g2⟩ := halves_get e k hlt
      have v1 := byte_of (e / 2 ^ 64) k hlt
      have v2 := byte_of (e % 2 ^ 64) k hlt
      rw [g1] at v1
      rw [g2] at v2
      have s1 := hr.set k ((onesL e 16).getD k 0).toNat
      have s2 := s1.set (8 + k) ((onesL e 16).getD (8 + k) 0).toNat
      rw [blk_set] at s2
      have c3 := s1.cell (8 + k) (by omega)
      have f3 := s1.row.frozen (8 + k)
      have HS := hide s2
      clear s1 s2 hr g1 g2
      generalize e / 2 ^ 64 = hi at *
      generalize e % 2 ^ 64 = lo at *
      generalize ((onesL e 16).getD k 0).toNat = z1 at *
      generalize ((onesL e 16).getD (8 + k) 0).toNat = z2 at *
      generalize ((nats (blkTo (onesL e 16) k)).set k z1).getD (8 + k) 0 = q1 at *
      generalize (nats (blkTo (onesL e 16) k)).getD k 0 = q2 at *
      have HK := hide (And.intro hk hlt)
      clear _he
      go_wp2_with fail
      go_roundw
      case rel => exact ⟨k + 1, by omega, by go_num, HS.out⟩
      case measure => simp [intOf]; omega
    · have hk8 : k = 8 := by omega
      subst hk8
      rw [blkTo_all _ (onesL_len 16 e)] at hr
      have hra := row_range hr.row
      rw [vals_nats] at hra
      have hth := hr.res
      have hvl : (bvals (onesL e 16)).length = 16 := by rw [bvals_len]; exact onesL_len 16 e
      have hb := hr.bel
      have hone := bvals_one (onesL e 16)
      generalize hV : bvals (onesL e 16) = V at *
      have HI := hide (show (Tryz.prog.info? 206).map (·.size) = some V.length from by rw [hvl]; kernel_rfl)
      have hb1 : Below w.heap.size w (wr.setCells (w.heap.size + 1) 0 V) := hb.trans (below_setCells wr w.heap.size _ 0 V (by omega))
      have hrr := World.rangeAt_setCells_same wr (w.heap.size + 1) 0 V (by rw [hvl]; exact hth)
      have HV := hide hvl
      clear hvl hr hlt _he
      go_wp2_with (first | refine wpList_load_mid rfl 206 _ rfl (w.heap.size + 1 + 1) 0 rfl V _ hra Tryz.underlying206 rfl HI.out ?_ | refine wpList_store_mid rfl 206 _ _ rfl (w.heap.size + 1) 0 V.toArray rfl rfl (by simpa [HV.out] using hth) (by simpa using HI.out) (all_oneCell_toArray hone) ?_)
      exact bodyPost_ret (v := .agg V.toArray) (results_cell_mid Tryz.results155 _ _ (w.heap.size + 1) 0 V _ rfl hrr Tryz.underlying206 rfl HI.out) rfl ⟨by rw [hV], hb1⟩
end Go.Proofs.YtjnhlkaafnaooabGreatDoor
