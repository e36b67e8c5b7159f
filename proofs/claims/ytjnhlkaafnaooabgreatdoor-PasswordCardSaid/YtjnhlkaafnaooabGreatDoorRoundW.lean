import Derived.Test.YtjnhlkaafnaooabGreatDoorBoxW
import Derived.Test.YtjnhlkaafnaooabGreatDoorRmB
namespace Go.Proofs.YtjnhlkaafnaooabGreatDoor
open Go.RowKit
theorem map_ofNat_nats (l : List UInt8) : (nats l).map UInt8.ofNat = l := map_toNat_ofNat l
theorem nats_get (l : List UInt8) (i : Nat) : (nats l).getD i 0 = (l.getD i 0).toNat := by
  simp only [nats, List.getD_eq_getElem?_getD, List.getElem?_map]
  cases l[i]? <;> simp
/-- A key, made ready. -/
structure KeyAt (w : World) (b : Nat) (rk : List UInt8) : Prop where
  cells : Cells w b .u8 (sbLit ++ nats rk)
  len : rk.length = 240
theorem KeyAt.below {w w' : World} {b B : Nat} {rk : List UInt8} (h : KeyAt w b rk) (hb : Below B w w') (hB : b < B) : KeyAt w' b rk := ⟨h.cells.below hb hB, h.len⟩
theorem KeyAt.lt {w : World} {b : Nat} {rk : List UInt8} (h : KeyAt w b rk) : b < w.heap.size := h.cells.lt
theorem sbLit_len : sbLit.length = 256 := by rw [← boxTo_lit]; exact boxTo_len 255
theorem KeyAt.box {w : World} {b : Nat} {rk : List UInt8} (h : KeyAt w b rk) (i : Nat) (hi : i < 256) : w.cell? ⟨b, i, none⟩ = some (.int .u8 ((sboxN i : Nat) : Int)) := by
  have hl := sbLit_len
  have := h.cells.at_ i (by rw [List.length_append]; omega)
  rw [this, List.getD_eq_getElem?_getD, List.getElem?_append_left (by omega), ← List.getD_eq_getElem?_getD, sbLit_get i hi]
theorem KeyAt.round {w : World} {b : Nat} {rk : List UInt8} (h : KeyAt w b rk) (i : Nat) (hi : i < 240) : w.cell? ⟨b, 256 + i, none⟩ = some (.int .u8 (((rk.getD i 0).toNat : Nat) : Int)) := by
  have hl := sbLit_len
  have := h.cells.at_ (256 + i) (by rw [List.length_append, nats_len, h.len]; omega)
  rw [this, List.getD_eq_getElem?_getD, List.getElem?_append_right (by omega), hl, Nat.add_sub_cancel_left, ← List.getD_eq_getElem?_getD, nats_get]
/-- A parameter's row and the answer's place behind it. -/
structure PR (w : World) (t : TypeId) (n : Nat) (xs : List Nat) (wr : World) : Prop where
  row : Row wr w.heap.size t .u8 xs
  res : wr.there (w.heap.size + 1) 0 n
  len : xs.length = n
  bel : Below w.heap.size w wr
theorem PR.start (w : World) (t : TypeId) (n : Nat) (C Z : Array Value) (xs : List Nat) (hC : C = (vals .u8 xs).toArray) (hZ : Z.size = n) (hx : xs.length = n) :
    PR w t n xs ((w.alloc (.cells C t)).alloc (.cells Z t)) := by
  refine ⟨?_, ?_, hx, ((Below.refl _ _).alloc (Nat.le_refl _) _).alloc (by simp) _⟩
  · exact (Row.new w t .u8 xs C (by rw [hC]; simp [vals]) (fun i hi => by rw [hC]; exact vals_get .u8 _ i hi)).alloc _
  · have h := there_new (w.alloc (.cells C t)) Z t
    rw [hZ] at h
    simpa using h
theorem PR.set {w : World} {t : TypeId} {n : Nat} {xs : List Nat} {wr : World} (h : PR w t n xs wr) (i x : Nat) : PR w t n (xs.set i x) (wr.setCell ⟨w.heap.size, i, none⟩ (.int .u8 (x : Int))) := by
  refine ⟨h.row.set i x, ?_, by simp [h.len], h.bel.setCell (Nat.le_refl _) _⟩
  intro j hj
  obtain ⟨h1, h2⟩ := h.res j hj
  have e : (wr.setCell ⟨w.heap.size, i, none⟩ (.int .u8 (x : Int))).heap[w.heap.size + 1]? = wr.heap[w.heap.size + 1]? := Below.heap_setCell wr ⟨w.heap.size, i, none⟩ _ _ (by simp)
  exact ⟨by rw [World.cell?_of_block e]; exact h1, by rw [World.frozen?_of_block e]; exact h2⟩
theorem PR.drew {w : World} {t : TypeId} {n : Nat} {xs : List Nat} {wr : World} (h : PR w t n xs wr) : PR w t n xs wr.drew := ⟨h.row, h.res, h.len, h.bel.drew⟩
theorem PR.cell {w : World} {t : TypeId} {n : Nat} {xs : List Nat} {wr : World} (h : PR w t n xs wr) (i : Nat) (hi : i < n) : wr.cell? ⟨w.heap.size, i, none⟩ = some (.int .u8 ((xs.getD i 0 : Nat) : Int)) := h.row.cell (by rw [h.len]; exact hi)
/-- A block, its first k bytes done. -/
def doneTo (A B : List UInt8) (k : Nat) : List UInt8 := A.take k ++ B.drop k
theorem doneTo_len (A B : List UInt8) (k : Nat) (h : A.length = B.length) : (doneTo A B k).length = B.length := by simp [doneTo]; omega
theorem doneTo_zero (A B : List UInt8) : doneTo A B 0 = B := by simp [doneTo]
theorem doneTo_all (A B : List UInt8) (h : A.length = B.length) : doneTo A B A.length = A := by simp [doneTo]; omega
theorem doneTo_get (A B : List UInt8) (k i : Nat) (h : A.length = B.length) (hk : k ≤ i) (hi : i < B.length) : (doneTo A B k).getD i 0 = B.getD i 0 := by
  simp only [doneTo, List.getD_eq_getElem?_getD]
  rw [List.getElem?_append_right (by simp; omega), List.getElem?_drop]
  congr 2
  simp; omega
theorem doneTo_set (A B : List UInt8) (k : Nat) (h : A.length = B.length) (hk : k < B.length) : (nats (doneTo A B k)).set k (A.getD k 0).toNat = nats (doneTo A B (k + 1)) := by
  have e : (doneTo A B k).set k (A.getD k 0) = doneTo A B (k + 1) := by
    unfold doneTo
    rw [List.set_append_right k _ (by simp; omega)]
    have h0 : k - (A.take k).length = 0 := by simp; omega
    rw [h0, List.drop_eq_getElem_cons hk, List.set_cons_zero, List.take_succ_eq_append_getElem (by omega : k < A.length), List.append_assoc]
    congr 1
    rw [List.getD_eq_getElem?_getD, List.getElem?_eq_getElem (by omega : k < A.length)]
    rfl
  rw [← e]
  simp [nats, List.map_set]
theorem xorL_get (A B : List UInt8) (i : Nat) (h : A.length = B.length) (hi : i < A.length) : (xorL A B).getD i 0 = A.getD i 0 ^^^ B.getD i 0 := by
  simp only [xorL, List.getD_eq_getElem?_getD, List.getElem?_zipWith, List.getElem?_eq_getElem hi, List.getElem?_eq_getElem (by omega : i < B.length)]
  rfl
theorem roundKey_get (rk : List UInt8) (r i : Nat) (hi : i < 16) : (roundKey rk r).getD i 0 = rk.getD (16 * r + i) 0 := by
  simp only [roundKey, List.getD_eq_getElem?_getD, List.getElem?_take_of_lt hi, List.getElem?_drop]
set_option maxRecDepth 100000 in
set_option maxHeartbeats 1000000 in
theorem addRound_any (kb : Nat) (rk B : List UInt8) (r : Nat) (w : World) (hk : KeyAt w kb rk) (hB : B.length = 16) (hr : r ≤ 14) :
    Calls Tryz.prog 156 #[.pointer (some ⟨kb, 0, none⟩), .agg (bvals B).toArray, .int .i64 (r : Int)] w fun e w' => e = .returned (.agg (bvals (xorL B (roundKey rk r))).toArray) ∧ Below w.heap.size w w' := by
  have hzv : ∀ w, (zeroValue 206).run Tryz.prog w = .ok (.agg (vals .u8 (List.replicate 16 0)).toArray) w := fun _ => by kernel_rfl
  obtain ⟨Z, hZ⟩ : ∃ x, (vals .u8 (List.replicate 16 0)).toArray = x := ⟨_, rfl⟩
  rw [hZ] at hzv
  have hZs : Z.size = 16 := by rw [← hZ]; simp [vals]
  have hRl := roundKey_len rk r hk.len hr
  have hAl : (xorL B (roundKey rk r)).length = B.length := xorL_len _ _ (by rw [hB, hRl])
  have hst := PR.start w 206 16 (bvals B).toArray Z (nats B) (by rw [vals_nats]) hZs (by rw [nats_len, hB])
  have hCs : (bvals B).toArray.size = 16 := by simp [bvals, hB]
  obtain ⟨C, hC⟩ : ∃ C, (bvals B).toArray = C := ⟨_, rfl⟩
  rw [hC] at hst hCs ⊢
  have hget : ∀ i, i < 16 → (xorL B (roundKey rk r)).getD i 0 = B.getD i 0 ^^^ rk.getD (16 * r + i) 0 := fun i hi => by rw [xorL_get _ _ _ (by rw [hB, hRl]) (by omega), roundKey_get _ _ _ hi]
  obtain ⟨A, hA⟩ : ∃ A, xorL B (roundKey rk r) = A := ⟨_, rfl⟩
  rw [hA] at hAl hget ⊢
  have hAl6 : A.length = 16 := by rw [hAl, hB]
  have HST := hide hst
  have HG := hide hget
  have HL := hide (And.intro hAl (And.intro hB hAl6))
  have hri : (r : Int) ≤ 14 := by omega
  have hklt := hk.lt
  clear hst hget hAl hAl6 hB hA hRl hC hZ
  go_enter Tryz.func156, Tryz.ntmps156
  go_wp2_with fail
  go_loopw [7] (fun i wr => ∃ k : Nat, k ≤ 16 ∧ i = .int .i64 (k : Int) ∧ PR w 206 16 (nats (doneTo A B k)) wr) (fun i _ => (17 - intOf i).toNat)
  case atStart => exact ⟨0, by omega, rfl, by rw [doneTo_zero]; exact HST.out⟩
  case round =>
    clear HST hzv
    obtain ⟨k, hk16, rfl, hr⟩ := hrel
    by_cases hlt : k < 16
    · have hki : (k : Int) < 16 := by omega
      have hc := hr.cell k hlt
      rw [nats_get, doneTo_get A B k k HL.out.1 (Nat.le_refl _) (by rw [HL.out.2.1]; exact hlt)] at hc
      have hf := hr.row.frozen k
      have hset := hr.set k (A.getD k 0).toNat
      rw [doneTo_set A B k HL.out.1 (by rw [HL.out.2.1]; exact hlt)] at hset
      have hx := u8_xor_nat (B.getD k 0).toNat (rk.getD (16 * r + k) 0).toNat (UInt8.toNat_lt _) (UInt8.toNat_lt _)
      rw [← UInt8.toNat_xor, ← HG.out k hlt] at hx
      have hkc := (hk.below hr.bel hklt).round (16 * r + k) (by omega)
      have HS := hide hset
      have hidx : (r : Int) * 16 + (k : Int) = ((16 * r + k : Nat) : Int) := by omega
      have hj : 16 * r + k < 240 := by omega
      generalize (A.getD k 0).toNat = z at *
      generalize (B.getD k 0).toNat = y at *
      generalize (rk.getD (16 * r + k) 0).toNat = x at *
      generalize 16 * r + k = j at *
      have hji : (j : Int) < 240 := by omega
      have hji0 : (256 : Int) + (j : Int) = ((256 + j : Nat) : Int) := by omega
      clear hset hr
      go_wp2_with fail
      go_region
      go_wp2_with fail
      go_roundw
      case rel => exact ⟨k + 1, by omega, by go_num, HS.out.drew⟩
      case measure => simp [intOf]; omega
    · have hk16 : k = 16 := by omega
      subst hk16
      have hd : doneTo A B 16 = A := by
        have := doneTo_all A B HL.out.1
        rwa [HL.out.2.2] at this
      rw [hd] at hr
      have hra := row_range hr.row
      rw [vals_nats] at hra
      have hth := hr.res
      have hvl : (bvals A).length = 16 := by rw [bvals_len]; exact HL.out.2.2
      have hb := hr.bel
      have hone : ∀ v ∈ bvals A, v.oneCell' = true := by rw [← vals_nats]; exact vals_one _ _
      generalize hV : bvals A = V at *
      have HI := hide (show (Tryz.prog.info? 206).map (·.size) = some V.length from by rw [hvl]; kernel_rfl)
      have hb1 : Below w.heap.size w (wr.setCells (w.heap.size + 1) 0 V) := hb.trans (below_setCells wr w.heap.size _ 0 V (by omega))
      have hrr := World.rangeAt_setCells_same wr (w.heap.size + 1) 0 V (by rw [hvl]; exact hth)
      have HV := hide hvl
      clear hvl hr hlt hd HG
      go_wp2_with (first | refine wpList_load_mid rfl 206 _ rfl w.heap.size 0 rfl V _ hra Tryz.underlying206 rfl HI.out ?_ | refine wpList_store_mid rfl 206 _ _ rfl (w.heap.size + 1) 0 V.toArray rfl rfl (by simpa [HV.out] using hth) (by simpa using HI.out) (all_oneCell_toArray hone) ?_)
      exact bodyPost_ret (v := .agg V.toArray) (results_cell_mid Tryz.results156 _ _ (w.heap.size + 1) 0 V _ rfl hrr Tryz.underlying206 rfl HI.out) rfl ⟨by rw [hV], hb1⟩
theorem subL_get (B : List UInt8) (i : Nat) (hi : i < B.length) : ((subL B).getD i 0).toNat = sboxN (B.getD i 0).toNat := by
  simp only [subL, List.getD_eq_getElem?_getD, List.getElem?_map, List.getElem?_eq_getElem hi, Option.map_some, Option.getD_some]
  exact (UInt8.toNat_ofNat' ..).trans (Nat.mod_eq_of_lt (sboxN_lt _))
set_option maxRecDepth 100000 in
set_option maxHeartbeats 1000000 in
theorem substitute_any (kb : Nat) (rk B : List UInt8) (w : World) (hk : KeyAt w kb rk) (hB : B.length = 16) :
    Calls Tryz.prog 157 #[.pointer (some ⟨kb, 0, none⟩), .agg (bvals B).toArray] w fun e w' => e = .returned (.agg (bvals (subL B)).toArray) ∧ Below w.heap.size w w' := by
  have hzv : ∀ w, (zeroValue 206).run Tryz.prog w = .ok (.agg (vals .u8 (List.replicate 16 0)).toArray) w := fun _ => by kernel_rfl
  obtain ⟨Z, hZ⟩ : ∃ x, (vals .u8 (List.replicate 16 0)).toArray = x := ⟨_, rfl⟩
  rw [hZ] at hzv
  have hZs : Z.size = 16 := by rw [← hZ]; simp [vals]
  have hAl : (subL B).length = B.length := subL_len B
  have hst := PR.start w 206 16 (bvals B).toArray Z (nats B) (by rw [vals_nats]) hZs (by rw [nats_len, hB])
  have hCs : (bvals B).toArray.size = 16 := by simp [bvals, hB]
  obtain ⟨C, hC⟩ : ∃ C, (bvals B).toArray = C := ⟨_, rfl⟩
  rw [hC] at hst hCs ⊢
  have hget : ∀ i, i < 16 → ((subL B).getD i 0).toNat = sboxN (B.getD i 0).toNat := fun i hi => subL_get B i (by omega)
  obtain ⟨A, hA⟩ : ∃ A, subL B = A := ⟨_, rfl⟩
  rw [hA] at hAl hget ⊢
  have hAl6 : A.length = 16 := by rw [hAl, hB]
  have HST := hide hst
  have HG := hide hget
  have HL := hide (And.intro hAl (And.intro hB hAl6))
  have hklt := hk.lt
  clear hst hget hAl hAl6 hB hA hC hZ
  go_enter Tryz.func157, Tryz.ntmps157
  go_wp2_with fail
  go_loopw [5] (fun i wr => ∃ k : Nat, k ≤ 16 ∧ i = .int .i64 (k : Int) ∧ PR w 206 16 (nats (doneTo A B k)) wr) (fun i _ => (17 - intOf i).toNat)
  case atStart => exact ⟨0, by omega, rfl, by rw [doneTo_zero]; exact HST.out⟩
  case round =>
    clear HST hzv
    obtain ⟨k, hk16, rfl, hr⟩ := hrel
    by_cases hlt : k < 16
    · have hki : (k : Int) < 16 := by omega
      have hc := hr.cell k hlt
      rw [nats_get, doneTo_get A B k k HL.out.1 (Nat.le_refl _) (by rw [HL.out.2.1]; exact hlt)] at hc
      have hf := hr.row.frozen k
      have hset := hr.set k (A.getD k 0).toNat
      rw [doneTo_set A B k HL.out.1 (by rw [HL.out.2.1]; exact hlt)] at hset
      have hkc := (hk.below hr.bel hklt).box (B.getD k 0).toNat (UInt8.toNat_lt _)
      rw [← HG.out k hlt] at hkc
      have hy : (B.getD k 0).toNat < 256 := UInt8.toNat_lt _
      have HS := hide hset
      generalize (A.getD k 0).toNat = z at *
      generalize (B.getD k 0).toNat = y at *
      have hyi : (y : Int) < 256 := by omega
      clear hset hr
      go_wp2_with fail
      go_region
      go_wp2_with fail
      go_roundw
      case rel => exact ⟨k + 1, by omega, by go_num, HS.out.drew⟩
      case measure => simp [intOf]; omega
    · have hk16 : k = 16 := by omega
      subst hk16
      have hd : doneTo A B 16 = A := by
        have := doneTo_all A B HL.out.1
        rwa [HL.out.2.2] at this
      rw [hd] at hr
      have hra := row_range hr.row
      rw [vals_nats] at hra
      have hth := hr.res
      have hvl : (bvals A).length = 16 := by rw [bvals_len]; exact HL.out.2.2
      have hb := hr.bel
      have hone : ∀ v ∈ bvals A, v.oneCell' = true := by rw [← vals_nats]; exact vals_one _ _
      generalize hV : bvals A = V at *
      have HI := hide (show (Tryz.prog.info? 206).map (·.size) = some V.length from by rw [hvl]; kernel_rfl)
      have hb1 : Below w.heap.size w (wr.setCells (w.heap.size + 1) 0 V) := hb.trans (below_setCells wr w.heap.size _ 0 V (by omega))
      have hrr := World.rangeAt_setCells_same wr (w.heap.size + 1) 0 V (by rw [hvl]; exact hth)
      have HV := hide hvl
      clear hvl hr hlt hd HG
      go_wp2_with (first | refine wpList_load_mid rfl 206 _ rfl w.heap.size 0 rfl V _ hra Tryz.underlying206 rfl HI.out ?_ | refine wpList_store_mid rfl 206 _ _ rfl (w.heap.size + 1) 0 V.toArray rfl rfl (by simpa [HV.out] using hth) (by simpa using HI.out) (all_oneCell_toArray hone) ?_)
      exact bodyPost_ret (v := .agg V.toArray) (results_cell_mid Tryz.results157 _ _ (w.heap.size + 1) 0 V _ rfl hrr Tryz.underlying206 rfl HI.out) rfl ⟨by rw [hV], hb1⟩
/-- A parameter's block, the answer's place behind it, and a row behind that. -/
structure PRL (w : World) (t : TypeId) (n : Nat) (B : List UInt8) (xs : List Nat) (wr : World) : Prop where
  blk : Cells wr w.heap.size .u8 (nats B)
  res : wr.there (w.heap.size + 1) 0 n
  row : Row wr (w.heap.size + 1 + 1) t .u8 xs
  len : xs.length = n
  bel : Below w.heap.size w wr
theorem PRL.start (w : World) (tb t : TypeId) (n : Nat) (B : List UInt8) (Z C : Array Value) (xs : List Nat) (hZ : Z.size = n) (hC : C = (vals .u8 xs).toArray) (hx : xs.length = n) :
    PRL w t n B xs (((w.alloc (.cells (bvals B).toArray tb)).alloc (.cells Z t)).alloc (.cells C t)) := by
  rw [← vals_nats]
  refine ⟨((Cells.of_block (heap_alloc_new w _)).alloc _).alloc _, ?_, ?_, hx, (((Below.refl _ _).alloc (Nat.le_refl _) _).alloc (by simp) _).alloc (by simp; omega) _⟩
  · have h := there_new (w.alloc (.cells (vals .u8 (nats B)).toArray tb)) Z t
    rw [hZ] at h
    have h2 := World.there_alloc h (.cells C t)
    simpa using h2
  · have h := Row.new ((w.alloc (.cells (vals .u8 (nats B)).toArray tb)).alloc (.cells Z t)) t .u8 xs C (by rw [hC]; simp [vals]) (fun i hi => by rw [hC]; exact vals_get .u8 _ i hi)
    simpa using h
theorem PRL.set {w : World} {t : TypeId} {n : Nat} {B : List UInt8} {xs : List Nat} {wr : World} (h : PRL w t n B xs wr) (i x : Nat) : PRL w t n B (xs.set i x) (wr.setCell ⟨w.heap.size + 1 + 1, i, none⟩ (.int .u8 (x : Int))) := by
  have hb : Below (w.heap.size + 2) wr (wr.setCell ⟨w.heap.size + 1 + 1, i, none⟩ (.int .u8 (x : Int))) := Below.setCell (B := w.heap.size + 2) (Below.refl _ _) (Nat.le_refl (w.heap.size + 2)) _
  exact ⟨h.blk.below hb (by omega), there_below h.res hb (by omega), h.row.set i x, by simp [h.len], h.bel.setCell (by simp; omega) _⟩
theorem PRL.drew {w : World} {t : TypeId} {n : Nat} {B : List UInt8} {xs : List Nat} {wr : World} (h : PRL w t n B xs wr) : PRL w t n B xs wr.drew := ⟨⟨h.blk.lt, h.blk.at_⟩, h.res, h.row, h.len, h.bel.drew⟩
theorem PRL.at_ {w : World} {t : TypeId} {n : Nat} {B : List UInt8} {xs : List Nat} {wr : World} (h : PRL w t n B xs wr) (i : Nat) (hi : i < B.length) : wr.cell? ⟨w.heap.size, i, none⟩ = some (.int .u8 (((B.getD i 0).toNat : Nat) : Int)) := by
  rw [← nats_get]; exact h.blk.at_ i (by rw [nats_len]; exact hi)
theorem PRL.cell {w : World} {t : TypeId} {n : Nat} {B : List UInt8} {xs : List Nat} {wr : World} (h : PRL w t n B xs wr) (i : Nat) (hi : i < n) : wr.cell? ⟨w.heap.size + 1 + 1, i, none⟩ = some (.int .u8 ((xs.getD i 0 : Nat) : Int)) := h.row.cell (by rw [h.len]; exact hi)
theorem rowsL_byte (B : List UInt8) (i : Nat) (hi : i < 16) : (rowsL B).getD i 0 = B.getD ((i + 4 * (i % 4)) % 16) 0 := by
  unfold rowsL
  rw [List.getD_eq_getElem?_getD, List.getElem?_map, List.getElem?_range hi]
  rfl
set_option maxRecDepth 100000 in
set_option maxHeartbeats 1000000 in
theorem shiftRows_any (B : List UInt8) (w : World) (hB : B.length = 16) :
    Calls Tryz.prog 159 #[.agg (bvals B).toArray] w fun e w' => e = .returned (.agg (bvals (rowsL B)).toArray) ∧ Below w.heap.size w w' := by
  have hzv : ∀ w, (zeroValue 206).run Tryz.prog w = .ok (.agg (vals .u8 (List.replicate 16 0)).toArray) w := fun _ => by kernel_rfl
  obtain ⟨Z, hZ⟩ : ∃ x, (vals .u8 (List.replicate 16 0)).toArray = x := ⟨_, rfl⟩
  rw [hZ] at hzv
  have hZs : Z.size = 16 := by rw [← hZ]; simp [vals]
  have hAl := rowsL_len B
  have hget : ∀ i, i < 16 → (rowsL B).getD i 0 = B.getD ((i + 4 * (i % 4)) % 16) 0 := fun i hi => rowsL_byte B i hi
  obtain ⟨A, hA⟩ : ∃ A, rowsL B = A := ⟨_, rfl⟩
  rw [hA] at hAl hget ⊢
  have hN : (List.replicate 16 (0 : UInt8)).length = 16 := by simp
  have hst := PRL.start w 206 206 16 B Z Z (nats (List.replicate 16 0)) hZs (by rw [← hZ]; simp [nats]) (by simp [nats])
  have hCs : (bvals B).toArray.size = 16 := by simp [bvals, hB]
  obtain ⟨C, hC⟩ : ∃ C, (bvals B).toArray = C := ⟨_, rfl⟩
  rw [hC] at hst hCs ⊢
  obtain ⟨N, hNN⟩ : ∃ N, List.replicate 16 (0 : UInt8) = N := ⟨_, rfl⟩
  rw [hNN] at hN hst
  have HG := hide hget
  have HL := hide (And.intro hAl (And.intro hB hN))
  have HST := hide hst
  clear hget hAl hA hst hC hN hNN hZ hB
  go_enter Tryz.func159, Tryz.ntmps159
  go_wp2_with fail
  go_loopw [4] (fun i wr => ∃ k : Nat, k ≤ 16 ∧ i = .int .i64 (k : Int) ∧ PRL w 206 16 B (nats (doneTo A N k)) wr) (fun i _ => (17 - intOf i).toNat)
  case atStart => exact ⟨0, by omega, rfl, by rw [doneTo_zero]; exact HST.out⟩
  case round =>
    clear HST hzv
    obtain ⟨k, hk16, rfl, hr⟩ := hrel
    by_cases hlt : k < 16
    · have hki : (k : Int) < 16 := by omega
      have hAN : A.length = N.length := by rw [HL.out.1, HL.out.2.2]
      have hc := hr.cell k hlt
      have hf := hr.row.frozen k
      have hset := hr.set k (A.getD k 0).toNat
      rw [doneTo_set A N k hAN (by rw [HL.out.2.2]; exact hlt)] at hset
      have hj : (k + 4 * (k % 4)) % 16 < 16 := Nat.mod_lt _ (by decide)
      have ha := hr.at_ ((k + 4 * (k % 4)) % 16) (by rw [HL.out.2.1]; exact hj)
      rw [← HG.out k hlt] at ha
      have HS := hide hset
      have hidx : ((k : Int) + 4 * ((k : Int) % 4)) % 16 = (((k + 4 * (k % 4)) % 16 : Nat) : Int) := by omega
      generalize (nats (doneTo A N k)).getD k 0 = y at *
      generalize (A.getD k 0).toNat = z at *
      generalize (k + 4 * (k % 4)) % 16 = j at *
      have hji : (j : Int) < 16 := by omega
      clear hset hr hAN
      go_wp2_with fail
      go_roundw
      case rel => exact ⟨k + 1, by omega, by go_num, HS.out⟩
      case measure => simp [intOf]; omega
    · have hk16 : k = 16 := by omega
      subst hk16
      have hd : doneTo A N 16 = A := by
        have := doneTo_all A N (by rw [HL.out.1, HL.out.2.2])
        rwa [HL.out.1] at this
      rw [hd] at hr
      have hra := row_range hr.row
      rw [vals_nats] at hra
      have hth := hr.res
      have hvl : (bvals A).length = 16 := by rw [bvals_len]; exact HL.out.1
      have hb := hr.bel
      have hone : ∀ v ∈ bvals A, v.oneCell' = true := by rw [← vals_nats]; exact vals_one _ _
      generalize hV : bvals A = V at *
      have HI := hide (show (Tryz.prog.info? 206).map (·.size) = some V.length from by rw [hvl]; kernel_rfl)
      have hb1 : Below w.heap.size w (wr.setCells (w.heap.size + 1) 0 V) := hb.trans (below_setCells wr w.heap.size _ 0 V (by omega))
      have hrr := World.rangeAt_setCells_same wr (w.heap.size + 1) 0 V (by rw [hvl]; exact hth)
      have HV := hide hvl
      clear hvl hr hlt hd HG
      go_wp2_with (first | refine wpList_load_mid rfl 206 _ rfl (w.heap.size + 1 + 1) 0 rfl V _ hra Tryz.underlying206 rfl HI.out ?_ | refine wpList_store_mid rfl 206 _ _ rfl (w.heap.size + 1) 0 V.toArray rfl rfl (by simpa [HV.out] using hth) (by simpa using HI.out) (all_oneCell_toArray hone) ?_)
      exact bodyPost_ret (v := .agg V.toArray) (results_cell_mid Tryz.results159 _ _ (w.heap.size + 1) 0 V _ rfl hrr Tryz.underlying206 rfl HI.out) rfl ⟨by rw [hV], hb1⟩
end Go.Proofs.YtjnhlkaafnaooabGreatDoor
