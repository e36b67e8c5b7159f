import Derived.Test.YtjnhlkaafnaooabGreatDoorByteW
namespace Go.Proofs.YtjnhlkaafnaooabGreatDoor
open Go.RowKit
/-- The answer's place and a row behind it. -/
structure RR (w : World) (t : TypeId) (n : Nat) (xs : List Nat) (wr : World) : Prop where
  res : wr.there w.heap.size 0 n
  row : Row wr (w.heap.size + 1) t .u8 xs
  len : xs.length = n
  bel : Below w.heap.size w wr
theorem RR.start (w : World) (t : TypeId) (n : Nat) (Z C : Array Value) (xs : List Nat) (hZ : Z.size = n) (hC : C = (vals .u8 xs).toArray) (hx : xs.length = n) :
    RR w t n xs ((w.alloc (.cells Z t)).alloc (.cells C t)) := by
  refine ⟨?_, ?_, hx, ((Below.refl _ _).alloc (Nat.le_refl _) _).alloc (by simp) _⟩
  · have h := there_new w Z t
    rw [hZ] at h
    exact World.there_alloc h _
  · have h := Row.new (w.alloc (.cells Z t)) t .u8 xs C (by rw [hC]; simp [vals]) (fun i hi => by rw [hC]; exact vals_get .u8 _ i hi)
    simpa using h
theorem RR.set {w : World} {t : TypeId} {n : Nat} {xs : List Nat} {wr : World} (h : RR w t n xs wr) (i x : Nat) : RR w t n (xs.set i x) (wr.setCell ⟨w.heap.size + 1, i, none⟩ (.int .u8 (x : Int))) := by
  have hb : Below (w.heap.size + 1) wr (wr.setCell ⟨w.heap.size + 1, i, none⟩ (.int .u8 (x : Int))) := Below.setCell (B := w.heap.size + 1) (Below.refl _ _) (Nat.le_refl (w.heap.size + 1)) _
  exact ⟨there_below h.res hb (by omega), h.row.set i x, by simp [h.len], h.bel.setCell (by simp) _⟩
theorem RR.drew {w : World} {t : TypeId} {n : Nat} {xs : List Nat} {wr : World} (h : RR w t n xs wr) : RR w t n xs wr.drew := ⟨h.res, h.row, h.len, h.bel.drew⟩
theorem RR.cell {w : World} {t : TypeId} {n : Nat} {xs : List Nat} {wr : World} (h : RR w t n xs wr) (i : Nat) (hi : i < n) : wr.cell? ⟨w.heap.size + 1, i, none⟩ = some (.int .u8 ((xs.getD i 0 : Nat) : Int)) := h.row.cell (by rw [h.len]; exact hi)
theorem box_xor (q : Nat) (hq : q < 256) :
    bits .xor .u8 (bits .xor .u8 (bits .xor .u8 (bits .xor .u8 (bits .xor .u8 99 (q : Int)) ((rotB q 1 : Nat) : Int)) ((rotB q 2 : Nat) : Int)) ((rotB q 3 : Nat) : Int)) ((rotB q 4 : Nat) : Int) = ((boxVal q : Nat) : Int) := by
  have hr : ∀ n, 1 ≤ n → n ≤ 7 → rotB q n < 256 := fun n h1 h2 => Nat.or_lt_two_pow (n := 8) (Nat.mod_lt _ (by decide)) (Nat.lt_of_le_of_lt (Nat.div_le_self _ _) hq)
  have h0 : bits .xor .u8 99 (q : Int) = ((99 ^^^ q : Nat) : Int) := u8_xor_nat 99 q (by decide) hq
  have l0 : 99 ^^^ q < 256 := xor8 (by decide) hq
  have l1 := xor8 l0 (hr 1 (by decide) (by decide))
  have l2 := xor8 l1 (hr 2 (by decide) (by decide))
  have l3 := xor8 l2 (hr 3 (by decide) (by decide))
  rw [h0, u8_xor_nat _ _ l0 (hr 1 (by decide) (by decide)), u8_xor_nat _ _ l1 (hr 2 (by decide) (by decide)), u8_xor_nat _ _ l2 (hr 3 (by decide) (by decide)), u8_xor_nat _ _ l3 (hr 4 (by decide) (by decide))]
  rfl
set_option maxRecDepth 100000 in
set_option maxHeartbeats 1000000 in
theorem makeBox_any (w : World) :
    Calls Tryz.prog 95 #[] w fun e w' => e = .returned (.agg (vals .u8 sbLit).toArray) ∧ Below w.heap.size w w' := by
  have hzv : ∀ w, (zeroValue 152).run Tryz.prog w = .ok (.agg (vals .u8 (List.replicate 256 0)).toArray) w := fun _ => by kernel_rfl
  obtain ⟨Z, hZ⟩ : ∃ x, (vals .u8 (List.replicate 256 0)).toArray = x := ⟨_, rfl⟩
  rw [hZ] at hzv
  have hZs : Z.size = 256 := by rw [← hZ]; simp [vals]
  have hst := RR.start w 152 256 Z (Z.setIfInBounds 0 (.int .u8 99)) (boxTo 0) hZs (by rw [← hZ, boxTo, vals_set]; simp) (boxTo_len 0)
  have HST := hide hst
  rw [← boxTo_lit]
  clear hst hZ
  go_enter Tryz.func95, Tryz.ntmps95
  go_wp2_with fail
  go_loopw [2, 3, 4] (fun p q i wr => ∃ k : Nat, k ≤ 255 ∧ p = .int .u8 ((boxP k : Nat) : Int) ∧ q = .int .u8 ((boxQ k : Nat) : Int) ∧ i = .int .i64 (k : Int) ∧ RR w 152 256 (boxTo k) wr) (fun _ _ i _ => (256 - intOf i).toNat)
  case atStart => exact ⟨0, by omega, rfl, rfl, rfl, HST.out⟩
  case round =>
    clear HST hzv
    obtain ⟨k, hk, rfl, rfl, rfl, hr⟩ := hrel
    by_cases hlt : k < 255
    · have hki : (k : Int) < 255 := by omega
      have lp := boxP_lt k
      have lp' := boxP_lt (k + 1)
      have lq := boxQ_lt k
      have lq' := boxQ_lt (k + 1)
      have ep : bits .xor .u8 ((boxP k : Nat) : Int) ((dbl (boxP k) : Nat) : Int) = ((boxP (k + 1) : Nat) : Int) := u8_xor_nat _ _ lp (dbl_lt _ lp)
      have eq : thirdN (boxQ k) = boxQ (k + 1) := rfl
      have hc := hr.cell (boxP (k + 1)) lp'
      have hf := hr.row.frozen (boxP (k + 1))
      have hset := hr.set (boxP (k + 1)) (boxVal (boxQ (k + 1)))
      have et : (boxTo k).set (boxP (k + 1)) (boxVal (boxQ (k + 1))) = boxTo (k + 1) := rfl
      have eb := box_xor _ lq'
      rw [et] at hset
      have HS := hide hset
      clear hset et
      generalize hP : boxP (k + 1) = p' at *
      generalize hQ : boxQ (k + 1) = q' at *
      have HP := hide (And.intro hP hQ)
      clear hP hQ
      generalize boxP k = p at *
      generalize boxQ k = q at *
      have lpi : (p' : Int) < 256 := by omega
      generalize (boxTo k).getD p' 0 = y at *
      go_wp2_with fail
      refine (double_any p _ lp).mono ?_
      rintro e w1 ⟨rfl, rfl⟩
      go_wp2_with fail
      refine (third_any q _ lq).mono ?_
      rintro e w1 ⟨rfl, rfl⟩
      rw [eq]
      go_wp2_with fail
      refine (turnLeft1 q' _ lq').mono ?_
      rintro e w1 ⟨rfl, rfl⟩
      go_wp2_with fail
      refine (turnLeft2 q' _ lq').mono ?_
      rintro e w1 ⟨rfl, rfl⟩
      go_wp2_with fail
      refine (turnLeft3 q' _ lq').mono ?_
      rintro e w1 ⟨rfl, rfl⟩
      go_wp2_with fail
      refine (turnLeft4 q' _ lq').mono ?_
      rintro e w1 ⟨rfl, rfl⟩
      go_wp2_with fail
      go_roundw
      case rel => exact ⟨k + 1, by omega, by rw [HP.out.1], by rw [HP.out.2], by go_num, HS.out⟩
      case measure => simp [intOf]; omega
    · have hk5 : k = 255 := by omega
      subst hk5
      have hra := row_range hr.row
      have hth := hr.res
      have hvl : (vals .u8 (boxTo 255)).length = 256 := by rw [vals, List.length_map, boxTo_len]
      have hb := hr.bel
      generalize hV : vals .u8 (boxTo 255) = V at *
      have hone : ∀ v ∈ V, v.oneCell' = true := by rw [← hV]; exact vals_one _ _
      have HI := hide (show (Tryz.prog.info? 152).map (·.size) = some V.length from by rw [hvl]; kernel_rfl)
      have hb1 : Below w.heap.size w (wr.setCells w.heap.size 0 V) := hb.trans (below_setCells wr w.heap.size _ 0 V (by omega))
      have hrr := World.rangeAt_setCells_same wr w.heap.size 0 V (by rw [hvl]; exact hth)
      have HV := hide hvl
      clear hvl hr hlt
      go_wp2_with (first | refine wpList_load_mid rfl 152 _ rfl (w.heap.size + 1) 0 rfl V _ hra Tryz.underlying152 rfl HI.out ?_ | refine wpList_store_mid rfl 152 _ _ rfl w.heap.size 0 V.toArray rfl rfl (by simpa [HV.out] using hth) (by simpa using HI.out) (all_oneCell_toArray hone) ?_)
      exact bodyPost_ret (v := .agg V.toArray) (results_cell_mid Tryz.results95 _ _ w.heap.size 0 V _ rfl hrr Tryz.underlying152 rfl HI.out) rfl ⟨by rw [hV], hb1⟩
end Go.Proofs.YtjnhlkaafnaooabGreatDoor
