import Derived.Test.YtjnhlkaafnaooabGreatDoorStepW
import Derived.Lib.AppendStr
import Derived.Deep.RegionHeld
namespace Go.Proofs.YtjnhlkaafnaooabGreatDoor
open Go.RowKit
set_option maxHeartbeats 400000 in
theorem turn_any (x : Nat) (n : Int) (w : World) (hx2 : x < 4294967296) (hn : 1 ≤ n) (hn2 : n ≤ 31) :
    Calls Tryz.prog 138 #[.int .u32 x, .int .u32 n] w fun e w' => e = .returned (.int .u32 (rotr x n.toNat : Nat)) ∧ w' = w := by
  have hx : (x : Int) < 4294967296 := by omega
  go_enter Tryz.func138, Tryz.ntmps138
  go_wp2
  go_ret
  exact ⟨ret_int (turn_int x n hx2 hn hn2), rfl⟩

theorem turn2 (x : Nat) (w : World) (hx : x < 4294967296) : Calls Tryz.prog 138 #[.int .u32 x, .int .u32 2] w fun e w' => e = .returned (.int .u32 (rotr x 2 : Nat)) ∧ w' = w := turn_any x 2 w hx (by decide) (by decide)
theorem turn6 (x : Nat) (w : World) (hx : x < 4294967296) : Calls Tryz.prog 138 #[.int .u32 x, .int .u32 6] w fun e w' => e = .returned (.int .u32 (rotr x 6 : Nat)) ∧ w' = w := turn_any x 6 w hx (by decide) (by decide)
theorem turn7 (x : Nat) (w : World) (hx : x < 4294967296) : Calls Tryz.prog 138 #[.int .u32 x, .int .u32 7] w fun e w' => e = .returned (.int .u32 (rotr x 7 : Nat)) ∧ w' = w := turn_any x 7 w hx (by decide) (by decide)
theorem turn11 (x : Nat) (w : World) (hx : x < 4294967296) : Calls Tryz.prog 138 #[.int .u32 x, .int .u32 11] w fun e w' => e = .returned (.int .u32 (rotr x 11 : Nat)) ∧ w' = w := turn_any x 11 w hx (by decide) (by decide)
theorem turn13 (x : Nat) (w : World) (hx : x < 4294967296) : Calls Tryz.prog 138 #[.int .u32 x, .int .u32 13] w fun e w' => e = .returned (.int .u32 (rotr x 13 : Nat)) ∧ w' = w := turn_any x 13 w hx (by decide) (by decide)
theorem turn17 (x : Nat) (w : World) (hx : x < 4294967296) : Calls Tryz.prog 138 #[.int .u32 x, .int .u32 17] w fun e w' => e = .returned (.int .u32 (rotr x 17 : Nat)) ∧ w' = w := turn_any x 17 w hx (by decide) (by decide)
theorem turn18 (x : Nat) (w : World) (hx : x < 4294967296) : Calls Tryz.prog 138 #[.int .u32 x, .int .u32 18] w fun e w' => e = .returned (.int .u32 (rotr x 18 : Nat)) ∧ w' = w := turn_any x 18 w hx (by decide) (by decide)
theorem turn19 (x : Nat) (w : World) (hx : x < 4294967296) : Calls Tryz.prog 138 #[.int .u32 x, .int .u32 19] w fun e w' => e = .returned (.int .u32 (rotr x 19 : Nat)) ∧ w' = w := turn_any x 19 w hx (by decide) (by decide)
theorem turn22 (x : Nat) (w : World) (hx : x < 4294967296) : Calls Tryz.prog 138 #[.int .u32 x, .int .u32 22] w fun e w' => e = .returned (.int .u32 (rotr x 22 : Nat)) ∧ w' = w := turn_any x 22 w hx (by decide) (by decide)
theorem turn25 (x : Nat) (w : World) (hx : x < 4294967296) : Calls Tryz.prog 138 #[.int .u32 x, .int .u32 25] w fun e w' => e = .returned (.int .u32 (rotr x 25 : Nat)) ∧ w' = w := turn_any x 25 w hx (by decide) (by decide)
theorem xor3_u32 (a b c : Nat) (ha : a < 4294967296) (hb : b < 4294967296) (hc : c < 4294967296) : bits .xor .u32 (bits .xor .u32 (a : Int) (b : Int)) (c : Int) = ((a ^^^ b ^^^ c : Nat) : Int) := by
  rw [u32_xor_nat a b ha hb, u32_xor_nat _ c (xor32 ha hb) hc]
theorem sig0_u32 (x : Nat) (hx : x < 4294967296) : bits .xor .u32 (bits .xor .u32 ((rotr x 7 : Nat) : Int) ((rotr x 18 : Nat) : Int)) ((x : Int) / 8) = ((sig0 x : Nat) : Int) := by
  rw [show (x : Int) / 8 = ((x / 8 : Nat) : Int) from by simp, xor3_u32 _ _ _ (rotr_lt x 7 hx (by decide) (by decide)) (rotr_lt x 18 hx (by decide) (by decide)) (by omega)]
  rfl
theorem sig1_u32 (x : Nat) (hx : x < 4294967296) : bits .xor .u32 (bits .xor .u32 ((rotr x 17 : Nat) : Int) ((rotr x 19 : Nat) : Int)) ((x : Int) / 1024) = ((sig1 x : Nat) : Int) := by
  rw [show (x : Int) / 1024 = ((x / 1024 : Nat) : Int) from by simp, xor3_u32 _ _ _ (rotr_lt x 17 hx (by decide) (by decide)) (rotr_lt x 19 hx (by decide) (by decide)) (by omega)]
  rfl
theorem onesL4 (x : Nat) (hx : x < 4294967296) : onesL x 4 = [x / 16777216, x / 65536 % 256, x / 256 % 256, x % 256].map UInt8.ofNat := by
  simp only [onesL, List.map_cons, List.map_nil, List.nil_append, List.cons_append, Nat.div_div_eq_div_mul]
  have h : x / 16777216 % 256 = x / 16777216 := by omega
  show [UInt8.ofNat (x / 16777216 % 256), _, _, _] = _
  rw [h]

set_option maxRecDepth 100000 in
set_option maxHeartbeats 400000 in
theorem numberText_any (x : Nat) (w : World) (hx2 : x < 4294967296) :
    Calls Tryz.prog 120 #[.int .u32 (x : Int)] w fun e w' => e = .returned (.string ⟨(onesL x 4).toArray⟩) ∧ Below w.heap.size w w' := by
  have hx : (x : Int) < 4294967296 := by omega
  have hrw : Row (w.alloc (.cells #[.int .u8 ((x : Int) / 16777216), .int .u8 ((x : Int) / 65536 % 256), .int .u8 ((x : Int) / 256 % 256), .int .u8 ((x : Int) % 256)] 5)) w.heap.size 5 .u8 [x / 16777216, x / 65536 % 256, x / 256 % 256, x % 256] := Row.new w _ _ _ _ rfl (fun i hi => by
      match i, hi with
      | 0, _ => simp
      | 1, _ => simp
      | 2, _ => simp
      | 3, _ => simp)
  have hcv := conv_row (cap := 4) hrw
  rw [← onesL4 x hx2] at hcv
  simp only [List.length_cons, List.length_nil, Nat.zero_add] at hcv
  clear hrw
  go_enter Tryz.func120, Tryz.ntmps120
  go_wp2_with fail
  go_ret
  exact ⟨rfl, (Below.refl _ _).alloc (Nat.le_refl _) _⟩

/-- The block, the answer's place and the words, in mid-spread. -/
structure SP (w : World) (b : List UInt8) (xs : List Nat) (wr : World) : Prop where
  blk : Cells wr w.heap.size .u8 (nats b)
  res : wr.there (w.heap.size + 1) 0 64
  row : Row wr (w.heap.size + 1 + 1) 194 .u32 xs
  len : xs.length = 64
  bel : Below w.heap.size w wr
theorem word_int (x0 x1 x2 x3 : Nat) (h0 : x0 < 256) (h1 : x1 < 256) (h2 : x2 < 256) (h3 : x3 < 256) :
    bits .or .u32 (bits .or .u32 (bits .or .u32 ((x0 : Int) * 16777216) ((x1 : Int) * 65536)) ((x2 : Int) * 256)) (x3 : Int) = ((x0 * 16777216 + x1 * 65536 + x2 * 256 + x3 : Nat) : Int) := by
  have e0 : (x0 : Int) * 16777216 = ((x0 * 16777216 : Nat) : Int) := by omega
  have e1 : (x1 : Int) * 65536 = ((x1 * 65536 : Nat) : Int) := by omega
  have e2 : (x2 : Int) * 256 = ((x2 * 256 : Nat) : Int) := by omega
  rw [e0, e1, e2, u32_or_nat _ _ (by omega) (by omega), or_join _ _ 24 (by omega) (by omega), u32_or_nat _ _ (by omega) (by omega), or_join _ _ 16 (by omega) (by omega), u32_or_nat _ _ (by omega) (by omega), or_join _ _ 8 (by omega) (by omega)]
theorem wordAt_bytes (b : List UInt8) (k : Nat) (h : 4 * k + 4 ≤ b.length) : wordAt b k = (nats b).getD (4 * k) 0 * 16777216 + (nats b).getD (4 * k + 1) 0 * 65536 + (nats b).getD (4 * k + 2) 0 * 256 + (nats b).getD (4 * k + 3) 0 := by
  have hd : ((b.drop (4 * k)).take 4) = [b[4 * k], b[4 * k + 1], b[4 * k + 2], b[4 * k + 3]] := by
    apply List.ext_getElem
    · simp; omega
    · intro i h1 h2
      simp only [List.getElem_take, List.getElem_drop]
      match i, h2 with
      | 0, _ => rfl
      | 1, _ => rfl
      | 2, _ => rfl
      | 3, _ => rfl
  have hg : ∀ i (hi : i < b.length), (nats b).getD i 0 = b[i].toNat := fun i hi => by simp [nats, List.getElem?_eq_getElem hi]
  unfold wordAt
  rw [hd, hg _ (by omega), hg _ (by omega), hg _ (by omega), hg _ (by omega)]
  simp only [numL, List.foldl_cons, List.foldl_nil]
  omega
theorem words_set (b : List UInt8) (k : Nat) (hk : k < 64) : (wordsTo b k ++ List.replicate (64 - k) 0).set k (wordAt b k) = wordsTo b (k + 1) ++ List.replicate (64 - (k + 1)) 0 := by
  have hl := wordsTo_len b k
  rw [List.set_append_right _ _ (by omega), hl, Nat.sub_self, show 64 - k = (64 - (k + 1)) + 1 from by omega, List.replicate_succ, List.set_cons_zero, wordsTo]
  simp
theorem sched_set (b : List UInt8) (n : Nat) (hn : n < 48) : (schedTo b n ++ List.replicate (48 - n) 0).set (n + 16) (nextW (schedTo b n) (n + 16)) = schedTo b (n + 1) ++ List.replicate (48 - (n + 1)) 0 := by
  have hl := schedTo_len b n
  rw [List.set_append_right _ _ (by omega), hl, Nat.sub_self, show 48 - n = (48 - (n + 1)) + 1 from by omega, List.replicate_succ, List.set_cons_zero, schedTo]
  simp
theorem SP.start (w : World) (b : List UInt8) (t : TypeId) (Z : Array Value) (hZ : Z = (vals .u32 (List.replicate 64 0)).toArray) :
    SP w b (List.replicate 64 0) (((w.alloc (.cells (vals .u8 (nats b)).toArray t)).alloc (.cells Z 194)).alloc (.cells Z 194)) := by
  have hZs : Z.size = 64 := by rw [hZ]; simp [vals]
  refine ⟨((Cells.of_block (heap_alloc_new w _)).alloc _).alloc _, ?_, ?_, by simp, (((Below.refl _ _).alloc (Nat.le_refl _) _).alloc (by simp) _).alloc (by simp; omega) _⟩
  · have h := there_new (w.alloc (.cells (vals .u8 (nats b)).toArray t)) Z 194
    rw [hZs] at h
    have h2 := World.there_alloc h (.cells Z 194)
    simpa using h2
  · have h := Row.new ((w.alloc (.cells (vals .u8 (nats b)).toArray t)).alloc (.cells Z 194)) 194 .u32 (List.replicate 64 0) Z (by rw [hZs]; simp) (fun i hi => by rw [hZ]; exact vals_get .u32 _ i hi)
    simpa using h
theorem SP.set {w : World} {b : List UInt8} {xs : List Nat} {wr : World} (h : SP w b xs wr) (i x : Nat) : SP w b (xs.set i x) (wr.setCell ⟨w.heap.size + 1 + 1, i, none⟩ (.int .u32 (x : Int))) := by
  have hb : Below (w.heap.size + 2) wr (wr.setCell ⟨w.heap.size + 1 + 1, i, none⟩ (.int .u32 (x : Int))) := Below.setCell (B := w.heap.size + 2) (Below.refl _ _) (Nat.le_refl (w.heap.size + 2)) _
  exact ⟨h.blk.below hb (by omega), there_below h.res hb (by omega), h.row.set i x, by simp [h.len], h.bel.setCell (by simp; omega) _⟩
theorem SP.drew {w : World} {b : List UInt8} {xs : List Nat} {wr : World} (h : SP w b xs wr) : SP w b xs wr.drew :=
  ⟨⟨h.blk.lt, h.blk.at_⟩, h.res, h.row, h.len, h.bel.drew⟩

set_option maxRecDepth 100000 in
set_option maxHeartbeats 1000000 in
theorem spread_any (b : List UInt8) (w : World) (hb : b.length = 64) :
    Calls Tryz.prog 137 #[.agg (bvals b).toArray] w fun e w' => e = .returned (.agg (vals .u32 (sched b)).toArray) ∧ Below w.heap.size w w' := by
  have hst := fun Z hZ => SP.start w b 146 Z hZ
  rw [vals_nats] at hst
  have hsz : (bvals b).toArray.size = 64 := by simp [bvals, hb]
  have HB := hide hb
  obtain ⟨C, hC⟩ : ∃ C, (bvals b).toArray = C := ⟨_, rfl⟩
  rw [hC] at hsz hst ⊢
  have HST := hide hst
  clear hb hC hst
  go_enter Tryz.func137, Tryz.ntmps137
  go_wp2_with fail
  go_loopw [4] (fun i wr => ∃ k : Nat, k ≤ 16 ∧ i = .int .i64 (k : Int) ∧ SP w b (wordsTo b k ++ List.replicate (64 - k) 0) wr) (fun i _ => (17 - intOf i).toNat)
  case atStart => exact ⟨0, by omega, rfl, HST.out _ rfl⟩
  case round =>
    clear HST
    obtain ⟨k, hk, rfl, hsp⟩ := hrel
    by_cases hlt : k < 16
    · have hki : (k : Int) < 16 := by omega
      have c0 := hsp.blk.at_ (4 * k) (by rw [nats_len, HB.out]; omega)
      have c1 := hsp.blk.at_ (4 * k + 1) (by rw [nats_len, HB.out]; omega)
      have c2 := hsp.blk.at_ (4 * k + 2) (by rw [nats_len, HB.out]; omega)
      have c3 := hsp.blk.at_ (4 * k + 3) (by rw [nats_len, HB.out]; omega)
      have cw := hsp.row.cell (i := k) (by rw [hsp.len]; omega)
      have cf := hsp.row.frozen k
      have b0 := nats_lt b (4 * k)
      have b1 := nats_lt b (4 * k + 1)
      have b2 := nats_lt b (4 * k + 2)
      have b3 := nats_lt b (4 * k + 3)
      have hwa := wordAt_bytes b k (by rw [HB.out]; omega)
      have hns := hsp.set k (wordAt b k)
      rw [words_set b k (by omega), hwa, ← word_int _ _ _ _ b0 b1 b2 b3] at hns
      generalize (nats b).getD (4 * k) 0 = x0 at *
      generalize (nats b).getD (4 * k + 1) 0 = x1 at *
      generalize (nats b).getD (4 * k + 2) 0 = x2 at *
      generalize (nats b).getD (4 * k + 3) 0 = x3 at *
      generalize (wordsTo b k ++ List.replicate (64 - k) 0).getD k 0 = y at *
      have HS := hide hns
      have HNE : Hid (w.heap.size ≠ w.heap.size + 1 + 1) := by show w.heap.size ≠ w.heap.size + 1 + 1; omega
      clear hns hwa hsp
      have i0 : (x0 : Int) < 256 := by omega
      have i1 : (x1 : Int) < 256 := by omega
      have i2 : (x2 : Int) < 256 := by omega
      have i3 : (x3 : Int) < 256 := by omega
      obtain ⟨m0, hm0⟩ : ∃ m, 4 * k = m := ⟨_, rfl⟩
      obtain ⟨m1, hm1⟩ : ∃ m, 4 * k + 1 = m := ⟨_, rfl⟩
      obtain ⟨m2, hm2⟩ : ∃ m, 4 * k + 2 = m := ⟨_, rfl⟩
      obtain ⟨m3, hm3⟩ : ∃ m, 4 * k + 3 = m := ⟨_, rfl⟩
      rw [hm0] at c0
      rw [hm1] at c1
      rw [hm2] at c2
      rw [hm3] at c3
      have y0 : IntKind.i64.wrap (4 * (k : Int)) = (m0 : Int) := by rw [show 4 * (k : Int) = (m0 : Int) from by omega]; exact wrap_i64_nat _ (by omega)
      have y1 : IntKind.i64.wrap ((m0 : Int) + 1) = (m1 : Int) := by rw [show (m0 : Int) + 1 = (m1 : Int) from by omega]; exact wrap_i64_nat _ (by omega)
      have y2 : IntKind.i64.wrap ((m0 : Int) + 2) = (m2 : Int) := by rw [show (m0 : Int) + 2 = (m2 : Int) from by omega]; exact wrap_i64_nat _ (by omega)
      have y3 : IntKind.i64.wrap ((m0 : Int) + 3) = (m3 : Int) := by rw [show (m0 : Int) + 3 = (m3 : Int) from by omega]; exact wrap_i64_nat _ (by omega)
      have l0 : (m0 : Int) < 64 := by omega
      have l1 : (m1 : Int) < 64 := by omega
      have l2 : (m2 : Int) < 64 := by omega
      have l3 : (m3 : Int) < 64 := by omega
      have lk : (k : Int) < 64 := by omega
      clear b0 b1 b2 b3 hm0 hm1 hm2 hm3
      go_wp2_with fail
      go_region_held (fun w' => w'.cell? ⟨w.heap.size, m0, none⟩ = some (.int .u8 (x0 : Int)) ∧ w'.cell? ⟨w.heap.size, m1, none⟩ = some (.int .u8 (x1 : Int)) ∧ w'.cell? ⟨w.heap.size, m2, none⟩ = some (.int .u8 (x2 : Int)) ∧ w'.cell? ⟨w.heap.size, m3, none⟩ = some (.int .u8 (x3 : Int))) (first | exact ⟨(cell_set_far _ _ ⟨w.heap.size, m0, none⟩ _ HNE.out).trans c0, (cell_set_far _ _ ⟨w.heap.size, m1, none⟩ _ HNE.out).trans c1, (cell_set_far _ _ ⟨w.heap.size, m2, none⟩ _ HNE.out).trans c2, (cell_set_far _ _ ⟨w.heap.size, m3, none⟩ _ HNE.out).trans c3⟩ | go_keep) (fail)
      go_wp2_with fail
      go_roundw
      case rel => exact ⟨k + 1, by omega, by go_num, HS.out.drew⟩
      case measure => simp [intOf]; omega
    · have hk16 : k = 16 := by omega
      subst hk16
      have hsp0 : SP w b (schedTo b 0 ++ List.replicate (48 - 0) 0) wr := hsp
      clear hsp hlt hk
      go_wp2_with fail
      go_loopw [5, 6, 7, 8, 9] (fun i _ _ _ _ wr => ∃ n k : Nat, n ≤ 48 ∧ 16 ≤ k ∧ k ≤ 64 ∧ i = .int .i64 (k : Int) ∧ Hid (n + 16 = k) ∧ SP w b (schedTo b n ++ List.replicate (48 - n) 0) wr) (fun i _ _ _ _ _ => (65 - intOf i).toNat)
      case atStart => exact ⟨0, 16, by omega, by omega, by omega, rfl, rfl, hsp0⟩
      case round =>
        clear hsp0
        obtain ⟨n, k, hn48, hk16, hk64, rfl, hn, hsp⟩ := hrel
        by_cases hlt : k < 64
        · --<A>
          have hki : (k : Int) < 64 := by omega
          have hlen := schedTo_len b n
          rw [hn.out] at hlen
          have hall := schedTo_lt b n
          have hgd : ∀ i, i < k → (schedTo b n ++ List.replicate (48 - n) 0).getD i 0 = (schedTo b n).getD i 0 := fun i hi => by
            simp [List.getElem?_append_left (by omega : i < (schedTo b n).length)]
          have hr := hsp.row
          have c15 := hr.cell (i := k - 15) (by rw [hsp.len]; omega)
          have c2 := hr.cell (i := k - 2) (by rw [hsp.len]; omega)
          have c7 := hr.cell (i := k - 7) (by rw [hsp.len]; omega)
          have c16 := hr.cell (i := k - 16) (by rw [hsp.len]; omega)
          have ck := hr.cell (i := k) (by rw [hsp.len]; omega)
          have cf := hr.frozen k
          rw [hgd _ (by omega)] at c15 c2 c7 c16
          have b15 := getD_lt (i := k - 15) hall
          have b2 := getD_lt (i := k - 2) hall
          have b7 := getD_lt (i := k - 7) hall
          have b16 := getD_lt (i := k - 16) hall
          have hset := sched_set b n (by have := hn.out; omega)
          have hns := hsp.set k (nextW (schedTo b n) (n + 16))
          rw [hn.out] at hset hns
          rw [hset] at hns
          unfold nextW at hns
          generalize (schedTo b n).getD (k - 15) 0 = x15 at *
          generalize (schedTo b n).getD (k - 2) 0 = x2 at *
          generalize (schedTo b n).getD (k - 7) 0 = x7 at *
          generalize (schedTo b n).getD (k - 16) 0 = x16 at *
          generalize (schedTo b n ++ List.replicate (48 - n) 0).getD k 0 = y at *
          have HS := hide hns
          have HB2 := hide (And.intro b15 (And.intro b2 (And.intro b7 b16)))
          have hs0 := sig0_u32 x15 b15
          have hs1 := sig1_u32 x2 b2
          have l0 := sig0_lt x15 b15
          have l1 := sig1_lt x2 b2
          have t7 := fun w => turn7 x15 w b15
          have t18 := fun w => turn18 x15 w b15
          have t17 := fun w => turn17 x2 w b2
          have t19 := fun w => turn19 x2 w b2
          generalize sig0 x15 = A at *
          generalize sig1 x2 = D at *
          generalize rotr x15 7 = r7 at *
          generalize rotr x15 18 = r18 at *
          generalize rotr x2 17 = r17 at *
          generalize rotr x2 19 = r19 at *
          have T7 := hide t7
          have T18 := hide t18
          have T17 := hide t17
          have T19 := hide t19
          have HL := hide (And.intro l0 l1)
          clear hns hset hgd hall hlen hr hsp b15 b2 b7 b16 t7 t18 t17 t19 l0 l1
          go_wp2_with fail
          refine (T7.out _).mono ?_
          rintro e w1 ⟨rfl, rfl⟩
          go_wp2_with fail
          refine (T18.out _).mono ?_
          rintro e w1 ⟨rfl, rfl⟩
          go_wp2_with fail
          refine (T17.out _).mono ?_
          rintro e w1 ⟨rfl, rfl⟩
          go_wp2_with fail
          refine (T19.out _).mono ?_
          rintro e w1 ⟨rfl, rfl⟩
          go_wp2_with fail
          obtain ⟨_, _, b7, b16⟩ := HB2.out
          obtain ⟨lA, lD⟩ := HL.out
          obtain ⟨m7, hm7⟩ : ∃ m, k - 7 = m := ⟨_, rfl⟩
          obtain ⟨m16, hm16⟩ : ∃ m, k - 16 = m := ⟨_, rfl⟩
          rw [hm7] at c7
          rw [hm16] at c16
          have w7 : IntKind.i64.wrap ((k : Int) - 7) = (m7 : Int) := by rw [show (k : Int) - 7 = (m7 : Int) from by omega]; exact wrap_i64_nat _ (by omega)
          have w16 : IntKind.i64.wrap ((k : Int) - 16) = (m16 : Int) := by rw [show (k : Int) - 16 = (m16 : Int) from by omega]; exact wrap_i64_nat _ (by omega)
          have l7 : (m7 : Int) < 64 := by omega
          have l16 : (m16 : Int) < 64 := by omega
          have e5 : (((D + x7 + A + x16) % 4294967296 : Nat) : Int) = ((x16 : Int) + (A : Int) + (x7 : Int) + (D : Int)) % 4294967296 := by omega
          rw [e5] at HS
          clear hm7 hm16 e5 hs0 hs1 c15 c2 lA lD b7 b16
          go_region
          go_wp2_with fail
          go_roundw
          case rel => first
            | exact ⟨n + 1, k + 1, by have := hn.out; omega, by omega, by omega, by go_num, by have := hn.out; show _ = _; omega, HS.out.drew⟩
            | ((repeat apply Exists.intro); exact ⟨⟨n + 1, k + 1, by have := hn.out; omega, by omega, by omega, by go_num, by have := hn.out; show _ = _; omega, HS.out.drew⟩, rfl⟩)
          case measure => simp [intOf]; omega
          --</A>
        · have hk : k = 64 := by omega
          subst hk
          have hn2 : n = 48 := by have := hn.out; omega
          subst hn2
          have hsp2 : SP w b (sched b) wr := by
            have := hsp
            simp only [Nat.sub_self, List.replicate_zero, List.append_nil] at this
            exact this
          clear hsp hn hk64 hk16 hlt hn48
          have hra := row_range hsp2.row
          have hle := hsp2.len
          have hth := hsp2.res
          have hvl : (vals .u32 (sched b)).length = 64 := by simp [vals, hle]
          generalize hV : vals .u32 (sched b) = V at *
          have hone : ∀ v ∈ V, v.oneCell' = true := by rw [← hV]; exact vals_one _ _
          have HI := hide (show (Tryz.prog.info? 194).map (·.size) = some V.length from by rw [hvl]; kernel_rfl)
          have hb1 : Below w.heap.size w (wr.setCells (w.heap.size + 1) 0 V) := hsp2.bel.trans (below_setCells wr w.heap.size _ 0 V (by omega))
          have hrr := World.rangeAt_setCells_same wr (w.heap.size + 1) 0 V (by rw [hvl]; exact hth)
          have HV := hide hvl
          clear hvl hle
          go_wp2_with (first | refine wpList_load_mid rfl 194 _ rfl (w.heap.size + 1 + 1) 0 rfl V _ hra Tryz.underlying194 rfl HI.out ?_ | refine wpList_store_mid rfl 194 _ _ rfl (w.heap.size + 1) 0 V.toArray rfl rfl (by simpa [HV.out] using hth) (by simpa using HI.out) (all_oneCell_toArray hone) ?_)
          exact bodyPost_ret (v := .agg V.toArray) (results_cell_mid Tryz.results137 _ _ (w.heap.size + 1) 0 V _ rfl hrr Tryz.underlying194 rfl HI.out) rfl ⟨by rw [hV], hb1⟩
end Go.Proofs.YtjnhlkaafnaooabGreatDoor
