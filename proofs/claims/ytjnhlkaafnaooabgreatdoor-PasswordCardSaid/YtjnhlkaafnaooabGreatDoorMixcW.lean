import Derived.Test.YtjnhlkaafnaooabGreatDoorRoundW
namespace Go.Proofs.YtjnhlkaafnaooabGreatDoor
open Go.RowKit
theorem col_four (B : List UInt8) (k : Nat) (hk : k < 4) :
    ((colL B).getD (4 * k) 0).toNat = mixA (B.getD (4 * k) 0).toNat (B.getD (4 * k + 1) 0).toNat (B.getD (4 * k + 2) 0).toNat (B.getD (4 * k + 3) 0).toNat ∧
    ((colL B).getD (4 * k + 1) 0).toNat = mixA (B.getD (4 * k + 1) 0).toNat (B.getD (4 * k + 2) 0).toNat (B.getD (4 * k + 3) 0).toNat (B.getD (4 * k) 0).toNat ∧
    ((colL B).getD (4 * k + 2) 0).toNat = mixA (B.getD (4 * k + 2) 0).toNat (B.getD (4 * k + 3) 0).toNat (B.getD (4 * k) 0).toNat (B.getD (4 * k + 1) 0).toNat ∧
    ((colL B).getD (4 * k + 3) 0).toNat = mixA (B.getD (4 * k + 3) 0).toNat (B.getD (4 * k) 0).toNat (B.getD (4 * k + 1) 0).toNat (B.getD (4 * k + 2) 0).toNat := by
  have h : ∀ i, i < 16 → ((colL B).getD i 0).toNat = colAt B i := fun i hi => colL_get B i hi
  rw [h _ (by omega), h _ (by omega), h _ (by omega), h _ (by omega)]
  unfold colAt byteAt
  have d0 : 4 * k / 4 * 4 = 4 * k := by omega
  have d1 : (4 * k + 1) / 4 * 4 = 4 * k := by omega
  have d2 : (4 * k + 2) / 4 * 4 = 4 * k := by omega
  have d3 : (4 * k + 3) / 4 * 4 = 4 * k := by omega
  have m0 : 4 * k % 4 = 0 := by omega
  have m1 : (4 * k + 1) % 4 = 1 := by omega
  have m2 : (4 * k + 2) % 4 = 2 := by omega
  have m3 : (4 * k + 3) % 4 = 3 := by omega
  have m4 : (4 * k + 4) % 4 = 0 := by omega
  have m5 : (4 * k + 5) % 4 = 1 := by omega
  have m6 : (4 * k + 6) % 4 = 2 := by omega
  rw [d0, d1, d2, d3]
  simp only [Nat.add_assoc, Nat.reduceAdd, m0, m1, m2, m3, m4, m5, m6, Nat.add_zero, and_self]
theorem xors (p q r s : Nat) (hp : p < 256) (hq : q < 256) (hr : r < 256) (hs : s < 256) :
    ∃ pq pqr al qr rs sp pa qa ra sa : Nat, pq < 256 ∧ qr < 256 ∧ rs < 256 ∧ sp < 256 ∧
    bits .xor .u8 (p : Int) (q : Int) = (pq : Int) ∧ bits .xor .u8 (pq : Int) (r : Int) = (pqr : Int) ∧ bits .xor .u8 (pqr : Int) (s : Int) = (al : Int) ∧
    bits .xor .u8 (q : Int) (r : Int) = (qr : Int) ∧ bits .xor .u8 (r : Int) (s : Int) = (rs : Int) ∧ bits .xor .u8 (s : Int) (p : Int) = (sp : Int) ∧
    bits .xor .u8 (p : Int) (al : Int) = (pa : Int) ∧ bits .xor .u8 (q : Int) (al : Int) = (qa : Int) ∧ bits .xor .u8 (r : Int) (al : Int) = (ra : Int) ∧ bits .xor .u8 (s : Int) (al : Int) = (sa : Int) ∧
    bits .xor .u8 (pa : Int) ((dbl pq : Nat) : Int) = ((mixA p q r s : Nat) : Int) ∧ bits .xor .u8 (qa : Int) ((dbl qr : Nat) : Int) = ((mixA q r s p : Nat) : Int) ∧
    bits .xor .u8 (ra : Int) ((dbl rs : Nat) : Int) = ((mixA r s p q : Nat) : Int) ∧ bits .xor .u8 (sa : Int) ((dbl sp : Nat) : Int) = ((mixA s p q r : Nat) : Int) := by
  have lpq := xor8 hp hq
  have lpqr := xor8 lpq hr
  have lal := xor8 lpqr hs
  refine ⟨p ^^^ q, p ^^^ q ^^^ r, p ^^^ q ^^^ r ^^^ s, q ^^^ r, r ^^^ s, s ^^^ p, p ^^^ (p ^^^ q ^^^ r ^^^ s), q ^^^ (p ^^^ q ^^^ r ^^^ s), r ^^^ (p ^^^ q ^^^ r ^^^ s), s ^^^ (p ^^^ q ^^^ r ^^^ s), lpq, xor8 hq hr, xor8 hr hs, xor8 hs hp,
    u8_xor_nat _ _ hp hq, u8_xor_nat _ _ lpq hr, u8_xor_nat _ _ lpqr hs, u8_xor_nat _ _ hq hr, u8_xor_nat _ _ hr hs, u8_xor_nat _ _ hs hp, u8_xor_nat _ _ hp lal, u8_xor_nat _ _ hq lal, u8_xor_nat _ _ hr lal, u8_xor_nat _ _ hs lal, ?_, ?_, ?_, ?_⟩
  · rw [u8_xor_nat _ _ (xor8 hp lal) (dbl_lt _ lpq), mix_short p q r s hp hq hr hs]
  · rw [u8_xor_nat _ _ (xor8 hq lal) (dbl_lt _ (xor8 hq hr)), ← mix_short q r s p hq hr hs hp, show p ^^^ q ^^^ r ^^^ s = q ^^^ r ^^^ s ^^^ p by ac_rfl]
  · rw [u8_xor_nat _ _ (xor8 hr lal) (dbl_lt _ (xor8 hr hs)), ← mix_short r s p q hr hs hp hq, show p ^^^ q ^^^ r ^^^ s = r ^^^ s ^^^ p ^^^ q by ac_rfl]
  · rw [u8_xor_nat _ _ (xor8 hs lal) (dbl_lt _ (xor8 hs hp)), ← mix_short s p q r hs hp hq hr, show p ^^^ q ^^^ r ^^^ s = s ^^^ p ^^^ q ^^^ r by ac_rfl]
set_option maxRecDepth 100000 in
set_option maxHeartbeats 1000000 in
theorem mixColumns_any (B : List UInt8) (w : World) (hB : B.length = 16) :
    Calls Tryz.prog 158 #[.agg (bvals B).toArray] w fun e w' => e = .returned (.agg (bvals (colL B)).toArray) ∧ Below w.heap.size w w' := by
  have hzv : ∀ w, (zeroValue 206).run Tryz.prog w = .ok (.agg (vals .u8 (List.replicate 16 0)).toArray) w := fun _ => by kernel_rfl
  obtain ⟨Z, hZ⟩ : ∃ x, (vals .u8 (List.replicate 16 0)).toArray = x := ⟨_, rfl⟩
  rw [hZ] at hzv
  have hZs : Z.size = 16 := by rw [← hZ]; simp [vals]
  have hAl : (colL B).length = B.length := by rw [colL_len, hB]
  have hst := PR.start w 206 16 (bvals B).toArray Z (nats B) (by rw [vals_nats]) hZs (by rw [nats_len, hB])
  have hCs : (bvals B).toArray.size = 16 := by simp [bvals, hB]
  obtain ⟨C, hC⟩ : ∃ C, (bvals B).toArray = C := ⟨_, rfl⟩
  rw [hC] at hst hCs ⊢
  have hget := col_four B
  obtain ⟨A, hA⟩ : ∃ A, colL B = A := ⟨_, rfl⟩
  rw [hA] at hAl hget ⊢
  have hAl6 : A.length = 16 := by rw [hAl, hB]
  have HST := hide hst
  have HG := hide hget
  have HL := hide (And.intro hAl (And.intro hB hAl6))
  clear hst hget hAl hAl6 hB hA hC hZ
  go_enter Tryz.func158, Tryz.ntmps158
  go_wp2_with fail
  go_loopw [3] (fun i wr => ∃ k : Nat, k ≤ 4 ∧ i = .int .i64 ((4 * k : Nat) : Int) ∧ PR w 206 16 (nats (doneTo A B (4 * k))) wr) (fun i _ => (17 - intOf i).toNat)
  case atStart => exact ⟨0, by omega, rfl, by rw [Nat.mul_zero, doneTo_zero]; exact HST.out⟩
  case round =>
    clear HST hzv
    obtain ⟨k, hk4, rfl, hr⟩ := hrel
    by_cases hlt : k < 4
    · have hAB := HL.out.1
      have hB := HL.out.2.1
      obtain ⟨g0, g1, g2, g3⟩ := HG.out k hlt
      have c0 := hr.cell (4 * k) (by omega)
      have c1 := hr.cell (4 * k + 1) (by omega)
      have c2 := hr.cell (4 * k + 2) (by omega)
      have c3 := hr.cell (4 * k + 3) (by omega)
      rw [nats_get, doneTo_get A B _ _ hAB (by omega) (by omega)] at c0 c1 c2 c3
      obtain ⟨pq, pqr, al, qr, rs, sp, pa, qa, ra, sa, lpq, lqr, lrs, lsp, e1, e2, e3, e4, e5, e6, e7, e8, e9, e10, x0, x1, x2, x3⟩ := xors _ _ _ _ (UInt8.toNat_lt (B.getD (4 * k) 0)) (UInt8.toNat_lt (B.getD (4 * k + 1) 0)) (UInt8.toNat_lt (B.getD (4 * k + 2) 0)) (UInt8.toNat_lt (B.getD (4 * k + 3) 0))
      rw [← g0] at x0
      rw [← g1] at x1
      rw [← g2] at x2
      rw [← g3] at x3
      clear g0 g1 g2 g3
      obtain ⟨z0, hz0⟩ : ∃ m, (A.getD (4 * k) 0).toNat = m := ⟨_, rfl⟩
      obtain ⟨z1, hz1⟩ : ∃ m, (A.getD (4 * k + 1) 0).toNat = m := ⟨_, rfl⟩
      obtain ⟨z2, hz2⟩ : ∃ m, (A.getD (4 * k + 2) 0).toNat = m := ⟨_, rfl⟩
      obtain ⟨z3, hz3⟩ : ∃ m, (A.getD (4 * k + 3) 0).toNat = m := ⟨_, rfl⟩
      rw [hz0] at x0
      rw [hz1] at x1
      rw [hz2] at x2
      rw [hz3] at x3
      have hsets : ∀ wd, PR w 206 16 (nats (doneTo A B (4 * k))) wd → ∃ v0 v1 v2 v3 : Nat,
          wd.cell? ⟨w.heap.size, 4 * k, none⟩ = some (.int .u8 (v0 : Int)) ∧ wd.frozen? ⟨w.heap.size, 4 * k, none⟩ = false ∧
          (wd.setCell ⟨w.heap.size, 4 * k, none⟩ (.int .u8 (z0 : Int))).cell? ⟨w.heap.size, 4 * k + 1, none⟩ = some (.int .u8 (v1 : Int)) ∧ (wd.setCell ⟨w.heap.size, 4 * k, none⟩ (.int .u8 (z0 : Int))).frozen? ⟨w.heap.size, 4 * k + 1, none⟩ = false ∧
          ((wd.setCell ⟨w.heap.size, 4 * k, none⟩ (.int .u8 (z0 : Int))).setCell ⟨w.heap.size, 4 * k + 1, none⟩ (.int .u8 (z1 : Int))).cell? ⟨w.heap.size, 4 * k + 2, none⟩ = some (.int .u8 (v2 : Int)) ∧ ((wd.setCell ⟨w.heap.size, 4 * k, none⟩ (.int .u8 (z0 : Int))).setCell ⟨w.heap.size, 4 * k + 1, none⟩ (.int .u8 (z1 : Int))).frozen? ⟨w.heap.size, 4 * k + 2, none⟩ = false ∧
          (((wd.setCell ⟨w.heap.size, 4 * k, none⟩ (.int .u8 (z0 : Int))).setCell ⟨w.heap.size, 4 * k + 1, none⟩ (.int .u8 (z1 : Int))).setCell ⟨w.heap.size, 4 * k + 2, none⟩ (.int .u8 (z2 : Int))).cell? ⟨w.heap.size, 4 * k + 3, none⟩ = some (.int .u8 (v3 : Int)) ∧ (((wd.setCell ⟨w.heap.size, 4 * k, none⟩ (.int .u8 (z0 : Int))).setCell ⟨w.heap.size, 4 * k + 1, none⟩ (.int .u8 (z1 : Int))).setCell ⟨w.heap.size, 4 * k + 2, none⟩ (.int .u8 (z2 : Int))).frozen? ⟨w.heap.size, 4 * k + 3, none⟩ = false ∧
          PR w 206 16 (nats (doneTo A B (4 * (k + 1)))) ((((wd.setCell ⟨w.heap.size, 4 * k, none⟩ (.int .u8 (z0 : Int))).setCell ⟨w.heap.size, 4 * k + 1, none⟩ (.int .u8 (z1 : Int))).setCell ⟨w.heap.size, 4 * k + 2, none⟩ (.int .u8 (z2 : Int))).setCell ⟨w.heap.size, 4 * k + 3, none⟩ (.int .u8 (z3 : Int))) := by
        intro wd hd
        have s0 := hd.set (4 * k) (A.getD (4 * k) 0).toNat
        rw [doneTo_set A B _ hAB (by omega), hz0] at s0
        have s1 := s0.set (4 * k + 1) (A.getD (4 * k + 1) 0).toNat
        rw [doneTo_set A B _ hAB (by omega), hz1] at s1
        have s2 := s1.set (4 * k + 2) (A.getD (4 * k + 2) 0).toNat
        rw [doneTo_set A B (4 * k + 2) hAB (by omega), hz2] at s2
        have s3 := s2.set (4 * k + 3) (A.getD (4 * k + 3) 0).toNat
        rw [doneTo_set A B (4 * k + 3) hAB (by omega), hz3] at s3
        exact ⟨_, _, _, _, hd.cell (4 * k) (by omega), hd.row.frozen _, s0.cell (4 * k + 1) (by omega), s0.row.frozen _, s1.cell (4 * k + 2) (by omega), s1.row.frozen _, s2.cell (4 * k + 3) (by omega), s2.row.frozen _, s3⟩
      have HSE := hide hsets
      clear hsets hz0 hz1 hz2 hz3
      have HR := hide hr
      clear hr hAB hB
      generalize (B.getD (4 * k) 0).toNat = b0 at *
      generalize (B.getD (4 * k + 1) 0).toNat = b1 at *
      generalize (B.getD (4 * k + 2) 0).toNat = b2 at *
      generalize (B.getD (4 * k + 3) 0).toNat = b3 at *
      obtain ⟨n1, hn1⟩ : ∃ m, 4 * k + 1 = m := ⟨_, rfl⟩
      obtain ⟨n2, hn2⟩ : ∃ m, 4 * k + 2 = m := ⟨_, rfl⟩
      obtain ⟨n3, hn3⟩ : ∃ m, 4 * k + 3 = m := ⟨_, rfl⟩
      obtain ⟨n, hn0⟩ : ∃ m, 4 * k = m := ⟨_, rfl⟩
      have HN4 := hide (show ((4 * (k + 1) : Nat) : Int) = (n : Int) + 4 by omega)
      rw [hn3, hn2, hn1, hn0] at HSE
      rw [hn0] at HR
      rw [hn1] at c1
      rw [hn2] at c2
      rw [hn3] at c3
      rw [hn0] at c0 ⊢
      have i1 : (n : Int) + 1 = (n1 : Int) := by omega
      have i2 : (n : Int) + 2 = (n2 : Int) := by omega
      have i3 : (n : Int) + 3 = (n3 : Int) := by omega
      have y1 : IntKind.i64.wrap ((n : Int) + 1) = (n1 : Int) := by rw [i1]; exact wrap_i64_nat _ (by omega)
      have y2 : IntKind.i64.wrap ((n : Int) + 2) = (n2 : Int) := by rw [i2]; exact wrap_i64_nat _ (by omega)
      have y3 : IntKind.i64.wrap ((n : Int) + 3) = (n3 : Int) := by rw [i3]; exact wrap_i64_nat _ (by omega)
      have l0 : (n : Int) < 16 := by omega
      have l1 : (n1 : Int) < 16 := by omega
      have l2 : (n2 : Int) < 16 := by omega
      have l3 : (n3 : Int) < 16 := by omega
      have HKK := hide (And.intro hk4 hlt)
      clear hn0 hn1 hn2 hn3 hk4 hlt
      go_wp2_with fail
      go_region
      have hrd := HR.out.drew
      clear HR c0 c1 c2 c3
      generalize wr.drew = wd at *
      obtain ⟨v0, v1, v2, v3, c0, f0, c1, f1, c2, f2, c3, f3, hfin⟩ := HSE.out wd hrd
      have HF := hide hfin
      clear HSE hrd hfin
      go_wp2_with fail
      refine (double_any pq _ lpq).mono ?_
      rintro e w1 ⟨rfl, rfl⟩
      clear e1 e2 e3 e7
      go_wp2_with fail
      refine (double_any qr _ lqr).mono ?_
      rintro e w1 ⟨rfl, rfl⟩
      clear e4 e8 c0 f0 x0
      go_wp2_with fail
      refine (double_any rs _ lrs).mono ?_
      rintro e w1 ⟨rfl, rfl⟩
      clear e5 e9 c1 f1 x1
      go_wp2_with fail
      refine (double_any sp _ lsp).mono ?_
      rintro e w1 ⟨rfl, rfl⟩
      go_wp2_with fail
      go_roundw
      case rel => exact ⟨k + 1, by have := HKK.out.2; omega, by rw [HN4.out], HF.out⟩
      case measure => simp [intOf]; omega
    · have hk16 : k = 4 := by omega
      subst hk16
      have hd : doneTo A B (4 * 4) = A := by
        have := doneTo_all A B HL.out.1
        rwa [HL.out.2.2] at this
      rw [hd] at hr
      have hra := row_range hr.row
      rw [vals_nats] at hra
      have hth := hr.res
      have hvl : (bvals A).length = 16 := by rw [bvals_len]; exact HL.out.2.2
      have hb := hr.bel
      have hone : ∀ v ∈ bvals A, v.oneCell' = true := by rw [← vals_nats]; exact vals_one _ _
      generalize hV : bvals A = V at *
      have HI := hide (show (Tryz.prog.info? 206).map (·.size) = some V.length from by rw [hvl]; kernel_rfl)
      have hb1 : Below w.heap.size w (wr.setCells (w.heap.size + 1) 0 V) := hb.trans (below_setCells wr w.heap.size _ 0 V (by omega))
      have hrr := World.rangeAt_setCells_same wr (w.heap.size + 1) 0 V (by rw [hvl]; exact hth)
      have HV := hide hvl
      clear hvl hr hlt hd HG
      simp only [show ((4 * 4 : Nat) : Int) = 16 from rfl]
      go_wp2_with (first | refine wpList_load_mid rfl 206 _ rfl w.heap.size 0 rfl V _ hra Tryz.underlying206 rfl HI.out ?_ | refine wpList_store_mid rfl 206 _ _ rfl (w.heap.size + 1) 0 V.toArray rfl rfl (by simpa [HV.out] using hth) (by simpa using HI.out) (all_oneCell_toArray hone) ?_)
      exact bodyPost_ret (v := .agg V.toArray) (results_cell_mid Tryz.results158 _ _ (w.heap.size + 1) 0 V _ rfl hrr Tryz.underlying206 rfl HI.out) rfl ⟨by rw [hV], hb1⟩
end Go.Proofs.YtjnhlkaafnaooabGreatDoor
