import Derived.Test.YtkhgkkkalanoiaaGreatDoorStretchW
namespace Go.Proofs.YtkhgkkkalanoiaaGreatDoor
open Go.RowKit
/-- 'string(t[:k])' of a slice of the call's own. -/
theorem conv_own_part {w : World} {base g cap n k : Nat} {e : TypeId} {l : List UInt8} (h : w.ownsRow base e 1 (.slice (some ⟨g, 0, none⟩) n cap) n (bvals l)) (hn : l.length = n) (hk : k ≤ n) :
    (convert 83 9 (.slice (some ⟨g, 0, none⟩) k cap)).run Tryz.prog w = .ok (.string ⟨(l.take k).toArray⟩) w := by
  subst hn
  have hl : (l.take k).length = k := by simp; omega
  have := run_convert_bytes_back (P := Tryz.prog) w 83 9 5 ⟨g, 0, none⟩ cap (l.take k) Tryz.underlying83 Tryz.underlying5 Tryz.underlying9 (fun j hj => by
    rw [hl] at hj
    rw [Addr.add_mid, Nat.zero_add, h.cellAt j (by omega)]
    simp [bvals, List.getElem?_eq_getElem (by omega : j < l.length)])
  rw [hl] at this
  exact this

set_option maxRecDepth 100000 in
set_option maxHeartbeats 2000000 in
theorem stretch_any (pass salt : List UInt8) (rounds size : Int) (w : World) (hk : Cells w 1 .u32 kWords) (h0 : Cells w 0 .u32 hWords) (hpl : pass.length ≤ 65536) (hsl : salt.length ≤ 65536) (hr : -1 ≤ rounds ∧ rounds ≤ 8) (hs : -2 ≤ size ∧ size ≤ 200) :
    Calls Tryz.prog 52 #[.string ⟨pass.toArray⟩, .string ⟨salt.toArray⟩, .int .i64 rounds, .int .i64 size] w fun e w' => e = .returned (.string ⟨(keyL pass salt rounds size.toNat).toArray⟩) ∧ Below w.heap.size w w' := by
  obtain ⟨i0, hi, hz0, hz1, hz2⟩ := info_parts info_u8
  obtain ⟨hs1, hs2⟩ := hs
  obtain ⟨n, hn⟩ : ∃ n, size.toNat = n := ⟨_, rfl⟩
  rw [hn]
  have hn200 : n ≤ 200 := by omega
  have hni : (n : Int) ≤ 200 := by omega
  have HR := hide hr
  have HSL := hide hsl
  have HKY := hide (keyed_any pass w hk h0 hpl)
  have hzv : ∀ w, (zeroValue 136).run Tryz.prog w = .ok (.agg (vals .u8 (List.replicate 32 0)).toArray) w := fun _ => by kernel_rfl
  obtain ⟨Z, hZ⟩ : ∃ x, (vals .u8 (List.replicate 32 0)).toArray = x := ⟨_, rfl⟩
  rw [hZ] at hzv
  have hZs : Z.size = 32 := by rw [← hZ]; rfl
  have hkl := hk.lt
  have hnil : ∀ w, (convert 83 9 (.slice none 0 0)).run Tryz.prog w = .ok (.string ⟨#[]⟩) w := fun _ => by kernel_rfl
  clear hr hsl hpl hZ
  go_enter Tryz.func52, Tryz.ntmps52
  by_cases hneg : size < 0
  · have hd : decide (size < 0) = true := by simpa using hneg
    have hn0 : n = 0 := by omega
    subst hn0
    go_wp2_with fail
    refine HKY.out.mono ?_
    rintro e w1 ⟨b, ist, ibuf, ost, obuf, rfl, hm, hbl, hbz, hti, hto, hoki, hoko, hb1⟩
    clear HKY hm hti hto hoki hoko hbl hbz hd hneg
    go_wp2_with fail
    go_loopw [10, 11, 12] (fun t i _ wr => t = .slice none 0 0 ∧ i = .int .u32 1 ∧ Below w.heap.size w wr) (fun _ _ _ _ => 0)
    case atStart => exact ⟨rfl, rfl, hb1⟩
    case round =>
      obtain ⟨rfl, rfl, hbel⟩ := hrel
      go_wp2_with fail
      go_ret
      exact ⟨rfl, hbel⟩
  · have hd : decide (size < 0) = false := by simpa using hneg
    have hsn : size = (n : Int) := by omega
    subst hsn
    go_wp2_with fail
    refine HKY.out.mono ?_
    rintro e w1 ⟨b, ist, ibuf, ost, obuf, rfl, hm, hbl, hbz, hti, hto, hoki, hoko, hb1⟩
    have hk1 := hk.below hb1 hkl
    clear HKY hd hneg hs1 hs2 hn
    have hzz1 := hb1.size
    go_wp2_with fail
    obtain ⟨T, hT⟩ : ∃ T, turnsOf rounds = T := ⟨_, rfl⟩
    have HT := hide hT
    clear hT
    go_loopw [10, 11, 12] (fun t i _ wr => ∃ (m : Nat) (ao : Option Addr) (cap : Nat), m ≤ (n + 31) / 32 ∧ i = .int .u32 ((m + 1 : Nat) : Int) ∧ t = .slice ao (32 * m) cap ∧ Hid (m = 0 → ao = none ∧ cap = 0) ∧ wr.ownsRow w1.heap.size 5 1 (.slice ao (32 * m) cap) (32 * m) (bvals (keyTo pass salt T m)) ∧ Below w1.heap.size w1 wr) (fun _ i _ _ => (10 - intOf i).toNat)
    case atStart => exact ⟨0, none, 0, by omega, rfl, rfl, fun _ => ⟨rfl, rfl⟩, World.ownsRow_nil _ _ _ _, Below.refl _ _⟩
    case round =>
      obtain ⟨m, ao, cap, hmn, rfl, rfl, hao, hown, hbel⟩ := hrel
      have hmr := hm.below hbel hbz
      have hkr := hk1.below hbel hk1.lt
      have hszr := hbel.size
      obtain ⟨q, hq⟩ : ∃ q, 32 * m = q := ⟨_, rfl⟩
      obtain ⟨i1, hi1⟩ : ∃ i1, m + 1 = i1 := ⟨_, rfl⟩
      rw [hq] at hown ⊢
      rw [hi1]
      by_cases hlt : q < n
      · have hqi : (q : Int) < (n : Int) := by omega
        have hi8 : i1 ≤ 8 := by omega
        have hi8i : (i1 : Int) ≤ 8 := by omega
        have hst := stretched_any b ist ost ibuf obuf pass salt i1 rounds wr hmr hti hto hoki hoko hkr HSL.out hi8 HR.out
        rw [HT.out] at hst
        have HST := hide hst
        have hnx : keyTo pass salt T (m + 1) = keyTo pass salt T m ++ sumL pass salt (m + 1) T := rfl
        have hlf := sumL_len pass salt i1 T
        rw [hi1] at hnx
        obtain ⟨F, hF⟩ : ∃ F, sumL pass salt i1 T = F := ⟨_, rfl⟩
        rw [hF] at hnx HST hlf
        have hone : ∀ v ∈ bvals F, v.oneCell' = true := by rw [← vals_nats]; exact vals_one _ _
        have hcl : ∀ v ∈ bvals F, v.cells = #[v] := by
          intro v hv
          simp only [bvals, List.mem_map] at hv
          obtain ⟨x, _, rfl⟩ := hv
          rfl
        have hvl : (bvals F).length = 32 := by rw [bvals_len, hlf]
        have hba := bvals_append (keyTo pass salt T m) F
        rw [← hnx] at hba
        obtain ⟨V, hV⟩ : ∃ V, bvals F = V := ⟨_, rfl⟩
        rw [hV] at hone hcl hvl hba HST
        have HI' := hide (show (Tryz.prog.info? 136).map (·.size) = some V.toArray.size from by rw [List.size_toArray, hvl]; kernel_rfl)
        have HV := hide hvl
        have HBA := hide hba
        have HNX := hide hnx
        have HCL := hide hcl
        clear hst hnx hlf hF hV hvl hba hcl hmr hkr
        go_wp2_with fail
        refine HST.out.mono ?_
        rintro e w2 ⟨rfl, hb2⟩
        clear HST
        have hblk := setCells_all w2 136 Z V (by rw [hZs, HV.out])
        have hbW : Below wr.heap.size wr ((w2.alloc (.cells Z 136)).setCells w2.heap.size 0 V) :=
          (hb2.alloc hb2.size _).trans (below_setCells _ _ _ _ _ hb2.size)
        have hown3 := owns_below hown hbW
        have hszW : ((w2.alloc (.cells Z 136)).setCells w2.heap.size 0 V).heap.size = w2.heap.size + 1 := by rw [(setCells_block _ _ _ _).1]; simp
        have hbel3 : Below w1.heap.size w1 ((w2.alloc (.cells Z 136)).setCells w2.heap.size 0 V) := hbel.trans (hbW.mono hszr)
        have hsz2 := hb2.size
        have HBLK := hide hblk
        have HBEL3 := hide hbel3
        have HOWN3 := hide hown3
        have HSZW := hide hszW
        clear hblk hbW hown3 hszW hbel3 hown hbel hb2
        go_wp2_with (first | refine wpList_store_mid rfl 136 _ _ rfl w2.heap.size 0 V.toArray rfl rfl ?c0 HI'.out (all_oneCell_toArray hone) ?_ | (at_builtin; refine wpList_append_lies _ rfl _ _ 83 rfl w1.heap.size 5 i0 (.int .u8 0) 1 1 Tryz.underlying83 hi hz0 hz1 hz2 rfl (by decide) _ _ _ rfl HOWN3.out ⟨w2.heap.size, 0, none⟩ 32 32 V rfl (by rw [HV.out]) ?c1 ?c2 (by decide) ?c3 ?c4 ?c5 _ rfl ?_))
        case c0 =>
          have e : V.toArray.size = Z.size := by rw [hZs]; simpa using HV.out
          rw [e]
          exact there_new w2 _ _
        case c1 => exact World.news_of_block (cs := V.toArray) HBLK.out
        case c2 => exact hone
        case c3 => unfold maxLen; omega
        case c4 => omega
        case c5 => rw [HSZW.out]; omega
        intro g2 cap2 w4 hown4 hgrow hlie hg2
        have hbel4 : Below w1.heap.size w1 w4 := Below.grown HBEL3.out hgrow (by rw [HSZW.out]; omega) (fun k hk => (HOWN3.out.lt k hk).1)
        rw [← HBA.out] at hown4
        have hq32 : q + 32 = 32 * i1 := by omega
        rw [hq32] at hown4 ⊢
        have HFIN := hide (And.intro hown4 hbel4)
        clear hown4 hbel4 hgrow hlie HBA HNX HCL HBLK HBEL3 HOWN3 HSZW
        go_wp2_with fail
        go_roundw
        case rel => first
          | exact ⟨m + 1, some ⟨g2, 0, none⟩, cap2, by omega, by go_num, by rw [hi1], fun h => by omega, by rw [hi1]; exact HFIN.out.1, HFIN.out.2⟩
          | ((repeat apply Exists.intro); exact ⟨⟨m + 1, some ⟨g2, 0, none⟩, cap2, by omega, by go_num, by rw [hi1], fun h => by omega, by rw [hi1]; exact HFIN.out.1, HFIN.out.2⟩, rfl⟩)
        case measure => simp [intOf]; omega
      · have hm2 : m = (n + 31) / 32 := by omega
        have hlen := keyTo_len pass salt T m
        rw [hq] at hlen
        have hkey : (keyTo pass salt T m).take n = keyL pass salt rounds n := by unfold keyL; rw [HT.out, ← hm2]
        have hbw : Below w.heap.size w wr := hb1.trans (hbel.mono hzz1)
        have hqn : ¬ (q : Int) < (n : Int) := by omega
        have hq3 : (q : Int) ≤ 300 := by omega
        have hnq : (n : Int) ≤ (q : Int) := by omega
        rcases Nat.eq_zero_or_pos m with hm0 | hmp
        · have hn0 : n = 0 := by omega
          have hq0 : q = 0 := by omega
          obtain ⟨rfl, rfl⟩ := hao.out hm0
          subst hn0
          subst hq0
          clear hkey hm2 hlen hown hqn hnq hq3 hmr hkr
          go_wp2_with fail
          go_ret
          exact ⟨rfl, hbw⟩
        · obtain ⟨g, cap', hv⟩ := own_form hown (by omega)
          cases hv
          have hcv := conv_own_part hown hlen (by omega : n ≤ q)
          rw [hkey] at hcv
          have hqc : q ≤ cap := by
            rcases hown.2 with ⟨_, h0⟩ | ⟨g', cap'', cur, hv, h1, h2, h3, h4⟩
            · omega
            · cases hv; omega
          have hnc : (n : Int) ≤ (cap : Int) := by omega
          have hao' := hao
          clear hkey hm2 hlen hown hmr hkr hao hao'
          obtain ⟨R, hR⟩ : ∃ R, keyL pass salt rounds n = R := ⟨_, rfl⟩
          rw [hR] at hcv
          have HRR := hide hR
          clear hR
          go_wp2_with fail
          go_ret
          exact ⟨by rw [HRR.out]; rfl, hbw⟩
end Go.Proofs.YtkhgkkkalanoiaaGreatDoor
