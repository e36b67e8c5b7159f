import Derived.Test.YtjnhlkaafnaooabGreatDoorProgW
namespace Go.Proofs.YtjnhlkaafnaooabGreatDoor
open Go.RowKit
theorem ones8_split (v : Nat) : onesL v 8 = onesL (v / 4294967296) 4 ++ onesL v 4 := by
  simp only [onesL, List.nil_append, List.cons_append, Nat.div_div_eq_div_mul]
theorem ones4_mod (v : Nat) : onesL (v % 4294967296) 4 = onesL v 4 := by
  simp only [onesL, List.nil_append, List.cons_append, Nat.div_div_eq_div_mul]
  have h1 : v % 4294967296 % 256 = v % 256 := by omega
  have h2 : v % 4294967296 / 256 % 256 = v / 256 % 256 := by omega
  have h3 : v % 4294967296 / (256 * 256) % 256 = v / (256 * 256) % 256 := by omega
  have h4 : v % 4294967296 / (256 * 256 * 256) % 256 = v / (256 * 256 * 256) % 256 := by omega
  rw [h1, h2, h3, h4]

theorem make_cap32 (w : World) : (Instr.makeSlice 52 (.int .i64 0) (.int .i64 32)).run Tryz.prog w = .ok (.slice (some ⟨w.heap.size, 0, none⟩) 0 32) (w.alloc (.cells (madeCells #[.int .u8 0] 32) 5)) := by
  obtain ⟨i0, hi, hz0, hz1, hz2⟩ := info_parts info_u8
  have hr := run_make (P := Tryz.prog) w 52 5 i0 (.int .u8 0) Tryz.underlying52 hi hz0 .i64 .i64 0 32 (by omega) (by omega) (by rw [hz2]; decide) (by decide)
  rw [hr]
  simp [hz1]
  rfl
set_option maxRecDepth 100000 in
set_option maxHeartbeats 1000000 in
theorem padding_any (n : Nat) (w : World) (hn : n ≤ 1000000) :
    Calls Tryz.prog 111 #[.int .u64 (n : Int)] w fun e w' => e = .returned (.string ⟨(padL n).toArray⟩) ∧ Below w.heap.size w w' := by
  obtain ⟨i0, hi, hz0, hz1, hz2⟩ := info_parts info_u8
  have hni : (n : Int) ≤ 1000000 := by omega
  obtain ⟨z, hz⟩ : ∃ z, padZ n = z := ⟨_, rfl⟩
  have hzl : z < 64 := by rw [← hz]; exact padZ_lt n
  have hzi : (119 - (n : Int) % 64) % 64 = (z : Int) := by rw [← hz]; unfold padZ; omega
  have HZ := hide hz
  clear hn hz
  go_enter Tryz.func111, Tryz.ntmps111
  go_wp2_with fail
  rw [hzi]
  clear hzi
  go_loopw [4, 5] (fun v i wr => ∃ k g cap : Nat, k ≤ z ∧ i = .int .u64 (k : Int) ∧ v = .slice (some ⟨g, 0, none⟩) (k + 1) cap ∧ wr.ownsRow w.heap.size 5 1 (.slice (some ⟨g, 0, none⟩) (k + 1) cap) (k + 1) (bvals (128 :: List.replicate k 0)) ∧ Below w.heap.size w wr) (fun _ i _ => (65 - intOf i).toNat)
  case atStart => exact ⟨0, w.heap.size, 1, by omega, rfl, rfl, World.ownsRow_lit (size := 1) w _ 1 (Nat.le_refl _) (by decide) rfl, (Below.refl _ _).alloc (Nat.le_refl _) _⟩
  case round =>
    obtain ⟨k, g, cap, hk, rfl, rfl, hown, hbel⟩ := hrel
    have hsz := hbel.size
    by_cases hlt : k < z
    · have hki : (k : Int) < (z : Int) := by omega
      go_wp2_with (at_builtin; refine wpList_append_lies _ rfl _ _ 52 rfl w.heap.size 5 i0 (.int .u8 0) 1 1 Tryz.underlying52 hi hz0 hz1 hz2 rfl (by decide) _ _ _ rfl (hown.alloc _) ⟨wr.heap.size, 0, none⟩ 1 1 [.int .u8 0] rfl rfl ?c1 ?c2 (by decide) ?c3 ?c4 ?c5 _ rfl ?_)
      case c1 => exact World.news_of_block (cs := #[.int .u8 0]) (heap_alloc_new wr _)
      case c2 => intro u hu; simp at hu; subst hu; rfl
      case c3 => unfold maxLen; omega
      case c4 => omega
      case c5 => simp; omega
      intro g2 cap2 w2 hown2 hgrow hlie hg2
      have hbel2 : Below w.heap.size w w2 := Below.grown (hbel.alloc hsz _) hgrow (by simp; omega) (fun k hk => (hown.lt k hk).1)
      have hown3 : w2.ownsRow w.heap.size 5 1 (.slice (some ⟨g2, 0, none⟩) (k + 1 + 1) cap2) (k + 1 + 1) (bvals (128 :: List.replicate (k + 1) 0)) := by
        have e : (128 :: List.replicate (k + 1) 0 : List UInt8) = (128 :: List.replicate k 0) ++ [0] := by simp [List.replicate_succ']
        rw [e, bvals_append]; exact hown2
      clear hown2 hgrow hlie hown hbel
      go_wp2_with fail
      go_roundw
      case rel => first
        | exact ⟨k + 1, g2, cap2, by omega, by go_num, rfl, hown3, hbel2⟩
        | ((repeat apply Exists.intro); exact ⟨⟨k + 1, g2, cap2, by omega, by go_num, rfl, hown3, hbel2⟩, rfl⟩)
      case measure => simp [intOf]; omega
    · have hkz : k = z := by omega
      subst hkz
      go_wp2_with fail
      have e1 : (n : Int) * 8 / 4294967296 = ((8 * n / 4294967296 : Nat) : Int) := by omega
      rw [e1]
      refine (numberText_any _ _ (by omega)).mono ?_
      rintro e w1 ⟨rfl, hb1⟩
      have hown1 := owns_below hown hb1
      have hbel1 := hbel.trans (hb1.mono hsz)
      have hsz1 := hbel1.size
      clear e1 hown hbel hsz hb1 hlt hk
      obtain ⟨o1, ho1⟩ : ∃ l, onesL (8 * n / 4294967296) 4 = l := ⟨_, rfl⟩
      have hl1 : o1.length = 4 := by rw [← ho1, onesL_len]
      rw [ho1]
      have hs1 : (ByteArray.mk o1.toArray).size = 4 := by simpa [ByteArray.size] using hl1
      go_wp2_with (at_builtin; refine Lib.wpList_append_own_string _ rfl _ _ 52 9 rfl w.heap.size 5 i0 Tryz.underlying52 Tryz.underlying9 hi hz0 hz1 hz2 _ _ _ rfl hown1 ⟨o1.toArray⟩ rfl ?f1 ?f2 hsz1 ?_)
      case f1 => rw [hs1]; unfold maxLen; omega
      case f2 => rw [hs1]; omega
      intro v2 w2 hown2 hgrow2 hnil2
      rw [strCells_eq, ← bvals_append] at hown2
      have hbel2 : Below w.heap.size w w2 := Below.grown hbel1 hgrow2 hsz1 (fun k hk => (hown1.lt k hk).1)
      have hsz2 := hbel2.size
      obtain ⟨g2, cap2, hv2⟩ := own_form hown2 (by omega)
      subst hv2
      clear hown1 hbel1 hgrow2 hnil2 hs1
      go_wp2_with fail
      have e1 : (n : Int) * 8 = ((8 * n : Nat) : Int) := by omega
      rw [e1]
      refine (numberText_any _ _ (by omega)).mono ?_
      rintro e w3 ⟨rfl, hb3⟩
      have hown3 := owns_below hown2 hb3
      have hbel3 := hbel2.trans (hb3.mono hsz2)
      have hsz3 := hbel3.size
      clear e1 hown2 hbel2 hsz2 hb3
      obtain ⟨o2, ho2⟩ : ∃ l, onesL (8 * n) 4 = l := ⟨_, rfl⟩
      have hl2 : o2.length = 4 := by rw [← ho2, onesL_len]
      rw [ho2]
      have hs2 : (ByteArray.mk o2.toArray).size = 4 := by simpa [ByteArray.size] using hl2
      have hfin : (128 :: (List.replicate k 0 ++ o1)) ++ o2 = padL n := by rw [padL_eq, HZ.out, ones8_split, ho1, ho2]; simp
      have HF := hide hfin
      clear hfin ho1 ho2
      go_wp2_with (at_builtin; refine Lib.wpList_append_own_string _ rfl _ _ 52 9 rfl w.heap.size 5 i0 Tryz.underlying52 Tryz.underlying9 hi hz0 hz1 hz2 _ _ _ rfl hown3 ⟨o2.toArray⟩ rfl ?g1 ?g2 hsz3 ?_)
      case g1 => rw [hs2]; unfold maxLen; omega
      case g2 => rw [hs2]; omega
      intro v4 w4 hown4 hgrow4 hnil4
      rw [strCells_eq, ← bvals_append, HF.out] at hown4
      have hbel4 : Below w.heap.size w w4 := Below.grown hbel3 hgrow4 hsz3 (fun k hk => (hown3.lt k hk).1)
      obtain ⟨g4, cap4, hv4⟩ := own_form hown4 (by omega)
      subst hv4
      have hcv := conv_own hown4 (by rw [padL_len, HZ.out])
      clear hown3 hbel3 hgrow4 hnil4 hs2
      go_wp2_with fail
      go_ret
      exact ⟨rfl, hbel4⟩

def stvT (s : St) : Array Value := #[.int .u32 (s.a : Int), .int .u32 (s.b : Int), .int .u32 (s.c : Int), .int .u32 (s.d : Int), .int .u32 (s.e : Int), .int .u32 (s.f : Int), .int .u32 (s.g : Int), .int .u32 (s.h : Int)]
theorem stvT_eq (s : St) : stvT s = (vals .u32 s.list).toArray := rfl
set_option maxRecDepth 100000 in
set_option maxHeartbeats 1000000 in
theorem wordsText_any (st : St) (w : World) (hok : st.ok) :
    Calls Tryz.prog 112 #[.agg (stvT st)] w fun e w' => e = .returned (.string ⟨(digest st).toArray⟩) ∧ Below w.heap.size w w' := by
  obtain ⟨i0, hi, hz0, hz1, hz2⟩ := info_parts info_u8
  have hmk : ∀ w, (Instr.makeSlice 52 (.int .i64 0) (.int .i64 32)).run Tryz.prog w = .ok (.slice (some ⟨w.heap.size, 0, none⟩) 0 32) (w.alloc (.cells (madeCells #[.int .u8 0] 32) 5)) := fun w => make_cap32 w
  have hst0 : ∀ o, (((w.alloc (.cells (stvT st) 145)).alloc o)).heap[w.heap.size]? = some (.cells (vals .u32 st.list).toArray 145 (0, 0)) := fun o => by
    rw [Below.heap_alloc _ _ _ (by simp)]; exact heap_alloc_new w _
  have HST := hide hst0
  clear hst0
  have hs8 : (stvT st).size = 8 := rfl
  generalize stvT st = SV at *
  go_enter Tryz.func112, Tryz.ntmps112
  go_wp2_with fail
  go_loopw [3, 4] (fun v i wr => ∃ k g cap : Nat, k ≤ 8 ∧ i = .int .i64 (k : Int) ∧ v = .slice (some ⟨g, 0, none⟩) (4 * k) cap ∧ wr.ownsRow (w.heap.size + 1) 5 1 (.slice (some ⟨g, 0, none⟩) (4 * k) cap) (4 * k) (bvals (digTo st k)) ∧ Cells wr w.heap.size .u32 st.list ∧ Below w.heap.size w wr) (fun _ i _ => (9 - intOf i).toNat)
  case atStart =>
    refine ⟨0, w.heap.size + 1, 32, by omega, rfl, rfl, ?_, Cells.of_block (HST.out _), ((Below.refl _ _).alloc (Nat.le_refl _) _).alloc (by simp) _⟩
    have := World.ownsRow_made (base := w.heap.size + 1) (e := 5) (size := 1) (w.alloc (.cells SV 145)) (madeCells #[.int .u8 0] 32) 32 (by simp) (by decide) (by simp [size_madeCells])
    simpa [digTo, bvals] using this
  case round =>
    clear HST hmk
    obtain ⟨k, g, cap, hk, rfl, rfl, hown, hst, hbel⟩ := hrel
    have hsz := hbel.size
    by_cases hlt : k < 8
    · have hki : (k : Int) < 8 := by omega
      have cx := hst.at_ k (by simpa [St.list] using hlt)
      have hx := list_lt st hok k hlt
      have hds := digTo_succ st k hlt
      generalize st.list.getD k 0 = x at *
      have HX := hide hx
      have HD := hide hds
      clear hx hds
      go_wp2_with fail
      refine (numberText_any x _ HX.out).mono ?_
      rintro e w1 ⟨rfl, hb1⟩
      have hown1 := owns_below hown hb1
      have hst1 := hst.below hb1 hst.lt
      have hbel1 := hbel.trans (hb1.mono hsz)
      have hsz1 : w.heap.size + 1 ≤ w1.heap.size := by have := hst1.lt; omega
      obtain ⟨o1, ho1⟩ : ∃ l, onesL x 4 = l := ⟨_, rfl⟩
      have hl1 : o1.length = 4 := by rw [← ho1, onesL_len]
      rw [ho1] at HD ⊢
      have hs1 : (ByteArray.mk o1.toArray).size = 4 := by simpa [ByteArray.size] using hl1
      clear hown hst hbel hsz hb1 cx ho1
      go_wp2_with (at_builtin; refine Lib.wpList_append_own_string _ rfl _ _ 52 9 rfl (w.heap.size + 1) 5 i0 Tryz.underlying52 Tryz.underlying9 hi hz0 hz1 hz2 _ _ _ rfl hown1 ⟨o1.toArray⟩ rfl ?f1 ?f2 hsz1 ?_)
      case f1 => rw [hs1]; unfold maxLen; omega
      case f2 => rw [hs1]; omega
      intro v2 w2 hown2 hgrow2 hnil2
      rw [strCells_eq, ← bvals_append, ← HD.out] at hown2
      have hbel2 : Below w.heap.size w w2 := Below.grown hbel1 hgrow2 (by omega) (fun k hk => by have := (hown1.lt k hk).1; omega)
      have hst2 : Cells w2 w.heap.size .u32 st.list := hst1.grown hgrow2 (fun e => by have := (hown1.lt _ e).1; omega)
      obtain ⟨g2, cap2, hv2⟩ := own_form hown2 (by omega)
      subst hv2
      clear hown1 hbel1 hgrow2 hnil2 hs1 hst1
      have e4 : 4 * k + 4 = 4 * (k + 1) := by omega
      rw [e4] at hown2
      go_wp2_with fail
      go_roundw
      case rel => first
        | exact ⟨k + 1, g2, cap2, by omega, by go_num, by rw [e4], hown2, hst2, hbel2⟩
        | ((repeat apply Exists.intro); exact ⟨⟨k + 1, g2, cap2, by omega, by go_num, by rw [e4], hown2, hst2, hbel2⟩, rfl⟩)
      case measure => simp [intOf]; omega
    · have hk8 : k = 8 := by omega
      subst hk8
      have hcv := conv_own hown (by rw [digTo_len st 8 (by omega)])
      go_wp2_with fail
      go_ret
      exact ⟨rfl, hbel⟩
end Go.Proofs.YtjnhlkaafnaooabGreatDoor
