import Derived.Test.YtjnhlkaafnaooaaDoorSumW
import Derived.Test.YtjnhlkaafnaooaaDoorShaW
namespace Go.Proofs.YtjnhlkaafnaooaaDoor
open Go.RowKit
/-- What the walk is told of a slice of integers that came in. -/
def IsRow (k : IntKind) (w : World) (a : Option Addr) (len cap : Nat) (zs : List Int) : Prop :=
  (a = none ∧ len = 0 ∧ cap = 0 ∧ zs = []) ∨
  ∃ x, a = some x ∧ len ≤ cap ∧ cap ≤ maxLen ∧ zs.length = cap ∧ (∀ i, i < zs.length → w.cell? (x.add i) = some (.int k (zs.getD i 0))) ∧ ∀ n ∈ zs, (Lit.int k n).wf = true

theorem wf_i64 {n : Int} (h : (Lit.int .i64 n).wf = true) : -9223372036854775808 ≤ n ∧ n ≤ 9223372036854775807 := by
  have := h
  simp [Lit.wf, IntKind.min, IntKind.max, IntKind.bits, IntKind.signed] at this
  omega

set_option maxRecDepth 100000 in
set_option maxHeartbeats 1000000 in
theorem pick_any (c : Int) (n : Nat) (w : World) (hc : -9223372036854775808 ≤ c ∧ c ≤ 9223372036854775807) (hn1 : 1 ≤ n) (hn2 : n ≤ 100000) :
    Calls Tryd.prog 7 #[.int .i64 c, .int .i64 (n : Int)] w fun e w' => ∃ k : Nat, k < n ∧ e = .returned (.int .i64 (k : Int)) ∧ w' = w := by
  obtain ⟨c1, c2⟩ := hc
  have hn0 : ((n : Int) == 0) = false := by rw [beq_eq_false_iff_ne]; omega
  by_cases h : c < 0
  · obtain ⟨d, hd⟩ : ∃ d : Nat, (d : Int) = -(c + 1) := ⟨(-(c + 1)).toNat, by omega⟩
    have e1 : wrap64 (c + 1) = c + 1 := by unfold wrap64; omega
    have e2 : wrap64 (-(c + 1)) = (d : Int) := by unfold wrap64; omega
    have E2 := hide e2
    have e3 : ((d : Int)).tmod (n : Int) = ((d % n : Nat) : Int) := by rw [Int.tmod_eq_emod_of_nonneg (by omega)]; rfl
    have hm : d % n < n := Nat.mod_lt _ (by omega)
    have h' : decide (c < 0) = true := by simpa using h
    have E3 := hide e3
    have E1 := hide e1
    clear hd c1 c2 e1 e2 e3
    go_enter Tryd.func7, Tryd.ntmps7
    go_wp2
    go_ret
    exact ⟨d % n, hm, ret_int (by rw [E1.out, E2.out]; exact E3.out), rfl⟩
  · obtain ⟨d, hd⟩ : ∃ d : Nat, c = (d : Int) := ⟨c.toNat, by omega⟩
    subst hd
    have e3 : ((d : Int)).tmod (n : Int) = ((d % n : Nat) : Int) := by rw [Int.tmod_eq_emod_of_nonneg (by omega)]; rfl
    have hm : d % n < n := Nat.mod_lt _ (by omega)
    clear c1 c2
    go_enter Tryd.func7, Tryd.ntmps7
    go_wp2
    go_ret
    exact ⟨d % n, hm, ret_int (by simp), rfl⟩

theorem extract_left (r : ByteArray) (k : Nat) (_hk : k ≤ r.size) : (r.extract 0 k).data.toList ++ (r.extract k r.size).data.toList = r.data.toList := by
  rw [extract_list, extract_list, List.take_of_length_le (l := r.data.toList.drop k) (by simp)]
  simp
theorem extract_len (r : ByteArray) (a b : Nat) (hb : b ≤ r.size) (hab : a ≤ b) : (r.extract a b).size = b - a := by
  rw [ByteArray.size_extract]; omega

set_option maxRecDepth 100000 in
set_option maxHeartbeats 4000000 in
theorem hashed_small (a0 : ByteArray) (a1 : Option Addr) (len1 cap1 : Nat) (w : World) (hs : a0.size ≤ 65536) (hl : len1 ≤ 65536)
    (hcell : ∀ i, i < len1 → ∃ (b off : Nat) (z : Int), a1 = some ⟨b, off, none⟩ ∧ b < w.heap.size ∧ w.cell? ⟨b, off + i, none⟩ = some (.int .i64 z) ∧ -9223372036854775808 ≤ z ∧ z ≤ 9223372036854775807)
    (hk : Cells w 1 .u32 kWords) (h0 : Cells w 0 .u32 hWords) :
    Calls Tryd.prog 3 #[.string a0, .slice a1 len1 cap1] w fun e w' => e = .returned (.bool true) ∧ Below w.heap.size w w' := by
  have t1 : decide ((65536 : Int) < (a0.size : Int)) = false := by simp; omega
  have t2 : decide ((65536 : Int) < (len1 : Int)) = false := by simp; omega
  have hkl := hk.lt
  have HCELL := hide hcell
  have HS := hide hs
  have HL := hide hl
  clear hcell hs hl
  go_enter Tryd.func3, Tryd.ntmps3
  go_wp2_with fail
  refine (constants_any _).mono ?_
  rintro e w1 ⟨rfl, gh, ch, gk, ck, gs, cs, hci⟩
  have hp1 := hci.prim
  have hbel1 := hci.bel
  have hz1 := hci.lt
  have hk1 := hk.below hbel1 hk.lt
  have h01 := h0.below hbel1 h0.lt
  clear hci t1 t2
  go_wp2_with fail
  refine (start_any _ h01).mono ?_
  rintro e w2 ⟨rfl, hh2, hb2⟩
  have hbel2 : Below w.heap.size w w2 := hbel1.trans (hb2.mono (by omega))
  go_wp2_with fail
  have hz2 := hh2.lt
  go_loopw [7, 8, 9, 10, 11] (fun rv i _ _ _ wr => ∃ (k : Nat) (r : ByteArray) (T : List UInt8) (st : St) (buf : List UInt8), k ≤ len1 ∧ i = .int .i64 (k : Int) ∧ rv = .string r ∧ Hid (T ++ r.data.toList = a0.data.toList) ∧ HashAt wr w1.heap.size st buf T.length ∧ Taken st buf T ∧ st.ok ∧ Below w1.heap.size w1 wr) (fun _ i _ _ _ _ => len1 - (intOf i).toNat)
  case atStart => exact ⟨0, a0, [], startSt, _, by omega, rfl, rfl, rfl, hh2, Taken.start, startSt_ok, hb2⟩
  case round =>
    clear hh2 hb2 hbel2 hz2
    obtain ⟨k, r, T, st, buf, hkl1, rfl, rfl, hTr, hh, htk, hok, hbw⟩ := hrel
    have hzw := hh.lt
    have hpr := hp1.below hbw
    have hkr := hk1.below hbw hk1.lt
    have h0r := h01.below hbw h01.lt
    have hbel : Below w.heap.size w wr := hbel1.trans (hbw.mono (by omega))
    have hTl : T.length + r.size = a0.size := by
      have := congrArg List.length hTr.out
      simpa using this
    have hTl2 : T.length + r.size ≤ 65536 := by have := HS.out; omega
    by_cases hlt : k < len1
    · --<A>
      have hki : (k : Int) < (len1 : Int) := by omega
      have hkb : (k : Int) ≤ 65536 := by have := HL.out; omega
      obtain ⟨b, off, z, rfl, hbw2, hc, hzb1, hzb2⟩ := HCELL.out k hlt
      have hcr : wr.cell? ⟨b, off + k, none⟩ = some (.int .i64 z) := (hbel.cell (p := ⟨b, off + k, none⟩) hbw2).trans hc
      have hri : (r.size : Int) ≤ 65536 := by omega
      have HZ := hide (And.intro hzb1 hzb2)
      have HT2 := hide hTl2
      have HT1 := hide hTl
      clear hc hzb1 hzb2 hTl2 hTl
      go_wp2_with fail
      have e1 : (r.size : Int) + 1 = ((r.size + 1 : Nat) : Int) := by omega
      rw [e1]
      refine (pick_any z (r.size + 1) _ HZ.out (by omega) (by have := HT2.out; omega)).mono ?_
      rintro e w3 ⟨m, hm, rfl, rfl⟩
      clear e1 hcr
      have hmr : (m : Int) ≤ (r.size : Int) := by omega
      have hx1 : (r.extract 0 m).size = m := by rw [extract_len r 0 m (by omega) (by omega)]; omega
      have hwr := write_any w1.heap.size st buf T (r.extract 0 m) w3 hh htk hok hkr (by omega) (by rw [hx1]; have := HT2.out; omega)
      rw [hx1] at hwr
      have HWR := hide hwr
      clear hwr hx1
      go_wp2_with fail
      refine HWR.out.mono ?_
      rintro e w4 ⟨rfl, st4, buf4, hh4, htk4, hok4, hkp4⟩
      have hbw4 : Below w1.heap.size w1 w4 := hkp4.below hbw (Nat.le_refl _) (by omega)
      have hk4 := hkp4.cells hkr (by omega)
      have hz4 := hh4.lt
      obtain ⟨T4, hT4⟩ : ∃ x, T ++ (r.extract 0 m).data.toList = x := ⟨_, rfl⟩
      obtain ⟨r4, hr4⟩ : ∃ x, r.extract m r.size = x := ⟨_, rfl⟩
      have hm2 : m ≤ r.size := by omega
      have hTr4 : T4 ++ r4.data.toList = a0.data.toList := by rw [← hT4, ← hr4, List.append_assoc, extract_left r m hm2]; exact hTr.out
      have hT4l : T.length + m = T4.length := by rw [← hT4, List.length_append, extract_list]; simp; omega
      have hr4s : r4.size = r.size - m := by rw [← hr4]; exact extract_len r m r.size (by omega) hm2
      rw [hT4] at htk4
      rw [hT4l] at hh4
      have HTR4 := hide hTr4
      have HT4L := hide hT4l
      have HR4S := hide hr4s
      have hr4i : (r4.size : Int) ≤ 65536 := by omega
      clear HWR hT4 hTr4 hT4l hr4s hh htk hok hkp4 hbw hpr hkr h0r hTr
      by_cases h3 : k = 3
      · --<B>
        subst h3
        have hp4 := hp1.below hbw4
        have hT4s : T4.length ≤ 65536 := by have := HT4L.out; have := HT2.out; omega
        have hai : (a0.size : Int) ≤ 65536 := by have := HS.out; omega
        have hsub : a0.size - r4.size = T4.length := by have h1 := congrArg List.length HTR4.out; simp at h1; omega
        have hle : r4.size ≤ a0.size := by have h1 := congrArg List.length HTR4.out; simp at h1; omega
        have hext : a0.extract 0 T4.length = ⟨T4.toArray⟩ := by
          apply ByteArray.ext
          apply Array.toList_inj.1
          rw [extract_list, ← HTR4.out]
          simp
        have hle2 : T4.length ≤ a0.size := by omega
        have hei : (a0.size : Int) - (r4.size : Int) = (T4.length : Int) := by omega
        have HEX := hide hext
        have HT4S := hide hT4s
        have HHT := hide (And.intro hh4 htk4)
        clear hext hT4s hsub
        go_wp2_with fail
        refine (sum_any w1.heap.size st4 buf4 T4 w4 HHT.out.1 HHT.out.2 hok4 hk4 (by have := HT4S.out; omega)).mono ?_
        rintro e w5 ⟨rfl, hb5⟩
        have hp5 := hp4.below hb5
        have hz5 := hb5.size
        go_wp2_with fail
        rw [HEX.out]
        refine (refSha_any w.heap.size gh ch gk ck gs cs T4 w5 hp5 (by have := HT4S.out; omega)).mono ?_
        rintro e w6 ⟨rfl, hb6⟩
        have hbw6 : Below w1.heap.size w1 w6 := hbw4.trans ((hb5.mono (by omega)).trans (hb6.mono (by omega)))
        have hh6 : HashAt w6 w1.heap.size st4 buf4 T4.length := (HHT.out.1.below hb5 hz4).below hb6 (by omega)
        obtain ⟨D, hD⟩ : ∃ x, shaL T4 = x := ⟨_, rfl⟩
        rw [hD]
        clear hD
        go_wp2_with fail
        go_roundw
        case rel => first
          | exact ⟨3 + 1, r4, T4, st4, buf4, by omega, by go_num, rfl, HTR4.out, hh6, HHT.out.2, hok4, hbw6⟩
          | ((repeat apply Exists.intro); exact ⟨⟨3 + 1, r4, T4, st4, buf4, by omega, by go_num, rfl, HTR4.out, hh6, HHT.out.2, hok4, hbw6⟩, rfl⟩)
        case measure => simp [intOf]; omega
        --</B>
      · have h3b : ((k : Int) == 3) = false := by rw [beq_eq_false_iff_ne]; omega
        go_wp2_with fail
        go_roundw
        case rel => first
          | exact ⟨k + 1, r4, T4, st4, buf4, by omega, by go_num, rfl, HTR4.out, hh4, htk4, hok4, hbw4⟩
          | ((repeat apply Exists.intro); exact ⟨⟨k + 1, r4, T4, st4, buf4, by omega, by go_num, rfl, HTR4.out, hh4, htk4, hok4, hbw4⟩, rfl⟩)
        case measure => simp [intOf]; omega
      --</A>
    · have hkn : k = len1 := by omega
      subst hkn
      have hri : (r.size : Int) ≤ 65536 := by omega
      have hwr := write_any w1.heap.size st buf T r wr hh htk hok hkr (by omega) (by omega)
      rw [hTr.out] at hwr
      have HWR := hide hwr
      have ha0l : T.length + r.size = a0.data.toList.length := by simpa using hTl
      rw [ha0l] at HWR
      clear hwr hh htk hok hTr ha0l hTl
      go_wp2_with fail
      refine HWR.out.mono ?_
      rintro e w4 ⟨rfl, st4, buf4, hh4, htk4, hok4, hkp4⟩
      have hbw4 : Below w1.heap.size w1 w4 := hkp4.below hbw (Nat.le_refl _) (by omega)
      have hk4 := hkp4.cells hkr (by omega)
      have h04 := hkp4.cells h0r (by omega)
      have hp4 := hp1.below hbw4
      have hz4 := hh4.lt
      have hl0 : a0.data.toList.length ≤ 65536 := by simpa using HS.out
      have HL0 := hide hl0
      clear HWR hkp4 hbw hpr hkr h0r hl0
      go_wp2_with fail
      refine (sum_any w1.heap.size st4 buf4 a0.data.toList w4 hh4 htk4 hok4 hk4 (by have := HL0.out; omega)).mono ?_
      rintro e w5 ⟨rfl, hb5⟩
      have hp5 := hp4.below hb5
      have hz5 := hb5.size
      have hk5 := hk4.below hb5 hk4.lt
      have h05 := h04.below hb5 h04.lt
      go_wp2_with fail
      have hsh := refSha_any w.heap.size gh ch gk ck gs cs a0.data.toList w5 hp5 (by have := HL0.out; omega)
      rw [str_eta] at hsh
      refine hsh.mono ?_
      rintro e w6 ⟨rfl, hb6⟩
      have hk6 := hk5.below hb6 hk5.lt
      have h06 := h05.below hb6 h05.lt
      have hz6 := hb6.size
      clear hsh
      go_wp2_with fail
      refine (of_any a0 w6 hk6 h06 (by have := HS.out; omega)).mono ?_
      rintro e w7 ⟨rfl, hb7⟩
      have hfin : Below w.heap.size w w7 := hbel1.trans ((hbw4.mono (by omega)).trans ((hb5.mono (by omega)).trans ((hb6.mono (by omega)).trans (hb7.mono (by omega)))))
      obtain ⟨D, hD⟩ : ∃ x, shaL a0.data.toList = x := ⟨_, rfl⟩
      rw [hD]
      clear hD
      go_wp2_with fail
      go_ret
      exact ⟨rfl, hfin⟩
end Go.Proofs.YtjnhlkaafnaooaaDoor
