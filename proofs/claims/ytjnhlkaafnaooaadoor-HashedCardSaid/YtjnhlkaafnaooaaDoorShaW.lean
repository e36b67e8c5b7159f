import Derived.Test.YtjnhlkaafnaooaaDoorStepW
namespace Go.Proofs.YtjnhlkaafnaooaaDoor
open Go.RowKit
theorem ones8 (v : Nat) (w : World) (h : v < 1099511627776) : Calls Tryd.prog 23 #[.int .i64 (v : Int), .int .i64 8] w fun e w' => e = .returned (.string ⟨(onesL v 8).toArray⟩) ∧ Below w.heap.size w w' := ones_any 8 v w (by decide) h
theorem ones4 (v : Nat) (w : World) (h : v < 1099511627776) : Calls Tryd.prog 23 #[.int .i64 (v : Int), .int .i64 4] w fun e w' => e = .returned (.string ⟨(onesL v 4).toArray⟩) ∧ Below w.heap.size w w' := ones_any 4 v w (by decide) h

def padTo (t : List UInt8) (j : Nat) : List UInt8 := t ++ 128 :: List.replicate j 0
theorem padTo_len (t : List UInt8) (j : Nat) : (padTo t j).length = t.length + 1 + j := by simp [padTo]; omega
theorem padTo_succ (t : List UInt8) (j : Nat) : padTo t (j + 1) = padTo t j ++ [0] := by simp [padTo, List.replicate_succ']
def sizeOfStr : Value → Nat
  | .string s => s.size
  | _ => 0
set_option maxRecDepth 100000 in
set_option maxHeartbeats 4000000 in
theorem refSha_any (pb gh ch gk ck gs cs : Nat) (t : List UInt8) (w : World) (hp : PrimIn w pb gh ch gk ck gs cs) (ht : t.length ≤ 1000000) :
    Calls Tryd.prog 10 #[.pointer (some ⟨pb, 0, none⟩), .string ⟨t.toArray⟩] w fun e w' => e = .returned (.string ⟨(shaL t).toArray⟩) ∧ Below w.heap.size w w' := by
  obtain ⟨i0, hi, hz0, hz1, hz2⟩ := info_parts info_int
  obtain ⟨n, hn⟩ : ∃ n, t.length = n := ⟨_, rfl⟩
  have hz := padZ_lt n
  have HN := hide hn
  have hni : (n : Int) ≤ 1000000 := by omega
  have a1 := fun w => add_str t [128] (by simp; omega) w
  go_enter Tryd.func10, Tryd.ntmps10
  go_wp2_with fail
  go_loop [1] (fun v => ∃ j : Nat, j ≤ padZ n ∧ v = .string ⟨(padTo t j).toArray⟩) (fun v => 1000100 - sizeOfStr v)
  case atStart => exact ⟨0, by omega, rfl⟩
  case round =>
    clear a1
    obtain ⟨j, hj, rfl⟩ := hrel
    obtain ⟨pj, hpj⟩ : ∃ l, padTo t j = l := ⟨_, rfl⟩
    obtain ⟨m, hm⟩ : ∃ m, n + 1 + j = m := ⟨_, rfl⟩
    have hlen : pj.length = m := by rw [← hpj, padTo_len, hn, hm]
    have hpn := padTo_succ t j
    rw [hpj] at hpn ⊢
    by_cases hlt : j < padZ n
    · have hmiss := padZ_miss n j hlt
      rw [hm] at hmiss
      have hb : ((m : Int) % 64 != 56) = true := by rw [bne_iff_ne]; omega
      have a2 := fun w => add_str pj [0] (by simp [hlen]; omega) w
      rw [← hpn] at a2
      have hmi : (m : Int) ≤ 1000100 := by omega
      have HPJ := hide hpj
      have HM := hide hm
      have hms : m < 1000100 := by omega
      have hl2 := padTo_len t (j + 1)
      rw [hn] at hl2
      have HL2 := hide hl2
      clear hmiss hpn hpj hm hl2
      go_wp2_with fail
      go_round
      case rel => exact ⟨j + 1, by omega, rfl⟩
      case measure =>
        simp only [sizeOfStr]
        have := HL2.out
        have := HM.out
        simp only [ByteArray.size, List.size_toArray]
        omega
    · have hjz : j = padZ n := by omega
      subst hjz
      have hhit := padZ_hit n
      rw [hm] at hhit
      have hb : ((m : Int) % 64 != 56) = false := by rw [bne_eq_false_iff_eq]; omega
      have hfin : pj ++ onesL (8 * n) 8 = t ++ padL n := by rw [← hpj, padTo, padL_eq]; simp
      have HF := hide hfin
      have hmi : (m : Int) ≤ 1000100 := by omega
      have hms : m < 1000100 := by omega
      have a2 := fun w => add_str pj (onesL (8 * n) 8) (by rw [hlen, onesL_len]; omega) w
      rw [hfin] at a2
      clear hhit hpn hpj hfin hlt hj
      go_wp2_with fail
      have e8 : (8 : Int) * (n : Int) = ((8 * n : Nat) : Int) := by omega
      rw [e8]
      refine (ones8 (8 * n) _ (by omega)).mono ?_
      rintro e w1 ⟨rfl, hb1⟩
      clear e8
      have hp1 := hp.below hb1
      have cp0 := hp1.c0
      have hz1' := hb1.size
      go_wp2_with (at_builtin; refine wpList_append_lies _ rfl _ _ 22 rfl w1.heap.size 3 i0 (.int .i64 0) 1 8 Tryd.underlying22 hi hz0 hz1 hz2 rfl (by decide) _ 0 [] rfl (World.ownsRow_nil _ _ _ _) ⟨gh, 0, none⟩ 8 ch (vals .i64 hWords) rfl rfl ?d1 ?d2 (by decide) ?d3 ?d4 ?d5 _ rfl ?_)
      case d1 => exact news_cells hp1.h
      case d2 => exact vals_one _ _
      case d3 => unfold maxLen; omega
      case d4 => omega
      case d5 => omega
      intro gv cv w2 hown hgrow hlie hg2
      have hbel : Below w.heap.size w w2 := hb1.grown hgrow hz1' (fun k hk => by simp [Value.ownBlock] at hk)
      have hst : Cells w2 gv .i64 startSt.list := Cells.of_own (xs := hWords) hown
      obtain ⟨T, hT⟩ : ∃ T, t ++ padL n = T := ⟨_, rfl⟩
      obtain ⟨nb, hnb⟩ : ∃ nb, (n + 72) / 64 = nb := ⟨_, rfl⟩
      have hTl : T.length = 64 * nb := by rw [← hT, List.length_append, padL_len, hn, blocks_eq, hnb]
      have hsha : shaL t = digest (takeIn startSt T nb) := by rw [shaL, hn, hT, hnb]
      have HSH := hide hsha
      rw [hT]
      have hnb2 : nb < 20000 := by omega
      have HT := hide hTl
      clear hown hgrow hlie hg2 cp0 hp1 hb1 hz1' hT hnb hsha HF a2 hb hlen hni hms hmi
      obtain ⟨L, hL⟩ : ∃ L, 64 * nb = L := ⟨_, rfl⟩
      have hLi : (L : Int) ≤ 2000000 := by omega
      rw [hL] at hTl
      have HL := hide hL
      clear hL HT hnb2
      go_wp2_with fail
      go_loopw [7, 8] (fun v i wr => ∃ k gv cv : Nat, k ≤ nb ∧ i = .int .i64 ((64 * k : Nat) : Int) ∧ v = .slice (some ⟨gv, 0, none⟩) 8 cv ∧ Cells wr gv .i64 (takeIn startSt T k).list ∧ Below w.heap.size w wr) (fun _ i _ => (L + 64 - intOf i).toNat)
      case atStart => exact ⟨0, gv, cv, by omega, rfl, rfl, hst, hbel⟩
      case round =>
        clear hst hbel
        obtain ⟨k, gv, cv, hk, rfl, rfl, hst, hbel⟩ := hrel
        have hok := takeIn_ok T startSt startSt_ok k
        have hsz := hbel.size
        by_cases hlt : k < nb
        · have hnx : takeIn startSt T (k + 1) = comp (takeIn startSt T k) ((T.drop (64 * k)).take 64) := rfl
          obtain ⟨c, hc⟩ : ∃ c, 64 * k = c := ⟨_, rfl⟩
          have hp2 := hp.below hbel
          have hex : (ByteArray.mk T.toArray).extract c (c + 64) = ⟨((T.drop c).take 64).toArray⟩ := by
            rw [ByteArray.extract_mk, show c + 64 - c = 64 from by omega]
          have hsize : (ByteArray.mk ((T.drop c).take 64).toArray).size = 64 := by
            simp only [ByteArray.size, List.size_toArray, List.length_take, List.length_drop, hTl]; have := HL.out; omega
          rw [hc] at hnx ⊢
          have HNX := hide hnx
          have hcl : (c : Int) + 64 ≤ (L : Int) := by have := HL.out; omega
          have hcl2 : (c : Int) < (L : Int) := by omega
          have hci : (c : Int) ≤ 2000000 := by omega
          have HEX := hide hex
          have HSZ := hide hsize
          have HC := hide hc
          clear hnx hex hsize hc
          go_wp2_with fail
          rw [HEX.out]
          refine (step_any pb gh ch gk ck gs cs gv cv (takeIn startSt T k) _ wr hp2 hst hok HSZ.out).mono ?_
          rintro e w3 ⟨g3, c3, rfl, hc3, hb3⟩
          have hc4 : Cells w3 g3 .i64 (takeIn startSt T (k + 1)).list := by rw [HNX.out]; exact hc3
          have hbel3 := hbel.trans (hb3.mono hsz)
          clear hc3 hb3 hp2 hst
          go_wp2_with fail
          go_roundw
          case rel => first
            | exact ⟨k + 1, g3, c3, by omega, val_int (by have := HC.out; omega), rfl, hc4, hbel3⟩
            | ((repeat apply Exists.intro); exact ⟨⟨k + 1, g3, c3, by omega, val_int (by have := HC.out; omega), rfl, hc4, hbel3⟩, rfl⟩)
          case measure => simp [intOf]; omega
        · have hkn : k = nb := by omega
          subst hkn
          rw [HL.out]
          obtain ⟨R, hR⟩ : ∃ R, takeIn startSt T k = R := ⟨_, rfl⟩
          rw [hR] at hst hok HSH
          clear hR hlt hk
          go_wp2_with fail
          go_loopw [9, 10, 11] (fun v i _ wr => ∃ j : Nat, j ≤ 8 ∧ i = .int .i64 (j : Int) ∧ v = .string ⟨(digTo R j).toArray⟩ ∧ Cells wr gv .i64 R.list ∧ Below w.heap.size w wr) (fun _ i _ _ => (9 - intOf i).toNat)
          case atStart => exact ⟨0, by omega, rfl, rfl, hst, hbel⟩
          case round =>
            clear hst hbel hsz
            obtain ⟨j, hj, rfl, rfl, hst, hbel⟩ := hrel
            by_cases hlt : j < 8
            · have hji : (j : Int) < 8 := by omega
              have hx := list_lt R hok j hlt
              have cx := hst.at_ j (by simpa [St.list] using hlt)
              have hds := digTo_succ R j hlt
              have hdl := digTo_len R j hj
              generalize R.list.getD j 0 = x at *
              have a3 := fun w => add_str (digTo R j) (onesL x 4) (by rw [hdl, onesL_len]; omega) w
              rw [← hds] at a3
              have HX := hide hx
              clear hds hx
              go_wp2_with fail
              refine (ones4 x _ (by have := HX.out; omega)).mono ?_
              rintro e w4 ⟨rfl, hb4⟩
              have hst4 := hst.below hb4 hst.lt
              have hbel4 := hbel.trans (hb4.mono hbel.size)
              clear hst hbel hb4 cx
              go_wp2_with fail
              go_roundw
              case rel => exact ⟨j + 1, by omega, by go_num, rfl, hst4, hbel4⟩
              case measure => simp [intOf]; omega
            · have hj8 : j = 8 := by omega
              subst hj8
              go_wp2_with fail
              go_ret
              exact ⟨by rw [HSH.out]; rfl, hbel⟩
end Go.Proofs.YtjnhlkaafnaooaaDoor
