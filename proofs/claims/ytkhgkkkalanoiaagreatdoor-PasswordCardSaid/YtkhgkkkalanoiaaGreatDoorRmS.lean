import Derived.Test.YtkhgkkkalanoiaaGreatDoorRmR
import Derived.Test.YtkhgkkkalanoiaaGreatDoorRmO
namespace Go.Proofs.YtkhgkkkalanoiaaGreatDoor
open Go.RowKit
theorem ext_eq (t : List UInt8) (a b : Nat) : (ByteArray.mk t.toArray).extract a b = ⟨((t.drop a).take (b - a)).toArray⟩ := by
  apply ByteArray.ext
  simp [ByteArray.data_extract]
/-- Was a text written under a password? -/
def WroteBy (wr : List (Nat × List UInt8)) (ow : List (List UInt8)) (t pass : List UInt8) (i : Nat) : Prop := ∃ o y, ow[i]? = some o ∧ wr[i]? = some y ∧ y.2.take 128 = t.take 128 ∧ o = pass
open Classical in
noncomputable def forgedC (wr : List (Nat × List UInt8)) (ow : List (List UInt8)) (t pass : List UInt8) : Bool := if ∃ i, WroteBy wr ow t pass i then false else (macL (tagsL pass (slotSalt t)) (t.take 61) == (t.drop 61).take 32)
theorem forgedC_true {wr : List (Nat × List UInt8)} {ow : List (List UInt8)} {t pass : List UInt8} (h : pass ∉ ow) (hm : (macL (tagsL pass (slotSalt t)) (t.take 61) == (t.drop 61).take 32) = true) : forgedC wr ow t pass = true := by
  unfold forgedC
  rw [if_neg]
  · exact hm
  · rintro ⟨i, o, y, ho, _, _, rfl⟩
    exact h (List.mem_of_getElem? ho)
set_option maxRecDepth 100000 in
set_option maxHeartbeats 2000000 in
theorem forged_any (bW d b : Nat) (l : LM) (wr : List (Nat × List UInt8)) (sl tr ow : List (List UInt8)) (t pass : List UInt8) (w : World) (hl : LawSt w bW d b l wr sl tr ow) (hk : Cells w 1 .u32 kWords) (h0 : Cells w 0 .u32 hWords) (ht : t.length = 256) (hp : pass.length ≤ 40) (hwr : ∀ e ∈ wr, e.2.length = 256) (hlen : ow.length = wr.length) (hol : ow.length ≤ 1000) :
    Calls Tryz.prog 29 #[.pointer (some ⟨bW, 0, none⟩), .string ⟨t.toArray⟩, .string ⟨pass.toArray⟩] w fun e w' => e = .returned (.bool (forgedC wr ow t pass)) ∧ Below w.heap.size w w' := by
  have hts : (ByteArray.mk t.toArray).size = 256 := ht
  have hps : (ByteArray.mk pass.toArray).size = pass.length := rfl
  have c9 : w.cell? ⟨bW, 9, none⟩ = some l.wv := by rw [hl.at_.c 9]; rfl
  have c14 : w.cell? ⟨bW, 14, none⟩ = some l.ov := by rw [hl.at_.c 14]; rfl
  obtain ⟨ao, co, hvo⟩ := owns_form hl.o_
  rw [hvo] at c14
  have hx1 : (ByteArray.mk t.toArray).extract 0 128 = ⟨(t.take 128).toArray⟩ := by rw [ext_eq]; simp
  have hx3 : (ByteArray.mk t.toArray).extract 4 20 = ⟨(slotSalt t).toArray⟩ := by rw [ext_eq]; rfl
  have hx5 : (ByteArray.mk t.toArray).extract 0 61 = ⟨(t.take 61).toArray⟩ := by rw [ext_eq]; simp
  have hx6 : (ByteArray.mk t.toArray).extract 61 93 = ⟨((t.drop 61).take 32).toArray⟩ := by rw [ext_eq]
  have HH := hide (And.intro hl (And.intro hwr (And.intro hlen (And.intro hol hvo))))
  have HT := hide (And.intro hk (And.intro h0 (And.intro ht hp)))
  have holi : (ow.length : Int) ≤ 1000 := by omega
  have hpi : (pass.length : Int) ≤ 40 := by omega
  clear hl hk h0 ht hp hwr hlen hol hvo
  go_enter Tryz.func29, Tryz.ntmps29
  go_wp2_with fail
  go_loopw [7] (fun i wr' => ∃ k n : Nat, k ≤ ow.length ∧ i = .int .i64 (k : Int) ∧ wr' = w.drewN n ∧ ∀ i, i < k → ¬ WroteBy wr ow t pass i) (fun i _ => ow.length - (intOf i).toNat)
  case atStart => exact ⟨0, 0, by omega, rfl, rfl, fun i hi => by omega⟩
  case round =>
    obtain ⟨k, n, hkl, rfl, rfl, hnone⟩ := hrel
    have HNO := hide hnone
    clear hnone
    by_cases hlt : k < ow.length
    · obtain ⟨o, ho⟩ : ∃ o, ow[k]? = some o := ⟨ow[k], List.getElem?_eq_getElem hlt⟩
      obtain ⟨⟨pt, y⟩, hy⟩ : ∃ y, wr[k]? = some y := ⟨wr[k]'(by have := HH.out.2.2.1; omega), List.getElem?_eq_getElem _⟩
      have hyl : (ByteArray.mk y.toArray).size = 256 := HH.out.2.1 _ (List.mem_of_getElem? hy)
      obtain ⟨g, cap', hv', hgl, hcl, hcm, hcell⟩ := srow_cell HH.out.1.o_ (by rintro rfl; simp at hlt)
      rw [HH.out.2.2.2.2] at hv'
      simp only [Value.slice.injEq, true_and] at hv'
      obtain ⟨rfl, rfl⟩ := hv'
      obtain ⟨gw, cw, hvw, hgwl, hcwl, hcwm, hcellw⟩ := wrow_cell HH.out.1.w_ (by rintro rfl; have h := HH.out.2.2.1; rw [List.length_nil] at h; omega)
      rw [hvw, ← HH.out.2.2.1] at c9
      have ck := hcell k o ho
      have ckw := (hcellw k _ hy).2
      simp only at ckw
      have hx2 : (ByteArray.mk y.toArray).extract 0 128 = ⟨(y.take 128).toArray⟩ := by rw [ext_eq]; simp
      have hki : (k : Int) < (ow.length : Int) := by omega
      have HLT := hide hlt
      have HM := hide (And.intro ho hy)
      clear hcell hcellw hlt ho hy hcl hcwl hgl hgwl hvw hx3 hx5 hx6
      generalize hOL : ow.length = L at *
      generalize hYY : y.take 128 = Y at *
      generalize hTK : t.take 128 = T at *
      have HY := hide hYY
      have HTK := hide hTK
      clear hYY hTK
      by_cases h1 : (Y == T) = true
      · by_cases h2 : (o == pass) = true
        · go_wp2_with fail
          go_quiet (fail)
          go_wp2_with fail
          go_ret
          refine ⟨?_, below_drewN (below_drewN (Below.refl _ _) _) _⟩
          have : forgedC wr ow t pass = false := by
            unfold forgedC
            rw [if_pos ⟨k, o, _, HM.out.1, HM.out.2, by rw [HY.out, HTK.out]; exact beq_iff_eq.1 h1, beq_iff_eq.1 h2⟩]
          rw [this]
          rfl
        · have h2' : (o == pass) = false := by simpa using h2
          clear h2
          go_wp2_with fail
          go_quiet (fail)
          go_wp2_with fail
          go_roundw
          case rel => exact ⟨k + 1, n + nq, by have := HLT.out; omega, by go_num, by simp [World.drewN], fun i hi => by
            rcases Nat.lt_or_eq_of_le (Nat.le_of_lt_succ hi) with e | rfl
            · exact HNO.out i e
            · rintro ⟨o', y', h3, h4, _, rfl⟩
              rw [HM.out.1] at h3
              injection h3 with h3
              subst h3
              simp at h2'⟩
          case measure => have := HLT.out; simp [intOf]; omega
      · have h1' : (Y == T) = false := by simpa using h1
        clear h1
        go_wp2_with fail
        go_quiet (fail)
        go_wp2_with fail
        go_roundw
        case rel => exact ⟨k + 1, n + nq, by have := HLT.out; omega, by go_num, by simp [World.drewN], fun i hi => by
            rcases Nat.lt_or_eq_of_le (Nat.le_of_lt_succ hi) with e | rfl
            · exact HNO.out i e
            · rintro ⟨o', y', h3, h4, h5, _⟩
              rw [HM.out.2] at h4
              injection h4 with h4
              subst h4
              rw [HY.out, HTK.out] at h5
              subst h5
              simp at h1'⟩
        case measure => have := HLT.out; simp [intOf]; omega
    · obtain rfl : k = ow.length := by omega
      have hdl : decide ((ow.length : Int) < (ow.length : Int)) = false := by simp
      obtain ⟨w1, hw1⟩ : ∃ w1, w.drewN n = w1 := ⟨_, rfl⟩
      have hb1 : Below w.heap.size w w1 := hw1 ▸ below_drewN (Below.refl _ _) n
      have d14 : w1.cell? ⟨bW, 14, none⟩ = some (.slice ao ow.length co) := hw1 ▸ c14
      obtain ⟨hk, h0, ht, hp⟩ := HT.out
      have hk1 := hk.below hb1 hk.lt
      have h01 := h0.below hb1 h0.lt
      obtain ⟨w2, hw2⟩ : ∃ w2, w1.alloc (.cells #[.int .u8 (pass.length : Int)] 5) = w2 := ⟨_, rfl⟩
      have hrw : Row w2 w1.heap.size 5 .u8 [pass.length] := hw2 ▸ Row.new w1 _ _ [pass.length] _ rfl (fun i hi => by
        match i, hi with
        | 0, _ => simp)
      have hcv1 := conv_row (cap := 1) hrw
      simp only [List.map_cons, List.map_nil, List.length_cons, List.length_nil, Nat.zero_add] at hcv1
      have hb2 : Below w1.heap.size w1 w2 := hw2 ▸ (Below.refl _ _).alloc (Nat.le_refl _) _
      have hadd := fun w => add_str [UInt8.ofNat pass.length] pass (by simp; omega) w
      have hPP : [UInt8.ofNat pass.length] ++ pass = onesL pass.length 1 ++ pass := by rw [ones1]
      rw [hPP] at hadd
      have HST := hide (stretch_any (onesL pass.length 1 ++ pass) (slotSalt t) 3 64 w2 (hk1.below hb2 hk1.lt) (h01.below hb2 h01.lt) (by simp [onesL_len]; omega) (by simp [slotSalt]; omega) (by decide) (by decide))
      have hTS : keyL (onesL pass.length 1 ++ pass) (slotSalt t) 3 64 = stretchL pass (slotSalt t) := rfl
      rw [show (64 : Int).toNat = 64 from rfl, hTS] at HST
      have hsl : (ByteArray.mk (stretchL pass (slotSalt t)).toArray).size = 64 := keyL_len _ _ _ _
      have hx4 : (ByteArray.mk (stretchL pass (slotSalt t)).toArray).extract 0 32 = ⟨(tagsL pass (slotSalt t)).toArray⟩ := by rw [ext_eq]; rfl
      have htl := tagsL_len pass (slotSalt t)
      have HB := hide (And.intro (hb1.trans (hb2.mono hb1.size)) (And.intro hk h0))
      have HTL := hide htl
      generalize hTT : tagsL pass (slotSalt t) = TT at *
      generalize stretchL pass (slotSalt t) = ST at *
      have HTT := hide hTT
      clear hTT hTS
      generalize hSA : slotSalt t = SA at *
      have HSA := hide hSA
      clear hSA
      generalize onesL pass.length 1 ++ pass = PP at *
      clear hk h0 ht hp hb1 hb2 hk1 h01 hrw c9 c14 hx1 hlt hkl htl
      rw [hw1]
      clear hw1
      go_wp2_with fail
      refine HST.out.mono ?_
      rintro e w3 ⟨rfl, hb3⟩
      obtain ⟨hb2, hk, h0⟩ := HB.out
      have hb3' := hb2.trans (hb3.mono hb2.size)
      have HKD := hide (keyed_any TT w3 (hk.below hb3' hk.lt) (h0.below hb3' h0.lt) (by rw [HTL.out]; decide))
      have HB3 := hide (And.intro hb3' (And.intro hk h0))
      clear hb2 hk h0 hb3 hb3' HST HB hcv1 hadd
      go_wp2_with fail
      refine HKD.out.mono ?_
      rintro e w4 ⟨bt, ist, ibuf, ost, obuf, rfl, hm4, hbt, hbt2, ht1, ht2, ho1, ho2, hb4⟩
      obtain ⟨hb3, hk, h0⟩ := HB3.out
      have hm : MacFor w4 bt TT := ⟨ist, ibuf, ost, obuf, hm4, ht1, ht2, ho1, ho2⟩
      have hb4' := hb3.trans (hb4.mono hb3.size)
      have HS := hide (macFor_any bt TT (t.take 61) w4 hm (hk.below hb4' hk.lt) (by simp; omega))
      have HB4 := hide hb4'
      clear hb3 hk h0 hm4 ht1 ht2 ho1 ho2 hb4 hb4' hm HKD HB3
      go_wp2_with fail
      refine HS.out.mono ?_
      rintro e w5 ⟨rfl, hb5⟩
      have hb5' := HB4.out.trans (hb5.mono HB4.out.size)
      clear HS hb5
      go_wp2_with fail
      go_ret
      refine ⟨?_, hb5'⟩
      have hno : ¬ ∃ i, WroteBy wr ow t pass i := by
        rintro ⟨i, hi⟩
        have hil : i < ow.length := by
          obtain ⟨o, y, h1, _⟩ := hi
          exact (List.getElem?_eq_some_iff.1 h1).1
        exact HNO.out i hil hi
      have : forgedC wr ow t pass = (macL TT (t.take 61) == (t.drop 61).take 32) := by
        unfold forgedC
        rw [if_neg hno, HSA.out, HTT.out]
      rw [this]
      rfl
end Go.Proofs.YtkhgkkkalanoiaaGreatDoor

namespace Go.Proofs.YtkhgkkkalanoiaaGreatDoor
open Go.RowKit
theorem run_index_strs (oi : Oper) (a : Act) (x i : Operand) (g n c k : Nat) (ho : oi.op = .indexAddr 31 x i) (hx : a.eval x = .slice (some ⟨g, 0, none⟩) n c) (hi : a.eval i = .int .i64 (k : Int)) (hk : (k : Int) < (n : Int)) (w : World) :
    (execOp a.eval oi).run Tryz.prog w = .ok (.value (.pointer (some ⟨g, k, none⟩))) w := by
  unfold execOp
  simp only [ho, hx, hi]
  clear hx ho hi
  go_simp
theorem run_load_strs (oi : Oper) (a : Act) (x : Operand) (b o : Nat) (v : Value) (ho : oi.op = .load 31 x) (hx : a.eval x = .pointer (some ⟨b, o, none⟩)) (w : World) (hc : w.cell? ⟨b, o, none⟩ = some v) :
    (execOp a.eval oi).run Tryz.prog w = .ok (.value v) w := by
  unfold execOp
  simp only [ho, hx]
  clear hx ho
  go_simp
theorem row_cell {w : World} {v : Value} {n : Nat} {xs : List Value} (h : w.ownsRow 0 9 1 v n xs) (h0 : 0 < n) : ∃ g cap, v = .slice (some ⟨g, 0, none⟩) n cap ∧ g < w.heap.size ∧ ∀ i x, i < n → xs[i]? = some x → w.cell? ⟨g, i, none⟩ = some x := by
  rcases h.2 with ⟨_, hn⟩ | ⟨g, cap, cur, hv, _, hb, hle, hmx, hsz, htk⟩
  · omega
  · refine ⟨g, cap, hv, lt_of_block hb, fun i x hin hi => ?_⟩
    rw [cell_of_row _ _ _ _ _ _ hb, ← hi, ← htk, List.getElem?_take_of_lt (by omega)]
    simp
set_option maxRecDepth 100000 in
set_option maxHeartbeats 4000000 in
/-- A slot whose tag is right under a password that was tried, and under which nobody wrote it, is found. -/
theorem witness_any (bW d b : Nat) (l : LM) (ws : List (Nat × List UInt8)) (sl tr ow : List (List UInt8)) (a c : Nat) (t pass : List UInt8) (w : World) (hl : LawSt w bW d b l ws sl tr ow) (hk : Cells w 1 .u32 kWords) (h0 : Cells w 0 .u32 hWords) (hwr : ∀ e ∈ ws, e.2.length = 256) (htr : ∀ e ∈ tr, e.length ≤ 40) (hlen : ow.length = ws.length) (hol : ow.length ≤ 1000) (htl : tr.length ≤ 1000)
    (ha : (ws.map (·.2))[a]? = some t) (hc : tr[c]? = some pass) (hno : pass ∉ ow) (hmac : (macL (tagsL pass (slotSalt t)) (t.take 61) == (t.drop 61).take 32) = true) :
    Calls Tryz.prog 12 #[.pointer (some ⟨bW, 0, none⟩)] w fun e w' => e = .returned (.bool true) ∧ Below w.heap.size w w' := by
  obtain ⟨i0, hi, hz0, hz1, hz2⟩ := info_parts info_string
  have c9 : w.cell? ⟨bW, 9, none⟩ = some l.wv := by rw [hl.at_.c 9]; rfl
  have hW := hl.at_.lt
  obtain ⟨aw, cw, hvw⟩ := owns_form hl.w_
  rw [hvw] at c9
  have hrl : ws.length ≤ 1000 := by omega
  have hrli : (ws.length : Int) ≤ 1000 := by omega
  have htli : (tr.length : Int) ≤ 1000 := by omega
  have HP := hide (And.intro hl (And.intro hk (And.intro h0 (And.intro hwr (And.intro htr (And.intro hlen (And.intro hol hvw)))))))
  have HRL := hide (And.intro hrl htl)
  obtain ⟨ALL, hALL⟩ : ∃ ALL : List (List UInt8), ws.map (·.2) = ALL := ⟨_, rfl⟩
  rw [hALL] at ha
  have hAl : ALL.length = ws.length := by rw [← hALL, List.length_map]
  have hA256 : ∀ (i : Nat) (y : List UInt8), ALL[i]? = some y → y.length = 256 := fun i y hi => by
    rw [← hALL] at hi
    obtain ⟨e, he, rfl⟩ := List.mem_map.1 (List.mem_of_getElem? hi)
    exact hwr e he
  have hAat : ∀ (i pt : Nat) (y : List UInt8), ws[i]? = some (pt, y) → ALL[i]? = some y := fun i pt y hi => by
    rw [← hALL, List.getElem?_map, hi]; rfl
  have HQ := hide (And.intro ha (And.intro hc (And.intro hno hmac)))
  have HAL := hide (And.intro hAl (And.intro hA256 hAat))
  clear hl hk h0 hwr htr hlen hol htl ha hc hno hmac hvw hrl hALL hAl hA256 hAat
  go_enter Tryz.func12, Tryz.ntmps12
  go_wp2_with fail
  go_loopw [3, 4] (fun av i w' => ∃ k : Nat, k ≤ ws.length ∧ i = .int .i64 (k : Int) ∧ w'.ownsRow 0 9 1 av k ((ALL.map strV).take k) ∧ (∀ j, av.ownBlock = some j → w.heap.size ≤ j) ∧ Below w.heap.size w w') (fun _ i _ => ws.length - (intOf i).toNat)
  case atStart => exact ⟨0, by omega, rfl, by rw [List.take_zero]; exact World.ownsRow_nil _ _ _ _, (fun j hj => by cases hj), Below.refl _ _⟩
  case round =>
    obtain ⟨k, hk, rfl, hrow, hfar, hb⟩ := hrel
    obtain ⟨av2, cv2, hav⟩ := owns_form hrow
    subst hav
    by_cases hlt : k < ws.length
    · obtain ⟨⟨pt, y⟩, hy⟩ : ∃ y, ws[k]? = some y := ⟨ws[k], List.getElem?_eq_getElem hlt⟩
      obtain ⟨gw, cw', hvw', hgwl, hcwl, hcwm, hcellw⟩ := wrow_cell HP.out.1.w_ (by rintro rfl; simp at hlt)
      rw [HP.out.2.2.2.2.2.2.2] at hvw'
      simp only [Value.slice.injEq, true_and] at hvw'
      obtain ⟨rfl, rfl⟩ := hvw'
      have ckw := (hb.cell (p := ⟨gw, k * 2 + 1, none⟩) hgwl).trans (hcellw k _ hy).2
      have d9 := (hb.cell (p := ⟨bW, 9, none⟩) hW).trans c9
      simp only at ckw
      have hki : (k : Int) < (ws.length : Int) := by omega
      have hAk := HAL.out.2.2 k pt y hy
      have hsnoc : (ALL.map strV).take (k + 1) = (ALL.map strV).take k ++ [strV y] := by
        have hl' : k < (ALL.map strV).length := by rw [List.length_map, HAL.out.1]; exact hlt
        rw [List.take_succ_eq_append_getElem hl']
        congr 1
        have : (ALL.map strV)[k]? = some (strV y) := by rw [List.getElem?_map, hAk]; rfl
        rw [List.getElem?_eq_getElem hl'] at this
        rw [Option.some.inj this]
      have HD := hide (And.intro hrow (And.intro hfar (And.intro hb (And.intro hsnoc hlt))))
      clear hrow hfar hb hsnoc hlt hcellw hcwl hcwm hgwl hy hk c9 hAk
      generalize hWL : ws.length = WL at *
      go_wp2_with (at_builtin; refine wpList_append_lies _ rfl _ _ 31 rfl 0 9 i0 _ 1 16 Tryz.underlying31 hi hz0 hz1 hz2 rfl (by decide) (.slice av2 k cv2) k ((ALL.map strV).take k) rfl ?own ⟨wr.heap.size, 0, none⟩ 1 1 [strV y] rfl rfl ?c1 ?c2 (by decide) ?c3 ?c4 (Nat.zero_le _) _ rfl ?_)
      case own => exact HD.out.1.alloc _
      case c1 => exact World.news_of_block (cs := #[strV y]) (heap_alloc_new _ _)
      case c2 => intro u hu; simp at hu; subst hu; rfl
      case c3 => have := HRL.out.1; have := HD.out.2.2.2.2; unfold maxLen; omega
      case c4 => have := HRL.out.1; have := HD.out.2.2.2.2; omega
      intro g2 cap2 w2 hown2 hgrow hlie hg2
      obtain ⟨hrow, hfar, hb, hsnoc, hlt⟩ := HD.out
      have hbs := hb.size
      have hb2 : Below w.heap.size w w2 := Below.grown (Below.alloc hb hbs _) hgrow (by simp; omega) hfar
      have hrow2 : w2.ownsRow 0 9 1 (.slice (some ⟨g2, 0, none⟩) (k + 1) cap2) (k + 1) ((ALL.map strV).take (k + 1)) := by
        rw [hsnoc]
        exact hown2
      have hfar2 : ∀ j, (Value.slice (some ⟨g2, 0, none⟩) (k + 1) cap2).ownBlock = some j → w.heap.size ≤ j := fun j hj => by
        have e : g2 = j := by simpa [Value.ownBlock] using hj
        subst e
        rcases hlie with e | e
        · exact hfar g2 e
        · have : g2 = wr.heap.size + 1 := by simpa using e
          omega
      have HF := hide (And.intro hrow2 (And.intro hfar2 (And.intro hb2 hlt)))
      clear hrow hfar hb hsnoc hlt hown2 hgrow hlie hg2 hb2 hrow2 hfar2 hbs HD ckw d9
      go_wp2_with fail
      go_roundw
      case rel => first
        | exact ⟨k + 1, by have := HF.out.2.2.2; omega, by go_num, HF.out.1, HF.out.2.1, HF.out.2.2.1⟩
        | ((repeat apply Exists.intro); exact ⟨⟨k + 1, by have := HF.out.2.2.2; omega, by go_num, HF.out.1, HF.out.2.1, HF.out.2.2.1⟩, rfl⟩)
      case measure => have := HF.out.2.2.2; simp [intOf]; omega
    · have hkw : k = ws.length := by omega
      have htake : (ALL.map strV).take k = ALL.map strV := by rw [hkw, ← HAL.out.1]; exact List.take_of_length_le (by simp)
      rw [htake] at hrow
      have d9 := (hb.cell (p := ⟨bW, 9, none⟩) hW).trans c9
      have d15 : wr.cell? ⟨bW, 15, none⟩ = some (.slice none 0 0) := (hb.cell (p := ⟨bW, 15, none⟩) hW).trans (by rw [HP.out.1.at_.c 15]; rfl)
      have hne : ALL ≠ [] := fun e => by have h := HQ.out.1; rw [e] at h; simp at h
      have hall : ALL.length = k := by rw [HAL.out.1, hkw]
      have hrow' : SRow wr (.slice av2 k cv2) ALL := by rw [SRow, hall]; exact hrow
      obtain ⟨ga, ca, hva, hgal, hcal, hcam, hcella⟩ := srow_cell hrow' hne
      rw [hall] at hva
      simp only [Value.slice.injEq, true_and] at hva
      obtain ⟨rfl, rfl⟩ := hva
      have hal : a < k := by
        have := (List.getElem?_eq_some_iff.1 HQ.out.1).1
        omega
      obtain ⟨w1, hw1⟩ : ∃ w1, w1 = wr := ⟨_, rfl⟩
      subst hw1
      have hki : (k : Int) ≤ 1000 := by have := HRL.out.1; omega
      have HD := hide (And.intro hb (And.intro hcella (And.intro hall (And.intro hal hgal))))
      have HOWN := hide hrow
      clear hrow hrow' hfar hb htake hk hkw c9 hne hcella hall hal hgal hcal hcam
      generalize hWL : ws.length = WL at *
      go_wp2_with (at_builtin; refine wpList_append_own_none rfl _ _ 31 rfl 0 9 i0 1 Tryz.underlying31 hi _ _ _ rfl HOWN.out rfl ?_)
      go_wp2_with fail
      go_loopw [5, 6, 7, 8, 9, 10] (fun sv i _ _ _ _ w' => ∃ q : Nat, q ≤ a ∧ i = .int .i64 (q : Int) ∧ w'.ownsRow 0 9 1 sv q ((ALL.map (fun y => strV (shaL y))).take q) ∧ (∀ j, sv.ownBlock = some j → w1.heap.size ≤ j) ∧ Below w1.heap.size w1 w') (fun _ i _ _ _ _ _ => a + 1 - (intOf i).toNat)
      case atStart => exact ⟨0, by omega, rfl, by rw [List.take_zero]; exact World.ownsRow_nil _ _ _ _, (fun j hj => by cases hj), Below.refl _ _⟩
      case round =>
        obtain ⟨q, hq, rfl, hrow, hfar, hb⟩ := hrel
        obtain ⟨asv, csv, hsv⟩ := owns_form hrow
        subst hsv
        obtain ⟨hbw, hcella, hall, hal, hgal⟩ := HD.out
        obtain ⟨y, hy⟩ : ∃ y, ALL[q]? = some y := ⟨ALL[q]'(by omega), List.getElem?_eq_getElem _⟩
        have hyl := HAL.out.2.1 q y hy
        have ck : wr.cell? ⟨ga, q, none⟩ = some (strV y) := (hb.cell (p := ⟨ga, q, none⟩) hgal).trans (hcella q y hy)
        have hqi : (q : Int) < (k : Int) := by omega
        have hqn : q < k := by omega
        have hb0 : Below w.heap.size w wr := hbw.trans (hb.mono hbw.size)
        have HOF := hide (of_any ⟨y.toArray⟩ wr (HP.out.2.1.below hb0 HP.out.2.1.lt) (HP.out.2.2.1.below hb0 HP.out.2.2.1.lt) (by show y.length ≤ _; omega))
        have hdl : shaL (ByteArray.mk y.toArray).data.toList = shaL y := by simp
        rw [hdl] at HOF
        have HE := hide (And.intro hrow (And.intro hfar (And.intro hb (And.intro hq (And.intro hy (And.intro hqn (And.intro hyl hb0)))))))
        clear hbw hcella hall hal hgal hrow hfar hb hq hy hyl hb0 hdl
        generalize hSY : shaL y = SY at *
        have HSY := hide hSY
        clear hSY
        go_wp2_with fail
        refine HOF.out.mono ?_
        rintro e w2 ⟨rfl, hb2⟩
        have HB2 := hide hb2
        clear hb2 HOF ck
        go_wp2_with (at_builtin; refine wpList_append_lies _ rfl _ _ 31 rfl 0 9 i0 _ 1 16 Tryz.underlying31 hi hz0 hz1 hz2 rfl (by decide) (.slice asv q csv) q ((ALL.map (fun y => strV (shaL y))).take q) rfl ?own ⟨w2.heap.size, 0, none⟩ 1 1 [strV SY] rfl rfl ?c1 ?c2 (by decide) ?c3 ?c4 (Nat.zero_le _) _ rfl ?_)
        case own => exact owns_kp HE.out.1 ((Kp.of_below HB2.out : Kp [] wr w2).alloc _) (by simp)
        case c1 => exact World.news_of_block (cs := #[strV SY]) (heap_alloc_new _ _)
        case c2 => intro u hu; simp at hu; subst hu; rfl
        case c3 => unfold maxLen; omega
        case c4 => omega
        intro g3 cap3 w3 hown3 hgrow3 hlie3 hg3
        obtain ⟨hrow, hfar, hb, hq, hy, hqn', hyl, hb0⟩ := HE.out
        obtain ⟨hbw, hcella, hall, hal, hgal⟩ := HD.out
        have hbs := hb.size
        have hb2s := HB2.out.size
        have hb3 : Below w1.heap.size w1 w3 := Below.grown (Below.alloc (hb.trans (HB2.out.mono hb.size)) (by omega) _) hgrow3 (by simp; omega) hfar
        have hsnoc : (ALL.map (fun y => strV (shaL y))).take (q + 1) = (ALL.map (fun y => strV (shaL y))).take q ++ [strV SY] := by
          have hl' : q < (ALL.map (fun y => strV (shaL y))).length := by rw [List.length_map]; omega
          rw [List.take_succ_eq_append_getElem hl']
          congr 1
          have : (ALL.map (fun y => strV (shaL y)))[q]? = some (strV SY) := by rw [List.getElem?_map, hy, ← HSY.out]; rfl
          rw [List.getElem?_eq_getElem hl'] at this
          rw [Option.some.inj this]
        have hrow3 : w3.ownsRow 0 9 1 (.slice (some ⟨g3, 0, none⟩) (q + 1) cap3) (q + 1) ((ALL.map (fun y => strV (shaL y))).take (q + 1)) := by
          rw [hsnoc]
          exact hown3
        have hfar3 : ∀ j, (Value.slice (some ⟨g3, 0, none⟩) (q + 1) cap3).ownBlock = some j → w1.heap.size ≤ j := fun j hj => by
          have e : g3 = j := by simpa [Value.ownBlock] using hj
          subst e
          rcases hlie3 with e | e
          · exact hfar g3 e
          · have : g3 = w2.heap.size + 1 := by simpa using e
            omega
        have hc3 : ∀ i x, i < q + 1 → ((ALL.map (fun y => strV (shaL y))).take (q + 1))[i]? = some x → w3.cell? ⟨g3, i, none⟩ = some x := by
          obtain ⟨g', c', hv', _, hh⟩ := row_cell hrow3 (by omega)
          simp only [Value.slice.injEq, Option.some.injEq, Addr.mk.injEq, and_true, true_and] at hv'
          obtain ⟨rfl, rfl⟩ := hv'
          exact hh
        have HF := hide (And.intro hrow3 (And.intro hfar3 (And.intro hb3 (And.intro hc3 (And.intro hq (And.intro hy (And.intro hyl (hbw.trans (hb3.mono hbw.size)))))))))
        clear hrow hfar hb hq hy hqn' hyl hb0 hbw hcella hall hal hgal hown3 hgrow3 hlie3 hg3 hb3 hsnoc hrow3 hfar3 hc3 hbs hb2s HE HB2
        go_wp2_with fail
        go_loopw [8] (fun j w' => ∃ i n : Nat, i ≤ q ∧ j = .int .i64 (i : Int) ∧ w' = w3.drewN n) (fun j _ => q - (intOf j).toNat)
        case atStart => exact ⟨0, 0, by omega, rfl, rfl⟩
        case round =>
          obtain ⟨i, n, hiq, rfl, rfl⟩ := hrel
          obtain ⟨hrow3, hfar3, hb3, hc3, hq, hy, hyl, hbw3⟩ := HF.out
          obtain ⟨hbw, hcella, hall, hal, hgal⟩ := HD.out
          have aq : w3.cell? ⟨ga, q, none⟩ = some (strV y) := (hb3.cell (p := ⟨ga, q, none⟩) hgal).trans (hcella q y hy)
          by_cases hlt : i < q
          · obtain ⟨z, hz⟩ : ∃ z, ALL[i]? = some z := ⟨ALL[i]'(by omega), List.getElem?_eq_getElem _⟩
            have ai : w3.cell? ⟨ga, i, none⟩ = some (strV z) := (hb3.cell (p := ⟨ga, i, none⟩) hgal).trans (hcella i z hz)
            have si : w3.cell? ⟨g3, i, none⟩ = some (strV (shaL z)) := hc3 i _ (by omega) (by rw [List.getElem?_take_of_lt (by omega), List.getElem?_map, hz]; rfl)
            have hii : (i : Int) < (q : Int) := by omega
            have hik : (i : Int) < (k : Int) := by omega
            have hiq1 : (i : Int) < (q : Int) + 1 := by omega
            have hin : i < k := by omega
            have HLT := hide hlt
            clear hrow3 hfar3 hb3 hc3 hq hy hyl hbw3 hbw hcella hall hal hgal hz hiq
            generalize shaL z = SZ at *
            by_cases e1 : (SZ == SY) = true
            · by_cases e2 : (y == z) = true
              · go_wp2_with fail
                go_quiet (fail)
                go_wp2_with fail
                go_roundw
                case rel => exact ⟨i + 1, n + nq, by have := HLT.out; omega, by go_num, by simp [World.drewN]⟩
                case measure => have := HLT.out; simp [intOf]; omega
              · have e2' : (y == z) = false := by simpa using e2
                clear e2
                go_wp2_with fail
                go_quiet (fail)
                go_wp2_with fail
                go_ret
                exact ⟨rfl, below_drewN (below_drewN HF.out.2.2.2.2.2.2.2 _) _⟩
            · have e1' : (SZ == SY) = false := by simpa using e1
              clear e1
              go_wp2_with fail
              go_quiet (fail)
              go_wp2_with fail
              go_roundw
              case rel => exact ⟨i + 1, n + nq, by have := HLT.out; omega, by go_num, by simp [World.drewN]⟩
              case measure => have := HLT.out; simp [intOf]; omega
          · obtain rfl : i = q := by omega
            have hdl : decide ((i : Int) < (i : Int)) = false := by simp
            have d13 : w3.cell? ⟨bW, 13, none⟩ = some l.tv := (hbw3.cell (p := ⟨bW, 13, none⟩) hW).trans (by rw [HP.out.1.at_.c 13]; rfl)
            obtain ⟨atv, ctv, hvt⟩ := owns_form HP.out.1.t_
            rw [hvt] at d13
            obtain ⟨w4, hw4⟩ : ∃ w4, w3.drewN n = w4 := ⟨_, rfl⟩
            have hb4 : Below w.heap.size w w4 := hw4 ▸ below_drewN hbw3 n
            have e13 : w4.cell? ⟨bW, 13, none⟩ = some (.slice atv tr.length ctv) := hw4 ▸ d13
            have eq4 : w4.cell? ⟨ga, i, none⟩ = some (strV y) := hw4 ▸ aq
            have hgal4 : ga < w4.heap.size := by rw [← hw4]; have := hb3.size; show ga < w3.heap.size; omega
            have hctr : c < tr.length := (List.getElem?_eq_some_iff.1 HQ.out.2.1).1
            have hrow4 : w4.ownsRow 0 9 1 (.slice (some ⟨g3, 0, none⟩) (i + 1) cap3) (i + 1) ((ALL.map (fun y => strV (shaL y))).take (i + 1)) := hw4 ▸ owns_kp hrow3 ((Kp.refl [] w3).drewN n) (by simp)
            have hb14 : Below w1.heap.size w1 w4 := hw4 ▸ below_drewN hb3 n
            have H4 := hide (And.intro hb4 (And.intro hgal4 (And.intro hctr (And.intro hvt (And.intro hq (And.intro hy (And.intro hyl (And.intro hrow4 (And.intro hfar3 hb14)))))))))
            have HS4 := hide (And.intro e13 eq4)
            have hW4 : bW < w4.heap.size := by have := hb4.size; omega
            clear hrow3 hfar3 hb3 hc3 hq hy hyl hbw3 hbw hcella hall hal hgal hlt hiq d13 aq hvt hgal4 hb4 hctr hrow4 hb14 HF
            rw [hw4]
            clear hw4
            go_wp2_with fail
            go_loopw [9, 10] (fun j _ w' => ∃ s : Nat, s ≤ (if i = a then c else tr.length) ∧ j = .int .i64 (s : Int) ∧ Below w4.heap.size w4 w') (fun j _ _ => tr.length - (intOf j).toNat)
            case atStart => exact ⟨0, by omega, rfl, Below.refl _ _⟩
            case round =>
              obtain ⟨s, hs, rfl, hb5⟩ := hrel
              have f13 : wr.cell? ⟨bW, 13, none⟩ = some (.slice atv tr.length ctv) := (hb5.cell (p := ⟨bW, 13, none⟩) hW4).trans e13
              by_cases hlt : s < tr.length
              · obtain ⟨p, hp⟩ : ∃ p, tr[s]? = some p := ⟨tr[s], List.getElem?_eq_getElem hlt⟩
                obtain ⟨hb4, hgal4, hctr, hvt, hq, hy, hyl, hrow4, hfar3, hb14⟩ := H4.out
                obtain ⟨gt, ct', hvt', hgtl, hctl, hctm, hcellt⟩ := srow_cell HP.out.1.t_ (by rintro rfl; simp at hlt)
                rw [hvt] at hvt'
                simp only [Value.slice.injEq, true_and] at hvt'
                obtain ⟨rfl, rfl⟩ := hvt'
                have hpl : p.length ≤ 40 := HP.out.2.2.2.2.1 p (List.mem_of_getElem? hp)
                have hsi : (s : Int) < (tr.length : Int) := by omega
                have HLD := hide (fun w' (hw : Below w4.heap.size w4 w') => And.intro ((hw.cell (p := ⟨ga, i, none⟩) hgal4).trans HS4.out.2) (And.intro ((hw.cell (p := ⟨bW, 13, none⟩) hW4).trans HS4.out.1) (((hb4.trans (hw.mono hb4.size)).cell (p := ⟨gt, s, none⟩) hgtl).trans (hcellt s p hp))))
                have HFO := hide (fun w' (hw : Below w4.heap.size w4 w') => forged_any bW d b l ws sl tr ow y p w' (HP.out.1.below (hb4.trans (hw.mono hb4.size))) (HP.out.2.1.below (hb4.trans (hw.mono hb4.size)) HP.out.2.1.lt) (HP.out.2.2.1.below (hb4.trans (hw.mono hb4.size)) HP.out.2.2.1.lt) hyl hpl HP.out.2.2.2.1 (by rw [hWL]; exact HP.out.2.2.2.2.2.1) HP.out.2.2.2.2.2.2.1)
                have hFc : i = a → s = c → forgedC ws ow y p = true := by
                  rintro rfl rfl
                  have h1 := HQ.out.1
                  rw [hy] at h1
                  obtain rfl := Option.some.inj h1
                  have h2 := HQ.out.2.1
                  rw [hp] at h2
                  obtain rfl := Option.some.inj h2
                  exact forgedC_true HQ.out.2.2.1 HQ.out.2.2.2
                have HX := hide (And.intro hFc (And.intro hs (And.intro hlt hctr)))
                have HB5 := hide hb5
                generalize forgedC ws ow y p = F at *
                clear hb4 hgal4 hctr hvt hq hy hyl hrow4 hfar3 hb14 hgtl hctl hctm hcellt hp hpl hFc hs hlt e13 eq4
                go_wp2_with fail
                refine wp_region_one (fun w' => Below w4.heap.size w4 w') (by kernel_rfl) (by kernel_rfl) HB5.out.drew ?_
                refine one_take 0 (.pointer (some ⟨bW, 0, none⟩)) rfl (by kernel_rfl) (by kernel_rfl) (by kernel_rfl) rfl (gives_pure fun _ => by kernel_rfl) ?_
                refine one_take 1 (.slice (some ⟨ga, 0, none⟩) k cv2) rfl (by kernel_rfl) (by kernel_rfl) (by kernel_rfl) rfl (gives_pure fun _ => by kernel_rfl) ?_
                refine one_take 2 (.int .i64 i) rfl (by kernel_rfl) (by kernel_rfl) (by kernel_rfl) rfl (gives_pure fun _ => by kernel_rfl) ?_
                refine one_take 3 (.pointer (some ⟨ga, i, none⟩)) rfl (by kernel_rfl) (by kernel_rfl) (by kernel_rfl) rfl (gives_pure fun w => run_index_strs _ _ _ _ ga k cv2 i rfl (by kernel_rfl) (by kernel_rfl) hqi w) ?_
                refine one_take 4 (strV y) rfl (by kernel_rfl) (by kernel_rfl) (by kernel_rfl) rfl (gives_read fun w hw => run_load_str _ _ _ _ _ _ rfl (by kernel_rfl) w ((HLD.out w hw).1)) ?_
                refine one_take 5 (.pointer (some ⟨bW, 0, none⟩)) rfl (by kernel_rfl) (by kernel_rfl) (by kernel_rfl) rfl (gives_pure fun _ => by kernel_rfl) ?_
                refine one_take 6 (.pointer (some ⟨bW, 0, none⟩)) rfl (by kernel_rfl) (by kernel_rfl) (by kernel_rfl) rfl (gives_pure fun _ => by kernel_rfl) ?_
                refine one_take 7 (.pointer (some ⟨bW, 13, none⟩)) rfl (by kernel_rfl) (by kernel_rfl) (by kernel_rfl) rfl (gives_pure fun _ => by kernel_rfl) ?_
                refine one_take 8 (.slice (some ⟨gt, 0, none⟩) tr.length ctv) rfl (by kernel_rfl) (by kernel_rfl) (by kernel_rfl) rfl (gives_read fun w hw => run_load_strs _ _ _ _ _ _ rfl (by kernel_rfl) w ((HLD.out w hw).2.1)) ?_
                refine one_take 9 (.int .i64 s) rfl (by kernel_rfl) (by kernel_rfl) (by kernel_rfl) rfl (gives_pure fun _ => by kernel_rfl) ?_
                refine one_take 10 (.pointer (some ⟨gt, s, none⟩)) rfl (by kernel_rfl) (by kernel_rfl) (by kernel_rfl) rfl (gives_pure fun w => run_index_strs _ _ _ _ gt tr.length ctv s rfl (by kernel_rfl) (by kernel_rfl) hsi w) ?_
                refine one_take 11 (strV p) rfl (by kernel_rfl) (by kernel_rfl) (by kernel_rfl) rfl (gives_read fun w hw => run_load_str _ _ _ _ _ _ rfl (by kernel_rfl) w ((HLD.out w hw).2.2)) ?_
                refine one_take 12 (.bool F) rfl (by kernel_rfl) (by kernel_rfl) (by kernel_rfl) rfl (gives_call (29) (#[.pointer (some ⟨bW, 0, none⟩), .string ⟨y.toArray⟩, .string ⟨p.toArray⟩]) (fun _ => by kernel_rfl) fun w hw => (HFO.out w hw).mono fun e w2 h => ⟨h.1, hw.trans (h.2.mono hw.size)⟩) ?_
                refine one_take 13 (.bool F) rfl (by kernel_rfl) (by kernel_rfl) (by kernel_rfl) rfl (gives_pure fun _ => by kernel_rfl) ?_
                refine OneWalk.done (by kernel_rfl) fun w6 hw6 => ?_
                simp only [Act.put, List.setIfInBounds_toArray, List.set_cons_succ, List.set_cons_zero]
                have HB6 := hide hw6
                clear hw6 HLD HFO f13
                cases F with
                | true =>
                  go_wp2_with fail
                  go_ret
                  exact ⟨rfl, H4.out.1.trans (HB6.out.mono H4.out.1.size)⟩
                | false =>
                  go_wp2_with fail
                  go_roundw
                  case rel =>
                    refine ⟨s + 1, ?_, by go_num, HB6.out⟩
                    obtain ⟨h1, h2, h3, h4⟩ := HX.out
                    split
                    · rename_i e
                      rw [if_pos e] at h2
                      have : s ≠ c := fun e2 => by simpa using h1 e e2
                      omega
                    · omega
                  case measure => have := HX.out.2.2.1; simp [intOf]; omega
              · have hna : i ≠ a ∧ s = tr.length := by
                  have hctr := H4.out.2.2.1
                  by_cases e : i = a
                  · rw [if_pos e] at hs; omega
                  · rw [if_neg e] at hs; exact ⟨e, by omega⟩
                obtain ⟨hna, rfl⟩ := hna
                have hdl2 : decide ((tr.length : Int) < (tr.length : Int)) = false := by simp
                obtain ⟨hb4, hgal4, hctr, hvt, hq, hy, hyl, hrow4, hfar3, hb14⟩ := H4.out
                have hrow5 : wr.ownsRow 0 9 1 (.slice (some ⟨g3, 0, none⟩) (i + 1) cap3) (i + 1) ((ALL.map (fun y => strV (shaL y))).take (i + 1)) := owns_kp hrow4 (Kp.of_below hb5 : Kp [] w4 wr) (by simp)
                have HR := hide (And.intro hrow5 (And.intro hfar3 (And.intro (hb14.trans (hb5.mono hb14.size)) (And.intro hna hq))))
                clear hb4 hgal4 hctr hvt hq hy hyl hrow4 hfar3 hb14 hrow5 hb5 hlt hs hna e13 eq4
                go_wp2_with fail
                go_roundw
                case rel => first
                  | exact ⟨i + 1, by have := HR.out.2.2.2; omega, by go_num, HR.out.1, HR.out.2.1, HR.out.2.2.1⟩
                  | ((repeat apply Exists.intro); exact ⟨⟨i + 1, by have := HR.out.2.2.2; omega, by go_num, HR.out.1, HR.out.2.1, HR.out.2.2.1⟩, rfl⟩)
                case measure => have := HR.out.2.2.2; simp [intOf]; omega
end Go.Proofs.YtkhgkkkalanoiaaGreatDoor
