import Derived.Test.YtjnhlkaafnaooabGreatDoorStartW
namespace Go.Proofs.YtjnhlkaafnaooabGreatDoor
open Go.RowKit
/-- All that was there is as it was, but for block b. -/
structure Kept (b : Nat) (w w' : World) : Prop where
  os : w'.os = w.os
  tape : w'.tape = w.tape
  output : w'.output = w.output
  size : w.heap.size ≤ w'.heap.size
  block : ∀ k, k < w.heap.size → k ≠ b → w'.heap[k]? = w.heap[k]?
theorem Kept.refl (b : Nat) (w : World) : Kept b w w := ⟨rfl, rfl, rfl, Nat.le_refl _, fun _ _ _ => rfl⟩
theorem Kept.trans {b : Nat} {x y z : World} (h : Kept b x y) (k : Kept b y z) : Kept b x z :=
  ⟨k.os.trans h.os, k.tape.trans h.tape, k.output.trans h.output, Nat.le_trans h.size k.size, fun i hi hb => (k.block i (Nat.lt_of_lt_of_le hi h.size) hb).trans (h.block i hi hb)⟩
theorem Kept.of_below {b : Nat} {x y : World} (h : Below x.heap.size x y) : Kept b x y := ⟨h.os, h.tape, h.output, h.size, fun k hk _ => h.block k hk⟩
theorem Kept.setCell {b : Nat} {x y : World} (h : Kept b x y) (o : Nat) (v : Value) : Kept b x (y.setCell ⟨b, o, none⟩ v) :=
  h.trans ⟨rfl, rfl, rfl, by simp [World.setCell], fun k _ hb => Below.heap_setCell _ _ _ _ hb⟩
theorem Kept.setCells {b : Nat} {x y : World} (h : Kept b x y) (o : Nat) (vs : List Value) : Kept b x (y.setCells b o vs) := by
  obtain ⟨h1, h2, h3, h4, h5⟩ := setCells_block b vs o y
  exact h.trans ⟨h2, h3, h4, by omega, fun k _ hb => h5 k hb⟩
theorem Kept.drew {b : Nat} {x y : World} (h : Kept b x y) : Kept b x y.drew := ⟨h.os, h.tape, h.output, h.size, h.block⟩
theorem Kept.cells {b g : Nat} {x y : World} {k : IntKind} {xs : List Nat} (h : Kept b x y) (hc : Cells x g k xs) (hg : g ≠ b) : Cells y g k xs :=
  ⟨Nat.lt_of_lt_of_le hc.lt h.size, fun i hi => (World.cell?_of_block (w := x) (h.block g hc.lt hg)).trans (hc.at_ i hi)⟩
theorem Kept.below {b B : Nat} {a x y : World} (h : Kept b x y) (hb : Below B a x) (hB : B ≤ b) (hx : B ≤ x.heap.size) : Below B a y :=
  hb.trans ⟨h.os, h.tape, h.output, h.size, fun k hk => h.block k (by omega) (by omega)⟩
theorem HashAt.drew {w : World} {b : Nat} {st : St} {buf : List UInt8} {n : Nat} (h : HashAt w b st buf n) : HashAt w.drew b st buf n := ⟨h.blk, h.len⟩

section
variable {P : Program} {ops : Array Oper} {Q : Exit → Act → World → Prop} {md : Region.Mode} {fuel : Nat} {listed : Array Bool} {a : Act} {w : World} {i : Nat} {op : Oper} {rs : List Nat}
theorem allReady_load (hi' : ops[i]? = some op) (hw : Region.wanted op (yielded ops a.tmps) = true) (ty : TypeId) (x : Operand) (ho : op.op = .load ty x)
    (b o : Nat) (hx : a.eval x = .pointer (some ⟨b, o, none⟩)) (cs : List Value) (d : TypeDesc) (hc : w.rangeAt b o cs)
    (hu : P.underlying ty = some d) (hd : d.isRow = true) (hi : (P.info? ty).map (·.size) = some cs.length)
    (h : wpAny P md ops Q fuel (listed.setIfInBounds i true) (a.put op.dst (.agg cs.toArray)) w) (hs : AllReady P md ops Q fuel listed a w rs) : AllReady P md ops Q fuel listed a w (i :: rs) :=
  AllReady.cons hi' (fun K' hK => by rw [if_pos hw]; exact wp_load_mid ty x ho b o hx cs d hc hu hd hi (hK _ _ h)) hs
theorem allReady_store (hi' : ops[i]? = some op) (hw : Region.wanted op (yielded ops a.tmps) = true) (ty : TypeId) (x y : Operand) (ho : op.op = .store ty x y)
    (b o : Nat) (cells : Array Value) (hx : a.eval x = .pointer (some ⟨b, o, none⟩)) (hy : a.eval y = .agg cells)
    (ht : w.there b o cells.size) (hi : (P.info? ty).map (·.size) = some cells.size) (h1 : cells.all (·.oneCell') = true)
    (h : wpAny P md ops Q fuel (listed.setIfInBounds i true) (a.put op.dst undef) (w.setCells b o cells.toList)) (hs : AllReady P md ops Q fuel listed a w rs) : AllReady P md ops Q fuel listed a w (i :: rs) :=
  AllReady.cons hi' (fun K' hK => by rw [if_pos hw]; exact wp_store_mid ty x y ho b o cells hx hy ht hi h1 (hK _ _ h)) hs
theorem allReady_call (hi' : ops[i]? = some op) (hw : Region.wanted op (yielded ops a.tmps) = true) (f : FuncId) (args : Array Value) (hr : (execOp a.eval op).run P w = .ok (.enter f args) w)
    (hc : Calls P f args w fun e w'' => ∃ v, e = .returned v ∧ wpAny P md ops Q fuel (listed.setIfInBounds i true) (a.put op.dst v) w'') (hs : AllReady P md ops Q fuel listed a w rs) : AllReady P md ops Q fuel listed a w (i :: rs) :=
  AllReady.cons hi' (fun K' hK => by
    rw [if_pos hw]
    unfold Oper.wp
    rw [hr, Oper.upon_enter]
    refine hc.mono ?_
    rintro e w'' ⟨v, rfl, h⟩
    exact hK _ _ h) hs
end
theorem take_byte (s : ByteArray) (k : Nat) (h : k < s.size) : s.data.toList.take (k + 1) = s.data.toList.take k ++ [s[k]] := by
  rw [List.take_succ_eq_append_getElem (by simpa using h)]; rfl

set_option maxRecDepth 100000 in
set_option maxHeartbeats 2000000 in
theorem write_any (b : Nat) (st : St) (buf : List UInt8) (T : List UInt8) (s : ByteArray) (w : World) (hh : HashAt w b st buf T.length) (htk : Taken st buf T) (hok : st.ok) (hk : Cells w 1 .u32 kWords) (hb1 : 1 ≠ b) (hlen : T.length + s.size ≤ 1000000) :
    Calls Tryz.prog 71 #[.pointer (some ⟨b, 0, none⟩), .string s] w fun e w' => e = .returned (.tuple #[]) ∧ ∃ st' buf', HashAt w' b st' buf' (T.length + s.size) ∧ Taken st' buf' (T ++ s.data.toList) ∧ st'.ok ∧ Kept b w w' := by
  have hsi : (s.size : Int) ≤ 1000000 := by omega
  go_enter Tryz.func71, Tryz.ntmps71
  go_wp2_with fail
  go_loopw [4] (fun i wr => ∃ (k : Nat) (st : St) (buf : List UInt8), k ≤ s.size ∧ i = .int .i64 (k : Int) ∧ HashAt wr b st buf (T.length + k) ∧ Taken st buf (T ++ s.data.toList.take k) ∧ st.ok ∧ Kept b w wr) (fun i _ => s.size - (intOf i).toNat)
  case atStart => exact ⟨0, st, buf, by omega, rfl, hh, by simpa using htk, hok, Kept.refl _ _⟩
  case round =>
    clear hh htk hok st buf
    obtain ⟨k, st, buf, hks, rfl, hh, htk, hok, hkp⟩ := hrel
    by_cases hlt : k < s.size
    · have hki : (k : Int) < (s.size : Int) := by omega
      have hTl : (T ++ s.data.toList.take k).length = T.length + k := by simp; omega
      obtain ⟨n, hn⟩ : ∃ n, T.length + k = n := ⟨_, rfl⟩
      obtain ⟨m, hm⟩ : ∃ m, n % 64 = m := ⟨_, rfl⟩
      rw [hn] at hh hTl
      have hstep := htk.step s[k]
      have hfull := htk.full s[k]
      rw [hTl, hm, List.append_assoc, ← take_byte s k hlt] at hstep hfull
      have HST := hide hstep
      have HFU := hide hfull
      have cs := hh.size
      obtain ⟨v0, cv⟩ := hh.byte m (by omega)
      have cf := hh.frozen (8 + m)
      have cf72 := hh.frozen 72
      have mi : (n : Int) % 64 = (m : Int) := by omega
      have ml : (m : Int) < 64 := by omega
      have ni : (n : Int) ≤ 1000000 := by omega
      have hh1 := hh.setByte m (by omega) s[k]
      have hh2 := hh1.setSize (n + 1)
      have hkp2 := (hkp.setCell (8 + m) (.int .u8 (s[k].toNat : Int))).setCell 72 (.int .u64 ((n + 1 : Nat) : Int))
      have HH2 := hide hh2
      have HK2 := hide hkp2
      have HN := hide hn
      have HM := hide hm
      have HTK := hide htk
      clear hstep hfull hh1 hh2 hkp2 hn hm htk hh hkp hTl
      have eN : ((n + 1 : Nat) : Int) = (n : Int) + 1 := by omega
      rw [eN] at HH2 HK2
      have eT : T.length + (k + 1) = n + 1 := by have := HN.out; omega
      have HET := hide eT
      clear eN eT
      by_cases hz : (n + 1) % 64 = 0
      · have hzb : (((n : Int) + 1) % 64 == 0) = true := by rw [beq_iff_eq]; omega
        have hfu := hide (HFU.out hz)
        clear HFU HST HTK hz
        go_wp2_with fail
        go_region
        go_wp2_with fail
        have hA := HH2.out.drew
        have hB := HK2.out.drew
        generalize ((wr.setCell ⟨b, 8 + m, none⟩ (.int .u8 (s[k].toNat : Int))).setCell ⟨b, 72, none⟩ (.int .u64 ((n : Int) + 1))).drew = wy at hA hB ⊢
        clear HH2 HK2 cs cv cf cf72
        generalize hb2 : buf.set m s[k] = buf2 at hA hfu
        have hk2 := hB.cells hk hb1
        have hmix := fun (wz : World) (hkz : Cells wz 1 .u32 kWords) => mix_any st buf2 wz hok hA.len hkz
        have hrb := hA.drew.bytes
        have hrw := hA.drew.words
        have HI8 := hide (show (Tryz.prog.info? 145).map (·.size) = some (vals .u32 st.list).length from by kernel_rfl)
        have HI64 := hide (show (Tryz.prog.info? 146).map (·.size) = some (bvals buf2).length from by rw [bvals_len, hA.len]; kernel_rfl)
        have HMIX := hide hmix
        have hk3 := hide (show Cells wy.drew 1 .u32 kWords from ⟨hk2.lt, hk2.at_⟩)
        have HA := hide hA
        have HBK := hide hB
        have HRB := hide hrb
        have HRW := hide hrw
        clear hmix hA hB hk2 hrb hrw mi ml ni hzb
        refine wp_region_any (by kernel_rfl) ?_
        refine wpAny_take (i := 0) (v := .pointer (some ⟨b, 0, none⟩)) rfl (by kernel_rfl) (by kernel_rfl) (by kernel_rfl) (fun _ _ _ h => h) (Or.inl ⟨by kernel_rfl, fun w => by kernel_rfl⟩) ?_
        refine wpAny_take (i := 1) (v := .pointer (some ⟨b, 0, none⟩)) rfl (by kernel_rfl) (by kernel_rfl) (by kernel_rfl) (fun _ _ _ h => h) (Or.inl ⟨by kernel_rfl, fun w => by kernel_rfl⟩) ?_
        refine wpAny_take (i := 2) (v := .pointer (some ⟨b, 0, none⟩)) rfl (by kernel_rfl) (by kernel_rfl) (by kernel_rfl) (fun _ _ _ h => h) (Or.inl ⟨by kernel_rfl, fun w => by kernel_rfl⟩) ?_
        refine wpAny_take (i := 3) (v := .pointer (some ⟨b, 0, none⟩)) rfl (by kernel_rfl) (by kernel_rfl) (by kernel_rfl) (fun _ _ _ h => h) (Or.inl ⟨by kernel_rfl, fun w => by kernel_rfl⟩) ?_
        refine wpAny_take (i := 5) (v := .pointer (some ⟨b, 0, none⟩)) rfl (by kernel_rfl) (by kernel_rfl) (by kernel_rfl) (fun _ _ _ h => h) (Or.inl ⟨by kernel_rfl, fun w => by kernel_rfl⟩) ?_
        refine wpAny_take (i := 6) (v := .pointer (some ⟨b, 0, none⟩)) rfl (by kernel_rfl) (by kernel_rfl) (by kernel_rfl) (fun _ _ _ h => h) (Or.inl ⟨by kernel_rfl, fun w => by kernel_rfl⟩) ?_
        refine wpAny_take (i := 7) (v := .pointer (some ⟨b, 8, none⟩)) rfl (by kernel_rfl) (by kernel_rfl) (by kernel_rfl) (fun _ _ _ h => h) (Or.inl ⟨by kernel_rfl, fun w => by kernel_rfl⟩) ?_
        refine wpAny_ready (rs := [4, 8]) (by kernel_rfl) (by simp) ?_
        refine allReady_load rfl (by kernel_rfl) 145 _ rfl b 0 (by kernel_rfl) (vals .u32 st.list) _ HRW.out Tryz.underlying145 rfl HI8.out ?_ (allReady_load rfl (by kernel_rfl) 146 _ rfl b 8 (by kernel_rfl) (bvals buf2) _ HRB.out Tryz.underlying146 rfl HI64.out ?_ AllReady.nil)
        · refine wpAny_ready (rs := [8]) (by kernel_rfl) (by simp) ?_
          refine allReady_load rfl (by kernel_rfl) 146 _ rfl b 8 (by kernel_rfl) (bvals buf2) _ HRB.out Tryz.underlying146 rfl HI64.out ?_ AllReady.nil
          refine wpAny_ready (rs := [9]) (by kernel_rfl) (by simp) ?_
          refine allReady_call rfl (by kernel_rfl) 110 #[.agg (stv st), .agg (bvals buf2).toArray] (by kernel_rfl) ((HMIX.out _ hk3.out).mono ?_) AllReady.nil
          rintro e w4 ⟨rfl, hb4⟩
          refine ⟨_, rfl, ?_⟩
          refine wpAny_take (i := 10) (v := .pointer (some ⟨b, 0, none⟩)) rfl (by kernel_rfl) (by kernel_rfl) (by kernel_rfl) (fun _ _ _ h => h) (Or.inl ⟨by kernel_rfl, fun w => by kernel_rfl⟩) ?_
          refine wpAny_take (i := 11) (v := .pointer (some ⟨b, 0, none⟩)) rfl (by kernel_rfl) (by kernel_rfl) (by kernel_rfl) (fun _ _ _ h => h) (Or.inl ⟨by kernel_rfl, fun w => by kernel_rfl⟩) ?_
          refine wpAny_ready (rs := [12]) (by kernel_rfl) (by simp) ?_
          refine allReady_store rfl (by kernel_rfl) 145 _ _ rfl b 0 (stv (comp st buf2)) (by kernel_rfl) (by kernel_rfl) (HA.out.drew.below hb4 HA.out.lt).there (by kernel_rfl) (all_oneCell_toArray (cs := vals .u32 (comp st buf2).list) (vals_one _ _)) ?_ AllReady.nil
          refine wpAny_done (by kernel_rfl) ?_ _
          have hF1 := (HA.out.drew.below hb4 HA.out.lt).setWords (comp st buf2)
          have hF2 := (HBK.out.drew.trans (Kept.of_below hb4)).setCells 0 (vals .u32 (comp st buf2).list)
          have HF1 := hide hF1
          have HF2 := hide hF2
          clear hF1 hF2
          go_wp2_with fail
          go_roundw
          case rel => exact ⟨k + 1, comp st buf2, buf2, by omega, by go_num, by rw [HET.out]; exact HF1.out, hfu.out, comp_ok _ _, HF2.out⟩
          case measure => simp [intOf]; omega
        · refine wpAny_ready (rs := [4]) (by kernel_rfl) (by simp) ?_
          refine allReady_load rfl (by kernel_rfl) 145 _ rfl b 0 (by kernel_rfl) (vals .u32 st.list) _ HRW.out Tryz.underlying145 rfl HI8.out ?_ AllReady.nil
          refine wpAny_ready (rs := [9]) (by kernel_rfl) (by simp) ?_
          refine allReady_call rfl (by kernel_rfl) 110 #[.agg (stv st), .agg (bvals buf2).toArray] (by kernel_rfl) ((HMIX.out _ hk3.out).mono ?_) AllReady.nil
          rintro e w4 ⟨rfl, hb4⟩
          refine ⟨_, rfl, ?_⟩
          refine wpAny_take (i := 10) (v := .pointer (some ⟨b, 0, none⟩)) rfl (by kernel_rfl) (by kernel_rfl) (by kernel_rfl) (fun _ _ _ h => h) (Or.inl ⟨by kernel_rfl, fun w => by kernel_rfl⟩) ?_
          refine wpAny_take (i := 11) (v := .pointer (some ⟨b, 0, none⟩)) rfl (by kernel_rfl) (by kernel_rfl) (by kernel_rfl) (fun _ _ _ h => h) (Or.inl ⟨by kernel_rfl, fun w => by kernel_rfl⟩) ?_
          refine wpAny_ready (rs := [12]) (by kernel_rfl) (by simp) ?_
          refine allReady_store rfl (by kernel_rfl) 145 _ _ rfl b 0 (stv (comp st buf2)) (by kernel_rfl) (by kernel_rfl) (HA.out.drew.below hb4 HA.out.lt).there (by kernel_rfl) (all_oneCell_toArray (cs := vals .u32 (comp st buf2).list) (vals_one _ _)) ?_ AllReady.nil
          refine wpAny_done (by kernel_rfl) ?_ _
          have hF1 := (HA.out.drew.below hb4 HA.out.lt).setWords (comp st buf2)
          have hF2 := (HBK.out.drew.trans (Kept.of_below hb4)).setCells 0 (vals .u32 (comp st buf2).list)
          have HF1 := hide hF1
          have HF2 := hide hF2
          clear hF1 hF2
          go_wp2_with fail
          go_roundw
          case rel => exact ⟨k + 1, comp st buf2, buf2, by omega, by go_num, by rw [HET.out]; exact HF1.out, hfu.out, comp_ok _ _, HF2.out⟩
          case measure => simp [intOf]; omega
      · have hzb : (((n : Int) + 1) % 64 == 0) = false := by rw [beq_eq_false_iff_ne]; omega
        have hst := hide (HST.out hz)
        clear HFU HST HTK hz
        go_wp2_with fail
        go_region
        go_wp2_with fail
        go_roundw
        case rel => exact ⟨k + 1, st, _, by omega, by go_num, by rw [HET.out]; exact HH2.out.drew, hst.out, hok, HK2.out.drew⟩
        case measure => simp [intOf]; omega
    · have hkz : k = s.size := by omega
      subst hkz
      go_wp2_with fail
      go_end0
      exact ⟨rfl, st, buf, hh, by rw [List.take_of_length_le (by simp)] at htk; exact htk, hok, hkp⟩
end Go.Proofs.YtjnhlkaafnaooabGreatDoor
