import Derived.Test.YtkhgkkkalanoiaaGreatDoorMacSumW
import Derived.Laws.CopyOwn
namespace Go.Proofs.YtkhgkkkalanoiaaGreatDoor
open Go.RowKit
/-- Two texts of one length, the first k bytes of the second added to the first. -/
def addTo (F U : List UInt8) (k : Nat) : List UInt8 := xorL (F.take k) (U.take k) ++ F.drop k
theorem addTo_head (F U : List UInt8) (k : Nat) (h : F.length = U.length) (hk : k ≤ F.length) : (xorL (F.take k) (U.take k)).length = k := by
  rw [xorL_len _ _ (by simp; omega)]; simp; omega
theorem addTo_len (F U : List UInt8) (k : Nat) (h : F.length = U.length) (hk : k ≤ F.length) : (addTo F U k).length = F.length := by
  unfold addTo; rw [List.length_append, addTo_head F U k h hk]; simp; omega
theorem addTo_get (F U : List UInt8) (k : Nat) (h : F.length = U.length) (hk : k < F.length) : (nats (addTo F U k)).getD k 0 = F[k].toNat := by
  have hl := addTo_head F U k h (by omega)
  have e : (addTo F U k)[k]? = some F[k] := by
    unfold addTo
    rw [List.getElem?_append_right (by omega), hl, Nat.sub_self, List.getElem?_drop, Nat.add_zero, List.getElem?_eq_getElem hk]
  simp [nats, e]
theorem addTo_set (F U : List UInt8) (k : Nat) (h : F.length = U.length) (hk : k < F.length) : (nats (addTo F U k)).set k (F[k].toNat ^^^ U[k].toNat) = nats (addTo F U (k + 1)) := by
  have hl := addTo_head F U k h (by omega)
  have e : (addTo F U k).set k (F[k] ^^^ U[k]) = addTo F U (k + 1) := by
    unfold addTo
    rw [List.set_append_right k _ (by omega), hl, Nat.sub_self, List.drop_eq_getElem_cons hk, List.set_cons_zero, List.take_succ_eq_append_getElem hk, List.take_succ_eq_append_getElem (by omega : k < U.length)]
    unfold xorL
    rw [List.zipWith_append (by simp; omega), List.append_assoc]
    rfl
  rw [← e]
  simp [nats, List.map_set]
theorem addTo_all (F U : List UInt8) (n : Nat) (hF : F.length = n) (hU : U.length = n) : addTo F U n = xorL F U := by
  unfold addTo
  rw [List.take_of_length_le (by omega), List.take_of_length_le (by omega), List.drop_eq_nil_of_le (by omega), List.append_nil]
theorem copy_digest (U : List UInt8) (hU : U.length = 32) (w : World) (g : Nat) (t sT ty : TypeId) (c : Array Value) (hc : c.size = 32) (hg : w.heap[g]? = some (.cells c t (0, 0))) :
    (Builtin.copy_ #[83, sT] ty #[.slice (some ⟨g, 0, none⟩) 32 32, .string ⟨U.toArray⟩]).run Tryz.prog w =
      .ok (.int .i64 32) (w.setRow g (vals .u8 (nats U)).toArray) := by
  have hs : (ByteArray.mk U.toArray).size = 32 := by simpa [ByteArray.size] using hU
  have := Lib.run_copy_row_string (P := Tryz.prog) w 83 sT ty 5 g 0 32 32 ⟨U.toArray⟩ c t Tryz.underlying83 (by kernel_rfl) hg (by omega) (by omega)
  rw [this, hs, Nat.zero_add, List.drop_eq_nil_of_le (by simp; omega)]
  have e2 : vals .u8 (nats U) = Lib.byteCells U := by
    simp [vals, nats, Lib.byteCells, Function.comp_def]
  rw [e2]
  simp
  rfl

/-- The answer's place and the bytes so far, in mid-stretch. -/
structure SG (w : World) (F : List UInt8) (wr : World) : Prop where
  res : wr.there w.heap.size 0 32
  row : Row wr (w.heap.size + 1) 136 .u8 (nats F)
  bel : Below w.heap.size w wr
  sz : w.heap.size + 2 ≤ wr.heap.size
theorem SG.set {w : World} {F : List UInt8} {wr : World} (h : SG w F wr) (i x : Nat) (G : List UInt8) (hG : (nats F).set i x = nats G) : SG w G (wr.setCell ⟨w.heap.size + 1, i, none⟩ (.int .u8 (x : Int))) := by
  have hb : Below (w.heap.size + 1) wr (wr.setCell ⟨w.heap.size + 1, i, none⟩ (.int .u8 (x : Int))) := Below.setCell (B := w.heap.size + 1) (Below.refl _ _) (Nat.le_refl (w.heap.size + 1)) _
  exact ⟨there_below h.res hb (by omega), by rw [← hG]; exact h.row.set i x, h.bel.setCell (by simp) _, Nat.le_trans h.sz hb.size⟩
theorem SG.drew {w : World} {F : List UInt8} {wr : World} (h : SG w F wr) : SG w F wr.drew := ⟨h.res, h.row, h.bel.drew, h.sz⟩
theorem SG.below {w : World} {F : List UInt8} {wr w' : World} (h : SG w F wr) (hb : Below wr.heap.size wr w') : SG w F w' :=
  ⟨there_below h.res hb (by have := h.sz; omega), h.row.below hb h.row.lt, h.bel.trans (hb.mono (by have := h.sz; omega)), Nat.le_trans h.sz hb.size⟩
theorem SG.start {w w' : World} {Z : Array Value} (U : List UInt8) (hZ : Z.size = 32) (hb : Below ((w.alloc (.cells Z 136)).alloc (.cells Z 136)).heap.size ((w.alloc (.cells Z 136)).alloc (.cells Z 136)) w') :
    w'.heap[w.heap.size + 1]? = some (.cells Z 136 (0, 0)) ∧ SG w U (w'.setRow (w.heap.size + 1) (vals .u8 (nats U)).toArray) := by
  have hz : ((w.alloc (.cells Z 136)).alloc (.cells Z 136)).heap.size = w.heap.size + 2 := by simp
  rw [hz] at hb
  have h1 : w'.heap[w.heap.size + 1]? = some (.cells Z 136 (0, 0)) := by
    rw [hb.block (w.heap.size + 1) (by omega)]
    have := heap_alloc_new (w.alloc (.cells Z 136)) (.cells Z 136)
    simpa using this
  have h2 : w'.there w.heap.size 0 32 := by
    have h := there_new w Z 136
    rw [hZ] at h
    exact there_below (World.there_alloc h (.cells Z 136)) hb (by omega)
  have h3 : Below w.heap.size w w' := (((Below.refl _ _).alloc (Nat.le_refl _) _).alloc (by simp) _).trans (hb.mono (by omega))
  have h4 : Below (w.heap.size + 1) w' (w'.setRow (w.heap.size + 1) (vals .u8 (nats U)).toArray) := below_setRow (Below.refl _ _) (Nat.le_refl _) _
  refine ⟨h1, there_below h2 h4 (by omega), ⟨_, setRow_heap w' _ _ _ _ _ h1, by simp [vals], fun i hi => vals_get _ _ i hi⟩, h3.trans (h4.mono (by omega)), ?_⟩
  have := hb.size
  simp at this ⊢
  omega

set_option maxRecDepth 100000 in
set_option maxHeartbeats 2000000 in
theorem stretched_any (b : Nat) (ist ost : St) (ibuf obuf pass salt : List UInt8) (i1 : Nat) (rounds : Int) (w : World) (hm : MacAt w b ist ibuf ost obuf) (hti : Taken ist ibuf (padIn pass)) (hto : Taken ost obuf (padOut pass)) (hoki : ist.ok) (hoko : ost.ok)
    (hk : Cells w 1 .u32 kWords) (hsl : salt.length ≤ 65536) (hi1 : i1 ≤ 8) (hr : -1 ≤ rounds ∧ rounds ≤ 8) :
    Calls Tryz.prog 78 #[.pointer (some ⟨b, 0, none⟩), .string ⟨salt.toArray⟩, .int .u32 (i1 : Int), .int .i64 rounds] w fun e w' => e = .returned (.agg (bvals (sumL pass salt i1 (turnsOf rounds))).toArray) ∧ Below w.heap.size w w' := by
  obtain ⟨hr1, hr2⟩ := hr
  have hzv : ∀ w, (zeroValue 136).run Tryz.prog w = .ok (.agg (vals .u8 (List.replicate 32 0)).toArray) w := fun _ => by kernel_rfl
  obtain ⟨Z, hZ⟩ : ∃ x, (vals .u8 (List.replicate 32 0)).toArray = x := ⟨_, rfl⟩
  rw [hZ] at hzv
  have hZs : Z.size = 32 := by rw [← hZ]; rfl
  have hkl := hk.lt
  have hii : (i1 : Int) ≤ 8 := by omega
  have HSL := hide hsl
  have a1 := fun w => add_str salt (onesL i1 4) (by rw [onesL_len]; have := HSL.out; omega) w
  clear hZ hsl
  go_enter Tryz.func78, Tryz.ntmps78
  go_wp2_with fail
  refine (numberText_any i1 _ (by omega)).mono ?_
  rintro e w1 ⟨rfl, hb1⟩
  go_wp2_with fail
  have hl0 : (salt ++ onesL i1 4).length ≤ 70000 := by rw [List.length_append, onesL_len]; have := HSL.out; omega
  have hu0 : macL pass (salt ++ onesL i1 4) = linkL pass salt i1 0 := rfl
  have hf0 : sumL pass salt i1 0 = linkL pass salt i1 0 := rfl
  obtain ⟨SN, hSN⟩ : ∃ SN, salt ++ onesL i1 4 = SN := ⟨_, rfl⟩
  rw [hSN] at a1 hl0 hu0 ⊢
  have hsz0 : ((w.alloc (.cells Z 136)).alloc (.cells Z 136)).heap.size = w.heap.size + 2 := by simp
  have hbA : Below w.heap.size w ((w.alloc (.cells Z 136)).alloc (.cells Z 136)) := (((Below.refl _ _).alloc (Nat.le_refl _) _).alloc (by simp) _)
  have hm1 := (hm.below hbA hm.lt).below hb1 (by rw [hsz0]; have := hm.lt; omega)
  have hk1 := (hk.below hbA hkl).below hb1 (by rw [hsz0]; omega)
  have hblt := hm.lt
  have hsz1 := hb1.size
  refine (macSum_any b ist ost ibuf obuf pass SN w1 hm1 hti hto hoki hoko hk1 hl0).mono ?_
  rintro e w2 ⟨rfl, hb2⟩
  rw [hu0]
  have hlu0 := linkL_len pass salt i1 0
  have hb12 := hb1.trans (hb2.mono hsz1)
  obtain ⟨hg, hsg⟩ := SG.start (linkL pass salt i1 0) hZs hb12
  have hcp := fun sT ty => copy_digest (linkL pass salt i1 0) hlu0 w2 (w.heap.size + 1) 136 sT ty Z hZs hg
  obtain ⟨U0, hU0⟩ : ∃ U0, linkL pass salt i1 0 = U0 := ⟨_, rfl⟩
  rw [hU0] at hsg hcp ⊢
  generalize hW3 : w2.setRow (w.heap.size + 1) (vals .u8 (nats U0)).toArray = w3 at hsg hcp
  obtain ⟨T, hT⟩ : ∃ T, turnsOf rounds = T := ⟨_, rfl⟩
  have hTr : ∀ j : Nat, j < T ↔ (j : Int) + 1 < rounds := fun j => by rw [← hT]; unfold turnsOf; omega
  have HTR := hide hTr
  have HTD := hide hT
  have HU0 := hide hU0
  have HF0 := hide hf0
  have HSG := hide hsg
  clear hW3 hT hTr hl0 hu0 hf0 hSN a1 hsz0 hbA hm1 hk1 hsz1 hb1 hb2 hb12 hg hsg hlu0 hU0
  go_wp2_with fail
  go_loopw [10, 11, 12] (fun l r _ wr => ∃ j : Nat, j ≤ T ∧ r = .int .i64 ((j : Int) + 1) ∧ l = .string ⟨(linkL pass salt i1 j).toArray⟩ ∧ SG w (sumL pass salt i1 j) wr) (fun _ r _ _ => (20 - intOf r).toNat)
  case atStart => exact ⟨0, by omega, rfl, by rw [HU0.out], by rw [HF0.out, HU0.out]; exact HSG.out⟩
  case round =>
    clear HSG hcp
    obtain ⟨j, hj, rfl, rfl, hsg⟩ := hrel
    have hmj := hm.below hsg.bel hblt
    have hkj := hk.below hsg.bel hkl
    have hlu := linkL_len pass salt i1 j
    have hlu1 := linkL_len pass salt i1 (j + 1)
    have hlf := sumL_len pass salt i1 j
    have hfn : xorL (sumL pass salt i1 j) (linkL pass salt i1 (j + 1)) = sumL pass salt i1 (j + 1) := rfl
    have hun : macL pass (linkL pass salt i1 j) = linkL pass salt i1 (j + 1) := rfl
    by_cases hjt : j < T
    · have hji := (HTR.out j).1 hjt
      have hd : decide ((j : Int) + 1 < rounds) = true := by simpa using hji
      have hj8 : (j : Int) ≤ 7 := by omega
      obtain ⟨U, hU⟩ : ∃ U, linkL pass salt i1 j = U := ⟨_, rfl⟩
      obtain ⟨F, hF⟩ : ∃ F, sumL pass salt i1 j = F := ⟨_, rfl⟩
      obtain ⟨U1, hU1⟩ : ∃ U1, linkL pass salt i1 (j + 1) = U1 := ⟨_, rfl⟩
      obtain ⟨F1, hF1⟩ : ∃ F1, sumL pass salt i1 (j + 1) = F1 := ⟨_, rfl⟩
      rw [hU]
      rw [hU] at hlu hun
      rw [hU1] at hlu1 hun hfn
      rw [hF] at hlf hfn hsg
      rw [hF1] at hfn
      have HE := hide (And.intro hU1 hF1)
      have HLL := hide (And.intro hlu (And.intro hlu1 hlf))
      have HUN := hide (And.intro hun hfn)
      clear hU hF hU1 hF1 hlu hlu1 hlf hun hfn hji
      go_wp2_with fail
      refine (macSum_any b ist ost ibuf obuf pass U wr hmj hti hto hoki hoko hkj (by rw [HLL.out.1]; decide)).mono ?_
      rintro e w4 ⟨rfl, hb4⟩
      rw [HUN.out.1]
      have hsg4 := hsg.below hb4
      have hs32 : (ByteArray.mk U1.toArray).size = 32 := by simpa [ByteArray.size] using HLL.out.2.1
      obtain ⟨S1, hS1⟩ : ∃ S1, ByteArray.mk U1.toArray = S1 := ⟨_, rfl⟩
      rw [hS1] at hs32 ⊢
      have HS1 := hide hS1
      clear hsg hmj hkj hb4 hS1
      go_wp2_with fail
      go_loopw [12] (fun k wr => ∃ n : Nat, n ≤ 32 ∧ k = .int .i64 (n : Int) ∧ SG w (addTo F U1 n) wr) (fun k _ => (40 - intOf k).toNat)
      case atStart => exact ⟨0, by omega, rfl, by simpa [addTo, xorL] using hsg4⟩
      case round =>
        clear hsg4
        obtain ⟨n, hn, rfl, hsg⟩ := hrel
        by_cases hnl : n < 32
        · have hni : (n : Int) < 32 := by omega
          have hlF : F.length = 32 := HLL.out.2.2
          have hlU : U1.length = 32 := HLL.out.2.1
          have hc := hsg.row.cell (i := n) (by rw [nats_len, addTo_len F U1 n (by omega) (by omega)]; omega)
          rw [addTo_get F U1 n (by omega) (by omega)] at hc
          have hf := hsg.row.frozen n
          have hset := hsg.set n (F[n].toNat ^^^ U1[n].toNat) (addTo F U1 (n + 1)) (addTo_set F U1 n (by omega) (by omega))
          have hnS : n < S1.size := by rw [hs32]; exact hnl
          have hbyte : S1[n].toNat = U1[n].toNat := by
            have h1 := HS1.out
            subst h1
            rfl
          have hx := u8_xor_nat F[n].toNat S1[n].toNat F[n].toNat_lt S1[n].toNat_lt
          rw [← hbyte] at hset
          have HS := hide hset
          obtain ⟨y, hy⟩ : ∃ y, F[n].toNat = y := ⟨_, rfl⟩
          rw [hy] at hc hx HS
          clear hset hsg hbyte hy hlF hlU
          go_wp2_with fail
          first
            | (go_region
               go_wp2_with fail
               go_roundw
               case rel => exact ⟨n + 1, by omega, by go_num, HS.out.drew⟩
               case measure => simp [intOf]; omega)
            | (go_roundw
               case rel => exact ⟨n + 1, by omega, by go_num, HS.out⟩
               case measure => simp [intOf]; omega)
        · have hn32 : n = 32 := by omega
          subst hn32
          rw [addTo_all F U1 32 HLL.out.2.2 HLL.out.2.1, HUN.out.2] at hsg
          go_wp2_with fail
          go_roundw
          case rel => first
            | exact ⟨j + 1, by omega, by go_num, by rw [HE.out.1, HS1.out], by rw [HE.out.2]; exact hsg⟩
            | ((repeat apply Exists.intro); exact ⟨⟨j + 1, by omega, by go_num, by rw [HE.out.1, HS1.out], by rw [HE.out.2]; exact hsg⟩, rfl⟩)
          case measure => simp [intOf]; omega
    · have hjT : j = T := by omega
      subst hjT
      have hd : decide ((j : Int) + 1 < rounds) = false := by
        have := HTR.out j
        simp only [Nat.lt_irrefl, false_iff] at this
        simpa using this
      have hj8 : (j : Int) ≤ 8 := by
        have := HTD.out; unfold turnsOf at this; omega
      have hra := row_range hsg.row
      rw [vals_nats] at hra
      have hth := hsg.res
      have hbel := hsg.bel
      have hF : sumL pass salt i1 (turnsOf rounds) = sumL pass salt i1 j := by rw [HTD.out]
      have hone : ∀ v ∈ bvals (sumL pass salt i1 j), v.oneCell' = true := by rw [← vals_nats]; exact vals_one _ _
      have hvl : (bvals (sumL pass salt i1 j)).length = 32 := by rw [bvals_len, hlf]
      obtain ⟨V, hV⟩ : ∃ V, bvals (sumL pass salt i1 j) = V := ⟨_, rfl⟩
      rw [hV] at hra hone hvl
      have HI := hide (show (Tryz.prog.info? 136).map (·.size) = some V.length from by rw [hvl]; kernel_rfl)
      have hb1 : Below w.heap.size w (wr.setCells w.heap.size 0 V) := hbel.trans (below_setCells wr w.heap.size _ 0 V (Nat.le_refl _))
      have hrr := World.rangeAt_setCells_same wr w.heap.size 0 V (by rw [hvl]; exact hth)
      have HV := hide hvl
      have HFV := hide (And.intro hF hV)
      have HRA := hide hra
      clear hvl hlu hlu1 hlf hfn hun hF hV hra hsg hmj hkj
      go_wp2_with (first | refine wpList_load_mid rfl 136 _ rfl (w.heap.size + 1) 0 rfl V _ HRA.out Tryz.underlying136 rfl HI.out ?_ | refine wpList_store_mid rfl 136 _ _ rfl w.heap.size 0 V.toArray rfl rfl (by simpa [HV.out] using hth) (by simpa using HI.out) (all_oneCell_toArray hone) ?_)
      exact bodyPost_ret (v := .agg V.toArray) (results_cell_mid Tryz.results78 _ _ w.heap.size 0 V _ rfl hrr Tryz.underlying136 rfl HI.out) rfl ⟨by rw [HFV.out.1, HFV.out.2], hb1⟩
end Go.Proofs.YtkhgkkkalanoiaaGreatDoor
