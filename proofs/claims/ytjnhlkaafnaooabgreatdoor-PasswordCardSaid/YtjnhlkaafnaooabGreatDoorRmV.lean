import Derived.Test.YtjnhlkaafnaooabGreatDoorRmU
import Derived.Laws.CopyOwn
namespace Go.Proofs.YtjnhlkaafnaooabGreatDoor
open Go.RowKit
/-- Two texts of one length, the first k bytes of the second added to the first. -/
def addTo (F U : List UInt8) (k : Nat) : List UInt8 := xorL (F.take k) (U.take k) ++ F.drop k
theorem addTo_head (F U : List UInt8) (k : Nat) (h : F.length = U.length) (hk : k ≤ F.length) : (xorL (F.take k) (U.take k)).length = k := by
  rw [xorL_len _ _ (by simp; omega)]; simp; omega
theorem addTo_len (F U : List UInt8) (k : Nat) (h : F.length = U.length) (hk : k ≤ F.length) : (addTo F U k).length = F.length := by
  unfold addTo; rw [List.length_append, addTo_head F U k h hk]; simp; omega
theorem addTo_get (F U : List UInt8) (k : Nat) (h : F.length = U.length) (hk : k < F.length) : (nats (addTo F U k)).getD k 0 = F[k].toNat := by
  have hl := addTo_head F U k h (by omega)
  have e : (addTo F U k)[k]? = some F[k] := by
    unfold addTo
    rw [List.getElem?_append_right (by omega), hl, Nat.sub_self, List.getElem?_drop, Nat.add_zero, List.getElem?_eq_getElem hk]
  simp [nats, e]
theorem addTo_set (F U : List UInt8) (k : Nat) (h : F.length = U.length) (hk : k < F.length) : (nats (addTo F U k)).set k (F[k].toNat ^^^ U[k].toNat) = nats (addTo F U (k + 1)) := by
  have hl := addTo_head F U k h (by omega)
  have e : (addTo F U k).set k (F[k] ^^^ U[k]) = addTo F U (k + 1) := by
    unfold addTo
    rw [List.set_append_right k _ (by omega), hl, Nat.sub_self, List.drop_eq_getElem_cons hk, List.set_cons_zero, List.take_succ_eq_append_getElem hk, List.take_succ_eq_append_getElem (by omega : k < U.length)]
    unfold xorL
    rw [List.zipWith_append (by simp; omega), List.append_assoc]
    rfl
  rw [← e]
  simp [nats, List.map_set]
theorem addTo_all (F U : List UInt8) (n : Nat) (hF : F.length = n) (hU : U.length = n) : addTo F U n = xorL F U := by
  unfold addTo
  rw [List.take_of_length_le (by omega), List.take_of_length_le (by omega), List.drop_eq_nil_of_le (by omega), List.append_nil]
theorem copy_digest (U : List UInt8) (hU : U.length = 32) (w : World) (g : Nat) (t sT ty : TypeId) (c : Array Value) (hc : c.size = 32) (hg : w.heap[g]? = some (.cells c t (0, 0))) :
    (Builtin.copy_ #[52, sT] ty #[.slice (some ⟨g, 0, none⟩) 32 32, .string ⟨U.toArray⟩]).run Tryz.prog w =
      .ok (.int .i64 32) (w.setRow g (vals .u8 (nats U)).toArray) := by
  have hs : (ByteArray.mk U.toArray).size = 32 := by simpa [ByteArray.size] using hU
  have := Lib.run_copy_row_string (P := Tryz.prog) w 52 sT ty 5 g 0 32 32 ⟨U.toArray⟩ c t Tryz.underlying52 (by kernel_rfl) hg (by omega) (by omega)
  rw [this, hs, Nat.zero_add, List.drop_eq_nil_of_le (by simp; omega)]
  have e2 : vals .u8 (nats U) = Lib.byteCells U := by
    simp [vals, nats, Lib.byteCells, Function.comp_def]
  rw [e2]
  simp
  rfl

/-- The answer's place and the bytes so far, in mid-stretch. -/
structure SG (w : World) (F : List UInt8) (wr : World) : Prop where
  res : wr.there w.heap.size 0 32
  row : Row wr (w.heap.size + 1) 141 .u8 (nats F)
  bel : Below w.heap.size w wr
  sz : w.heap.size + 2 ≤ wr.heap.size
theorem SG.set {w : World} {F : List UInt8} {wr : World} (h : SG w F wr) (i x : Nat) (G : List UInt8) (hG : (nats F).set i x = nats G) : SG w G (wr.setCell ⟨w.heap.size + 1, i, none⟩ (.int .u8 (x : Int))) := by
  have hb : Below (w.heap.size + 1) wr (wr.setCell ⟨w.heap.size + 1, i, none⟩ (.int .u8 (x : Int))) := Below.setCell (B := w.heap.size + 1) (Below.refl _ _) (Nat.le_refl (w.heap.size + 1)) _
  exact ⟨there_below h.res hb (by omega), by rw [← hG]; exact h.row.set i x, h.bel.setCell (by simp) _, Nat.le_trans h.sz hb.size⟩
theorem SG.drew {w : World} {F : List UInt8} {wr : World} (h : SG w F wr) : SG w F wr.drew := ⟨h.res, h.row, h.bel.drew, h.sz⟩
theorem SG.below {w : World} {F : List UInt8} {wr w' : World} (h : SG w F wr) (hb : Below wr.heap.size wr w') : SG w F w' :=
  ⟨there_below h.res hb (by have := h.sz; omega), h.row.below hb h.row.lt, h.bel.trans (hb.mono (by have := h.sz; omega)), Nat.le_trans h.sz hb.size⟩
theorem SG.start {w w' : World} {Z : Array Value} (U : List UInt8) (hZ : Z.size = 32) (hb : Below ((w.alloc (.cells Z 141)).alloc (.cells Z 141)).heap.size ((w.alloc (.cells Z 141)).alloc (.cells Z 141)) w') :
    w'.heap[w.heap.size + 1]? = some (.cells Z 141 (0, 0)) ∧ SG w U (w'.setRow (w.heap.size + 1) (vals .u8 (nats U)).toArray) := by
  have hz : ((w.alloc (.cells Z 141)).alloc (.cells Z 141)).heap.size = w.heap.size + 2 := by simp
  rw [hz] at hb
  have h1 : w'.heap[w.heap.size + 1]? = some (.cells Z 141 (0, 0)) := by
    rw [hb.block (w.heap.size + 1) (by omega)]
    have := heap_alloc_new (w.alloc (.cells Z 141)) (.cells Z 141)
    simpa using this
  have h2 : w'.there w.heap.size 0 32 := by
    have h := there_new w Z 141
    rw [hZ] at h
    exact there_below (World.there_alloc h (.cells Z 141)) hb (by omega)
  have h3 : Below w.heap.size w w' := (((Below.refl _ _).alloc (Nat.le_refl _) _).alloc (by simp) _).trans (hb.mono (by omega))
  have h4 : Below (w.heap.size + 1) w' (w'.setRow (w.heap.size + 1) (vals .u8 (nats U)).toArray) := below_setRow (Below.refl _ _) (Nat.le_refl _) _
  refine ⟨h1, there_below h2 h4 (by omega), ⟨_, setRow_heap w' _ _ _ _ _ h1, by simp [vals], fun i hi => vals_get _ _ i hi⟩, h3.trans (h4.mono (by omega)), ?_⟩
  have := hb.size
  simp at this ⊢
  omega

set_option maxRecDepth 100000 in
set_option maxHeartbeats 2000000 in
theorem stretched_any (b : Nat) (ist ost : St) (ibuf obuf pass salt : List UInt8) (i1 : Nat) (rounds : Int) (w : World) (hm : MacAt w b ist ibuf ost obuf) (hti : Taken ist ibuf (padIn pass)) (hto : Taken ost obuf (padOut pass)) (hoki : ist.ok) (hoko : ost.ok)
    (hk : Cells w 1 .u32 kWords) (hsl : salt.length ≤ 65536) (hi1 : i1 ≤ 8) (hr : -1 ≤ rounds ∧ rounds ≤ 8) :
    Calls Tryz.prog 93 #[.pointer (some ⟨b, 0, none⟩), .string ⟨salt.toArray⟩, .int .u32 (i1 : Int), .int .i64 rounds] w fun e w' => e = .returned (.agg (bvals (sumL pass salt i1 (turnsOf rounds))).toArray) ∧ Below w.heap.size w w' := by
  obtain ⟨hr1, hr2⟩ := hr
  have hzv : ∀ w, (zeroValue 141).run Tryz.prog w = .ok (.agg (vals .u8 (List.replicate 32 0)).toArray) w := fun _ => by kernel_rfl
  obtain ⟨Z, hZ⟩ : ∃ x, (vals .u8 (List.replicate 32 0)).toArray = x := ⟨_, rfl⟩
  rw [hZ] at hzv
  have hZs : Z.size = 32 := by rw [← hZ]; rfl
  have hkl := hk.lt
  have hii : (i1 : Int) ≤ 8 := by omega
  have HSL := hide hsl
  have a1 := fun w => add_str salt (onesL i1 4) (by rw [onesL_len]; have := HSL.out; omega) w
  clear hZ hsl
  go_enter Tryz.func93, Tryz.ntmps93
  go_wp2_with fail
  refine (numberText_any i1 _ (by omega)).mono ?_
  rintro e w1 ⟨rfl, hb1⟩
  go_wp2_with fail
  have hl0 : (salt ++ onesL i1 4).length ≤ 70000 := by rw [List.length_append, onesL_len]; have := HSL.out; omega
  have hu0 : macL pass (salt ++ onesL i1 4) = linkL pass salt i1 0 := rfl
  have hf0 : sumL pass salt i1 0 = linkL pass salt i1 0 := rfl
  obtain ⟨SN, hSN⟩ : ∃ SN, salt ++ onesL i1 4 = SN := ⟨_, rfl⟩
  rw [hSN] at a1 hl0 hu0 ⊢
  have hsz0 : ((w.alloc (.cells Z 141)).alloc (.cells Z 141)).heap.size = w.heap.size + 2 := by simp
  have hbA : Below w.heap.size w ((w.alloc (.cells Z 141)).alloc (.cells Z 141)) := (((Below.refl _ _).alloc (Nat.le_refl _) _).alloc (by simp) _)
  have hm1 := (hm.below hbA hm.lt).below hb1 (by rw [hsz0]; have := hm.lt; omega)
  have hk1 := (hk.below hbA hkl).below hb1 (by rw [hsz0]; omega)
  have hblt := hm.lt
  have hsz1 := hb1.size
  refine (macSum_any b ist ost ibuf obuf pass SN w1 hm1 hti hto hoki hoko hk1 hl0).mono ?_
  rintro e w2 ⟨rfl, hb2⟩
  rw [hu0]
  have hlu0 := linkL_len pass salt i1 0
  have hb12 := hb1.trans (hb2.mono hsz1)
  obtain ⟨hg, hsg⟩ := SG.start (linkL pass salt i1 0) hZs hb12
  have hcp := fun sT ty => copy_digest (linkL pass salt i1 0) hlu0 w2 (w.heap.size + 1) 141 sT ty Z hZs hg
  obtain ⟨U0, hU0⟩ : ∃ U0, linkL pass salt i1 0 = U0 := ⟨_, rfl⟩
  rw [hU0] at hsg hcp ⊢
  generalize hW3 : w2.setRow (w.heap.size + 1) (vals .u8 (nats U0)).toArray = w3 at hsg hcp
  obtain ⟨T, hT⟩ : ∃ T, turnsOf rounds = T := ⟨_, rfl⟩
  have hTr : ∀ j : Nat, j < T ↔ (j : Int) + 1 < rounds := fun j => by rw [← hT]; unfold turnsOf; omega
  have HTR := hide hTr
  have HTD := hide hT
  have HU0 := hide hU0
  have HF0 := hide hf0
  have HSG := hide hsg
  clear hW3 hT hTr hl0 hu0 hf0 hSN a1 hsz0 hbA hm1 hk1 hsz1 hb1 hb2 hb12 hg hsg hlu0 hU0
  go_wp2_with fail
  go_loopw [10, 11, 12] (fun l r _ wr => ∃ j : Nat, j ≤ T ∧ r = .int .i64 ((j : Int) + 1) ∧ l = .string ⟨(linkL pass salt i1 j).toArray⟩ ∧ SG w (sumL pass salt i1 j) wr) (fun _ r _ _ => (20 - intOf r).toNat)
  case atStart => exact ⟨0, by omega, rfl, by rw [HU0.out], by rw [HF0.out, HU0.out]; exact HSG.out⟩
  case round =>
    clear HSG hcp
    obtain ⟨j, hj, rfl, rfl, hsg⟩ := hrel
    have hmj := hm.below hsg.bel hblt
    have hkj := hk.below hsg.bel hkl
    have hlu := linkL_len pass salt i1 j
    have hlu1 := linkL_len pass salt i1 (j + 1)
    have hlf := sumL_len pass salt i1 j
    have hfn : xorL (sumL pass salt i1 j) (linkL pass salt i1 (j + 1)) = sumL pass salt i1 (j + 1) := rfl
    have hun : macL pass (linkL pass salt i1 j) = linkL pass salt i1 (j + 1) := rfl
    by_cases hjt : j < T
    · have hji := (HTR.out j).1 hjt
      have hd : decide ((j : Int) + 1 < rounds) = true := by simpa using hji
      have hj8 : (j : Int) ≤ 7 := by omega
      obtain ⟨U, hU⟩ : ∃ U, linkL pass salt i1 j = U := ⟨_, rfl⟩
      obtain ⟨F, hF⟩ : ∃ F, sumL pass salt i1 j = F := ⟨_, rfl⟩
      obtain ⟨U1, hU1⟩ : ∃ U1, linkL pass salt i1 (j + 1) = U1 := ⟨_, rfl⟩
      obtain ⟨F1, hF1⟩ : ∃ F1, sumL pass salt i1 (j + 1) = F1 := ⟨_, rfl⟩
      rw [hU]
      rw [hU] at hlu hun
      rw [hU1] at hlu1 hun hfn
      rw [hF] at hlf hfn hsg
      rw [hF1] at hfn
      have HE := hide (And.intro hU1 hF1)
      have HLL := hide (And.intro hlu (And.intro hlu1 hlf))
      have HUN := hide (And.intro hun hfn)
      clear hU hF hU1 hF1 hlu hlu1 hlf hun hfn hji
      go_wp2_with fail
      refine (macSum_any b ist ost ibuf obuf pass U wr hmj hti hto hoki hoko hkj (by rw [HLL.out.1]; decide)).mono ?_
      rintro e w4 ⟨rfl, hb4⟩
      rw [HUN.out.1]
      have hsg4 := hsg.below hb4
      have hs32 : (ByteArray.mk U1.toArray).size = 32 := by simpa [ByteArray.size] using HLL.out.2.1
      obtain ⟨S1, hS1⟩ : ∃ S1, ByteArray.mk U1.toArray = S1 := ⟨_, rfl⟩
      rw [hS1] at hs32 ⊢
      have HS1 := hide hS1
      clear hsg hmj hkj hb4 hS1
      go_wp2_with fail
      go_loopw [12] (fun k wr => ∃ n : Nat, n ≤ 32 ∧ k = .int .i64 (n : Int) ∧ SG w (addTo F U1 n) wr) (fun k _ => (40 - intOf k).toNat)
      case atStart => exact ⟨0, by omega, rfl, by simpa [addTo, xorL] using hsg4⟩
      case round =>
        clear hsg4
        obtain ⟨n, hn, rfl, hsg⟩ := hrel
        by_cases hnl : n < 32
        · have hni : (n : Int) < 32 := by omega
          have hlF : F.length = 32 := HLL.out.2.2
          have hlU : U1.length = 32 := HLL.out.2.1
          have hc := hsg.row.cell (i := n) (by rw [nats_len, addTo_len F U1 n (by omega) (by omega)]; omega)
          rw [addTo_get F U1 n (by omega) (by omega)] at hc
          have hf := hsg.row.frozen n
          have hset := hsg.set n (F[n].toNat ^^^ U1[n].toNat) (addTo F U1 (n + 1)) (addTo_set F U1 n (by omega) (by omega))
          have hnS : n < S1.size := by rw [hs32]; exact hnl
          have hbyte : S1[n].toNat = U1[n].toNat := by
            have h1 := HS1.out
            subst h1
            rfl
          have hx := u8_xor_nat F[n].toNat S1[n].toNat F[n].toNat_lt S1[n].toNat_lt
          rw [← hbyte] at hset
          have HS := hide hset
          obtain ⟨y, hy⟩ : ∃ y, F[n].toNat = y := ⟨_, rfl⟩
          rw [hy] at hc hx HS
          clear hset hsg hbyte hy hlF hlU
          go_wp2_with fail
          first
            | (go_region
               go_wp2_with fail
               go_roundw
               case rel => exact ⟨n + 1, by omega, by go_num, HS.out.drew⟩
               case measure => simp [intOf]; omega)
            | (go_roundw
               case rel => exact ⟨n + 1, by omega, by go_num, HS.out⟩
               case measure => simp [intOf]; omega)
        · have hn32 : n = 32 := by omega
          subst hn32
          rw [addTo_all F U1 32 HLL.out.2.2 HLL.out.2.1, HUN.out.2] at hsg
          go_wp2_with fail
          go_roundw
          case rel => first
            | exact ⟨j + 1, by omega, by go_num, by rw [HE.out.1, HS1.out], by rw [HE.out.2]; exact hsg⟩
            | ((repeat apply Exists.intro); exact ⟨⟨j + 1, by omega, by go_num, by rw [HE.out.1, HS1.out], by rw [HE.out.2]; exact hsg⟩, rfl⟩)
          case measure => simp [intOf]; omega
    · have hjT : j = T := by omega
      subst hjT
      have hd : decide ((j : Int) + 1 < rounds) = false := by
        have := HTR.out j
        simp only [Nat.lt_irrefl, false_iff] at this
        simpa using this
      have hj8 : (j : Int) ≤ 8 := by
        have := HTD.out; unfold turnsOf at this; omega
      have hra := row_range hsg.row
      rw [vals_nats] at hra
      have hth := hsg.res
      have hbel := hsg.bel
      have hF : sumL pass salt i1 (turnsOf rounds) = sumL pass salt i1 j := by rw [HTD.out]
      have hone : ∀ v ∈ bvals (sumL pass salt i1 j), v.oneCell' = true := by rw [← vals_nats]; exact vals_one _ _
      have hvl : (bvals (sumL pass salt i1 j)).length = 32 := by rw [bvals_len, hlf]
      obtain ⟨V, hV⟩ : ∃ V, bvals (sumL pass salt i1 j) = V := ⟨_, rfl⟩
      rw [hV] at hra hone hvl
      have HI := hide (show (Tryz.prog.info? 141).map (·.size) = some V.length from by rw [hvl]; kernel_rfl)
      have hb1 : Below w.heap.size w (wr.setCells w.heap.size 0 V) := hbel.trans (below_setCells wr w.heap.size _ 0 V (Nat.le_refl _))
      have hrr := World.rangeAt_setCells_same wr w.heap.size 0 V (by rw [hvl]; exact hth)
      have HV := hide hvl
      have HFV := hide (And.intro hF hV)
      have HRA := hide hra
      clear hvl hlu hlu1 hlf hfn hun hF hV hra hsg hmj hkj
      go_wp2_with (first | refine wpList_load_mid rfl 141 _ rfl (w.heap.size + 1) 0 rfl V _ HRA.out Tryz.underlying141 rfl HI.out ?_ | refine wpList_store_mid rfl 141 _ _ rfl w.heap.size 0 V.toArray rfl rfl (by simpa [HV.out] using hth) (by simpa using HI.out) (all_oneCell_toArray hone) ?_)
      exact bodyPost_ret (v := .agg V.toArray) (results_cell_mid Tryz.results93 _ _ w.heap.size 0 V _ rfl hrr Tryz.underlying141 rfl HI.out) rfl ⟨by rw [HFV.out.1, HFV.out.2], hb1⟩
end Go.Proofs.YtjnhlkaafnaooabGreatDoor

namespace Go.Proofs.YtjnhlkaafnaooabGreatDoor
open Go.RowKit
/-- 'string(t[:k])' of a slice of the call's own. -/
theorem conv_own_part {w : World} {base g cap n k : Nat} {e : TypeId} {l : List UInt8} (h : w.ownsRow base e 1 (.slice (some ⟨g, 0, none⟩) n cap) n (bvals l)) (hn : l.length = n) (hk : k ≤ n) :
    (convert 52 9 (.slice (some ⟨g, 0, none⟩) k cap)).run Tryz.prog w = .ok (.string ⟨(l.take k).toArray⟩) w := by
  subst hn
  have hl : (l.take k).length = k := by simp; omega
  have := run_convert_bytes_back (P := Tryz.prog) w 52 9 5 ⟨g, 0, none⟩ cap (l.take k) Tryz.underlying52 Tryz.underlying5 Tryz.underlying9 (fun j hj => by
    rw [hl] at hj
    rw [Addr.add_mid, Nat.zero_add, h.cellAt j (by omega)]
    simp [bvals, List.getElem?_eq_getElem (by omega : j < l.length)])
  rw [hl] at this
  exact this

set_option maxRecDepth 100000 in
set_option maxHeartbeats 2000000 in
theorem stretch_any (pass salt : List UInt8) (rounds size : Int) (w : World) (hk : Cells w 1 .u32 kWords) (h0 : Cells w 0 .u32 hWords) (hpl : pass.length ≤ 65536) (hsl : salt.length ≤ 65536) (hr : -1 ≤ rounds ∧ rounds ≤ 8) (hs : -2 ≤ size ∧ size ≤ 200) :
    Calls Tryz.prog 53 #[.string ⟨pass.toArray⟩, .string ⟨salt.toArray⟩, .int .i64 rounds, .int .i64 size] w fun e w' => e = .returned (.string ⟨(keyL pass salt rounds size.toNat).toArray⟩) ∧ Below w.heap.size w w' := by
  obtain ⟨i0, hi, hz0, hz1, hz2⟩ := info_parts info_u8
  obtain ⟨hs1, hs2⟩ := hs
  obtain ⟨n, hn⟩ : ∃ n, size.toNat = n := ⟨_, rfl⟩
  rw [hn]
  have hn200 : n ≤ 200 := by omega
  have hni : (n : Int) ≤ 200 := by omega
  have HR := hide hr
  have HSL := hide hsl
  have HKY := hide (keyed_any pass w hk h0 hpl)
  have hzv : ∀ w, (zeroValue 141).run Tryz.prog w = .ok (.agg (vals .u8 (List.replicate 32 0)).toArray) w := fun _ => by kernel_rfl
  obtain ⟨Z, hZ⟩ : ∃ x, (vals .u8 (List.replicate 32 0)).toArray = x := ⟨_, rfl⟩
  rw [hZ] at hzv
  have hZs : Z.size = 32 := by rw [← hZ]; rfl
  have hkl := hk.lt
  have hnil : ∀ w, (convert 52 9 (.slice none 0 0)).run Tryz.prog w = .ok (.string ⟨#[]⟩) w := fun _ => by kernel_rfl
  clear hr hsl hpl hZ
  go_enter Tryz.func53, Tryz.ntmps53
  by_cases hneg : size < 0
  · have hd : decide (size < 0) = true := by simpa using hneg
    have hn0 : n = 0 := by omega
    subst hn0
    go_wp2_with fail
    refine HKY.out.mono ?_
    rintro e w1 ⟨b, ist, ibuf, ost, obuf, rfl, hm, hbl, hbz, hti, hto, hoki, hoko, hb1⟩
    clear HKY hm hti hto hoki hoko hbl hbz hd hneg
    go_wp2_with fail
    go_loopw [10, 11, 12] (fun t i _ wr => t = .slice none 0 0 ∧ i = .int .u32 1 ∧ Below w.heap.size w wr) (fun _ _ _ _ => 0)
    case atStart => exact ⟨rfl, rfl, hb1⟩
    case round =>
      obtain ⟨rfl, rfl, hbel⟩ := hrel
      go_wp2_with fail
      go_ret
      exact ⟨rfl, hbel⟩
  · have hd : decide (size < 0) = false := by simpa using hneg
    have hsn : size = (n : Int) := by omega
    subst hsn
    go_wp2_with fail
    refine HKY.out.mono ?_
    rintro e w1 ⟨b, ist, ibuf, ost, obuf, rfl, hm, hbl, hbz, hti, hto, hoki, hoko, hb1⟩
    have hk1 := hk.below hb1 hkl
    clear HKY hd hneg hs1 hs2 hn
    have hzz1 := hb1.size
    go_wp2_with fail
    obtain ⟨T, hT⟩ : ∃ T, turnsOf rounds = T := ⟨_, rfl⟩
    have HT := hide hT
    clear hT
    go_loopw [10, 11, 12] (fun t i _ wr => ∃ (m : Nat) (ao : Option Addr) (cap : Nat), m ≤ (n + 31) / 32 ∧ i = .int .u32 ((m + 1 : Nat) : Int) ∧ t = .slice ao (32 * m) cap ∧ Hid (m = 0 → ao = none ∧ cap = 0) ∧ wr.ownsRow w1.heap.size 5 1 (.slice ao (32 * m) cap) (32 * m) (bvals (keyTo pass salt T m)) ∧ Below w1.heap.size w1 wr) (fun _ i _ _ => (10 - intOf i).toNat)
    case atStart => exact ⟨0, none, 0, by omega, rfl, rfl, fun _ => ⟨rfl, rfl⟩, World.ownsRow_nil _ _ _ _, Below.refl _ _⟩
    case round =>
      obtain ⟨m, ao, cap, hmn, rfl, rfl, hao, hown, hbel⟩ := hrel
      have hmr := hm.below hbel hbz
      have hkr := hk1.below hbel hk1.lt
      have hszr := hbel.size
      obtain ⟨q, hq⟩ : ∃ q, 32 * m = q := ⟨_, rfl⟩
      obtain ⟨i1, hi1⟩ : ∃ i1, m + 1 = i1 := ⟨_, rfl⟩
      rw [hq] at hown ⊢
      rw [hi1]
      by_cases hlt : q < n
      · have hqi : (q : Int) < (n : Int) := by omega
        have hi8 : i1 ≤ 8 := by omega
        have hi8i : (i1 : Int) ≤ 8 := by omega
        have hst := stretched_any b ist ost ibuf obuf pass salt i1 rounds wr hmr hti hto hoki hoko hkr HSL.out hi8 HR.out
        rw [HT.out] at hst
        have HST := hide hst
        have hnx : keyTo pass salt T (m + 1) = keyTo pass salt T m ++ sumL pass salt (m + 1) T := rfl
        have hlf := sumL_len pass salt i1 T
        rw [hi1] at hnx
        obtain ⟨F, hF⟩ : ∃ F, sumL pass salt i1 T = F := ⟨_, rfl⟩
        rw [hF] at hnx HST hlf
        have hone : ∀ v ∈ bvals F, v.oneCell' = true := by rw [← vals_nats]; exact vals_one _ _
        have hcl : ∀ v ∈ bvals F, v.cells = #[v] := by
          intro v hv
          simp only [bvals, List.mem_map] at hv
          obtain ⟨x, _, rfl⟩ := hv
          rfl
        have hvl : (bvals F).length = 32 := by rw [bvals_len, hlf]
        have hba := bvals_append (keyTo pass salt T m) F
        rw [← hnx] at hba
        obtain ⟨V, hV⟩ : ∃ V, bvals F = V := ⟨_, rfl⟩
        rw [hV] at hone hcl hvl hba HST
        have HI' := hide (show (Tryz.prog.info? 141).map (·.size) = some V.toArray.size from by rw [List.size_toArray, hvl]; kernel_rfl)
        have HV := hide hvl
        have HBA := hide hba
        have HNX := hide hnx
        have HCL := hide hcl
        clear hst hnx hlf hF hV hvl hba hcl hmr hkr
        go_wp2_with fail
        refine HST.out.mono ?_
        rintro e w2 ⟨rfl, hb2⟩
        clear HST
        have hblk := setCells_all w2 141 Z V (by rw [hZs, HV.out])
        have hbW : Below wr.heap.size wr ((w2.alloc (.cells Z 141)).setCells w2.heap.size 0 V) :=
          (hb2.alloc hb2.size _).trans (below_setCells _ _ _ _ _ hb2.size)
        have hown3 := owns_below hown hbW
        have hszW : ((w2.alloc (.cells Z 141)).setCells w2.heap.size 0 V).heap.size = w2.heap.size + 1 := by rw [(setCells_block _ _ _ _).1]; simp
        have hbel3 : Below w1.heap.size w1 ((w2.alloc (.cells Z 141)).setCells w2.heap.size 0 V) := hbel.trans (hbW.mono hszr)
        have hsz2 := hb2.size
        have HBLK := hide hblk
        have HBEL3 := hide hbel3
        have HOWN3 := hide hown3
        have HSZW := hide hszW
        clear hblk hbW hown3 hszW hbel3 hown hbel hb2
        go_wp2_with (first | refine wpList_store_mid rfl 141 _ _ rfl w2.heap.size 0 V.toArray rfl rfl ?c0 HI'.out (all_oneCell_toArray hone) ?_ | (at_builtin; refine wpList_append_lies _ rfl _ _ 52 rfl w1.heap.size 5 i0 (.int .u8 0) 1 1 Tryz.underlying52 hi hz0 hz1 hz2 rfl (by decide) _ _ _ rfl HOWN3.out ⟨w2.heap.size, 0, none⟩ 32 32 V rfl (by rw [HV.out]) ?c1 ?c2 (by decide) ?c3 ?c4 ?c5 _ rfl ?_))
        case c0 =>
          have e : V.toArray.size = Z.size := by rw [hZs]; simpa using HV.out
          rw [e]
          exact there_new w2 _ _
        case c1 => exact World.news_of_block (cs := V.toArray) HBLK.out
        case c2 => exact hone
        case c3 => unfold maxLen; omega
        case c4 => omega
        case c5 => rw [HSZW.out]; omega
        intro g2 cap2 w4 hown4 hgrow hlie hg2
        have hbel4 : Below w1.heap.size w1 w4 := Below.grown HBEL3.out hgrow (by rw [HSZW.out]; omega) (fun k hk => (HOWN3.out.lt k hk).1)
        rw [← HBA.out] at hown4
        have hq32 : q + 32 = 32 * i1 := by omega
        rw [hq32] at hown4 ⊢
        have HFIN := hide (And.intro hown4 hbel4)
        clear hown4 hbel4 hgrow hlie HBA HNX HCL HBLK HBEL3 HOWN3 HSZW
        go_wp2_with fail
        go_roundw
        case rel => first
          | exact ⟨m + 1, some ⟨g2, 0, none⟩, cap2, by omega, by go_num, by rw [hi1], fun h => by omega, by rw [hi1]; exact HFIN.out.1, HFIN.out.2⟩
          | ((repeat apply Exists.intro); exact ⟨⟨m + 1, some ⟨g2, 0, none⟩, cap2, by omega, by go_num, by rw [hi1], fun h => by omega, by rw [hi1]; exact HFIN.out.1, HFIN.out.2⟩, rfl⟩)
        case measure => simp [intOf]; omega
      · have hm2 : m = (n + 31) / 32 := by omega
        have hlen := keyTo_len pass salt T m
        rw [hq] at hlen
        have hkey : (keyTo pass salt T m).take n = keyL pass salt rounds n := by unfold keyL; rw [HT.out, ← hm2]
        have hbw : Below w.heap.size w wr := hb1.trans (hbel.mono hzz1)
        have hqn : ¬ (q : Int) < (n : Int) := by omega
        have hq3 : (q : Int) ≤ 300 := by omega
        have hnq : (n : Int) ≤ (q : Int) := by omega
        rcases Nat.eq_zero_or_pos m with hm0 | hmp
        · have hn0 : n = 0 := by omega
          have hq0 : q = 0 := by omega
          obtain ⟨rfl, rfl⟩ := hao.out hm0
          subst hn0
          subst hq0
          clear hkey hm2 hlen hown hqn hnq hq3 hmr hkr
          go_wp2_with fail
          go_ret
          exact ⟨rfl, hbw⟩
        · obtain ⟨g, cap', hv⟩ := own_form hown (by omega)
          cases hv
          have hcv := conv_own_part hown hlen (by omega : n ≤ q)
          rw [hkey] at hcv
          have hqc : q ≤ cap := by
            rcases hown.2 with ⟨_, h0⟩ | ⟨g', cap'', cur, hv, h1, h2, h3, h4⟩
            · omega
            · cases hv; omega
          have hnc : (n : Int) ≤ (cap : Int) := by omega
          have hao' := hao
          clear hkey hm2 hlen hown hmr hkr hao hao'
          obtain ⟨R, hR⟩ : ∃ R, keyL pass salt rounds n = R := ⟨_, rfl⟩
          rw [hR] at hcv
          have HRR := hide hR
          clear hR
          go_wp2_with fail
          go_ret
          exact ⟨by rw [HRR.out]; rfl, hbw⟩
end Go.Proofs.YtjnhlkaafnaooabGreatDoor
