import Derived.Test.YtjnhlkaafnaooabGreatDoorHashW
import Derived.Test.YtjnhlkaafnaooabGreatDoorStepW
import Derived.Test.YtjnhlkaafnaooabGreatDoorWriteW
import Derived.Test.YtjnhlkaafnaooabGreatDoorRmA
import Derived.Laws.BitsAllLaws
import Derived.Lib.BufferWrite
import Derived.Deep.WholeRow
import Derived.Laws.Tables
namespace Go.Proofs.YtjnhlkaafnaooabGreatDoor
open Go.RowKit
def zeroSt : St := ⟨0, 0, 0, 0, 0, 0, 0, 0⟩
theorem HashAt.whole {w : World} {b : Nat} {st : St} {buf : List UInt8} {n : Nat} (h : HashAt w b st buf n) : w.rangeAt b 0 (hcells st buf n) := by
  intro j v hv
  rw [Nat.zero_add, cell_of_row _ _ _ _ _ _ h.blk]
  simpa using hv
theorem hcells_one (st : St) (buf : List UInt8) (n : Nat) : ∀ v ∈ hcells st buf n, v.oneCell' = true := by
  intro v hv
  simp only [hcells, List.mem_append, List.mem_singleton] at hv
  rcases hv with (hv | hv) | hv
  · exact vals_one _ _ v hv
  · rw [← vals_nats] at hv; exact vals_one _ _ v hv
  · subst hv; rfl
set_option maxRecDepth 100000 in
set_option maxHeartbeats 2000000 in
theorem sum_any (b : Nat) (st : St) (buf : List UInt8) (T : List UInt8) (w : World) (hh : HashAt w b st buf T.length) (htk : Taken st buf T) (hok : st.ok) (hk : Cells w 1 .u32 kWords) (hlen : T.length ≤ 900000) :
    Calls Tryz.prog 72 #[.pointer (some ⟨b, 0, none⟩)] w fun e w' => e = .returned (.string ⟨(shaL T).toArray⟩) ∧ Below w.heap.size w w' := by
  obtain ⟨n, hn⟩ : ∃ n, T.length = n := ⟨_, rfl⟩
  have hni : (n : Int) ≤ 900000 := by omega
  rw [hn] at hh
  have HN := hide hn
  have hl73 := hcells_len st buf n hh.len
  have hone := hcells_one st buf n
  have hra := hh.whole
  have cs := hh.size
  have hblt := hh.lt
  obtain ⟨HCL, hHC⟩ : ∃ x, hcells st buf n = x := ⟨_, rfl⟩
  have HH := hide hh
  rw [hHC] at hl73 hone hra
  have HI := hide (show (Tryz.prog.info? 149).map (·.size) = some HCL.length from by rw [hl73]; kernel_rfl)
  have HI' := hide (show (Tryz.prog.info? 149).map (·.size) = some HCL.toArray.size from by rw [List.size_toArray, hl73]; kernel_rfl)
  have HRA := hide hra
  have HL := hide hl73
  have HHC := hide hHC
  have hzv : ∀ w, (zeroValue 149).run Tryz.prog w = .ok (.agg (hcells zeroSt (List.replicate 64 0) 0).toArray) w := fun _ => by kernel_rfl
  obtain ⟨Z, hZ⟩ : ∃ x, (hcells zeroSt (List.replicate 64 0) 0).toArray = x := ⟨_, rfl⟩
  rw [hZ] at hzv
  have hZs : Z.size = 73 := by rw [← hZ]; rfl
  clear hn hra hl73 hHC hh hlen hZ
  have hblk := setCells_all w 149 Z HCL (by rw [hZs, HL.out])
  have hb2 : Below w.heap.size w ((w.alloc (.cells Z 149)).setCells w.heap.size 0 HCL) := ((Below.refl _ _).alloc (Nat.le_refl _) _).trans (below_setCells _ _ _ _ _ (Nat.le_refl _))
  have hc2 : ((w.alloc (.cells Z 149)).setCells w.heap.size 0 HCL).cell? ⟨b, 72, none⟩ = some (.int .u64 (n : Int)) := (hb2.cell (p := ⟨b, 72, none⟩) hblt).trans cs
  have HBLK := hide hblk
  have HB2 := hide hb2
  clear hblk hb2 cs
  go_enter Tryz.func72, Tryz.ntmps72
  go_wp2_with (first | refine wpList_load_mid rfl 149 _ rfl b 0 rfl HCL _ HRA.out Tryz.underlying149 rfl HI.out ?_ | refine wpList_store_mid rfl 149 _ _ rfl w.heap.size 0 HCL.toArray rfl rfl ?c1 HI'.out (all_oneCell_toArray hone) ?_)
  case c1 =>
    have e : HCL.toArray.size = Z.size := by rw [hZs]; simpa using HL.out
    rw [e]
    exact there_new w _ _
  refine (padding_any n _ (by omega)).mono ?_
  rintro e w3 ⟨rfl, hb3⟩
  have hpl := padL_len n
  obtain ⟨Pd, hPd⟩ : ∃ x, padL n = x := ⟨_, rfl⟩
  have hH2 : HashAt ((w.alloc (.cells Z 149)).setCells w.heap.size 0 HCL) w.heap.size st buf T.length := ⟨by rw [HN.out, HHC.out]; exact HBLK.out, HH.out.len⟩
  have hNs : ((w.alloc (.cells Z 149)).setCells w.heap.size 0 HCL).heap.size = w.heap.size + 1 := by rw [(setCells_block _ _ _ _).1]; simp
  have hH3 := hH2.below hb3 (by rw [hNs]; omega)
  have hk3 := (hk.below HB2.out hk.lt).below hb3 (by rw [hNs]; have := hk.lt; omega)
  have hbel3 : Below w.heap.size w w3 := HB2.out.trans (hb3.mono (by rw [hNs]; omega))
  have hz3 := hH3.lt
  have hkl := hk.lt
  rw [hPd] at hpl ⊢
  have hps : (ByteArray.mk Pd.toArray).size = padZ n + 9 := by simpa [ByteArray.size] using hpl
  have hzl := padZ_lt n
  have HPD := hide hPd
  have hwr := write_any w.heap.size st buf T ⟨Pd.toArray⟩ w3 hH3 htk hok hk3 (by omega) (by rw [hps, HN.out]; omega)
  have HWR := hide hwr
  clear hwr hH2 hH3 hb3 hPd hpl hps hNs hc2
  go_wp2_with fail
  refine HWR.out.mono ?_
  rintro e w4 ⟨rfl, st4, buf4, hh4, htk4, hok4, hkp4⟩
  have hrw := hh4.words
  have HI8 := hide (show (Tryz.prog.info? 145).map (·.size) = some (vals .u32 st4.list).length from by kernel_rfl)
  have hdg : digest st4 = shaL T := by
    have h1 : Pd = padL T.length := by rw [HN.out, HPD.out]
    rw [h1] at htk4
    exact Taken.digest htk4
  have HDG := hide hdg
  have HRW := hide hrw
  have hbel4 := hkp4.below hbel3 (Nat.le_refl _) (by omega)
  have hz4 := hh4.lt
  clear hdg hrw hkp4 HWR hh4 htk4
  go_wp2_with (refine wpList_load_mid rfl 145 _ rfl w.heap.size 0 rfl (vals .u32 st4.list) _ HRW.out Tryz.underlying145 rfl HI8.out ?_)
  refine (wordsText_any st4 _ hok4).mono ?_
  rintro e w5 ⟨rfl, hb5⟩
  go_wp2_with fail
  go_ret
  exact ⟨by rw [HDG.out]; rfl, hbel4.trans (hb5.mono (by omega))⟩

set_option maxRecDepth 100000 in
set_option maxHeartbeats 2000000 in
theorem of_any (s : ByteArray) (w : World) (hk : Cells w 1 .u32 kWords) (h0 : Cells w 0 .u32 hWords) (hlen : s.size ≤ 900000) :
    Calls Tryz.prog 40 #[.string s] w fun e w' => e = .returned (.string ⟨(shaL s.data.toList).toArray⟩) ∧ Below w.heap.size w w' := by
  have hkl := hk.lt
  go_enter Tryz.func40, Tryz.ntmps40
  go_wp2_with fail
  refine (start_any _ h0).mono ?_
  rintro e w1 ⟨rfl, hh1, hb1⟩
  have hz1 := hh1.lt
  have hk1 := hk.below hb1 hk.lt
  go_wp2_with fail
  refine (write_any w.heap.size startSt _ [] s w1 hh1 Taken.start startSt_ok hk1 (by omega) (by simpa using (by omega : s.size ≤ 1000000))).mono ?_
  rintro e w2 ⟨rfl, st2, buf2, hh2, htk2, hok2, hkp2⟩
  rw [List.nil_append] at htk2
  have hk2 := hkp2.cells hk1 (by omega)
  have hz2 := hh2.lt
  have hbel2 := hkp2.below hb1 (Nat.le_refl _) (by omega)
  have hl : ([] : List UInt8).length + s.size = s.data.toList.length := by simp
  rw [hl] at hh2
  clear hl hh1 hkp2
  go_wp2_with fail
  refine (sum_any w.heap.size st2 buf2 s.data.toList w2 hh2 htk2 hok2 hk2 (by simpa using hlen)).mono ?_
  rintro e w3 ⟨rfl, hb3⟩
  go_wp2_with fail
  go_ret
  exact ⟨rfl, hbel2.trans (hb3.mono (by omega))⟩
end Go.Proofs.YtjnhlkaafnaooabGreatDoor

namespace Go.Proofs.YtjnhlkaafnaooabGreatDoor
open Go.RowKit
def padTo (t : List UInt8) (j : Nat) : List UInt8 := t ++ 128 :: List.replicate j 0
theorem padTo_len (t : List UInt8) (j : Nat) : (padTo t j).length = t.length + 1 + j := by simp [padTo]; omega
theorem padTo_succ (t : List UInt8) (j : Nat) : padTo t (j + 1) = padTo t j ++ [0] := by simp [padTo, List.replicate_succ']
def sizeOfStr : Value → Nat
  | .string s => s.size
  | _ => 0
end Go.Proofs.YtjnhlkaafnaooabGreatDoor

namespace Go.Proofs.YtjnhlkaafnaooabGreatDoor
open Go.RowKit
end Go.Proofs.YtjnhlkaafnaooabGreatDoor

namespace Go.Proofs.YtjnhlkaafnaooabGreatDoor
open Go.RowKit
/-- A block, its first k bytes masked. -/
def maskTo (B : List UInt8) (c : UInt8) (k : Nat) : List UInt8 := (B.take k).map (fun x => x ^^^ c) ++ B.drop k
theorem maskTo_len (B : List UInt8) (c : UInt8) (k : Nat) : (maskTo B c k).length = B.length := by simp [maskTo]; omega
theorem maskTo_get (B : List UInt8) (c : UInt8) (k : Nat) (h : k < B.length) : (nats (maskTo B c k)).getD k 0 = B[k].toNat := by
  have hl : ((B.take k).map (fun x => x ^^^ c)).length = k := by simp; omega
  have e : (maskTo B c k)[k]? = some B[k] := by
    unfold maskTo
    rw [List.getElem?_append_right (by omega), hl, Nat.sub_self, List.getElem?_drop, Nat.add_zero, List.getElem?_eq_getElem h]
  simp [nats, e]
theorem maskTo_set (B : List UInt8) (c : UInt8) (k : Nat) (h : k < B.length) : (nats (maskTo B c k)).set k (B[k].toNat ^^^ c.toNat) = nats (maskTo B c (k + 1)) := by
  have hl : ((B.take k).map (fun x => x ^^^ c)).length = k := by simp; omega
  have e : (maskTo B c k).set k (B[k] ^^^ c) = maskTo B c (k + 1) := by
    unfold maskTo
    rw [List.set_append_right k _ (by omega), hl, Nat.sub_self, List.drop_eq_getElem_cons h, List.set_cons_zero, List.take_succ_eq_append_getElem h, List.map_append, List.append_assoc]
    rfl
  rw [← e]
  simp [nats, List.map_set]
theorem zip_rep (c : UInt8) : ∀ (B : List UInt8), B.map (fun x => x ^^^ c) = List.zipWith (fun x y => x ^^^ y) B (List.replicate B.length c)
  | [] => rfl
  | x :: B => by simp [List.replicate_succ, zip_rep c B]
theorem maskTo_all (B : List UInt8) (c : UInt8) (h : B.length = 64) : maskTo B c 64 = xorL B (List.replicate 64 c) := by
  unfold maskTo xorL
  rw [List.take_of_length_le (by omega), List.drop_eq_nil_of_le (by omega), List.append_nil, zip_rep, h]

theorem drop_noughts (m n : Nat) : (vals .u8 (List.replicate m 0)).drop n = vals .u8 (nats (List.replicate (m - n) 0)) := by simp [vals, nats]
theorem copy_block (K : List UInt8) (n : Nat) (hn : K.length = n) (h64 : n ≤ 64) (w : World) (sT ty t : TypeId) :
    (Builtin.copy_ #[52, sT] ty #[.slice (some ⟨w.heap.size, 0, none⟩) 64 64, .string ⟨K.toArray⟩]).run Tryz.prog (w.alloc (.cells (vals .u8 (List.replicate 64 0)).toArray t)) =
      .ok (goInt n) (w.alloc (.cells (vals .u8 (nats (K ++ List.replicate (64 - n) 0))).toArray t)) := by
  have hs : (ByteArray.mk K.toArray).size = n := by simpa [ByteArray.size] using hn
  have := Lib.run_copy_row_string (P := Tryz.prog) (w.alloc (.cells (vals .u8 (List.replicate 64 0)).toArray t)) 52 sT ty 5 w.heap.size 0 64 64 ⟨K.toArray⟩ (vals .u8 (List.replicate 64 0)).toArray t Tryz.underlying52 (by kernel_rfl) (heap_alloc_new w _) (by omega) (by rw [hs]; simp [vals]; omega)
  rw [this, hs, World.setRow_alloc_new]
  have e := drop_noughts 64 n
  have e2 : vals .u8 (nats (K ++ List.replicate (64 - n) 0)) = Lib.byteCells K ++ vals .u8 (nats (List.replicate (64 - n) 0)) := by
    simp [vals, nats, Lib.byteCells, Function.comp_def]
  rw [e2, ← e]
  simp only [Nat.zero_add, List.take_zero, List.nil_append]

set_option maxRecDepth 100000 in
set_option maxHeartbeats 1000000 in
theorem masked_any (K : List UInt8) (c : UInt8) (w : World) (hK : K.length ≤ 64) :
    Calls Tryz.prog 94 #[.string ⟨K.toArray⟩, .int .u8 (c.toNat : Int)] w fun e w' => e = .returned (.string ⟨(xorL (K ++ List.replicate (64 - K.length) 0) (List.replicate 64 c)).toArray⟩) ∧ Below w.heap.size w w' := by
  obtain ⟨n, hn⟩ : ∃ n, K.length = n := ⟨_, rfl⟩
  rw [hn] at hK ⊢
  have hcp := fun sT ty t => copy_block K n hn hK w sT ty t
  have hBl : (K ++ List.replicate (64 - n) 0).length = 64 := by simp [hn]; omega
  obtain ⟨B, hB⟩ : ∃ B, K ++ List.replicate (64 - n) 0 = B := ⟨_, rfl⟩
  rw [hB] at hcp hBl ⊢
  have hzv : ∀ w, (zeroValue 146).run Tryz.prog w = .ok (.agg (vals .u8 (List.replicate 64 0)).toArray) w := fun _ => by kernel_rfl
  obtain ⟨Z, hZ⟩ : ∃ x, (vals .u8 (List.replicate 64 0)).toArray = x := ⟨_, rfl⟩
  rw [hZ] at hzv hcp
  have hall := maskTo_all B c hBl
  rw [← hall]
  have HBL := hide hBl
  have hcl : (vals .u8 (nats B)).toArray.size = 64 := by simp [vals, nats, hBl]
  have hrow0 : Row (w.alloc (.cells (vals .u8 (nats B)).toArray 146)) w.heap.size 146 .u8 (nats (maskTo B c 0)) := by
    have e0 : maskTo B c 0 = B := by simp [maskTo]
    rw [e0]
    exact Row.new w _ _ _ _ (by simp [vals]) (fun i hi => vals_get _ _ i hi)
  obtain ⟨C, hC⟩ : ∃ C, (vals .u8 (nats B)).toArray = C := ⟨_, rfl⟩
  rw [hC] at hcp hrow0
  have HR := hide hrow0
  clear hZ hall hB hBl hn hC hcl hrow0 hK
  go_enter Tryz.func94, Tryz.ntmps94
  go_wp2_with fail
  go_loopw [6] (fun i wr => ∃ k : Nat, k ≤ 64 ∧ i = .int .i64 (k : Int) ∧ Row wr w.heap.size 146 .u8 (nats (maskTo B c k)) ∧ Below w.heap.size w wr) (fun i _ => (65 - intOf i).toNat)
  case atStart => exact ⟨0, by omega, rfl, HR.out, (Below.refl _ _).alloc (Nat.le_refl _) _⟩
  case round =>
    obtain ⟨k, hk, rfl, hrow, hbel⟩ := hrel
    by_cases hlt : k < 64
    · have hki : (k : Int) < 64 := by omega
      have hkB : k < B.length := by rw [HBL.out]; exact hlt
      have hc := hrow.cell (i := k) (by rw [nats_len, maskTo_len]; exact hkB)
      rw [maskTo_get B c k hkB] at hc
      have hf := hrow.frozen k
      have hset := hrow.set k (B[k].toNat ^^^ c.toNat)
      rw [maskTo_set B c k hkB] at hset
      have hx := u8_xor_nat B[k].toNat c.toNat B[k].toNat_lt c.toNat_lt
      have hb2 : Below w.heap.size w (wr.setCell ⟨w.heap.size, k, none⟩ (.int .u8 ((B[k].toNat ^^^ c.toNat : Nat) : Int))) := hbel.setCell (Nat.le_refl _) _
      have HS := hide (And.intro hset hb2)
      generalize B[k].toNat = y at *
      clear hset hb2 hrow
      go_wp2_with fail
      go_roundw
      case rel => exact ⟨k + 1, by omega, by go_num, HS.out.1, HS.out.2⟩
      case measure => simp [intOf]; omega
    · have hkn : k = 64 := by omega
      subst hkn
      have hcv := conv_row (cap := 64) hrow
      rw [nats_len, maskTo_len, HBL.out] at hcv
      have e : (nats (maskTo B c 64)).map UInt8.ofNat = maskTo B c 64 := map_toNat_ofNat _
      rw [e] at hcv
      clear hrow e
      obtain ⟨R, hR⟩ : ∃ R, maskTo B c 64 = R := ⟨_, rfl⟩
      rw [hR] at hcv
      have HRR := hide hR
      clear hR
      go_wp2_with fail
      go_ret
      exact ⟨by rw [HRR.out]; rfl, hbel⟩
end Go.Proofs.YtjnhlkaafnaooabGreatDoor

namespace Go.Proofs.YtjnhlkaafnaooabGreatDoor
open Go.RowKit
def mcells (ist : St) (ibuf : List UInt8) (ost : St) (obuf : List UInt8) : List Value := hcells ist ibuf 64 ++ hcells ost obuf 64
/-- A MAC in memory: both its hashes have taken in a block. -/
structure MacAt (w : World) (b : Nat) (ist : St) (ibuf : List UInt8) (ost : St) (obuf : List UInt8) : Prop where
  blk : w.heap[b]? = some (.cells (mcells ist ibuf ost obuf).toArray 151 (0, 0))
  il : ibuf.length = 64
  ol : obuf.length = 64
theorem MacAt.below {w w' : World} {b B : Nat} {ist : St} {ibuf : List UInt8} {ost : St} {obuf : List UInt8} (h : MacAt w b ist ibuf ost obuf) (hb : Below B w w') (hB : b < B) : MacAt w' b ist ibuf ost obuf :=
  ⟨(hb.block b hB).trans h.blk, h.il, h.ol⟩
theorem foldl_set : ∀ (l : List Value) (cells : Array Value) (off k : Nat), off + k + l.length ≤ cells.size →
    ((l.zipIdx k).foldl (fun cs (p : Value × Nat) => cs.setIfInBounds (off + p.2) p.1) cells).toList = cells.toList.take (off + k) ++ l ++ cells.toList.drop (off + k + l.length)
  | [], cells, off, k, _ => by simp
  | x :: l, cells, off, k, h => by
    have hs : off + k < cells.toList.length := by simp at h ⊢; omega
    rw [List.zipIdx_cons, List.foldl_cons, foldl_set l _ off (k + 1) (by simp at h ⊢; omega)]
    simp only [Array.toList_setIfInBounds]
    have e1 : (cells.toList.set (off + k) x).take (off + (k + 1)) = cells.toList.take (off + k) ++ [x] := by
      rw [← Nat.add_assoc, List.take_succ_eq_append_getElem (by simpa using hs), List.getElem_set_self, List.take_set_of_le (Nat.le_refl _)]
    rw [e1, List.drop_set_of_lt (by omega)]
    have e2 : off + (k + 1) + l.length = off + k + (x :: l).length := by simp; omega
    rw [e2]
    simp
theorem fill_part (f : Nat → Option (Nat × Nat)) (cells : Array Value) (i off : Nat) (A : List Value) (rest : List (Nat × Value)) (hf : f i = some (off, A.length)) (hc : off + A.length ≤ cells.size) :
    Instr.fill f cells ((i, .agg A.toArray) :: rest) = Instr.fill f (cells.toList.take off ++ A ++ cells.toList.drop (off + A.length)).toArray rest := by
  have hcs : (Value.agg A.toArray).cells = A.toArray := rfl
  have hfold : (A.toArray.zipIdx.foldl (fun cs (p : Value × Nat) => cs.setIfInBounds (off + p.2) p.1) cells) = (cells.toList.take off ++ A ++ cells.toList.drop (off + A.length)).toArray := by
    apply Array.toList_inj.1
    have := foldl_set A cells off 0 (by omega)
    simp only [Nat.add_zero] at this
    rw [← Array.foldl_toList]
    simpa using this
  rw [Instr.fill, hf]
  simp only [hcs]
  rw [if_neg (by simp; omega)]
  exact congrArg (fun c => Instr.fill f c rest) hfold
theorem built_mac (parts : List (Nat × Value)) : Tryz.prog.built 151 parts = Instr.fill (fun i => [(0, 73), (73, 73)][i]?) (hcells zeroSt (List.replicate 64 0) 0 ++ hcells zeroSt (List.replicate 64 0) 0).toArray parts := by
  have h : Tryz.prog.built 151 = Instr.fill (fun i => [(0, 73), (73, 73)].toArray[i]?) (hcells zeroSt (List.replicate 64 0) 0 ++ hcells zeroSt (List.replicate 64 0) 0).toArray := by kernel_rfl
  rw [h]
  simp
theorem build_mac (A B : List Value) (hA : A.length = 73) (hB : B.length = 73) (w : World) : (Instr.build 151 #[(0, .agg A.toArray), (1, .agg B.toArray)]).run Tryz.prog w = .ok (.agg (A ++ B).toArray) w := by
  refine run_build w _ _ _ ?_
  rw [built_mac]
  have hz : (hcells zeroSt (List.replicate 64 0) 0 ++ hcells zeroSt (List.replicate 64 0) 0).length = 146 := by rw [List.length_append, hcells_len _ _ _ (by simp)]
  obtain ⟨Z, hZ⟩ : ∃ Z, hcells zeroSt (List.replicate 64 0) 0 ++ hcells zeroSt (List.replicate 64 0) 0 = Z := ⟨_, rfl⟩
  rw [hZ] at hz ⊢
  show Instr.fill _ _ [(0, .agg A.toArray), (1, .agg B.toArray)] = _
  rw [fill_part _ _ 0 0 A _ (by rw [hA]; rfl) (by simp; omega), fill_part _ _ 1 73 B _ (by rw [hB]; rfl) (by simp; omega)]
  rw [Instr.fill]
  congr 2
  simp [hA, hB, hz]
theorem HashAt.kept {w w' : World} {b c : Nat} {st : St} {buf : List UInt8} {n : Nat} (h : HashAt w b st buf n) (k : Kept c w w') (hne : b ≠ c) : HashAt w' b st buf n := ⟨(k.block b h.lt hne).trans h.blk, h.len⟩
section
variable {P : Program} {ops : Array Oper} {Q : Exit → Act → World → Prop} {md : Region.Mode} {fuel : Nat} {listed : Array Bool} {a : Act} {w w' : World} {i : Nat} {op : Oper} {rs : List Nat}
theorem allReady_run (hi' : ops[i]? = some op) (hw : Region.wanted op (yielded ops a.tmps) = true) (v : Value) (hr : (execOp a.eval op).run P w = .ok (.value v) w')
    (h : wpAny P md ops Q fuel (listed.setIfInBounds i true) (a.put op.dst v) w') (hs : AllReady P md ops Q fuel listed a w rs) : AllReady P md ops Q fuel listed a w (i :: rs) :=
  AllReady.cons hi' (fun K' hK => by
    rw [if_pos hw]
    unfold Oper.wp
    rw [hr, Oper.upon_value]
    exact hK _ _ h) hs
theorem allReady_build (hi' : ops[i]? = some op) (hw : Region.wanted op (yielded ops a.tmps) = true) (t : TypeId) (parts : Array (Nat × Operand)) (ho : op.op = .build t parts) (v : Value) (ps : Array (Nat × Value)) (hp : (parts.map fun (i, x) => (i, a.eval x)) = ps)
    (hr : (Instr.build t ps).run P w = .ok v w)
    (h : wpAny P md ops Q fuel (listed.setIfInBounds i true) (a.put op.dst v) w) (hs : AllReady P md ops Q fuel listed a w rs) : AllReady P md ops Q fuel listed a w (i :: rs) :=
  AllReady.cons hi' (fun K' hK => by
    rw [if_pos hw]
    unfold Oper.wp execOp
    simp only [ho, hp, Sem.run_bind, hr, Result.andThen_ok, Sem.run_pure]
    exact hK _ _ h) hs
end
theorem masked36 (K : List UInt8) (w : World) (hK : K.length ≤ 64) :
    Calls Tryz.prog 94 #[.string ⟨K.toArray⟩, .int .u8 54] w fun e w' => e = .returned (.string ⟨(xorL (K ++ List.replicate (64 - K.length) 0) (List.replicate 64 54)).toArray⟩) ∧ Below w.heap.size w w' := masked_any K 54 w hK
theorem masked5c (K : List UInt8) (w : World) (hK : K.length ≤ 64) :
    Calls Tryz.prog 94 #[.string ⟨K.toArray⟩, .int .u8 92] w fun e w' => e = .returned (.string ⟨(xorL (K ++ List.replicate (64 - K.length) 0) (List.replicate 64 92)).toArray⟩) ∧ Below w.heap.size w w' := masked_any K 92 w hK

set_option maxRecDepth 100000 in
set_option maxHeartbeats 4000000 in
theorem keyed_any (key : List UInt8) (w : World) (hk : Cells w 1 .u32 kWords) (h0 : Cells w 0 .u32 hWords) (hlen : key.length ≤ 65536) :
    Calls Tryz.prog 55 #[.string ⟨key.toArray⟩] w fun e w' => ∃ b ist ibuf ost obuf, e = .returned (.pointer (some ⟨b, 0, none⟩)) ∧ MacAt w' b ist ibuf ost obuf ∧ w.heap.size ≤ b ∧ b < w'.heap.size ∧
      Taken ist ibuf (padIn key) ∧ Taken ost obuf (padOut key) ∧ ist.ok ∧ ost.ok ∧ Below w.heap.size w w' := by
  obtain ⟨n, hn⟩ : ∃ n, key.length = n := ⟨_, rfl⟩
  have hni : (n : Int) ≤ 65536 := by omega
  have HN := hide hn
  have hsz : (ByteArray.mk key.toArray).size = n := by simpa [ByteArray.size] using hn
  have hof := of_any ⟨key.toArray⟩ w hk h0 (by rw [hsz]; omega)
  have HOF := hide hof
  have hsl := shortL_len key
  obtain ⟨K, hK⟩ : ∃ K, shortL key = K := ⟨_, rfl⟩
  rw [hK] at hsl
  have HK := hide hK
  have HSL := hide hsl
  have hpi : xorL (K ++ List.replicate (64 - K.length) 0) (List.replicate 64 54) = padIn key := by unfold padIn blockL; rw [hK]
  have hpo : xorL (K ++ List.replicate (64 - K.length) 0) (List.replicate 64 92) = padOut key := by unfold padOut blockL; rw [hK]
  have HM1 := hide (fun w => masked36 K w hsl)
  have HM2 := hide (fun w => masked5c K w hsl)
  rw [hpi] at HM1
  rw [hpo] at HM2
  have l1 := padIn_len key
  have l2 := padOut_len key
  obtain ⟨PI, hPI⟩ : ∃ x, padIn key = x := ⟨_, rfl⟩
  obtain ⟨PO, hPO⟩ : ∃ x, padOut key = x := ⟨_, rfl⟩
  rw [hPI] at l1 HM1 ⊢
  rw [hPO] at l2 HM2 ⊢
  have HL := hide (And.intro l1 l2)
  clear hof hsl hK hpi hpo l1 l2 hPI hPO hlen hn
  go_enter Tryz.func55, Tryz.ntmps55
  by_cases h : 64 < n
  case' pos =>
    have hd : decide ((64 : Int) < (n : Int)) = true := by simp; omega
    go_wp2_with fail
    refine HOF.out.mono ?_
    rintro e w1 ⟨rfl, hb1⟩
    have hk1 := hk.below hb1 hk.lt
    have h01 := h0.below hb1 h0.lt
    have hS : shaL (ByteArray.mk key.toArray).data.toList = K := by
      rw [← HK.out]
      unfold shortL
      rw [if_pos (by rw [HN.out]; exact h)]
    rw [hS]
    clear hS h hd hsz hni
  case' neg =>
    have hd : decide ((64 : Int) < (n : Int)) = false := by simp; omega
    have hS : key = K := by rw [← HK.out]; unfold shortL; rw [if_neg (by rw [HN.out]; exact h)]
    rw [hS] at hsz ⊢
    clear hni hS h
    have hb1 : Below w.heap.size w w := Below.refl _ _
    have hk1 := hk
    have h01 := h0
  all_goals
    clear HOF HN
    have hz1 := hb1.size
    have hkl := hk.lt
    go_wp2_with fail
    refine (start_any _ h01).mono ?_
    rintro e w2 ⟨rfl, hh2, hb2⟩
    have hb2' := hb1.trans (hb2.mono hz1)
    have hz2 := hh2.lt
    have hk2 := hk1.below hb2 hk1.lt
    have h02 := h01.below hb2 h01.lt
    try clear hd
    try clear hsz
    go_wp2_with fail
    refine (HM1.out _).mono ?_
    rintro e w3 ⟨rfl, hb3⟩
    have hb3' := hb2'.trans (hb3.mono (by omega))
    have hh3 := hh2.below hb3 hz2
    have hz3 := hh3.lt
    have hk3 := hk2.below hb3 hk2.lt
    have h03 := h02.below hb3 h02.lt
    clear hh2
    go_wp2_with fail
    have hwr := write_any _ startSt _ [] ⟨PI.toArray⟩ w3 hh3 Taken.start startSt_ok hk3 (by omega) (by simp [ByteArray.size, HL.out.1])
    refine hwr.mono ?_
    rintro e w4 ⟨rfl, st4, buf4, hh4, htk4, hok4, hkp4⟩
    have e4 : ([] : List UInt8).length + (ByteArray.mk PI.toArray).size = 64 := by simp [ByteArray.size, HL.out.1]
    rw [e4] at hh4
    have e5 : [] ++ (ByteArray.mk PI.toArray).data.toList = PI := by simp
    rw [e5] at htk4
    have hb4' := hkp4.below hb3' hz1 (by omega)
    have hk4 := hkp4.cells hk3 (by omega)
    have h04 := hkp4.cells h03 (by omega)
    have hz4 := hh4.lt
    clear hwr e4 e5 hh3 hkp4 hb1 hk1 h01 hb2 hb2' hk2 h02 hb3 hb3' hk3 h03
    go_wp2_with fail
    refine (start_any _ h04).mono ?_
    rintro e w5 ⟨rfl, hh5, hb5⟩
    have hb5' := hb4'.trans (hb5.mono (by omega))
    have hk5 := hk4.below hb5 hk4.lt
    have hi5 := hh4.below hb5 hz4
    have hz5 := hh5.lt
    clear hh4
    go_wp2_with fail
    refine (HM2.out _).mono ?_
    rintro e w6 ⟨rfl, hb6⟩
    have hb6' := hb5'.trans (hb6.mono (by omega))
    have hk6 := hk5.below hb6 hk5.lt
    have hi6 := hi5.below hb6 (by omega)
    have hh6 := hh5.below hb6 hz5
    have hz6 := hh6.lt
    clear hh5 hi5
    go_wp2_with fail
    have hwr := write_any _ startSt _ [] ⟨PO.toArray⟩ w6 hh6 Taken.start startSt_ok hk6 (by omega) (by simp [ByteArray.size, HL.out.2])
    refine hwr.mono ?_
    rintro e w7 ⟨rfl, st7, buf7, hh7, htk7, hok7, hkp7⟩
    have e4 : ([] : List UInt8).length + (ByteArray.mk PO.toArray).size = 64 := by simp [ByteArray.size, HL.out.2]
    rw [e4] at hh7
    have e5 : [] ++ (ByteArray.mk PO.toArray).data.toList = PO := by simp
    rw [e5] at htk7
    have hb7' := hkp7.below hb6' (by omega) (by omega)
    have hi7 := hi6.kept hkp7 (by omega)
    have hz7 := hh7.lt
    have hra1 := hi7.whole
    have hra2 := hh7.whole
    have hil := hi7.len
    have hol := hh7.len
    have hl1 := hcells_len st4 buf4 64 hil
    have hl2 := hcells_len st7 buf7 64 hol
    have hm : mcells st4 buf4 st7 buf7 = hcells st4 buf4 64 ++ hcells st7 buf7 64 := rfl
    obtain ⟨A, hA⟩ : ∃ A, hcells st4 buf4 64 = A := ⟨_, rfl⟩
    obtain ⟨B, hB⟩ : ∃ B, hcells st7 buf7 64 = B := ⟨_, rfl⟩
    rw [hA] at hra1 hl1 hm
    rw [hB] at hra2 hl2 hm
    have HI1 := hide (show (Tryz.prog.info? 149).map (·.size) = some A.length from by rw [hl1]; kernel_rfl)
    have HI2 := hide (show (Tryz.prog.info? 149).map (·.size) = some B.length from by rw [hl2]; kernel_rfl)
    have HBU := hide (build_mac A B hl1 hl2)
    obtain ⟨C, hC⟩ : ∃ C, (A ++ B).toArray = C := ⟨_, rfl⟩
    rw [hC] at HBU
    have HR1 := hide hra1
    have HR2 := hide hra2
    have hCs : C.size = 146 := by rw [← hC]; simp [hl1, hl2]
    have hMC : (mcells st4 buf4 st7 buf7).toArray = C := by rw [hm, hC]
    have HMC := hide (And.intro hMC (And.intro hil hol))
    clear hwr e4 e5 hh6 hi6 hi7 hh7 hkp7 hra1 hra2 hA hB hl1 hl2 hm hC hMC hil hol hb5 hb5' hb6 hb6' hk4 hk5 hk6 h04 hb4'
    go_wp2_with fail
    refine wp_region_any (by kernel_rfl) ?_
    first | refine wpAny_take (i := 0) (v := .pointer (some ⟨w1.heap.size, 0, none⟩)) rfl (by kernel_rfl) (by kernel_rfl) (by kernel_rfl) (fun _ _ _ h => h) (Or.inl ⟨by kernel_rfl, fun w => by kernel_rfl⟩) ?_ | refine wpAny_take (i := 0) (v := .pointer (some ⟨w.heap.size, 0, none⟩)) rfl (by kernel_rfl) (by kernel_rfl) (by kernel_rfl) (fun _ _ _ h => h) (Or.inl ⟨by kernel_rfl, fun w => by kernel_rfl⟩) ?_
    first | refine wpAny_take (i := 1) (v := .pointer (some ⟨w1.heap.size, 0, none⟩)) rfl (by kernel_rfl) (by kernel_rfl) (by kernel_rfl) (fun _ _ _ h => h) (Or.inl ⟨by kernel_rfl, fun w => by kernel_rfl⟩) ?_ | refine wpAny_take (i := 1) (v := .pointer (some ⟨w.heap.size, 0, none⟩)) rfl (by kernel_rfl) (by kernel_rfl) (by kernel_rfl) (fun _ _ _ h => h) (Or.inl ⟨by kernel_rfl, fun w => by kernel_rfl⟩) ?_
    refine wpAny_take (i := 3) (v := .pointer (some ⟨w4.heap.size, 0, none⟩)) rfl (by kernel_rfl) (by kernel_rfl) (by kernel_rfl) (fun _ _ _ h => h) (Or.inl ⟨by kernel_rfl, fun w => by kernel_rfl⟩) ?_
    refine wpAny_take (i := 4) (v := .pointer (some ⟨w4.heap.size, 0, none⟩)) rfl (by kernel_rfl) (by kernel_rfl) (by kernel_rfl) (fun _ _ _ h => h) (Or.inl ⟨by kernel_rfl, fun w => by kernel_rfl⟩) ?_
    refine wpAny_ready (rs := [2, 5]) (by kernel_rfl) (by simp) ?_
    refine allReady_load rfl (by kernel_rfl) 149 _ rfl _ 0 (by kernel_rfl) A _ HR1.out Tryz.underlying149 rfl HI1.out ?_ (allReady_load rfl (by kernel_rfl) 149 _ rfl _ 0 (by kernel_rfl) B _ HR2.out Tryz.underlying149 rfl HI2.out ?_ AllReady.nil)
    · refine wpAny_ready (rs := [5]) (by kernel_rfl) (by simp) ?_
      refine allReady_load rfl (by kernel_rfl) 149 _ rfl _ 0 (by kernel_rfl) B _ HR2.out Tryz.underlying149 rfl HI2.out ?_ AllReady.nil
      refine wpAny_ready (rs := [6]) (by kernel_rfl) (by simp) ?_
      refine allReady_build rfl (by kernel_rfl) 151 _ rfl (.agg C) #[(0, .agg A.toArray), (1, .agg B.toArray)] (by kernel_rfl) (HBU.out _) ?_ AllReady.nil
      refine wpAny_ready (rs := [7]) (by kernel_rfl) (by simp) ?_
      refine allReady_run rfl (by kernel_rfl) (.pointer (some ⟨w7.heap.size, 0, none⟩)) (w' := w7.drew.alloc (.cells C 151)) (by kernel_rfl) ?_ AllReady.nil
      refine wpAny_ready (rs := [8]) (by kernel_rfl) (by simp) ?_
      refine allReady_run rfl (by kernel_rfl) (.pointer (some ⟨w7.heap.size, 0, none⟩)) (w' := w7.drew.alloc (.cells C 151)) (by kernel_rfl) ?_ AllReady.nil
      refine wpAny_done (by kernel_rfl) ?_ _
      go_wp2_with fail
      go_ret
      exact ⟨w7.heap.size, st4, buf4, st7, buf7, by kernel_rfl, ⟨by rw [HMC.out.1]; exact heap_alloc_new w7.drew _, HMC.out.2.1, HMC.out.2.2⟩, by omega, by simp, htk4, htk7, hok4, hok7, (hb7'.drew).alloc (by show _ ≤ w7.heap.size; omega) _⟩
    · refine wpAny_ready (rs := [2]) (by kernel_rfl) (by simp) ?_
      refine allReady_load rfl (by kernel_rfl) 149 _ rfl _ 0 (by kernel_rfl) A _ HR1.out Tryz.underlying149 rfl HI1.out ?_ AllReady.nil
      refine wpAny_ready (rs := [6]) (by kernel_rfl) (by simp) ?_
      refine allReady_build rfl (by kernel_rfl) 151 _ rfl (.agg C) #[(0, .agg A.toArray), (1, .agg B.toArray)] (by kernel_rfl) (HBU.out _) ?_ AllReady.nil
      refine wpAny_ready (rs := [7]) (by kernel_rfl) (by simp) ?_
      refine allReady_run rfl (by kernel_rfl) (.pointer (some ⟨w7.heap.size, 0, none⟩)) (w' := w7.drew.alloc (.cells C 151)) (by kernel_rfl) ?_ AllReady.nil
      refine wpAny_ready (rs := [8]) (by kernel_rfl) (by simp) ?_
      refine allReady_run rfl (by kernel_rfl) (.pointer (some ⟨w7.heap.size, 0, none⟩)) (w' := w7.drew.alloc (.cells C 151)) (by kernel_rfl) ?_ AllReady.nil
      refine wpAny_done (by kernel_rfl) ?_ _
      go_wp2_with fail
      go_ret
      exact ⟨w7.heap.size, st4, buf4, st7, buf7, by kernel_rfl, ⟨by rw [HMC.out.1]; exact heap_alloc_new w7.drew _, HMC.out.2.1, HMC.out.2.2⟩, by omega, by simp, htk4, htk7, hok4, hok7, (hb7'.drew).alloc (by show _ ≤ w7.heap.size; omega) _⟩
end Go.Proofs.YtjnhlkaafnaooabGreatDoor

namespace Go.Proofs.YtjnhlkaafnaooabGreatDoor
open Go.RowKit
theorem MacAt.lt {w : World} {b : Nat} {ist : St} {ibuf : List UInt8} {ost : St} {obuf : List UInt8} (h : MacAt w b ist ibuf ost obuf) : b < w.heap.size := by
  have := h.blk
  rcases Nat.lt_or_ge b w.heap.size with g | g
  · exact g
  · rw [Array.getElem?_eq_none g] at this; cases this
theorem MacAt.inner {w : World} {b : Nat} {ist : St} {ibuf : List UInt8} {ost : St} {obuf : List UInt8} (h : MacAt w b ist ibuf ost obuf) : w.rangeAt b 0 (hcells ist ibuf 64) := by
  intro j v hv
  rw [Nat.zero_add, cell_of_row _ _ _ _ _ _ h.blk]
  have hj : j < (hcells ist ibuf 64).length := by
    rcases Nat.lt_or_ge j (hcells ist ibuf 64).length with g | g
    · exact g
    · rw [List.getElem?_eq_none g] at hv; cases hv
  simpa [mcells, List.getElem?_append_left hj] using hv
theorem MacAt.outer {w : World} {b : Nat} {ist : St} {ibuf : List UInt8} {ost : St} {obuf : List UInt8} (h : MacAt w b ist ibuf ost obuf) : w.rangeAt b 73 (hcells ost obuf 64) := by
  intro j v hv
  rw [cell_of_row _ _ _ _ _ _ h.blk]
  have hl := hcells_len ist ibuf 64 h.il
  rw [List.getElem?_toArray, mcells, List.getElem?_append_right (by omega), hl]
  simpa using hv
/-- A copy of a Hash in a new box. -/
theorem boxed {w : World} {Z : Array Value} {st : St} {buf : List UInt8} {n : Nat} {A : List Value} (hZ : Z.size = 73) (hA : hcells st buf n = A) (hbl : buf.length = 64) :
    HashAt ((w.alloc (.cells Z 149)).setCells w.heap.size 0 A) w.heap.size st buf n ∧ Below w.heap.size w ((w.alloc (.cells Z 149)).setCells w.heap.size 0 A) ∧ ((w.alloc (.cells Z 149)).setCells w.heap.size 0 A).heap.size = w.heap.size + 1 := by
  have hl : A.length = 73 := by rw [← hA]; exact hcells_len st buf n hbl
  refine ⟨⟨?_, hbl⟩, ((Below.refl _ _).alloc (Nat.le_refl _) _).trans (below_setCells _ _ _ _ _ (Nat.le_refl _)), by rw [(setCells_block _ _ _ _).1]; simp⟩
  rw [hA]; exact setCells_all w 149 Z A (by rw [hZ, hl])

set_option maxRecDepth 100000 in
set_option maxHeartbeats 2000000 in
theorem macSum_any (b : Nat) (ist ost : St) (ibuf obuf key t : List UInt8) (w : World) (hm : MacAt w b ist ibuf ost obuf) (hti : Taken ist ibuf (padIn key)) (hto : Taken ost obuf (padOut key)) (hoki : ist.ok) (hoko : ost.ok)
    (hk : Cells w 1 .u32 kWords) (ht : t.length ≤ 70000) :
    Calls Tryz.prog 73 #[.pointer (some ⟨b, 0, none⟩), .string ⟨t.toArray⟩] w fun e w' => e = .returned (.string ⟨(macL key t).toArray⟩) ∧ Below w.heap.size w w' := by
  have hzv : ∀ w, (zeroValue 149).run Tryz.prog w = .ok (.agg (hcells zeroSt (List.replicate 64 0) 0).toArray) w := fun _ => by kernel_rfl
  obtain ⟨Z, hZ⟩ : ∃ x, (hcells zeroSt (List.replicate 64 0) 0).toArray = x := ⟨_, rfl⟩
  rw [hZ] at hzv
  have hZs : Z.size = 73 := by rw [← hZ]; rfl
  have hra1 := hm.inner
  have hil := hm.il
  have hol := hm.ol
  have hl1 := hcells_len ist ibuf 64 hil
  have hl2 := hcells_len ost obuf 64 hol
  have ho1 := hcells_one ist ibuf 64
  have ho2 := hcells_one ost obuf 64
  have hblt := hm.lt
  have hM : shaL (padOut key ++ shaL (padIn key ++ t)) = macL key t := rfl
  have l1 := padIn_len key
  have l2 := padOut_len key
  obtain ⟨M, hMM⟩ : ∃ M, macL key t = M := ⟨_, rfl⟩
  rw [hMM] at hM ⊢
  obtain ⟨PI, hPI⟩ : ∃ x, padIn key = x := ⟨_, rfl⟩
  obtain ⟨PO, hPO⟩ : ∃ x, padOut key = x := ⟨_, rfl⟩
  rw [hPI] at l1 hM hti
  rw [hPO] at l2 hM hto
  obtain ⟨A, hA⟩ : ∃ A, hcells ist ibuf 64 = A := ⟨_, rfl⟩
  obtain ⟨B, hB⟩ : ∃ B, hcells ost obuf 64 = B := ⟨_, rfl⟩
  rw [hA] at hra1 hl1 ho1
  rw [hB] at hl2 ho2
  have HI1 := hide (show (Tryz.prog.info? 149).map (·.size) = some A.length from by rw [hl1]; kernel_rfl)
  have HI2 := hide (show (Tryz.prog.info? 149).map (·.size) = some B.length from by rw [hl2]; kernel_rfl)
  have HI1' := hide (show (Tryz.prog.info? 149).map (·.size) = some A.toArray.size from by rw [List.size_toArray, hl1]; kernel_rfl)
  have HI2' := hide (show (Tryz.prog.info? 149).map (·.size) = some B.toArray.size from by rw [List.size_toArray, hl2]; kernel_rfl)
  have HL := hide (And.intro l1 (And.intro l2 (And.intro hl1 hl2)))
  have HAB := hide (And.intro hA hB)
  have HR1 := hide hra1
  have HM := hide hM
  have HT := hide ht
  obtain ⟨hx1, hx2, hx3⟩ := boxed (w := w) hZs hA hil
  have HX := hide (And.intro hx1 (And.intro hx2 hx3))
  have hkl := hk.lt
  clear hZ hra1 hl1 hl2 l1 l2 hM hMM hPI hPO hA hB hx1 hx2 hx3 ht
  go_enter Tryz.func73, Tryz.ntmps73
  go_wp2_with (first | refine wpList_load_mid rfl 149 _ rfl b 0 rfl A _ HR1.out Tryz.underlying149 rfl HI1.out ?_ | refine wpList_store_mid rfl 149 _ _ rfl w.heap.size 0 A.toArray rfl rfl ?c1 HI1'.out (all_oneCell_toArray ho1) ?_)
  case c1 =>
    have e : A.toArray.size = Z.size := by rw [hZs]; simpa using HL.out.2.2.1
    rw [e]
    exact there_new w _ _
  obtain ⟨hh1, hb1, hs1⟩ := HX.out
  have hm1 := hm.below hb1 hblt
  have hk1 := hk.below hb1 hkl
  generalize hW1 : (w.alloc (.cells Z 149)).setCells w.heap.size 0 A = w1 at *
  clear hW1 HX HR1
  have e64 : PI.length = 64 := HL.out.1
  rw [← e64] at hh1
  have hwr := write_any w.heap.size ist ibuf PI ⟨t.toArray⟩ w1 hh1 hti hoki hk1 (by omega) (by rw [e64]; have := HT.out; simp [ByteArray.size]; omega)
  refine hwr.mono ?_
  rintro e w2 ⟨rfl, st2, buf2, hh2, htk2, hok2, hkp2⟩
  have hk2 := hkp2.cells hk1 (by omega)
  have hm2 : MacAt w2 b ist ibuf ost obuf := ⟨(hkp2.block b hm1.lt (by omega)).trans hm1.blk, hil, hol⟩
  have hb2' := hkp2.below hb1 (Nat.le_refl _) (by omega)
  have e2 : PI ++ (ByteArray.mk t.toArray).data.toList = PI ++ t := by simp
  have e3 : PI.length + (ByteArray.mk t.toArray).size = (PI ++ t).length := by simp [ByteArray.size]
  rw [e2] at htk2
  rw [e3] at hh2
  have hz2 := hh2.lt
  have hlt : (PI ++ t).length ≤ 900000 := by rw [List.length_append, e64]; have := HT.out; omega
  obtain ⟨PT, hPT⟩ : ∃ x, PI ++ t = x := ⟨_, rfl⟩
  rw [hPT] at htk2 hh2 hlt HM
  have HLT := hide hlt
  clear hwr e2 e3 e64 hPT hlt hh1 hkp2 hm hm1 hk hk1 hti
  go_wp2_with fail
  refine (sum_any w.heap.size st2 buf2 PT w2 hh2 htk2 hok2 hk2 HLT.out).mono ?_
  rintro e w3 ⟨rfl, hb3⟩
  have hk3 := hk2.below hb3 hk2.lt
  have hm3 := hm2.below hb3 hm2.lt
  have hb3' := hb2'.trans (hb3.mono (by omega))
  have hz3 := hb3'.size
  have hra2 := hm3.outer
  rw [HAB.out.2] at hra2
  have HR2 := hide hra2
  have hbl3 := hm3.lt
  obtain ⟨D, hD⟩ : ∃ D, shaL PT = D := ⟨_, rfl⟩
  have hDl : D.length = 32 := by rw [← hD, shaL_len]
  rw [hD] at HM ⊢
  have HDL := hide hDl
  have HX := hide (boxed (w := w3) hZs HAB.out.2 hol)
  have hkl3 := hk3.lt
  clear hh2 htk2 hok2 hk2 hm2 hb2' hra2 hD hDl HI1 HI1' ho1 hb3 hb1
  go_wp2_with (first | refine wpList_load_mid rfl 149 _ rfl b 73 rfl B _ HR2.out Tryz.underlying149 rfl HI2.out ?_ | refine wpList_store_mid rfl 149 _ _ rfl w3.heap.size 0 B.toArray rfl rfl ?c1 HI2'.out (all_oneCell_toArray ho2) ?_)
  case c1 =>
    have e : B.toArray.size = Z.size := by rw [hZs]; simpa using HL.out.2.2.2
    rw [e]
    exact there_new w3 _ _
  obtain ⟨hh4, hb4, hs4⟩ := HX.out
  have hk4 := hk3.below hb4 hkl3
  generalize hW4 : (w3.alloc (.cells Z 149)).setCells w3.heap.size 0 B = w4 at *
  clear hW4 HX HR2
  have e64 : PO.length = 64 := HL.out.2.1
  rw [← e64] at hh4
  have hwr := write_any w3.heap.size ost obuf PO ⟨D.toArray⟩ w4 hh4 hto hoko hk4 (by omega) (by rw [e64]; have := HDL.out; simp [ByteArray.size]; omega)
  refine hwr.mono ?_
  rintro e w5 ⟨rfl, st5, buf5, hh5, htk5, hok5, hkp5⟩
  have hk5 := hkp5.cells hk4 (by omega)
  have hb5' := hkp5.below (hb3'.trans (hb4.mono hz3)) hz3 (by omega)
  have e2 : PO ++ (ByteArray.mk D.toArray).data.toList = PO ++ D := by simp
  have e3 : PO.length + (ByteArray.mk D.toArray).size = (PO ++ D).length := by simp [ByteArray.size]
  rw [e2] at htk5
  rw [e3] at hh5
  have hz5 := hh5.lt
  have hlt : (PO ++ D).length ≤ 900000 := by rw [List.length_append, e64, HDL.out]; decide
  obtain ⟨PD, hPD⟩ : ∃ x, PO ++ D = x := ⟨_, rfl⟩
  rw [hPD] at htk5 hh5 hlt HM
  have HLT2 := hide hlt
  clear hwr e2 e3 e64 hPD hlt hh4 hkp5
  go_wp2_with fail
  refine (sum_any w3.heap.size st5 buf5 PD w5 hh5 htk5 hok5 hk5 HLT2.out).mono ?_
  rintro e w6 ⟨rfl, hb6⟩
  rw [HM.out]
  go_wp2_with fail
  go_ret
  exact ⟨rfl, hb5'.trans (hb6.mono (by omega))⟩
end Go.Proofs.YtjnhlkaafnaooabGreatDoor
