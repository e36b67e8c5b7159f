import Derived.Test.YtjnhlkaafnaooabGreatDoorRmD
import Derived.Test.YtjnhlkaafnaooabGreatDoorRegW
import Derived.Test.YtjnhlkaafnaooabGreatDoorRmU
import Derived.Test.YtjnhlkaafnaooabGreatDoorRmV
import Derived.Test.YtjnhlkaafnaooabGreatDoorRmX
namespace Go.Proofs.YtjnhlkaafnaooabGreatDoor
open Go.RowKit
/-- A MAC in memory under a key. -/
def MacFor (w : World) (b : Nat) (key : List UInt8) : Prop := ∃ ist ibuf ost obuf, MacAt w b ist ibuf ost obuf ∧ Taken ist ibuf (padIn key) ∧ Taken ost obuf (padOut key) ∧ ist.ok ∧ ost.ok
theorem MacFor.lt {w : World} {b : Nat} {key : List UInt8} (h : MacFor w b key) : b < w.heap.size := by
  obtain ⟨_, _, _, _, h, _⟩ := h
  exact h.lt
theorem MacFor.of_block {w w' : World} {b : Nat} {key : List UInt8} (h : MacFor w b key) (e : w'.heap[b]? = w.heap[b]?) : MacFor w' b key := by
  obtain ⟨i, ib, o, ob, h, r⟩ := h
  exact ⟨i, ib, o, ob, ⟨e.trans h.blk, h.il, h.ol⟩, r⟩
theorem macFor_any (b : Nat) (key t : List UInt8) (w : World) (hm : MacFor w b key) (hk : Cells w 1 .u32 kWords) (ht : t.length ≤ 70000) :
    Calls Tryz.prog 73 #[.pointer (some ⟨b, 0, none⟩), .string ⟨t.toArray⟩] w fun e w' => e = .returned (.string ⟨(macL key t).toArray⟩) ∧ Below w.heap.size w w' := by
  obtain ⟨i, ib, o, ob, h, h1, h2, h3, h4⟩ := hm
  exact macSum_any b i o ib ob key t w h h1 h2 h3 h4 hk ht
set_option maxRecDepth 100000 in
set_option maxHeartbeats 1000000 in
theorem slotText_any (bt : Nat) (pv : Value) (tk salt d : List UInt8) (v p : Nat) (w : World) (hm : MacFor w bt tk) (hk : Cells w 1 .u32 kWords) (hs : salt.length = 16) (hv : v < 9223372036854775808) (hp : p < 9223372036854775808) :
    Calls Tryz.prog 97 #[.agg #[.pointer (some ⟨bt, 0, none⟩), pv], .string ⟨salt.toArray⟩, .int .i64 v, .agg #[.int .i64 p, .string ⟨d.toArray⟩]] w fun e w' => e = .returned (strV (slotL tk salt v p d)) ∧ Below w.heap.size w w' := by
  have hm' := hm.lt
  have hkl := hk.lt
  have HB := hide (show bodyL salt v p d = markL ++ salt ++ onesL v 8 ++ onesL p 1 ++ fillL d 32 from rfl)
  have HSL := hide (show slotL tk salt v p d = fillL (bodyL salt v p d ++ macL tk (bodyL salt v p d)) 256 from rfl)
  have hbl : (bodyL salt v p d).length = 61 := by rw [HB.out]; simp [markL, onesL_len, fillL_len, hs]
  have hml : (macL tk (bodyL salt v p d)).length = 32 := macL_len _ _
  obtain ⟨B, hB⟩ : ∃ B, bodyL salt v p d = B := ⟨_, rfl⟩
  rw [hB] at hbl hml HB HSL
  rw [HSL.out]
  obtain ⟨M, hM⟩ : ∃ M, macL tk B = M := ⟨_, rfl⟩
  rw [hM] at hml ⊢
  have hadd := fun w => add_str B M (by omega) w
  have HMA := hide (fun w hm hk => macFor_any bt tk B w hm hk (by omega))
  rw [hM] at HMA
  have HF := hide (fun w => fillText_any (B ++ M) 256 w (by decide))
  obtain ⟨w0, hw0⟩ : ∃ w0, (w.alloc (.cells #[.pointer (some ⟨bt, 0, none⟩), pv] 65)).alloc (.cells #[.int .i64 (p : Int), .string ⟨d.toArray⟩] 67) = w0 := ⟨_, rfl⟩
  have hz0 : w0.heap.size = w.heap.size + 2 := by rw [← hw0]; simp
  have hb0 : Below w.heap.size w w0 := hw0 ▸ ((Below.refl _ _).alloc (Nat.le_refl _) _).alloc (by simp) _
  have k0 : w0.cell? ⟨w.heap.size, 0, none⟩ = some (.pointer (some ⟨bt, 0, none⟩)) := by
    rw [← hw0, World.cell?_alloc_lt _ _ _ (by simp), World.cell?_alloc_at _ _ _ _ rfl]; rfl
  have k1 : w0.cell? ⟨w.heap.size + 1, 0, none⟩ = some (.int .i64 (p : Int)) := by rw [← hw0, World.cell?_alloc_at _ _ _ _ (by simp)]; rfl
  have k2 : w0.cell? ⟨w.heap.size + 1, 1, none⟩ = some (.string ⟨d.toArray⟩) := by rw [← hw0, World.cell?_alloc_at _ _ _ _ (by simp)]; rfl
  have HK := hide (And.intro k1 k2)
  have hS : ∀ w', Below w0.heap.size w0 w' → w'.cell? ⟨w.heap.size + 1, 0, none⟩ = some (.int .i64 (p : Int)) ∧ w'.cell? ⟨w.heap.size + 1, 1, none⟩ = some (.string ⟨d.toArray⟩) := fun w' h => ⟨(h.cell (p := ⟨w.heap.size + 1, 0, none⟩) (by rw [hz0]; simp)).trans k1, (h.cell (p := ⟨w.heap.size + 1, 1, none⟩) (by rw [hz0]; simp)).trans k2⟩
  have HS := hide hS
  have HC := hide (And.intro hm hk)
  clear k1 k2 hS hm hk hB hM
  go_enter Tryz.func97, Tryz.ntmps97
  go_wp2_with fail
  refine wp_region_one (fun w' => Below w0.heap.size w0 w') (by kernel_rfl) (by kernel_rfl) (Below.refl _ _).drew ?_
  refine one_take 0 (strV salt) rfl (by kernel_rfl) (by kernel_rfl) (by kernel_rfl) rfl (gives_pure fun _ => by kernel_rfl) ?_
  refine one_take 1 (strV (markL ++ salt)) rfl (by kernel_rfl) (by kernel_rfl) (by kernel_rfl) rfl (gives_pure fun w => run_add _ _ _ _ _ (markL) (salt) rfl (by kernel_rfl) (by kernel_rfl) (by rw [hs]; decide) w) ?_
  refine one_take 2 (.int .i64 v) rfl (by kernel_rfl) (by kernel_rfl) (by kernel_rfl) rfl (gives_pure fun _ => by kernel_rfl) ?_
  refine one_take 3 (strV (onesL v 8)) rfl (by kernel_rfl) (by kernel_rfl) (by kernel_rfl) rfl (gives_call (54) (#[.int .i64 v, .int .i64 8]) (fun _ => by kernel_rfl) fun w hw => (numText_any v 8 w hv (by decide)).mono fun e w2 h => ⟨h.1, hw.trans (h.2.mono hw.size)⟩) ?_
  refine one_take 4 (strV ((markL ++ salt) ++ onesL v 8)) rfl (by kernel_rfl) (by kernel_rfl) (by kernel_rfl) rfl (gives_pure fun w => run_add _ _ _ _ _ ((markL ++ salt)) (onesL v 8) rfl (by kernel_rfl) (by kernel_rfl) (by simp [markL, onesL_len, hs]) w) ?_
  refine one_take 5 (.pointer (some ⟨w.heap.size + 1, 0, none⟩)) rfl (by kernel_rfl) (by kernel_rfl) (by kernel_rfl) rfl (gives_pure fun _ => by kernel_rfl) ?_
  refine one_take 6 (.int .i64 p) rfl (by kernel_rfl) (by kernel_rfl) (by kernel_rfl) rfl (gives_read fun w hw => run_load_int _ _ _ _ _ _ rfl (by kernel_rfl) w ((HS.out w hw).1)) ?_
  refine one_take 7 (strV (onesL p 1)) rfl (by kernel_rfl) (by kernel_rfl) (by kernel_rfl) rfl (gives_call (54) (#[.int .i64 p, .int .i64 1]) (fun _ => by kernel_rfl) fun w hw => (numText_any p 1 w hp (by decide)).mono fun e w2 h => ⟨h.1, hw.trans (h.2.mono hw.size)⟩) ?_
  refine one_take 8 (strV ((markL ++ salt ++ onesL v 8) ++ onesL p 1)) rfl (by kernel_rfl) (by kernel_rfl) (by kernel_rfl) rfl (gives_pure fun w => run_add _ _ _ _ _ ((markL ++ salt ++ onesL v 8)) (onesL p 1) rfl (by kernel_rfl) (by kernel_rfl) (by simp [markL, onesL_len, hs]) w) ?_
  refine one_take 9 (.pointer (some ⟨w.heap.size + 1, 1, none⟩)) rfl (by kernel_rfl) (by kernel_rfl) (by kernel_rfl) rfl (gives_pure fun _ => by kernel_rfl) ?_
  refine one_take 10 (strV d) rfl (by kernel_rfl) (by kernel_rfl) (by kernel_rfl) rfl (gives_read fun w hw => run_load_str _ _ _ _ _ _ rfl (by kernel_rfl) w ((HS.out w hw).2)) ?_
  refine one_take 11 (strV (fillL d 32)) rfl (by kernel_rfl) (by kernel_rfl) (by kernel_rfl) rfl (gives_call (124) (#[.string ⟨d.toArray⟩, .int .i64 32]) (fun _ => by kernel_rfl) fun w hw => (fillText_any d 32 w (by decide)).mono fun e w2 h => ⟨h.1, hw.trans (h.2.mono hw.size)⟩) ?_
  refine one_take 12 (strV ((markL ++ salt ++ onesL v 8 ++ onesL p 1) ++ fillL d 32)) rfl (by kernel_rfl) (by kernel_rfl) (by kernel_rfl) rfl (gives_pure fun w => run_add _ _ _ _ _ ((markL ++ salt ++ onesL v 8 ++ onesL p 1)) (fillL d 32) rfl (by kernel_rfl) (by kernel_rfl) (by simp [markL, onesL_len, fillL_len, hs]) w) ?_
  refine one_take 13 (strV (markL ++ salt ++ onesL v 8 ++ onesL p 1 ++ fillL d 32)) rfl (by kernel_rfl) (by kernel_rfl) (by kernel_rfl) rfl (gives_pure fun _ => by kernel_rfl) ?_
  refine OneWalk.done (by kernel_rfl) fun w1 hw1 => ?_
  rw [← HB.out]
  have hb1 : Below w.heap.size w w1 := hb0.trans (hw1.mono hb0.size)
  have k01 : w1.cell? ⟨w.heap.size, 0, none⟩ = some (.pointer (some ⟨bt, 0, none⟩)) := (hw1.cell (p := ⟨w.heap.size, 0, none⟩) (by rw [hz0]; show w.heap.size < _; omega)).trans k0
  have hm1 : MacFor w1 bt tk := HC.out.1.of_block (hb1.block bt hm')
  have hk1 := HC.out.2.below hb1 hkl
  clear k0 hw0 HS HK
  go_wp2_with fail
  refine (HMA.out w1 hm1 hk1).mono ?_
  rintro e w2 ⟨rfl, hb2⟩
  have hb2' := hb1.trans (hb2.mono hb1.size)
  go_wp2_with fail
  refine (HF.out w2).mono ?_
  rintro e w3 ⟨rfl, hb3⟩
  go_wp2_with fail
  go_ret
  exact ⟨rfl, hb2'.trans (hb3.mono hb2'.size)⟩
end Go.Proofs.YtjnhlkaafnaooabGreatDoor

namespace Go.Proofs.YtjnhlkaafnaooabGreatDoor
open Go.RowKit
theorem KeyAt.of_block {w w' : World} {b : Nat} {rk : List UInt8} (h : KeyAt w b rk) (e : w'.heap[b]? = w.heap[b]?) (hz : w.heap.size ≤ w'.heap.size) : KeyAt w' b rk :=
  ⟨⟨Nat.lt_of_lt_of_le h.lt hz, fun i hi => (World.cell?_of_block (a := ⟨b, i, none⟩) e).trans (h.cells.at_ i hi)⟩, h.len⟩
set_option maxRecDepth 100000 in
set_option maxHeartbeats 1000000 in
theorem pageText_any (bp : Nat) (tv : Value) (rk t : List UInt8) (s n p : Nat) (w : World) (hk : KeyAt w bp rk) (hs : s < 9223372036854775808) (hn : n < 9223372036854775808) (hp : p < 9223372036854775808) (ht : t.length ≤ 4096) :
    Calls Tryz.prog 134 #[.agg #[tv, .pointer (some ⟨bp, 0, none⟩)], .int .i64 s, .int .i64 n, .int .i64 p, .string ⟨t.toArray⟩] w fun e w' => e = .returned (strV (pageL rk s n p t)) ∧ Below w.heap.size w w' := by
  have hkl := hk.lt
  have HP := hide (show pageL rk s n p t = nonceL s n ++ sealL rk (nonceL s n) (onesL p 1) t from rfl)
  have hnl := nonceL_len s n
  have hsl := sealL_len rk (nonceL s n) (onesL p 1) t hk.len hnl
  have HN1 := hide (fun w => numText_any s 8 w hs (by decide))
  have HN2 := hide (fun w => numText_any n 4 w hn (by decide))
  have hadd : ∀ w, (Op.stringOp .add ⟨(onesL s 8).toArray⟩ ⟨(onesL n 4).toArray⟩).run Tryz.prog w = .ok (.string ⟨(nonceL s n).toArray⟩) w := fun w => add_str (onesL s 8) (onesL n 4) (by simp [onesL_len]) w
  have hse := fun w hk => seal_any bp rk (nonceL s n) (onesL p 1) t w hk (by rw [onesL_len]; decide) ht
  rw [fillL_self _ _ hnl] at hse
  have HSE := hide hse
  rw [HP.out]
  obtain ⟨NO, hNO⟩ : ∃ x, nonceL s n = x := ⟨_, rfl⟩
  rw [hNO] at hnl hsl hadd HSE ⊢
  obtain ⟨SE, hSE⟩ : ∃ x, sealL rk NO (onesL p 1) t = x := ⟨_, rfl⟩
  rw [hSE] at hsl HSE ⊢
  obtain ⟨w0, hw0⟩ : ∃ w0, w.alloc (.cells #[tv, .pointer (some ⟨bp, 0, none⟩)] 65) = w0 := ⟨_, rfl⟩
  have hz0 : w0.heap.size = w.heap.size + 1 := by rw [← hw0]; simp
  have hb0 : Below w.heap.size w w0 := hw0 ▸ (Below.refl _ _).alloc (Nat.le_refl _) _
  have k0 : w0.cell? ⟨w.heap.size, 1, none⟩ = some (.pointer (some ⟨bp, 0, none⟩)) := by
    rw [← hw0, World.cell?_alloc_at _ _ _ _ rfl]; rfl
  have HC := hide hk
  clear hk hNO hSE HP hse
  go_enter Tryz.func134, Tryz.ntmps134
  go_wp2_with fail
  refine (HN1.out w0).mono ?_
  rintro e w1 ⟨rfl, hb1⟩
  go_wp2_with fail
  refine (HN2.out w1).mono ?_
  rintro e w2 ⟨rfl, hb2⟩
  have hb2' := hb1.trans (hb2.mono hb1.size)
  go_wp2_with fail
  have HS := hide (fun w' (h : Below w0.heap.size w0 w') => And.intro ((h.cell (p := ⟨w.heap.size, 1, none⟩) (by rw [hz0]; simp)).trans k0) (HC.out.below (hb0.trans (h.mono hb0.size)) hkl))
  refine wp_region_one (fun w' => Below w0.heap.size w0 w') (by kernel_rfl) (by kernel_rfl) hb2'.drew ?_
  refine one_take 0 (strV NO) rfl (by kernel_rfl) (by kernel_rfl) (by kernel_rfl) rfl (gives_pure fun _ => by kernel_rfl) ?_
  refine one_take 1 (.pointer (some ⟨w.heap.size, 1, none⟩)) rfl (by kernel_rfl) (by kernel_rfl) (by kernel_rfl) rfl (gives_pure fun _ => by kernel_rfl) ?_
  refine one_take 2 (.pointer (some ⟨bp, 0, none⟩)) rfl (by kernel_rfl) (by kernel_rfl) (by kernel_rfl) rfl (gives_read fun w hw => run_load_key _ _ _ _ _ _ rfl (by kernel_rfl) w ((HS.out w hw).1)) ?_
  refine one_take 3 (strV NO) rfl (by kernel_rfl) (by kernel_rfl) (by kernel_rfl) rfl (gives_pure fun _ => by kernel_rfl) ?_
  refine one_take 4 (.int .i64 p) rfl (by kernel_rfl) (by kernel_rfl) (by kernel_rfl) rfl (gives_pure fun _ => by kernel_rfl) ?_
  refine one_take 5 (strV (onesL p 1)) rfl (by kernel_rfl) (by kernel_rfl) (by kernel_rfl) rfl (gives_call (54) (#[.int .i64 p, .int .i64 1]) (fun _ => by kernel_rfl) fun w hw => (numText_any p 1 w hp (by decide)).mono fun e w2 h => ⟨h.1, hw.trans (h.2.mono hw.size)⟩) ?_
  refine one_take 6 (strV t) rfl (by kernel_rfl) (by kernel_rfl) (by kernel_rfl) rfl (gives_pure fun _ => by kernel_rfl) ?_
  refine one_take 7 (strV SE) rfl (by kernel_rfl) (by kernel_rfl) (by kernel_rfl) rfl (gives_call (144) (#[.pointer (some ⟨bp, 0, none⟩), .string ⟨NO.toArray⟩, .string ⟨(onesL p 1).toArray⟩, .string ⟨t.toArray⟩]) (fun _ => by kernel_rfl) fun w hw => (HSE.out w (HS.out w hw).2).mono fun e w2 h => ⟨h.1, hw.trans (h.2.mono hw.size)⟩) ?_
  refine one_take 8 (strV (NO ++ SE)) rfl (by kernel_rfl) (by kernel_rfl) (by kernel_rfl) rfl (gives_pure fun w => run_add _ _ _ _ _ (NO) (SE) rfl (by kernel_rfl) (by kernel_rfl) (by omega) w) ?_
  refine one_take 9 (strV (NO ++ SE)) rfl (by kernel_rfl) (by kernel_rfl) (by kernel_rfl) rfl (gives_pure fun _ => by kernel_rfl) ?_
  refine OneWalk.done (by kernel_rfl) fun w3 hw3 => ?_
  go_wp2_with fail
  go_ret
  exact ⟨by kernel_rfl, hb0.trans (hw3.mono hb0.size)⟩
/-- What a page says at a place. -/
def openL (rk block : List UInt8) (p : Nat) : Option (List UInt8) := if tagL rk (block.take 12) (onesL p 1) ((block.drop 12).take 228) = block.drop 240 then some (ctrL rk (block.take 12) 2 ((block.drop 12).take 228)) else none
theorem openL_page (rk : List UInt8) (s n p : Nat) (t : List UInt8) (hr : rk.length = 240) (ht : t.length = 228) : openL rk (pageL rk s n p t) p = some t := by
  have hnl := nonceL_len s n
  have hcl := ctrL_len rk (nonceL s n) hr hnl 2 t
  have e1 : (pageL rk s n p t).take 12 = nonceL s n := by unfold pageL; rw [List.take_left' hnl]
  have e2 : (pageL rk s n p t).drop 12 = sealL rk (nonceL s n) (onesL p 1) t := by unfold pageL; rw [List.drop_left' hnl]
  have e3 : (pageL rk s n p t).drop 240 = tagL rk (nonceL s n) (onesL p 1) (ctrL rk (nonceL s n) 2 t) := by
    have : (pageL rk s n p t).drop 240 = ((pageL rk s n p t).drop 12).drop 228 := by rw [List.drop_drop]
    rw [this, e2]; unfold sealL; rw [List.drop_left' (by omega)]
  have e4 : (sealL rk (nonceL s n) (onesL p 1) t).take 228 = ctrL rk (nonceL s n) 2 t := by unfold sealL; rw [List.take_left' (by omega)]
  unfold openL
  rw [e1, e2, e3, e4, if_pos rfl, ctrL_twice rk _ hr hnl]
def resV (o : Option (List UInt8)) : Value := match o with
  | some t => .tuple #[strV t, .bool true]
  | none => .tuple #[strV [], .bool false]
set_option maxRecDepth 100000 in
set_option maxHeartbeats 1000000 in
theorem openPage_any (bp : Nat) (tv : Value) (rk block : List UInt8) (p : Nat) (w : World) (hk : KeyAt w bp rk) (hp : p < 9223372036854775808) (hb : block.length = 256) :
    Calls Tryz.prog 125 #[.agg #[tv, .pointer (some ⟨bp, 0, none⟩)], .string ⟨block.toArray⟩, .int .i64 p] w fun e w' => e = .returned (resV (openL rk block p)) ∧ Below w.heap.size w w' := by
  have hkl := hk.lt
  have hop := fun w hk => open_any bp rk (block.take 12) (onesL p 1) ((block.drop 12).take 228) (block.drop 240) w hk (by rw [onesL_len]; decide) (by simp; omega) (by simp; omega)
  have e1 : (block.drop 12).take 228 ++ block.drop 240 = block.drop 12 := by
    have : block.drop 240 = (block.drop 12).drop 228 := by rw [List.drop_drop]
    rw [this, List.take_append_drop]
  rw [e1, fillL_self _ _ (by simp; omega)] at hop
  have hbs : (ByteArray.mk block.toArray).size = 256 := hb
  obtain ⟨v, b, hv, hv2⟩ : ∃ v b, resV (openL rk block p) = .tuple #[strV v, .bool b] ∧ (if tagL rk (block.take 12) (onesL p 1) ((block.drop 12).take 228) = block.drop 240 then Value.tuple #[.string ⟨(ctrL rk (block.take 12) 2 ((block.drop 12).take 228)).toArray⟩, .bool true] else .tuple #[.string ⟨#[]⟩, .bool false]) = .tuple #[strV v, .bool b] := by
    unfold openL
    by_cases h : tagL rk (block.take 12) (onesL p 1) ((block.drop 12).take 228) = block.drop 240
    · exact ⟨_, true, by rw [if_pos h]; rfl, by rw [if_pos h]⟩
    · exact ⟨[], false, by rw [if_neg h]; rfl, by rw [if_neg h]⟩
  rw [hv]
  rw [hv2] at hop
  have HOP := hide hop
  obtain ⟨w0, hw0⟩ : ∃ w0, w.alloc (.cells #[tv, .pointer (some ⟨bp, 0, none⟩)] 65) = w0 := ⟨_, rfl⟩
  have hz0 : w0.heap.size = w.heap.size + 1 := by rw [← hw0]; simp
  have hb0 : Below w.heap.size w w0 := hw0 ▸ (Below.refl _ _).alloc (Nat.le_refl _) _
  have k0 : w0.cell? ⟨w.heap.size, 1, none⟩ = some (.pointer (some ⟨bp, 0, none⟩)) := by
    rw [← hw0, World.cell?_alloc_at _ _ _ _ rfl]; rfl
  have HS := hide (fun w' (h : Below w0.heap.size w0 w') => And.intro ((h.cell (p := ⟨w.heap.size, 1, none⟩) (by rw [hz0]; simp)).trans k0) (hk.below (hb0.trans (h.mono hb0.size)) hkl))
  have HBL := hide hb
  clear hk hop hv hv2 e1 hb
  go_enter Tryz.func125, Tryz.ntmps125
  go_wp2_with fail
  refine wp_region_one (fun w' => Below w0.heap.size w0 w') (by kernel_rfl) (by kernel_rfl) (Below.refl _ _).drew ?_
  refine one_take 0 (.pointer (some ⟨w.heap.size, 1, none⟩)) rfl (by kernel_rfl) (by kernel_rfl) (by kernel_rfl) rfl (gives_pure fun _ => by kernel_rfl) ?_
  refine one_take 1 (.pointer (some ⟨bp, 0, none⟩)) rfl (by kernel_rfl) (by kernel_rfl) (by kernel_rfl) rfl (gives_read fun w hw => run_load_key _ _ _ _ _ _ rfl (by kernel_rfl) w ((HS.out w hw).1)) ?_
  refine one_take 2 (strV block) rfl (by kernel_rfl) (by kernel_rfl) (by kernel_rfl) rfl (gives_pure fun _ => by kernel_rfl) ?_
  refine one_take 3 (strV (block.take 12)) rfl (by kernel_rfl) (by kernel_rfl) (by kernel_rfl) rfl (gives_pure fun w => run_to _ _ _ 12 block rfl (by kernel_rfl) (by rw [HBL.out]; decide) (by rw [HBL.out]; decide) w) ?_
  refine one_take 4 (.int .i64 p) rfl (by kernel_rfl) (by kernel_rfl) (by kernel_rfl) rfl (gives_pure fun _ => by kernel_rfl) ?_
  refine one_take 5 (strV (onesL p 1)) rfl (by kernel_rfl) (by kernel_rfl) (by kernel_rfl) rfl (gives_call (54) (#[.int .i64 p, .int .i64 1]) (fun _ => by kernel_rfl) fun w hw => (numText_any p 1 w hp (by decide)).mono fun e w2 h => ⟨h.1, hw.trans (h.2.mono hw.size)⟩) ?_
  refine one_take 6 (strV block) rfl (by kernel_rfl) (by kernel_rfl) (by kernel_rfl) rfl (gives_pure fun _ => by kernel_rfl) ?_
  refine one_take 7 (strV (block.drop 12)) rfl (by kernel_rfl) (by kernel_rfl) (by kernel_rfl) rfl (gives_pure fun w => run_from _ _ _ 12 block rfl (by kernel_rfl) (by rw [HBL.out]; decide) (by rw [HBL.out]; decide) w) ?_
  refine one_take 8 (.tuple #[strV v, .bool b]) rfl (by kernel_rfl) (by kernel_rfl) (by kernel_rfl) rfl (gives_call (139) (#[.pointer (some ⟨bp, 0, none⟩), .string ⟨(block.take 12).toArray⟩, .string ⟨(onesL p 1).toArray⟩, .string ⟨(block.drop 12).toArray⟩]) (fun _ => by kernel_rfl) fun w hw => (HOP.out w (HS.out w hw).2).mono fun e w2 h => ⟨h.1, hw.trans (h.2.mono hw.size)⟩) ?_
  refine one_take 9 (strV v) rfl (by kernel_rfl) (by kernel_rfl) (by kernel_rfl) rfl (gives_pure fun _ => by kernel_rfl) ?_
  refine one_take 10 (.bool b) rfl (by kernel_rfl) (by kernel_rfl) (by kernel_rfl) rfl (gives_pure fun _ => by kernel_rfl) ?_
  refine one_take 11 (strV v) rfl (by kernel_rfl) (by kernel_rfl) (by kernel_rfl) rfl (gives_pure fun _ => by kernel_rfl) ?_
  refine one_take 12 (.bool b) rfl (by kernel_rfl) (by kernel_rfl) (by kernel_rfl) rfl (gives_pure fun _ => by kernel_rfl) ?_
  refine OneWalk.done (by kernel_rfl) fun w3 hw3 => ?_
  go_wp2_with fail
  go_ret2
  exact ⟨by kernel_rfl, hb0.trans (hw3.mono hb0.size)⟩
end Go.Proofs.YtjnhlkaafnaooabGreatDoor

namespace Go.Proofs.YtjnhlkaafnaooabGreatDoor
open Go.RowKit
theorem keyL_len (pass salt : List UInt8) (r : Int) (n : Nat) : (keyL pass salt r n).length = n := by
  unfold keyL
  rw [List.length_take, keyTo_len]
  omega
theorem tagsL_len (pass salt : List UInt8) : (tagsL pass salt).length = 32 := by unfold tagsL stretchL; rw [List.length_take, keyL_len]; decide
theorem pagesL_len (pass salt : List UInt8) : (pagesL pass salt).length = 32 := by unfold pagesL stretchL; rw [List.length_drop, keyL_len]
set_option maxRecDepth 100000 in
set_option maxHeartbeats 1000000 in
theorem keysOf_any (pass salt : List UInt8) (w : World) (hk : Cells w 1 .u32 kWords) (h0 : Cells w 0 .u32 hWords) (hp : pass.length ≤ 40) (hs : salt.length = 16) :
    Calls Tryz.prog 30 #[.string ⟨pass.toArray⟩, .string ⟨salt.toArray⟩] w fun e w' => ∃ bt bp, e = .returned (.agg #[.pointer (some ⟨bt, 0, none⟩), .pointer (some ⟨bp, 0, none⟩)]) ∧ MacFor w' bt (tagsL pass salt) ∧ KeyAt w' bp (keysL (pagesL pass salt)) ∧ w.heap.size ≤ bt ∧ bt < bp ∧ Below w.heap.size w w' := by
  have hkl := hk.lt
  have h0l := h0.lt
  have hps : (ByteArray.mk pass.toArray).size = pass.length := rfl
  have HN := hide (fun w => numText_any pass.length 1 w (by omega) (by decide))
  have hadd := fun w => add_str (onesL pass.length 1) pass (by rw [onesL_len]; omega) w
  have HST := hide (fun w hk h0 => stretch_any (onesL pass.length 1 ++ pass) salt 3 64 w hk h0 (by simp [onesL_len]; omega) (by omega) (by decide) (by decide))
  have hsl : (stretchL pass salt).length = 64 := keyL_len _ _ _ _
  have hTS := hide (show keyL (onesL pass.length 1 ++ pass) salt 3 64 = stretchL pass salt from rfl)
  have ht : (stretchL pass salt).take 32 = tagsL pass salt := rfl
  have hd : (stretchL pass salt).drop 32 = pagesL pass salt := rfl
  have htl := tagsL_len pass salt
  have hpl := pagesL_len pass salt
  obtain ⟨T, hT⟩ : ∃ T, stretchL pass salt = T := ⟨_, rfl⟩
  obtain ⟨TA, hTA⟩ : ∃ x, tagsL pass salt = x := ⟨_, rfl⟩
  obtain ⟨PA, hPA⟩ : ∃ x, pagesL pass salt = x := ⟨_, rfl⟩
  rw [hT] at hsl hTS ht hd
  rw [hTA] at ht htl ⊢
  rw [hPA] at hd hpl ⊢
  have HST2 := hide (fun w hk h0 => (HST.out w hk h0 : Calls _ _ _ _ fun e w' => e = .returned (.string ⟨(keyL (onesL pass.length 1 ++ pass) salt 3 64).toArray⟩) ∧ _))
  rw [show (64 : Int).toNat = 64 from rfl, hTS.out] at HST2
  obtain ⟨PP, hPP⟩ : ∃ x, onesL pass.length 1 ++ pass = x := ⟨_, rfl⟩
  rw [hPP] at hadd HST2
  have hpi : (pass.length : Int) ≤ 40 := by omega
  have hzv : ∀ w, (zeroValue 65).run Tryz.prog w = .ok (.agg #[.pointer none, .pointer none]) w := fun _ => by kernel_rfl
  obtain ⟨w0, hw0⟩ : ∃ w0, w.alloc (.cells #[.pointer none, .pointer none] 65) = w0 := ⟨_, rfl⟩
  have hz0 : w0.heap.size = w.heap.size + 1 := by rw [← hw0]; simp
  have hb0 : Below w.heap.size w w0 := hw0 ▸ (Below.refl _ _).alloc (Nat.le_refl _) _
  have th0 : w0.there w.heap.size 0 2 := hw0 ▸ there_new w #[.pointer none, .pointer none] 65
  have HTH := hide th0
  have HL := hide (And.intro htl (And.intro hpl hsl))
  have HTD := hide (And.intro ht hd)
  have HC := hide (And.intro hk h0)
  clear hp hT hTA hPA hPP HST hTS ht hd htl hpl hsl th0 hk h0
  generalize pass.length = n at *
  go_enter Tryz.func30, Tryz.ntmps30
  go_wp2_with fail
  refine (HN.out w0).mono ?_
  rintro e w1 ⟨rfl, hb1⟩
  have hb1' := hb0.trans (hb1.mono hb0.size)
  have hk1 := HC.out.1.below hb1' hkl
  have h01 := HC.out.2.below hb1' h0l
  go_wp2_with fail
  refine (HST2.out w1 hk1 h01).mono ?_
  rintro e w2 ⟨rfl, hb2⟩
  have hb2a := hb1.trans (hb2.mono hb1.size)
  have hb2' := hb0.trans (hb2a.mono hb0.size)
  have hk2 := HC.out.1.below hb2' hkl
  have h02 := HC.out.2.below hb2' h0l
  clear hk1 h01 hb1 hb1' hb2
  go_wp2_with fail
  refine wp_region_any (by kernel_rfl) ?_
  refine wpAny_take (i := 0) (v := strV T) rfl (by kernel_rfl) (by kernel_rfl) (by kernel_rfl) (fun _ _ _ h => h) (Or.inl ⟨by kernel_rfl, fun w => by kernel_rfl⟩) ?_
  refine wpAny_take (i := 1) (v := strV (T.take 32)) rfl (by kernel_rfl) (by kernel_rfl) (by kernel_rfl) (fun _ _ _ h => h) (Or.inl ⟨by kernel_rfl, fun w => run_to _ _ _ 32 T rfl (by kernel_rfl) (by rw [HL.out.2.2]; decide) (by rw [HL.out.2.2]; decide) w⟩) ?_
  refine wpAny_take (i := 3) (v := strV T) rfl (by kernel_rfl) (by kernel_rfl) (by kernel_rfl) (fun _ _ _ h => h) (Or.inl ⟨by kernel_rfl, fun w => by kernel_rfl⟩) ?_
  refine wpAny_take (i := 4) (v := strV (T.drop 32)) rfl (by kernel_rfl) (by kernel_rfl) (by kernel_rfl) (fun _ _ _ h => h) (Or.inl ⟨by kernel_rfl, fun w => run_from _ _ _ 32 T rfl (by kernel_rfl) (by rw [HL.out.2.2]; decide) (by rw [HL.out.2.2]; decide) w⟩) ?_
  rw [HTD.out.1, HTD.out.2]
  refine wpAny_ready (rs := [2]) (by kernel_rfl) (by simp) ?_
  refine allReady_call rfl (by kernel_rfl) 55 #[.string ⟨TA.toArray⟩] (by kernel_rfl) ?_ AllReady.nil
  refine (keyed_any TA w2.drew ⟨hk2.lt, hk2.at_⟩ ⟨h02.lt, h02.at_⟩ (by rw [HL.out.1]; decide)).mono ?_
  rintro e w3 ⟨bt, ist, ibuf, ost, obuf, rfl, hm3, hbt, hbt2, ht1, ht2, ho1, ho2, hb3⟩
  have hb3a : Below w0.heap.size w0 w3 := hb2a.drew.trans (hb3.mono hb2a.size)
  refine ⟨_, rfl, ?_⟩
  refine wpAny_ready (rs := [5]) (by kernel_rfl) (by simp) ?_
  refine allReady_call rfl (by kernel_rfl) 56 #[.string ⟨PA.toArray⟩] (by kernel_rfl) ?_ AllReady.nil
  refine (gkeyed_any PA w3).mono ?_
  rintro e w4 ⟨bp, rfl, hk4, hbp, hb4⟩
  rw [fillL_self _ _ HL.out.2.1] at hk4
  have hb4a : Below w0.heap.size w0 w4 := hb3a.trans (hb4.mono hb3a.size)
  have hm4 : MacFor w4 bt TA := ⟨ist, ibuf, ost, obuf, hm3.below hb4 hbt2, ht1, ht2, ho1, ho2⟩
  refine ⟨_, rfl, ?_⟩
  refine wpAny_ready (rs := [6]) (by kernel_rfl) (by simp) ?_
  refine allReady_run rfl (by kernel_rfl) (.agg #[.pointer (some ⟨bt, 0, none⟩), .pointer (some ⟨bp, 0, none⟩)]) (w' := w4) (by kernel_rfl) ?_ AllReady.nil
  refine wpAny_ready (rs := [7]) (by kernel_rfl) (by simp) ?_
  refine allReady_store rfl (by kernel_rfl) 65 _ _ rfl w.heap.size 0 #[.pointer (some ⟨bt, 0, none⟩), .pointer (some ⟨bp, 0, none⟩)] (by kernel_rfl) (by kernel_rfl) (there_below HTH.out hb4a (by omega)) (by kernel_rfl) (by kernel_rfl) ?_ AllReady.nil
  refine wpAny_done (by kernel_rfl) ?_ _
  have hz2 := hb2a.size
  have hz3 : w2.heap.size ≤ bt := hbt
  have hrr : (w4.setCells w.heap.size 0 [.pointer (some ⟨bt, 0, none⟩), .pointer (some ⟨bp, 0, none⟩)]).rangeAt w.heap.size 0 [.pointer (some ⟨bt, 0, none⟩), .pointer (some ⟨bp, 0, none⟩)] := by
    intro j v hj
    have hjl : j < 2 := by
      rcases Nat.lt_or_ge j 2 with g | g
      · exact g
      · rw [List.getElem?_eq_none (by simpa using g)] at hj; cases hj
    have := World.cell?_setCells_in w.heap.size [.pointer (some ⟨bt, 0, none⟩), .pointer (some ⟨bp, 0, none⟩)] 0 w4 (fun k hk => (there_below HTH.out hb4a (by omega) k (by simpa using hk)).1) j (by simpa using hjl)
    rw [this, ← hj, List.getElem?_eq_getElem]
  have hkeep : Kp [w.heap.size] w4 (w4.setCells w.heap.size 0 [.pointer (some ⟨bt, 0, none⟩), .pointer (some ⟨bp, 0, none⟩)]) := (Kp.refl _ w4).setCells _ 0 _ (.inl (by simp))
  have hm5 := hm4.of_block (hkeep.block bt hm4.lt (by simp; omega))
  have hk5 := hk4.of_block (hkeep.block bp hk4.lt (by simp; omega)) hkeep.size
  have hb5 : Below w.heap.size w (w4.setCells w.heap.size 0 [.pointer (some ⟨bt, 0, none⟩), .pointer (some ⟨bp, 0, none⟩)]) := (hb0.trans (hb4a.mono hb0.size)).trans (below_setCells _ _ _ _ _ (Nat.le_refl _))
  have HFIN := hide (And.intro hm5 (And.intro hk5 hb5))
  clear hm5 hk5 hb5 hkeep hm4 hk4 hb4 hb4a hb3 hb3a hm3
  go_wp2_with fail
  refine bodyPost_ret (v := .agg #[.pointer (some ⟨bt, 0, none⟩), .pointer (some ⟨bp, 0, none⟩)]) (results_cell_mid Tryz.results30 _ _ w.heap.size 0 [.pointer (some ⟨bt, 0, none⟩), .pointer (some ⟨bp, 0, none⟩)] _ (by kernel_rfl) hrr Tryz.underlying65 rfl (by kernel_rfl)) (by kernel_rfl) ⟨bt, bp, rfl, HFIN.out.1, HFIN.out.2.1, by omega, by omega, HFIN.out.2.2⟩
end Go.Proofs.YtjnhlkaafnaooabGreatDoor
