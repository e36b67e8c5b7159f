import Derived.Test.YtjnhlkaafnaooabGreatDoorRmM
namespace Go.Proofs.YtjnhlkaafnaooabGreatDoor
open Go.RowKit
/-- A closed vault. -/
def shutVM : VM := ⟨false, [], .pointer none, .pointer none, 0, 0, 0, 0, [], List.replicate 48 false, .slice none 0 0⟩
theorem vcells_one (d : Nat) : ∀ u ∈ vcells d shutVM, u.oneCell' = true := by
  intro u hu
  simp [vcells, shutVM] at hu
  rcases hu with rfl | rfl | rfl | rfl | rfl | rfl | rfl | rfl | rfl | rfl | rfl | rfl <;> rfl
set_option maxRecDepth 100000 in
set_option maxHeartbeats 1000000 in
theorem forget_any (x : DX) (b : Nat) (m : DM) (v : VM) (wv : Value) (w : World) (h : Sys w x b m v wv) :
    Calls Tryz.prog 37 #[.pointer (some ⟨b, 0, none⟩)] w fun e w' => e = .returned (.tuple #[]) ∧ Sys w' x b m shutVM wv ∧ Kp [b] w w' := by
  have c0 := h.vault.c0
  have hth : w.there b 0 59 := by
    intro j hj
    rw [Nat.zero_add]
    refine ⟨?_, h.vault.fr j⟩
    rw [cell_of_row _ _ _ _ _ _ h.vault.blk]
    have : j < (vcells x.d v).length := by simp [vcells, h.vault.ul]; omega
    simp [this]
  have HTH := hide hth
  have HON := hide (all_oneCell_toArray (vcells_one x.d))
  have HH := hide h
  clear h hth
  go_enter Tryz.func37, Tryz.ntmps37
  go_wp2_with (refine wpList_store_mid rfl 71 _ _ rfl b 0 (vcells x.d shutVM).toArray rfl (by kernel_rfl) HTH.out (by kernel_rfl) HON.out ?_)
  have hk : Kp [b] w (w.setCells b 0 (vcells x.d shutVM)) := (Kp.refl [b] w).setCells b 0 _ (.inl (by simp))
  have hv : VaultAt (w.setCells b 0 (vcells x.d shutVM)) b x.d shutVM := ⟨setCells_full HH.out.vault.blk _ (by simp [vcells, HH.out.vault.ul, shutVM]), by simp [shutVM]⟩
  go_end0
  exact ⟨rfl, HH.out.ofVault hk hv, hk⟩
set_option maxRecDepth 100000 in
set_option maxHeartbeats 1000000 in
/-- Close of an open vault. -/
theorem close_open (x : DX) (b : Nat) (m : DM) (v : VM) (wv : Value) (w : World) (h : Sys w x b m v wv) (ho : v.opened = true) :
    Calls Tryz.prog 15 #[.pointer (some ⟨b, 0, none⟩)] w fun e w' => e = .returned (.int .i64 0) ∧ Sys w' x b m shutVM wv ∧ Kp [b] w w' := by
  have c1 := h.vault.c1
  rw [ho] at c1
  have HF := hide (forget_any x b m v wv w h)
  clear h
  go_enter Tryz.func15, Tryz.ntmps15
  go_wp2_with fail
  refine HF.out.mono ?_
  rintro e w1 ⟨rfl, h1, k1⟩
  have H1 := hide (And.intro h1 k1)
  clear h1 k1
  go_wp2_with fail
  go_ret
  exact ⟨rfl, H1.out⟩
end Go.Proofs.YtjnhlkaafnaooabGreatDoor

namespace Go.Proofs.YtjnhlkaafnaooabGreatDoor
open Go.RowKit
theorem results_tmp_cell {P : Program} {fn : Func} {t p : Tmp} {ty : TypeId} (h : fn.results = #[.tmp t, .cell p ty]) (tmps : Array Value) (w : World) (b o : Nat) (cs : List Value) (d : TypeDesc) (v : Value)
    (hv : tmps.getD t undef = v) (hp : tmps.getD p undef = .pointer (some ⟨b, o, none⟩)) (hc : w.rangeAt b o cs)
    (hu : P.underlying ty = some d) (hd : d.isRow = true) (hi : (P.info? ty).map (·.size) = some cs.length) :
    (results fn tmps).run P w = .ok (.tuple #[v, .agg cs.toArray]) w := by
  have hp' : tmps[p]?.getD undef = .pointer (some ⟨b, o, none⟩) := by simpa using hp
  have hv' : tmps[t]?.getD undef = v := by simpa using hv
  simp [results, h, hp', hv', asAddr, run_loadVar_mid w b o ty cs d hc hu hd hi]
def slotSalt (t : List UInt8) : List UInt8 := (t.drop 4).take 16
def slotPlace (t : List UInt8) : Nat := (t.getD 28 0).toNat
def slotDig (t : List UInt8) : List UInt8 := (t.drop 29).take 32
set_option maxRecDepth 100000 in
set_option maxHeartbeats 1000000 in
theorem slotOf_any (t : List UInt8) (w : World) (ht : t.length = 256) :
    Calls Tryz.prog 106 #[.string ⟨t.toArray⟩] w fun e w' => e = .returned (.tuple #[strV (slotSalt t), .agg #[.int .i64 (slotPlace t), strV (slotDig t)]]) ∧ Below w.heap.size w w' := by
  obtain ⟨w0, hw0⟩ : ∃ w0, (w.alloc (.cells #[.int .i64 0, .string ⟨#[]⟩] 67)).alloc (.cells #[strV t, .int .i64 0, .bool false] 193) = w0 := ⟨_, rfl⟩
  have hz0 : w0.heap.size = w.heap.size + 2 := by rw [← hw0]; simp
  have hb0 : Below w.heap.size w w0 := hw0 ▸ ((Below.refl _ _).alloc (Nat.le_refl _) _).alloc (by simp) _
  have q3 : w0.heap[w.heap.size]? = some (.cells #[.int .i64 0, .string ⟨#[]⟩] 67 (0, 0)) := hw0 ▸ (((Kp.refl [] _).alloc _).block _ (by simp) (by simp)).trans (heap_alloc_new w _)
  have hc0 : CurAt w0 (w.heap.size + 1) t 0 false := ⟨by
    have := heap_alloc_new (w.alloc (.cells #[.int .i64 0, .string ⟨#[]⟩] 67)) (.cells #[strV t, .int .i64 0, .bool false] 193)
    rw [World.size_alloc] at this
    rw [← hw0]; exact this⟩
  have HT := hide ht
  have HC0 := hide (take_ok (w.heap.size + 1) t 0 4 false w0 hc0 (by omega) (by omega))
  have H0 := hide (And.intro hb0 q3)
  have HW0 := hide hw0
  clear hc0 hb0 q3 hw0 ht
  go_enter Tryz.func106, Tryz.ntmps106
  go_wp2_with fail
  rw [HW0.out]
  refine HC0.out.mono ?_
  rintro e w1 ⟨rfl, hc1, k1⟩
  have HC1 := hide (take_ok (w.heap.size + 1) t 4 16 false w1 hc1 (by rw [HT.out]; decide) (by rw [HT.out]; decide))
  clear hc1 HC0 HW0
  go_wp2_with fail
  refine HC1.out.mono ?_
  rintro e w2 ⟨rfl, hc2, k2⟩
  have HC2 := hide (take_ok (w.heap.size + 1) t 20 8 false w2 hc2 (by rw [HT.out]; decide) (by rw [HT.out]; decide))
  clear hc2 HC1
  go_wp2_with fail
  refine HC2.out.mono ?_
  rintro e w3 ⟨rfl, hc3, k3⟩
  have k03 := (k1.trans k2).trans k3
  have hz3 := k03.size
  obtain ⟨w4, hw4⟩ : ∃ w4, w3.alloc (.cells #[.int .i64 0, .string ⟨#[]⟩] 67) = w4 := ⟨_, rfl⟩
  have hb4 : Below w3.heap.size w3 w4 := hw4 ▸ (Below.refl _ _).alloc (Nat.le_refl _) _
  have hz4 : w4.heap.size = w3.heap.size + 1 := by rw [← hw4]; simp
  have q6 : w4.heap[w3.heap.size]? = some (.cells #[.int .i64 0, .string ⟨#[]⟩] 67 (0, 0)) := hw4 ▸ heap_alloc_new w3 _
  have hc4 := hc3.of_block (hb4.block _ hc3.lt)
  have HC4 := hide (number_ok (w.heap.size + 1) t 28 false w4 hc4 (by rw [HT.out]; decide) (by rw [HT.out]; decide))
  have q34 := (hb4.block w.heap.size (by omega)).trans ((k03.block w.heap.size (by omega) (by simp)).trans H0.out.2)
  have b04 : Below w.heap.size w w4 := (⟨k03.os.trans H0.out.1.os, k03.tape.trans H0.out.1.tape, k03.output.trans H0.out.1.output, Nat.le_trans H0.out.1.size k03.size, fun j hj => (k03.block j (by omega) (by simp; omega)).trans (H0.out.1.block j hj)⟩ : Below w.heap.size w w3).trans (hb4.mono (by omega))
  have H4 := hide (And.intro q34 (And.intro q6 b04))
  have HW4 := hide hw4
  clear hc3 k1 k2 k3 k03 hb4 q6 hc4 q34 b04 hw4 HC2 H0
  go_wp2_with fail
  rw [HW4.out]
  refine HC4.out.mono ?_
  rintro e w5 ⟨rfl, hc5, k5⟩
  have hpl : slotPlace t = (t.getD 28 0).toNat := rfl
  generalize (t.getD 28 0).toNat = p at hpl ⊢
  have hz5 := k5.size
  have fr5 : w5.frozen? ⟨w3.heap.size, 0, none⟩ = false := by simp [World.frozen?, (k5.block w3.heap.size (by omega) (by simp; omega)).trans H4.out.2.1]
  have q65 := (k5.block w3.heap.size (by omega) (by simp; omega)).trans H4.out.2.1
  have q35 := (k5.block w.heap.size (by omega) (by simp)).trans H4.out.1
  obtain ⟨w6, hw6⟩ : ∃ w6, w5.setCell ⟨w3.heap.size, 0, none⟩ (.int .i64 (p : Int)) = w6 := ⟨_, rfl⟩
  have k6 : Kp [w3.heap.size] w5 w6 := hw6 ▸ (Kp.refl _ w5).setCell _ _ _ (.inl (by simp))
  have q66 := set_prim q65 0 (.int .i64 (p : Int))
  rw [hw6] at q66
  have hc6 := hc5.of_block (k6.block (w.heap.size + 1) (by omega) (by simp; omega))
  have HC6 := hide (take_ok (w.heap.size + 1) t 29 32 false w6 hc6 (by rw [HT.out]; decide) (by rw [HT.out]; decide))
  have c50 : w5.cell? ⟨w3.heap.size, 0, none⟩ = some (.int .i64 0) := by rw [cell_of_row _ _ _ _ _ _ q65]; rfl
  have HW6 := hide hw6
  have b06 : Below w.heap.size w w6 := ⟨k6.os.trans (k5.os.trans H4.out.2.2.os), k6.tape.trans (k5.tape.trans H4.out.2.2.tape), k6.output.trans (k5.output.trans H4.out.2.2.output), by have := k6.size; omega, fun j hj => (k6.block j (by omega) (by simp; omega)).trans ((k5.block j (by omega) (by simp; omega)).trans (H4.out.2.2.block j hj))⟩
  have q36 := (k6.block w.heap.size (by omega) (by simp; omega)).trans q35
  have hz6 : w3.heap.size + 1 ≤ w6.heap.size := by have := k6.size; omega
  have H6 := hide (And.intro q36 (And.intro q66 b06))
  clear q65 q35 hc5 k6 q66 hc6 b06 q36 hw6 HC4 HW4 H4 k5
  go_wp2_with fail
  rw [HW6.out]
  refine HC6.out.mono ?_
  rintro e w7 ⟨rfl, hc7, k7⟩
  have hz7 := k7.size
  have q37 := (k7.block w.heap.size (by omega) (by simp)).trans H6.out.1
  have q67 := (k7.block w3.heap.size (by omega) (by simp; omega)).trans H6.out.2.1
  have b07 : Below w.heap.size w w7 := ⟨k7.os.trans H6.out.2.2.os, k7.tape.trans H6.out.2.2.tape, k7.output.trans H6.out.2.2.output, by omega, fun j hj => (k7.block j (by omega) (by simp; omega)).trans (H6.out.2.2.block j hj)⟩
  have fr7 : w7.frozen? ⟨w3.heap.size, 1, none⟩ = false := by simp [World.frozen?, q67]
  have c71 : w7.cell? ⟨w3.heap.size, 1, none⟩ = some (.string ⟨#[]⟩) := by rw [cell_of_row _ _ _ _ _ _ q67]; rfl
  obtain ⟨w8, hw8⟩ : ∃ w8, w7.setCell ⟨w3.heap.size, 1, none⟩ (strV ((t.drop 29).take 32)) = w8 := ⟨_, rfl⟩
  have q68 := set_prim q67 1 (strV ((t.drop 29).take 32))
  rw [hw8] at q68
  have k8 : Kp [w3.heap.size] w7 w8 := hw8 ▸ (Kp.refl _ w7).setCell _ _ _ (.inl (by simp))
  have q38 := (k8.block w.heap.size (by omega) (by simp; omega)).trans q37
  have b08 : Below w.heap.size w w8 := ⟨k8.os.trans b07.os, k8.tape.trans b07.tape, k8.output.trans b07.output, by have := k8.size; omega, fun j hj => (k8.block j (by omega) (by simp; omega)).trans (b07.block j hj)⟩
  have H8 := hide (And.intro q38 (And.intro q68 b08))
  have HW8 := hide hw8
  clear q37 q67 b07 hc7 k7 q38 b08 q68 k8 hw8 HC6 HW6 H6
  go_wp2_with fail
  rw [HW8.out]
  clear HW8 c71 fr7 c50 fr5
  have c80 : w8.cell? ⟨w3.heap.size, 0, none⟩ = some (.int .i64 (p : Int)) := by rw [cell_of_row _ _ _ _ _ _ H8.out.2.1]; simp
  have c81 : w8.cell? ⟨w3.heap.size, 1, none⟩ = some (strV ((t.drop 29).take 32)) := by rw [cell_of_row _ _ _ _ _ _ H8.out.2.1]; simp
  have d80 : w8.cell? ⟨w.heap.size, 0, none⟩ = some (.int .i64 0) := by rw [cell_of_row _ _ _ _ _ _ H8.out.1]; simp
  have d81 : w8.cell? ⟨w.heap.size, 1, none⟩ = some (.string ⟨#[]⟩) := by rw [cell_of_row _ _ _ _ _ _ H8.out.1]; simp
  have f80 : w8.frozen? ⟨w.heap.size, 0, none⟩ = false := by simp [World.frozen?, H8.out.1]
  have f81 : w8.frozen? ⟨w.heap.size, 1, none⟩ = false := by simp [World.frozen?, H8.out.1]
  go_region
  have HP := hide hpl
  have q1 := set_prim (set_prim H8.out.1 0 (.int .i64 (p : Int))) 1 (strV ((t.drop 29).take 32))
  have b9 : Below w.heap.size w ((w8.setCell ⟨w.heap.size, 0, none⟩ (.int .i64 (p : Int))).setCell ⟨w.heap.size, 1, none⟩ (strV ((t.drop 29).take 32))) := (H8.out.2.2.setCell (p := ⟨w.heap.size, 0, none⟩) (Nat.le_refl _) _).setCell (p := ⟨w.heap.size, 1, none⟩) (Nat.le_refl _) _
  obtain ⟨w9, hw9⟩ : ∃ w9, ((w8.setCell ⟨w.heap.size, 0, none⟩ (.int .i64 (p : Int))).setCell ⟨w.heap.size, 1, none⟩ (strV ((t.drop 29).take 32))).drew = w9 := ⟨_, rfl⟩
  have q9 : w9.heap[w.heap.size]? = some (.cells #[.int .i64 (p : Int), strV ((t.drop 29).take 32)] 67 (0, 0)) := by rw [← hw9]; exact q1
  have hb9 : Below w.heap.size w w9 := hw9 ▸ b9.drew
  clear c80 c81 d80 d81 f80 f81 q1 b9
  rw [show ∀ l : List UInt8, Value.string { data := l.toArray } = strV l from fun _ => rfl, hw9]
  go_wp2_with fail
  exact bodyPost_ret (results_tmp_cell Tryz.results106 _ _ w.heap.size 0 [.int .i64 (p : Int), strV ((t.drop 29).take 32)] _ (strV ((t.drop 4).take 16)) rfl rfl (range_block q9) Tryz.underlying67 rfl (by kernel_rfl)) rfl ⟨by rw [HP.out]; rfl, hb9⟩
set_option maxRecDepth 100000 in
set_option maxHeartbeats 1000000 in
theorem isSlot_any (t s : List UInt8) (w : World) (ht : t.length = 256) :
    Calls Tryz.prog 107 #[.string ⟨t.toArray⟩, .string ⟨s.toArray⟩] w fun e w' => e = .returned (.bool (fillL (t.take 128) 256 == s)) ∧ Below w.heap.size w w' := by
  have hs : (ByteArray.mk t.toArray).size = 256 := ht
  have HF := hide (fun w => fillText_any (t.take 128) 256 w (by decide))
  go_enter Tryz.func107, Tryz.ntmps107
  go_wp2_with fail
  rw [show (ByteArray.mk t.toArray).extract 0 128 = ⟨(t.take 128).toArray⟩ from by
    apply ByteArray.ext
    simp [ByteArray.data_extract]]
  refine (HF.out w).mono ?_
  rintro e w1 ⟨rfl, b1⟩
  go_wp2_with fail
  go_ret
  exact ⟨rfl, b1⟩
end Go.Proofs.YtjnhlkaafnaooabGreatDoor

namespace Go.Proofs.YtjnhlkaafnaooabGreatDoor
open Go.RowKit
/-- Does a block hold a slot of this version under this password? -/
def isSlotL (pass t : List UInt8) (n : Nat) : Bool := fillL (t.take 128) 256 == slotL (tagsL pass (slotSalt t)) (slotSalt t) n (slotPlace t) (slotDig t)
/-- A vault that has taken a slot. -/
def VM.taken (v : VM) (t : List UInt8) (bt bp : Nat) : VM := { v with salt := slotSalt t, tv := .pointer (some ⟨bt, 0, none⟩), pv := .pointer (some ⟨bp, 0, none⟩), place := if slotPlace t = 0 then v.place else slotPlace t, digest := if slotPlace t = 0 then v.digest else slotDig t }
theorem slotSalt_len {t : List UInt8} (ht : t.length = 256) : (slotSalt t).length = 16 := by simp [slotSalt, ht]
set_option maxRecDepth 100000 in
set_option maxHeartbeats 1000000 in
theorem takeSlot_any (x : DX) (b : Nat) (m : DM) (v : VM) (wv : Value) (pass t : List UInt8) (n : Nat) (w : World) (h : Sys w x b m v wv) (hp : pass.length ≤ 40) (ht : t.length = 256) (hn : n < 9223372036854775808) :
    Calls Tryz.prog 68 #[.pointer (some ⟨b, 0, none⟩), .string ⟨pass.toArray⟩, .string ⟨t.toArray⟩, .int .i64 n] w fun e w' => e = .returned (.bool (isSlotL pass t n)) ∧ Kp [b] w w' ∧
      (isSlotL pass t n = false → Sys w' x b m v wv) ∧
      (isSlotL pass t n = true → ∃ bt bp, Sys w' x b m (v.taken t bt bp) wv ∧ MacFor w' bt (tagsL pass (slotSalt t)) ∧ KeyAt w' bp (keysL (pagesL pass (slotSalt t))) ∧ w.heap.size ≤ bt ∧ bt < bp) := by
  have hsl := slotSalt_len ht
  have hpl : slotPlace t < 256 := by simpa [slotPlace] using (t.getD 28 0).toNat_lt
  have HPL := hide hpl
  have HH := hide h
  have H0 := hide (slotOf_any t w ht)
  have HI := hide (fun s w => isSlot_any t s w ht)
  have HK := hide (fun w hk h0 => keysOf_any pass (slotSalt t) w hk h0 hp hsl)
  have HST := hide (fun bt pv w hm hk => slotText_any bt pv (tagsL pass (slotSalt t)) (slotSalt t) (slotDig t) n (slotPlace t) w hm hk hsl hn (by have := HPL.out; omega))
  clear h hp hn hsl hpl
  have his : isSlotL pass t n = (fillL (t.take 128) 256 == slotL (tagsL pass (slotSalt t)) (slotSalt t) n (slotPlace t) (slotDig t)) := rfl
  have hbl := HH.out.vault.lt
  generalize hS : slotSalt t = salt at *
  generalize hD : slotDig t = dig at *
  generalize hP : slotPlace t = p at *
  go_enter Tryz.func68, Tryz.ntmps68
  go_wp2_with fail
  refine H0.out.mono ?_
  rintro e w0 ⟨rfl, b0⟩
  have B0 := hide b0
  clear b0 H0
  go_wp2_with fail
  obtain ⟨w1, hw1⟩ : ∃ w1, w0.alloc (.cells #[.int .i64 (p : Int), strV dig] 67) = w1 := ⟨_, rfl⟩
  have q1 : w1.heap[w0.heap.size]? = some (.cells #[.int .i64 (p : Int), strV dig] 67 (0, 0)) := hw1 ▸ heap_alloc_new w0 _
  have hz1 : w1.heap.size = w0.heap.size + 1 := by rw [← hw1]; simp
  have hz0 : w.heap.size ≤ w0.heap.size := B0.out.size
  have b1 : Below w.heap.size w w1 := hw1 ▸ B0.out.alloc hz0 _
  have s1 := HH.out.later b1
  have HK1 := hide (HK.out w1 s1.hk s1.h0)
  have H1 := hide (And.intro q1 (And.intro b1 s1))
  have HW1 := hide hw1
  clear q1 b1 s1 hw1 HK B0
  rw [show ∀ l : List UInt8, Value.string { data := l.toArray } = strV l from fun _ => rfl]
  rw [HW1.out]
  refine HK1.out.mono ?_
  rintro e w2 ⟨bt, bp, rfl, hm2, hk2, hbt, hbp, b2⟩
  obtain ⟨w3, hw3⟩ : ∃ w3, w2.alloc (.cells #[.pointer (some ⟨bt, 0, none⟩), .pointer (some ⟨bp, 0, none⟩)] 65) = w3 := ⟨_, rfl⟩
  have hz2 := b2.size
  have hz3 : w3.heap.size = w2.heap.size + 1 := by rw [← hw3]; simp
  have b23 : Below w2.heap.size w2 w3 := hw3 ▸ (Below.refl _ _).alloc (Nat.le_refl _) _
  have q33 : w3.heap[w2.heap.size]? = some (.cells #[.pointer (some ⟨bt, 0, none⟩), .pointer (some ⟨bp, 0, none⟩)] 65 (0, 0)) := hw3 ▸ heap_alloc_new w2 _
  have q31 := (b23.block w0.heap.size (by omega)).trans ((b2.block w0.heap.size (by omega)).trans H1.out.1)
  have hm3 := hm2.of_block (b23.block bt hm2.lt)
  have hk3 := hk2.of_block (b23.block bp hk2.lt) (by omega)
  have b3 : Below w.heap.size w w3 := (H1.out.2.1.trans (b2.mono (by omega))).trans (b23.mono (by omega))
  have s3 := HH.out.later b3
  have HST3 := hide (HST.out bt (.pointer (some ⟨bp, 0, none⟩)) w3 hm3 s3.hk)
  have e30 : w3.cell? ⟨w2.heap.size, 0, none⟩ = some (.pointer (some ⟨bt, 0, none⟩)) := by rw [cell_of_row _ _ _ _ _ _ q33]; rfl
  have e31 : w3.cell? ⟨w2.heap.size, 1, none⟩ = some (.pointer (some ⟨bp, 0, none⟩)) := by rw [cell_of_row _ _ _ _ _ _ q33]; rfl
  have f30 : w3.cell? ⟨w0.heap.size, 0, none⟩ = some (.int .i64 (p : Int)) := by rw [cell_of_row _ _ _ _ _ _ q31]; rfl
  have f31 : w3.cell? ⟨w0.heap.size, 1, none⟩ = some (strV dig) := by rw [cell_of_row _ _ _ _ _ _ q31]; rfl
  have H3 := hide (And.intro q33 (And.intro q31 (And.intro hm3 (And.intro hk3 b3))))
  have HW3 := hide hw3
  have HB := hide (And.intro hbt hbp)
  clear hm2 hk2 hbt hbp b2 b23 q33 q31 hm3 hk3 b3 s3 HST H1 HW1 HK1 hw3
  go_wp2_with (rw [HW3.out])
  refine HST3.out.mono ?_
  rintro e w4 ⟨rfl, b4⟩
  have hz4 := b4.size
  have b4' := H3.out.2.2.2.2.trans (b4.mono (by omega))
  have HI4 := hide (HI.out (slotL (tagsL pass salt) salt n p dig) w4)
  have HB4 := hide (And.intro b4 b4')
  clear b4 b4' e30 e31 f30 f31 HST3 HI HW3
  go_wp2_with fail
  refine HI4.out.mono ?_
  rintro e w5 ⟨rfl, b5⟩
  rw [← his]
  have hz5 := b5.size
  have s5 := HH.out.later (HB4.out.2.trans (b5.mono (by omega)))
  have b35 := HB4.out.1.trans (b5.mono (by omega))
  have b05 := HB4.out.2.trans (b5.mono (by omega))
  have q53 := (b35.block w2.heap.size (by omega)).trans H3.out.1
  have q51 := (b35.block w0.heap.size (by omega)).trans H3.out.2.1
  have hm5 := H3.out.2.2.1.of_block (b35.block bt H3.out.2.2.1.lt)
  have hk5 := H3.out.2.2.2.1.of_block (b35.block bp H3.out.2.2.2.1.lt) (by omega)
  clear b35 HB4 HI4 H3
  cases his' : isSlotL pass t n with
  | false =>
    have HF := hide (And.intro b05 s5)
    clear b05 s5 q53 q51 hm5 hk5
    go_wp2_with fail
    go_ret
    exact ⟨by rw [his']; rfl, Kp.of_below HF.out.1, fun _ => HF.out.2, fun e => by rw [his'] at e; cases e⟩
  | true =>
    have g20 : w5.cell? ⟨w2.heap.size, 0, none⟩ = some (.pointer (some ⟨bt, 0, none⟩)) := by rw [cell_of_row _ _ _ _ _ _ q53]; rfl
    have g21 : w5.cell? ⟨w2.heap.size, 1, none⟩ = some (.pointer (some ⟨bp, 0, none⟩)) := by rw [cell_of_row _ _ _ _ _ _ q53]; rfl
    have g00 : w5.cell? ⟨w0.heap.size, 0, none⟩ = some (.int .i64 (p : Int)) := by rw [cell_of_row _ _ _ _ _ _ q51]; rfl
    have g01 : w5.cell? ⟨w0.heap.size, 1, none⟩ = some (strV dig) := by rw [cell_of_row _ _ _ _ _ _ q51]; rfl
    have n2 : (⟨w2.heap.size, 0, none⟩ : Addr) ≠ ⟨b, 2, none⟩ := by intro e; injection e; omega
    have v2 := s5.vault.c2
    have v3 := s5.vault.c3
    have v4 := s5.vault.c4
    have v8 := s5.vault.c8
    have v9 := s5.vault.c9
    have u2 := s5.vault.fr 2
    have u3 := s5.vault.fr 3
    have u4 := s5.vault.fr 4
    have u8 := s5.vault.fr 8
    have u9 := s5.vault.fr 9
    have nb2 : w2.heap.size ≠ b := by omega
    have nb0 : w0.heap.size ≠ b := by omega
    have S5 := hide (And.intro b05 (And.intro s5 (And.intro hm5 hk5)))
    clear q53 q51 s5 b05 hm5 hk5
    have ht3 := ((S5.out.2.1.vault.set2 salt).set3 (.pointer (some ⟨bt, 0, none⟩))).set4 (.pointer (some ⟨bp, 0, none⟩))
    have k3 : Kp [b] w5 (((w5.setCell ⟨b, 2, none⟩ (strV salt)).setCell ⟨b, 3, none⟩ (.pointer (some ⟨bt, 0, none⟩))).setCell ⟨b, 4, none⟩ (.pointer (some ⟨bp, 0, none⟩))) := (((Kp.refl _ _).setCell b 2 _ (.inl (by simp))).setCell b 3 _ (.inl (by simp))).setCell b 4 _ (.inl (by simp))
    have K0 := hide (show Kp [b] w w5 from Kp.of_below S5.out.1)
    have HL := hide (And.intro (show bt ≠ b from by have := HB.out.1; omega) (show bp ≠ b from by have := HB.out; omega))
    by_cases hp0 : p = 0
    · have d0 : ((p : Int) != 0) = false := by simp [hp0]
      have HT := hide (And.intro ht3 k3)
      have HP0 := hide hp0
      clear ht3 k3 hp0
      go_wp2_with fail
      go_ret
      refine ⟨by rw [his']; rfl, K0.out.trans HT.out.2, (fun e => by rw [his'] at e; cases e), fun _ => ⟨bt, bp, ?_, ?_, ?_, ?_, HB.out.2⟩⟩
      · exact (show v.taken t bt bp = _ from by simp [VM.taken, hS, hP, HP0.out]; rfl) ▸ S5.out.2.1.ofVault HT.out.2 HT.out.1
      · exact S5.out.2.2.1.of_block (HT.out.2.block bt S5.out.2.2.1.lt (by simpa using HL.out.1))
      · exact S5.out.2.2.2.of_block (HT.out.2.block bp S5.out.2.2.2.lt (by simpa using HL.out.2)) HT.out.2.size
      · have := HB.out.1; omega
    · have d0 : ((p : Int) != 0) = true := by simp; exact hp0
      have ht5 := (ht3.set8 p).set9 dig
      have k5 := (k3.setCell b 8 (.int .i64 (p : Int)) (.inl (by simp))).setCell b 9 (strV dig) (.inl (by simp))
      have HT := hide (And.intro ht5 k5)
      have HP0 := hide hp0
      clear ht3 k3 ht5 k5 hp0
      go_wp2_with fail
      go_ret
      refine ⟨by rw [his']; rfl, K0.out.trans HT.out.2, (fun e => by rw [his'] at e; cases e), fun _ => ⟨bt, bp, ?_, ?_, ?_, ?_, HB.out.2⟩⟩
      · exact (show v.taken t bt bp = _ from by simp [VM.taken, hS, hD, hP, HP0.out]; rfl) ▸ S5.out.2.1.ofVault HT.out.2 HT.out.1
      · exact S5.out.2.2.1.of_block (HT.out.2.block bt S5.out.2.2.1.lt (by simpa using HL.out.1))
      · exact S5.out.2.2.2.of_block (HT.out.2.block bp S5.out.2.2.2.lt (by simpa using HL.out.2)) HT.out.2.size
      · have := HB.out.1; omega
end Go.Proofs.YtjnhlkaafnaooabGreatDoor

namespace Go.Proofs.YtjnhlkaafnaooabGreatDoor
open Go.RowKit
/-- Which version Open takes. -/
def takeL (pass : List UInt8) (m : DM) (c : Nat) : Option Nat := if isSlotL pass (m.look ((c + 1) % 2)) (c + 1) then some (c + 1) else if isSlotL pass (m.look (c % 2)) c then some c else none
/-- A vault that has taken the slot of version n, under a password. -/
def TookAt (w w' : World) (x : DX) (b : Nat) (m : DM) (v : VM) (wv : Value) (pass : List UInt8) (n : Nat) : Prop :=
  ∃ bt bp, Sys w' x b m (v.taken (m.look (n % 2)) bt bp) wv ∧ MacFor w' bt (tagsL pass (slotSalt (m.look (n % 2)))) ∧ KeyAt w' bp (keysL (pagesL pass (slotSalt (m.look (n % 2))))) ∧ w.heap.size ≤ bt ∧ bt < bp
set_option maxRecDepth 100000 in
set_option maxHeartbeats 1000000 in
theorem take_any (x : DX) (b : Nat) (m : DM) (v : VM) (wv : Value) (pass : List UInt8) (c : Nat) (w : World) (h : Sys w x b m v wv) (hp : pass.length ≤ 40) (h0 : (m.look 0).length = 256) (h1 : (m.look 1).length = 256) (hl : 2 ≤ m.blocks.length) (hc : c ≤ 2000000) :
    Calls Tryz.prog 38 #[.pointer (some ⟨b, 0, none⟩), .string ⟨pass.toArray⟩, .int .i64 c] w fun e w' => Kp [b] w w' ∧
      ((takeL pass m c = none ∧ e = .returned (.tuple #[.int .i64 0, .int .i64 8]) ∧ Sys w' x b m v wv) ∨
       (∃ n, takeL pass m c = some n ∧ n % 2 < 2 ∧ e = .returned (.tuple #[.int .i64 n, .int .i64 0]) ∧ TookAt w w' x b m v wv pass n)) := by
  have c0 := h.vault.c0
  have HR0 := hide (read_any x m wv 0 w h.disk (by omega))
  have HR1 := hide (read_any x m wv 1 w h.disk (by omega))
  have HT := hide (fun t n w h ht hn => takeSlot_any x b m v wv pass t n w h hp ht hn)
  have HH := hide h
  clear h hl hp
  generalize hE : m.look 0 = t0 at *
  generalize hO : m.look 1 = t1 at *
  go_enter Tryz.func38, Tryz.ntmps38
  go_wp2_with fail
  refine HR0.out.mono ?_
  rintro e w1 ⟨rfl, hw1⟩
  rw [hw1]
  clear hw1 w1
  go_wp2_with fail
  refine HR1.out.mono ?_
  rintro e w1 ⟨rfl, hw1⟩
  rw [hw1]
  clear hw1 w1
  go_wp2_with fail
  go_loopw [9, 11, 12] (fun _ i _ wr => ∃ k : Nat, k ≤ 2 ∧ i = .int .i64 ((c : Int) + 1 - k) ∧ (1 ≤ k → isSlotL pass (m.look ((c + 1) % 2)) (c + 1) = false) ∧ (2 ≤ k → isSlotL pass (m.look (c % 2)) c = false) ∧ Sys wr x b m v wv ∧ Kp [b] w wr) (fun _ i _ _ => (intOf i + 2 - c).toNat)
  case atStart => exact ⟨0, by omega, by simp, by omega, by omega, HH.out, Kp.refl _ _⟩
  case round =>
    obtain ⟨k, hk, rfl, hf1, hf2, hs, hkp⟩ := hrel
    by_cases hk2 : k = 2
    · subst hk2
      have hd : decide ((c : Int) ≤ (c : Int) + 1 - ((2 : Nat) : Int)) = false := by simp; omega
      have HF := hide (And.intro (hf1 (by omega)) (And.intro (hf2 (by omega)) (And.intro hs hkp)))
      clear hf1 hf2 hs hkp
      go_wp2_with fail
      go_ret2
      exact ⟨HF.out.2.2.2, .inl ⟨by simp [takeL, HF.out.1, HF.out.2.1], rfl, HF.out.2.2.1⟩⟩
    · obtain ⟨n, hn⟩ : ∃ n, c + 1 - k = n := ⟨_, rfl⟩
      have hni : (c : Int) + 1 - (k : Int) = (n : Int) := by omega
      have hd : decide (c ≤ n) = true := by simp; omega
      rw [hni]
      have hnl : n < 9223372036854775808 := by omega
      obtain ⟨t, ht⟩ : ∃ t, m.look (n % 2) = t := ⟨_, rfl⟩
      have htl : t.length = 256 := by
        rcases Nat.mod_two_eq_zero_or_one n with e | e
        · rw [← ht, e, hE]; exact h0
        · rw [← ht, e, hO]; exact h1
      have HT1 := hide (HT.out t n wr hs htl hnl)
      have HN := hide (And.intro hn (And.intro ht (And.intro hf1 (And.intro hf2 (And.intro hs hkp)))))
      have hn1 : (n : Int) ≤ 2000001 := by omega
      have HC := hide (And.intro hk2 hk)
      have HET := hide (And.intro hE hO)
      have HTL := hide (And.intro h0 h1)
      clear hn ht hf1 hf2 hs hkp htl hnl hni hk2 hk hE hO h0 h1 hc HR0 HR1
      have step : ∀ w2 : World, Kp [b] wr w2 ∧ (isSlotL pass t n = false → Sys w2 x b m v wv) ∧ (isSlotL pass t n = true → ∃ bt bp, Sys w2 x b m (v.taken t bt bp) wv ∧ MacFor w2 bt (tagsL pass (slotSalt t)) ∧ KeyAt w2 bp (keysL (pagesL pass (slotSalt t))) ∧ wr.heap.size ≤ bt ∧ bt < bp) →
          (isSlotL pass t n = true → Kp [b] w w2 ∧ takeL pass m c = some n ∧ TookAt w w2 x b m v wv pass n) ∧
          (isSlotL pass t n = false → ∃ k' : Nat, k' ≤ 2 ∧ (n : Int) - 1 = (c : Int) + 1 - k' ∧ (1 ≤ k' → isSlotL pass (m.look ((c + 1) % 2)) (c + 1) = false) ∧ (2 ≤ k' → isSlotL pass (m.look (c % 2)) c = false) ∧ Sys w2 x b m v wv ∧ Kp [b] w w2) := by
        intro w2 ⟨hk2', hfa, htr⟩
        obtain ⟨hn, ht, hf1, hf2, hs, hkp⟩ := HN.out
        obtain ⟨hk2, hk⟩ := HC.out
        refine ⟨fun e => ⟨hkp.trans hk2', ?_, ?_⟩, fun e => ⟨k + 1, by omega, by omega, ?_, ?_, hfa e, hkp.trans hk2'⟩⟩
        · have : k = 0 ∨ k = 1 := by omega
          rcases this with rfl | rfl
          · obtain rfl : n = c + 1 := by omega
            simp [takeL, ht, e]
          · obtain rfl : n = c := by omega
            simp [takeL, hf1 (by omega), ht, e]
        · obtain ⟨bt, bp, h1, h2, h3, h4, h5⟩ := htr e
          have := hkp.size
          exact ⟨bt, bp, ht ▸ h1, ht ▸ h2, ht ▸ h3, by omega, h5⟩
        · intro _
          by_cases hk0 : k = 0
          · obtain rfl : n = c + 1 := by omega
            rw [ht]; exact e
          · exact hf1 (by omega)
        · intro _
          obtain rfl : n = c := by omega
          rw [ht]; exact e
      have HS := hide step
      clear step
      rcases Nat.mod_two_eq_zero_or_one n with hpar | hpar
      · have hpi : ((n : Int) % 2 == 1) = false := by rw [beq_eq_false_iff_ne]; omega
        obtain rfl : t0 = t := HET.out.1.symm.trans (hpar ▸ HN.out.2.1)
        clear hpar
        go_wp2_with fail
        refine HT1.out.mono ?_
        rintro e w2 ⟨rfl, hr⟩
        have HR := hide (HS.out w2 hr)
        clear hr HS HT1
        cases his : isSlotL pass t0 n with
        | true =>
          go_wp2_with fail
          go_ret2
          obtain ⟨g1, g2, g3⟩ := HR.out.1 his
          exact ⟨g1, .inr ⟨n, g2, Nat.mod_lt _ (by decide), rfl, g3⟩⟩
        | false =>
          go_wp2_with fail
          obtain ⟨k', g1, g2, g3⟩ := HR.out.2 his
          have := HN.out.1
          exact ⟨⟨k', g1, by rw [g2], g3⟩, by simp [intOf]; omega⟩
      · have hpi : ((n : Int) % 2 == 1) = true := by rw [beq_iff_eq]; omega
        obtain rfl : t1 = t := HET.out.2.symm.trans (hpar ▸ HN.out.2.1)
        clear hpar
        go_wp2_with fail
        refine HT1.out.mono ?_
        rintro e w2 ⟨rfl, hr⟩
        have HR := hide (HS.out w2 hr)
        clear hr HS HT1
        cases his : isSlotL pass t1 n with
        | true =>
          go_wp2_with fail
          go_ret2
          obtain ⟨g1, g2, g3⟩ := HR.out.1 his
          exact ⟨g1, .inr ⟨n, g2, Nat.mod_lt _ (by decide), rfl, g3⟩⟩
        | false =>
          go_wp2_with fail
          obtain ⟨k', g1, g2, g3⟩ := HR.out.2 his
          have := HN.out.1
          exact ⟨⟨k', g1, by rw [g2], g3⟩, by simp [intOf]; omega⟩
end Go.Proofs.YtjnhlkaafnaooabGreatDoor

namespace Go.Proofs.YtjnhlkaafnaooabGreatDoor
open Go.RowKit
set_option maxRecDepth 100000 in
set_option maxHeartbeats 1000000 in
theorem isUsed_any (x : DX) (b : Nat) (m : DM) (v : VM) (wv : Value) (p : Nat) (w : World) (h : Sys w x b m v wv) :
    Calls Tryz.prog 109 #[.pointer (some ⟨b, 0, none⟩), .int .i64 p] w fun e w' => e = .returned (.bool (v.used.getD p false)) ∧ w' = w := by
  by_cases hp : p < 48
  · have cu := h.vault.cu p hp
    have hd : decide ((p : Int) < 48) = true := by simp; omega
    generalize v.used.getD p false = u at *
    clear h
    go_enter Tryz.func109, Tryz.ntmps109
    go_wp2_with fail
    go_ret
    exact ⟨rfl, rfl⟩
  · have hd : decide ((p : Int) < 48) = false := by simp; omega
    have hu : v.used.getD p false = false := by simp [List.getD, List.getElem?_eq_none (show v.used.length ≤ p by rw [h.vault.ul]; omega)]
    rw [hu]
    clear h hu
    go_enter Tryz.func109, Tryz.ntmps109
    go_wp2_with fail
    go_ret
    exact ⟨rfl, rfl⟩
end Go.Proofs.YtjnhlkaafnaooabGreatDoor
