import Derived.Test.YtjnhlkaafnaooabGreatDoorRmK
namespace Go.Proofs.YtjnhlkaafnaooabGreatDoor
open Go.RowKit
theorem Foreign.later {x : DX} {b : Nat} {wv wv' : Value} {n z : Nat} (h : Foreign x b wv n) (hl : Later wv wv' z) (hn : n < z) : Foreign x b wv' n :=
  ⟨fun e => (hl.sub e).elim h.1 (fun g => by omega), h.2⟩
theorem leafPage_len (rk k s : List UInt8) (a c p : Nat) (hr : rk.length = 240) : (pageL rk a c p (leafOne k s)).length = 256 := by rw [pageL_len _ _ _ _ _ hr, leafOne_len]
set_option maxRecDepth 100000 in
set_option maxHeartbeats 2000000 in
theorem writePage_leaf (x : DX) (b bp : Nat) (m : DM) (v : VM) (wv : Value) (rk k s : List UInt8) (n be cap p : Nat) (rest : List Nat) (w : World) (h : Sys w x b m v wv) (hpv : v.pv = .pointer (some ⟨bp, 0, none⟩)) (hk : KeyAt w bp rk) (hbp : Apart w x b wv bp) (hl : LeafAt w n 0 [] k s be cap) (hn : Foreign x b wv n) (hbe : Foreign x b wv be)
    (hf : freeTo v.used m.blocks.length = p :: rest) (hp : p < m.blocks.length) (hd : v.done < 1000) (hse : v.session < 9223372036854775808) (hwr : m.wrote.length < 100000) (h8 : k.length ≤ 8) (h16 : s.length ≤ 16) :
    Calls Tryz.prog 105 #[.pointer (some ⟨b, 0, none⟩), .pointer (some ⟨n, 0, none⟩)] w fun e w' => e = .returned (.int .i64 0) ∧ ∃ wv', Sys w' x b (m.write p (pageL rk v.session (v.done + 1) p (leafOne k s))) { v with done := v.done + 1, used := v.used.set p true } wv' ∧
      LeafAt w' n p (shaL (pageL rk v.session (v.done + 1) p (leafOne k s))) k s be cap ∧ Kp (n :: Sys.set x b wv) w w' ∧ Later wv wv' w.heap.size := by
  have hle := h.disk.le
  have hnl := hl.node.lt
  have HFR := hide (free_any x b m v wv w h)
  have hfl : (p :: rest).length ≤ 48 := by rw [← hf]; exact Nat.le_trans (freeTo_len _ _) hle
  rw [hf] at HFR
  have hdi : (v.done : Int) < 1000 := by omega
  have HH := hide (And.intro h (And.intro hk (And.intro hbp (And.intro hl (And.intro hn hbe)))))
  have HP := hide (And.intro hp (And.intro hd (And.intro hse (And.intro hwr (And.intro h8 (And.intro h16 hle))))))
  have HTL := hide (leafPage_len rk k s v.session (v.done + 1) p hk.len)
  obtain ⟨T, hT⟩ : ∃ T, pageL rk v.session (v.done + 1) p (leafOne k s) = T := ⟨_, rfl⟩
  rw [hT] at HTL ⊢
  have HT := hide hT
  clear h hk hbp hl hn hbe hf hp hd hse hwr h8 h16 hle hT
  go_enter Tryz.func105, Tryz.ntmps105
  go_wp2_with fail
  refine HFR.out.mono ?_
  rintro e w1 ⟨fv, rfl, hown, hb1⟩
  obtain ⟨g, cap1, hfv⟩ := own_form hown (by simp)
  subst hfv
  have hcell : w1.cell? ⟨g, 0, none⟩ = some (.int .i64 p) := (Cells.of_own (xs := p :: rest) hown).at_ 0 (by simp)
  have hgl : w.heap.size ≤ g := (hown.lt g rfl).1
  obtain ⟨L, hL⟩ : ∃ L, (p :: rest).length = L := ⟨_, rfl⟩
  rw [hL] at hfl ⊢
  have hL1 : ((L : Int) == 0) = false := by rw [beq_eq_false_iff_ne]; simp at hL; omega
  have hL2 : ¬ (L = 0) := by simp at hL; omega
  have hL3 : (0 : Int) < (L : Int) := by omega
  have s1 := HH.out.1.later hb1
  have c7 := s1.vault.c7
  have f7 := s1.vault.fr 7
  have kv : Kp [b] w1 (w1.setCell ⟨b, 7, none⟩ (.int .i64 (v.done + 1 : Nat))) := (Kp.refl _ w1).setCell b 7 _ (.inl (by simp))
  have s2 := s1.ofVault kv (s1.vault.set7 (v.done + 1))
  have hbn : b ≠ n := fun e => HH.out.2.2.2.2.1.1 (by simp [Sys.set, e])
  have hbe' : b ≠ be := fun e => HH.out.2.2.2.2.2.1 (by simp [Sys.set, e])
  have hbb : bp ≠ b := fun e => HH.out.2.2.1.2 (by simp [Sys.set, e])
  have l2 := (HH.out.2.2.2.1.kp (S := []) (Kp.of_below hb1) (by simp) (by simp)).kp kv (by simpa using Ne.symm hbn) (by simpa using Ne.symm hbe')
  have k2 : Kp (Sys.set x b wv) w (w1.setCell ⟨b, 7, none⟩ (.int .i64 (v.done + 1 : Nat))) := (Kp.of_below hb1).setCell b 7 _ (.inl (by simp [Sys.set]))
  have key2 := HH.out.2.1.of_block (HH.out.2.2.1.block k2) k2.size
  obtain ⟨w2, hw2⟩ : ∃ w2, w1.setCell ⟨b, 7, none⟩ (.int .i64 (v.done + 1 : Nat)) = w2 := ⟨_, rfl⟩
  rw [hw2] at s2 l2 k2 key2
  have hw2' : w1.setCell ⟨b, 7, none⟩ (.int .i64 ((v.done : Int) + 1)) = w2 := hw2
  have HTX := hide (text_leaf n 0 [] k s be cap w2 l2 HP.out.2.2.2.2.1 HP.out.2.2.2.2.2.1)
  have H2 := hide (And.intro s2 (And.intro l2 (And.intro k2 key2)))
  have HHN := hide HH.out.2.2.2.2
  have HAP := hide HH.out.2.2.1
  clear s1 s2 l2 k2 key2 kv hown hb1 HFR HH hw2 hL hgl
  go_wp2_with fail
  refine HTX.out.mono ?_
  rintro e w3 ⟨rfl, hb3⟩
  have s3 := H2.out.1.later hb3
  have l3 := H2.out.2.1.kp (S := []) (Kp.of_below hb3) (by simp) (by simp)
  have k3 : Kp (Sys.set x b wv) w w3 := H2.out.2.2.1.trans (Kp.of_below hb3)
  have key3 := H2.out.2.2.2.below hb3 H2.out.2.2.2.lt
  have hpt := fun w' (hw : Below w3.heap.size w3 w') => pageText_any bp v.tv rk (leafOne k s) v.session (v.done + 1) p w' (key3.below hw key3.lt) HP.out.2.2.1 (by have := HP.out; omega) (by have := HP.out; omega) (by rw [leafOne_len]; decide)
  rw [HT.out] at hpt
  have HPT := hide hpt
  have HS := hide (fun w' (hw : Below w3.heap.size w3 w') => s3.later hw)
  obtain ⟨LF, hLF⟩ : ∃ x, leafOne k s = x := ⟨_, rfl⟩
  rw [hLF] at HPT ⊢
  have H3 := hide (And.intro l3 k3)
  clear s3 l3 k3 key3 hpt H2 hb3 hLF hw2' hcell
  go_wp2_with fail
  refine wp_region_one (fun w' => Below w3.heap.size w3 w') (by kernel_rfl) (by kernel_rfl) (Below.refl _ _).drew ?_
  refine one_take 0 (.pointer (some ⟨b, 0, none⟩)) rfl (by kernel_rfl) (by kernel_rfl) (by kernel_rfl) rfl (gives_pure fun _ => by kernel_rfl) ?_
  refine one_take 1 (.pointer (some ⟨b, 0, none⟩)) rfl (by kernel_rfl) (by kernel_rfl) (by kernel_rfl) rfl (gives_pure fun _ => by kernel_rfl) ?_
  refine one_take 2 (.pointer (some ⟨b, 3, none⟩)) rfl (by kernel_rfl) (by kernel_rfl) (by kernel_rfl) rfl (gives_pure fun _ => by kernel_rfl) ?_
  refine one_take 3 (.agg #[v.tv, .pointer (some ⟨bp, 0, none⟩)]) rfl (by kernel_rfl) (by kernel_rfl) (by kernel_rfl) rfl (gives_read fun w hw => run_load_row _ _ 65 _ b 3 [v.tv, .pointer (some ⟨bp, 0, none⟩)] rfl (by kernel_rfl) _ Tryz.underlying65 rfl (by kernel_rfl) w (range2 (HS.out w hw).vault.c3 (by rw [(HS.out w hw).vault.c4]; exact congrArg some hpv))) ?_
  refine one_take 4 (.pointer (some ⟨b, 0, none⟩)) rfl (by kernel_rfl) (by kernel_rfl) (by kernel_rfl) rfl (gives_pure fun _ => by kernel_rfl) ?_
  refine one_take 5 (.pointer (some ⟨b, 0, none⟩)) rfl (by kernel_rfl) (by kernel_rfl) (by kernel_rfl) rfl (gives_pure fun _ => by kernel_rfl) ?_
  refine one_take 6 (.pointer (some ⟨b, 6, none⟩)) rfl (by kernel_rfl) (by kernel_rfl) (by kernel_rfl) rfl (gives_pure fun _ => by kernel_rfl) ?_
  refine one_take 7 (.int .i64 v.session) rfl (by kernel_rfl) (by kernel_rfl) (by kernel_rfl) rfl (gives_read fun w hw => run_load_int _ _ _ _ _ _ rfl (by kernel_rfl) w ((HS.out w hw).vault.c6)) ?_
  refine one_take 8 (.pointer (some ⟨b, 0, none⟩)) rfl (by kernel_rfl) (by kernel_rfl) (by kernel_rfl) rfl (gives_pure fun _ => by kernel_rfl) ?_
  refine one_take 9 (.pointer (some ⟨b, 0, none⟩)) rfl (by kernel_rfl) (by kernel_rfl) (by kernel_rfl) rfl (gives_pure fun _ => by kernel_rfl) ?_
  refine one_take 10 (.pointer (some ⟨b, 7, none⟩)) rfl (by kernel_rfl) (by kernel_rfl) (by kernel_rfl) rfl (gives_pure fun _ => by kernel_rfl) ?_
  refine one_take 11 (.int .i64 (v.done + 1 : Nat)) rfl (by kernel_rfl) (by kernel_rfl) (by kernel_rfl) rfl (gives_read fun w hw => run_load_int _ _ _ _ _ _ rfl (by kernel_rfl) w ((HS.out w hw).vault.c7)) ?_
  refine one_take 12 (.int .i64 p) rfl (by kernel_rfl) (by kernel_rfl) (by kernel_rfl) rfl (gives_pure fun _ => by kernel_rfl) ?_
  refine one_take 13 (strV LF) rfl (by kernel_rfl) (by kernel_rfl) (by kernel_rfl) rfl (gives_pure fun _ => by kernel_rfl) ?_
  refine one_take 14 (strV T) rfl (by kernel_rfl) (by kernel_rfl) (by kernel_rfl) rfl (gives_call (134) (#[.agg #[v.tv, .pointer (some ⟨bp, 0, none⟩)], .int .i64 v.session, .int .i64 (v.done + 1 : Nat), .int .i64 p, .string ⟨LF.toArray⟩]) (fun _ => by kernel_rfl) fun w hw => (HPT.out w hw).mono fun e w2 h => ⟨h.1, hw.trans (h.2.mono hw.size)⟩) ?_
  refine one_take 15 (strV T) rfl (by kernel_rfl) (by kernel_rfl) (by kernel_rfl) rfl (gives_pure fun _ => by kernel_rfl) ?_
  refine OneWalk.done (by kernel_rfl) fun w4 hw4 => ?_
  simp only [Act.put, List.setIfInBounds_toArray, List.set_cons_succ, List.set_cons_zero]
  have s4 := HS.out w4 hw4
  have c04 := s4.vault.c0
  have HWD := hide (write_disk x m wv p T w4 s4.disk HP.out.1 HP.out.2.2.2.1)
  have H4 := hide (And.intro s4 (And.intro (H3.out.1.kp (S := []) (Kp.of_below hw4) (by simp) (by simp)) (H3.out.2.trans (Kp.of_below hw4))))
  clear s4 H3 HS HPT hw4
  go_wp2_with fail
  refine HWD.out.mono ?_
  rintro e w5 ⟨rfl, hp5, wv5, hd5, hl5⟩
  have s5 := H4.out.1.ofDisk hp5 hd5 hl5
  have l5 := H4.out.2.1.kp hp5 (fun e => HHN.out.1.1 (set_sub e)) (fun e => HHN.out.2.1 (set_sub e))
  have k5 : Kp (Sys.set x b wv) w w5 := H4.out.2.2.trans (hp5.mono (fun j => set_sub))
  have hz4 := H4.out.2.2.size
  have lt5 : Later wv wv5 w.heap.size := fun j hj => (hl5 j hj).imp id (fun g => Nat.le_trans hz4 g)
  have HU := hide (use_any x b _ _ wv5 p true w5 s5 (by have := HP.out; omega))
  have H5 := hide (And.intro l5 (And.intro k5 lt5))
  clear s5 l5 k5 lt5 hd5 hl5 hp5 HWD c04 H4
  go_wp2_with fail
  refine HU.out.mono ?_
  rintro e w6 ⟨rfl, s6, k6⟩
  have l6 := H5.out.1.kp k6 (by simpa using Ne.symm hbn) (by simpa using Ne.symm hbe')
  have k06 : Kp (Sys.set x b wv) w w6 := H5.out.2.1.trans (k6.mono (fun j hj => by simp at hj; simp [Sys.set, hj]))
  have HOF := hide (of_any ⟨T.toArray⟩ w6 s6.hk s6.h0 (by show T.length ≤ _; rw [HTL.out]; decide))
  have hsh : shaL (ByteArray.mk T.toArray).data.toList = shaL T := by simp
  rw [hsh] at HOF
  have H6 := hide (And.intro s6 (And.intro l6 k06))
  clear s6 l6 k06 k6 HU hsh
  go_wp2_with fail
  refine HOF.out.mono ?_
  rintro e w7 ⟨rfl, hb7⟩
  have l7 := H6.out.2.1.kp (S := []) (Kp.of_below hb7) (by simp) (by simp)
  have c1 := l7.node.c1
  have c2 := l7.node.c2
  have f1 := l7.node.fr 1
  have f2 := l7.node.fr 2
  have kn : Kp [n] w7 ((w7.setCell ⟨n, 1, none⟩ (.int .i64 p)).setCell ⟨n, 2, none⟩ (strV (shaL T))) := ((Kp.refl [n] w7).setCell n 1 _ (.inl (by simp))).setCell n 2 _ (.inl (by simp))
  have ln := (l7.node.set1 p).set2 (shaL T)
  have lo := owns_kp l7.own kn (fun j hj => by
    have e : be = j := by simpa [Value.ownBlock] using hj
    have := l7.ne
    simp; omega)
  have hfn : Foreign x b wv5 n := HHN.out.1.later H5.out.2.2 hnl
  have lf : LeafAt _ n p (shaL T) k s be cap := ⟨ln, lo, l7.ne⟩
  have s8 := (H6.out.1.later hb7).kp kn (fun j hj => by simp at hj; subst hj; exact hfn)
  have k8 : Kp (n :: Sys.set x b wv) w ((w7.setCell ⟨n, 1, none⟩ (.int .i64 p)).setCell ⟨n, 2, none⟩ (strV (shaL T))) := ((H6.out.2.2.trans (Kp.of_below hb7)).mono (fun j hj => List.mem_cons_of_mem _ hj)).trans (kn.mono (fun j hj => by simp at hj; simp [hj]))
  have HF := hide (And.intro s8 (And.intro lf (And.intro k8 H5.out.2.2)))
  clear l7 kn ln lo lf s8 k8 hfn hb7 HOF H6 H5
  go_wp2_with fail
  go_ret
  exact ⟨rfl, wv5, HF.out.1, HF.out.2.1, HF.out.2.2.1, HF.out.2.2.2⟩
end Go.Proofs.YtjnhlkaafnaooabGreatDoor

namespace Go.Proofs.YtjnhlkaafnaooabGreatDoor
open Go.RowKit
set_option maxRecDepth 100000 in
set_option maxHeartbeats 1000000 in
theorem writeNew_gen (b n p : Nat) (d k s : List UInt8) (be cap : Nat) (w : World) (Q : World → Prop) (hl : LeafAt w n p d k s be cap)
    (hw : Calls Tryz.prog 105 #[.pointer (some ⟨b, 0, none⟩), .pointer (some ⟨n, 0, none⟩)] w fun e w' => e = .returned (.int .i64 0) ∧ Q w') :
    Calls Tryz.prog 64 #[.pointer (some ⟨b, 0, none⟩), .pointer (some ⟨n, 0, none⟩)] w fun e w' => e = .returned (.int .i64 0) ∧ Q w' := by
  have c3 := hl.node.c3
  have e4 : w.cell? ⟨be, 4, none⟩ = some (.pointer none) := hl.e 4 (by decide)
  have HW := hide hw
  clear hl hw
  go_enter Tryz.func64, Tryz.ntmps64
  go_wp2_with fail
  go_loopw [5, 6, 7] (fun i _ _ wr => wr = w ∧ (i = .int .i64 0 ∨ i = .int .i64 1)) (fun i _ _ _ => (2 - intOf i).toNat)
  case atStart => exact ⟨rfl, .inl rfl⟩
  case round =>
    obtain ⟨rfl, rfl | rfl⟩ := hrel
    · go_wp2_with fail
      exact ⟨⟨by first | rfl | trivial, .inr rfl⟩, by decide⟩
    · go_wp2_with fail
      refine HW.out.mono ?_
      rintro e w1 ⟨rfl, hq⟩
      go_wp2_with fail
      go_ret
      exact ⟨rfl, hq⟩
def freed (rl : List Nat) (u : List Bool) : List Bool := rl.foldl (fun u q => u.set q false) u
theorem freed_snoc (rl : List Nat) (q : Nat) (u : List Bool) : freed (rl ++ [q]) u = (freed rl u).set q false := by simp [freed]
/-- A vault with its keys. -/
structure Kit (w : World) (x : DX) (b : Nat) (m : DM) (v : VM) (wv : Value) (bt bp : Nat) (tk rk : List UInt8) : Prop where
  sys : Sys w x b m v wv
  tv : v.tv = .pointer (some ⟨bt, 0, none⟩)
  pv : v.pv = .pointer (some ⟨bp, 0, none⟩)
  mac : MacFor w bt tk
  key : KeyAt w bp rk
  abt : Apart w x b wv bt
  abp : Apart w x b wv bp
  sl : v.salt.length = 16
theorem Kit.below {w w' : World} {x : DX} {b : Nat} {m : DM} {v : VM} {wv : Value} {bt bp : Nat} {tk rk : List UInt8} (h : Kit w x b m v wv bt bp tk rk) (hb : Below w.heap.size w w') : Kit w' x b m v wv bt bp tk rk :=
  ⟨h.sys.later hb, h.tv, h.pv, h.mac.of_block (hb.block bt h.mac.lt), h.key.below hb h.key.lt, h.abt.step (Later.refl _ _) hb.size, h.abp.step (Later.refl _ _) hb.size, h.sl⟩
theorem Kit.step {w w' : World} {x : DX} {b : Nat} {m m' : DM} {v v' : VM} {wv wv' : Value} {bt bp : Nat} {tk rk : List UInt8} {S : List Nat} (h : Kit w x b m v wv bt bp tk rk) (hs : Sys w' x b m' v' wv') (hp : Kp S w w') (hl : Later wv wv' w.heap.size) (h1 : bt ∉ S) (h2 : bp ∉ S) (e1 : v'.tv = v.tv) (e2 : v'.pv = v.pv) (e3 : v'.salt = v.salt) : Kit w' x b m' v' wv' bt bp tk rk :=
  ⟨hs, e1.trans h.tv, e2.trans h.pv, h.mac.of_block (hp.block bt h.mac.lt h1), h.key.of_block (hp.block bp h.key.lt h2) hp.size, h.abt.step hl hp.size, h.abp.step hl hp.size, by rw [e3]; exact h.sl⟩
def newTree (rk : List UInt8) (v : VM) (p : Nat) (k y : List UInt8) : List UInt8 := pageL rk v.session (v.done + 1) p (leafOne k y)
def saveM (tk rk : List UInt8) (m : DM) (v : VM) (p : Nat) (k y : List UInt8) : DM := ((m.write p (newTree rk v p k y)).flush).advance (v.version + 1) (slotL tk v.salt (v.version + 1) p (shaL (newTree rk v p k y)))
def saveV (rk : List UInt8) (v : VM) (p : Nat) (k y : List UInt8) (rl : List Nat) : VM := { v with done := v.done + 1, place := p, digest := shaL (newTree rk v p k y), version := v.version + 1, used := freed rl (v.used.set p true) }
set_option maxRecDepth 100000 in
set_option maxHeartbeats 4000000 in
theorem save_ok (x : DX) (b bt bp bw lk : Nat) (m : DM) (v : VM) (wv rv : Value) (tk rk k y : List UInt8) (n be cap p : Nat) (rest rl : List Nat) (w : World) (h : Kit w x b m v wv bt bp tk rk) (hw : WorkAt w bw b lk (.pointer (some ⟨n, 0, none⟩)) rv true) (hl : LeafAt w n 0 [] k y be cap)
    (hr : w.ownsRow 0 3 1 rv rl.length (vals .i64 rl)) (hfw : Foreign x b wv bw) (hfn : Foreign x b wv n) (hfe : Foreign x b wv be) (hfr : ∀ j, rv.ownBlock = some j → Foreign x b wv j ∧ j ≠ n) (hwn : bw ≠ n) (hbt : bt ≠ n)
    (hroom : roomL m v 1 = 0) (hf : freeTo v.used m.blocks.length = p :: rest) (hp : p < m.blocks.length) (hd : v.done < 1000) (hse : v.session < 9223372036854775808) (hve : v.version < 1048576) (hct : m.count < m.ceiling) (hwr : m.wrote.length < 99000) (h8 : k.length ≤ 8) (h16 : y.length ≤ 16) (hrl : ∀ q ∈ rl, q < 48) (hrn : rl.length ≤ 48) :
    Calls Tryz.prog 35 #[.pointer (some ⟨b, 0, none⟩), .pointer (some ⟨bw, 0, none⟩)] w fun e w' => e = .returned (.int .i64 0) ∧ ∃ wv', Sys w' x b (saveM tk rk m v p k y) (saveV rk v p k y rl) wv' ∧ Kp (n :: Sys.set x b wv) w w' ∧ Later wv wv' w.heap.size := by
  have c2 := hw.c2
  have hnl := hl.node.lt
  have hwl := hw.lt
  have hle := h.sys.disk.le
  have HNN := hide (newNodes_leaf n [] k y be cap w hl)
  have hrm := room_any x b m v wv 1 w h.sys (by decide) (by omega)
  rw [hroom] at hrm
  have HRM := hide hrm
  have HK := hide h
  have hbtl := h.mac.lt
  have HFN := hide (fun (j : Nat) (hj : w.heap.size ≤ j) => Foreign.new h.sys hj)
  have hrvl : ∀ j, rv.ownBlock = some j → j < w.heap.size := fun j hj => owns_lt hr j hj
  have HRV := hide hrvl
  have H0 := hide (And.intro hw (And.intro hl hr))
  have HF := hide (And.intro hfw (And.intro hfn (And.intro hfe hfr)))
  have HP := hide (And.intro hp (And.intro hd (And.intro hse (And.intro hve (And.intro hct (And.intro hwr (And.intro h8 (And.intro h16 hle))))))))
  have HFR := hide hf
  have HRL := hide (And.intro hrl hrn)
  clear h hw hl hr hfw hfn hfe hfr hroom hf hp hd hse hve hct hwr h8 h16 hle hrm hrl hrn hrvl
  go_enter Tryz.func35, Tryz.ntmps35
  go_wp2_with fail
  refine HNN.out.mono ?_
  rintro e w0 ⟨rfl, rfl⟩
  clear HNN
  go_wp2_with fail
  refine HRM.out.mono ?_
  rintro e w1 ⟨rfl, hb1⟩
  have hw1 := H0.out.1.of_block (hb1.block bw hwl)
  have c21 := hw1.c2
  obtain ⟨w2, hw2⟩ : ∃ w2, w1.alloc (.cells #[.int .i64 0, .string ⟨#[]⟩] 67) = w2 := ⟨_, rfl⟩
  have hb2 : Below w0.heap.size w0 w2 := hb1.trans ((hw2 ▸ (Below.refl _ _).alloc (Nat.le_refl _) _ : Below w1.heap.size w1 w2).mono hb1.size)
  have q2 : w2.heap[w1.heap.size]? = some (.cells #[.int .i64 0, .string ⟨#[]⟩] 67 (0, 0)) := hw2 ▸ heap_alloc_new w1 _
  have hz2 : w2.heap.size = w1.heap.size + 1 := by rw [← hw2]; simp
  have hz1 := hb1.size
  have kit2 := HK.out.below hb2
  have wk2 := H0.out.1.of_block (hb2.block bw hwl)
  have c22 : (w1.alloc (.cells #[.int .i64 0, .string ⟨#[]⟩] 67)).cell? ⟨bw, 2, none⟩ = some (.pointer (some ⟨n, 0, none⟩)) := by rw [hw2]; exact wk2.c2
  have lf2 := H0.out.2.1.kp (S := []) (Kp.of_below hb2) (by simp) (by simp)
  have rw2 := owns_kp (S := []) H0.out.2.2 (Kp.of_below hb2) (by simp)
  have HWN := hide (writeNew_gen b n 0 [] k y be cap w2 _ lf2 (writePage_leaf x b bp m v wv rk k y n be cap p rest w2 kit2.sys kit2.pv kit2.key kit2.abp lf2 HF.out.2.1 HF.out.2.2.1 HFR.out HP.out.1 HP.out.2.1 HP.out.2.2.1 (by have := HP.out; omega) HP.out.2.2.2.2.2.2.1 HP.out.2.2.2.2.2.2.2.1))
  have H2 := hide (And.intro kit2 (And.intro wk2 (And.intro rw2 q2)))
  have HB2 := hide hb2
  have HW2 := hide hw2
  clear hw1 kit2 wk2 lf2 rw2 q2 hb2 hb1 HRM HK H0 c2 hw2
  go_wp2_with fail
  rw [HW2.out]
  refine HWN.out.mono ?_
  rintro e w3 ⟨rfl, wv3, s3, l3, k3, lt3⟩
  obtain ⟨kit2, wk2, rw2, q2⟩ := H2.out
  obtain ⟨r7, hr7⟩ : ∃ r, w1.heap.size = r := ⟨_, rfl⟩
  rw [hr7] at q2 hz2 ⊢
  have hr7l : w0.heap.size ≤ r7 := by omega
  have fr7 : Foreign x b wv r7 := HFN.out r7 hr7l
  have nin : ∀ j, Foreign x b wv j → j ≠ n → j ∉ n :: Sys.set x b wv := fun j h1 h2 => by simp only [List.mem_cons, not_or]; exact ⟨h2, h1.1⟩
  have hw2z : w0.heap.size ≤ w2.heap.size := by omega
  have wk3 := wk2.of_block (k3.block bw wk2.lt (nin bw HF.out.1 hwn))
  have q3 := (k3.block r7 (by omega) (nin r7 fr7 (by omega))).trans q2
  have rw3 := owns_kp rw2 k3 (fun j hj => nin j (HF.out.2.2.2 j hj).1 (HF.out.2.2.2 j hj).2)
  have fr73 : Foreign x b wv3 r7 := fr7.later lt3 (by omega)
  have c23 := wk3.c2
  have n1 := l3.node.c1
  have n2 := l3.node.c2
  have g0 : w3.cell? ⟨r7, 0, none⟩ = some (.int .i64 0) := by rw [cell_of_row _ _ _ _ _ _ q3]; rfl
  have g1 : w3.cell? ⟨r7, 1, none⟩ = some (.string ⟨#[]⟩) := by rw [cell_of_row _ _ _ _ _ _ q3]; rfl
  have gf0 : w3.frozen? ⟨r7, 0, none⟩ = false := by simp [World.frozen?, q3]
  have gf1 : w3.frozen? ⟨r7, 1, none⟩ = false := by simp [World.frozen?, q3]
  obtain ⟨DG, hDG⟩ : ∃ D, shaL (pageL rk v.session (v.done + 1) p (leafOne k y)) = D := ⟨_, rfl⟩
  rw [hDG] at n2
  have kr : Kp [r7] w3 ((w3.setCell ⟨r7, 0, none⟩ (.int .i64 p)).setCell ⟨r7, 1, none⟩ (strV DG)) := ((Kp.refl [r7] w3).setCell r7 0 _ (.inl (by simp))).setCell r7 1 _ (.inl (by simp))
  have q4 : ((w3.setCell ⟨r7, 0, none⟩ (.int .i64 p)).setCell ⟨r7, 1, none⟩ (strV DG)).heap[r7]? = some (.cells #[.int .i64 p, strV DG] 67 (0, 0)) := by
    rw [set_prim (set_prim q3 0 _) 1 _]; simp
  obtain ⟨w4, hw4⟩ : ∃ w4, (w3.setCell ⟨r7, 0, none⟩ (.int .i64 p)).setCell ⟨r7, 1, none⟩ (strV DG) = w4 := ⟨_, rfl⟩
  rw [hw4] at kr q4
  have s4 := s3.kp kr (fun j hj => by simp at hj; subst hj; exact fr73)
  have hwr7 : bw ≠ r7 := by omega
  have wk4 := wk3.of_block (kr.block bw wk3.lt (by simpa using hwr7))
  have rw4 := owns_kp rw3 kr (fun j hj => by have := HRV.out j hj; simp; omega)
  have c04 := s4.vault.c0
  have HFL := hide (flush_any x _ wv3 w4 s4.disk)
  have k04 : Kp (n :: Sys.set x b wv) w0 w4 := ((Kp.of_below HB2.out).trans k3).step kr (fun j hj => by simp at hj; subst hj; exact .inr hr7l)
  have lt04 : Later wv wv3 w0.heap.size := fun j hj => (lt3 j hj).imp id (fun g => Nat.le_trans hw2z g)
  have H4 := hide (And.intro s4 (And.intro wk4 (And.intro rw4 (And.intro q4 (And.intro k04 lt04)))))
  have mac4 := (kit2.mac.of_block (k3.block bt kit2.mac.lt (by simp only [List.mem_cons, not_or]; exact ⟨hbt, kit2.abt.2⟩))).of_block (kr.block bt (by have := k3.size; have := kit2.mac.lt; omega) (by simp; omega))
  have fw3 := HF.out.1.later lt04 hwl
  have frv3 : ∀ j, rv.ownBlock = some j → Foreign x b wv3 j := fun j hj => (HF.out.2.2.2 j hj).1.later lt04 (HRV.out j hj)
  have fbt3 : bt ∉ Sys.set x b wv3 := fun e => (lt04.sub e).elim kit2.abt.2 (fun g => by omega)
  have HKM := hide (And.intro mac4 (And.intro kit2.tv (And.intro kit2.sl (And.intro fw3 (And.intro frv3 (And.intro fbt3 fr73))))))
  clear s3 l3 k3 lt3 wk2 rw2 q2 q3 wk3 rw3 kr q4 s4 wk4 rw4 k04 lt04 kit2 nin fr73 mac4 fw3 frv3 fbt3 H2 HWN HW2 c21 c22
  go_wp2_with fail
  refine HFL.out.mono ?_
  rintro e w5 ⟨rfl, hp5, hd5⟩
  obtain ⟨s4, wk4, rw4, q4, k04, lt04⟩ := H4.out
  obtain ⟨mac4, ktv, ksl, fw3, frv3, fbt3, fr73⟩ := HKM.out
  have hp5' : Kp (x.set wv3) w4 w5 := hp5.mono (fun j hj => by simp at hj; simp [DX.set]; rcases hj with e | e <;> simp [e])
  have s5 := s4.ofDisk hp5' hd5 (Later.refl _ _)
  have nin5 : ∀ j, j ∉ Sys.set x b wv3 → j ∉ x.set wv3 := fun j h1 h2 => h1 (set_sub h2)
  have wk5 := wk4.of_block (hp5'.block bw wk4.lt (nin5 bw fw3.1))
  have rw5 := owns_kp rw4 hp5' (fun j hj => nin5 j (frv3 j hj).1)
  have q5 := (hp5'.block r7 (lt_of_block q4) (nin5 r7 fr73.1)).trans q4
  have mac5 := mac4.of_block (hp5'.block bt mac4.lt (nin5 bt fbt3))
  have g0 : w5.cell? ⟨r7, 0, none⟩ = some (.int .i64 p) := by rw [cell_of_row _ _ _ _ _ _ q5]; rfl
  have g1 : w5.cell? ⟨r7, 1, none⟩ = some (strV DG) := by rw [cell_of_row _ _ _ _ _ _ q5]; rfl
  have c8 := s5.vault.c8
  have c9 := s5.vault.c9
  have f8 := s5.vault.fr 8
  have f9 := s5.vault.fr 9
  have kv : Kp [b] w5 ((w5.setCell ⟨b, 8, none⟩ (.int .i64 p)).setCell ⟨b, 9, none⟩ (strV DG)) := ((Kp.refl [b] w5).setCell b 8 _ (.inl (by simp))).setCell b 9 _ (.inl (by simp))
  have s6 := s5.ofVault kv ((s5.vault.set8 p).set9 DG)
  obtain ⟨w6, hw6⟩ : ∃ w6, (w5.setCell ⟨b, 8, none⟩ (.int .i64 p)).setCell ⟨b, 9, none⟩ (strV DG) = w6 := ⟨_, rfl⟩
  rw [hw6] at kv s6
  have bin : b ∈ Sys.set x b wv3 := by simp [Sys.set]
  have wk6 := wk5.of_block (kv.block bw wk5.lt (by simp; rintro rfl; exact fw3.1 bin))
  have rw6 := owns_kp rw5 kv (fun j hj => by simp; rintro rfl; exact (frv3 _ hj).1 bin)
  have mac6 := mac5.of_block (kv.block bt mac5.lt (by simp; rintro rfl; exact fbt3 bin))
  have k06 : Kp (n :: Sys.set x b wv) w0 w6 := ((k04.step hp5' (fun j hj => (lt04.sub (b := b) (set_sub hj)).imp (List.mem_cons_of_mem _) id))).trans (kv.mono (fun j hj => by simp at hj; simp [Sys.set, hj]))
  have c56 := s6.vault.c5
  have HAD := hide (advance_any x b bt tk _ _ wv3 (v.version + 1) w6 s6 (by show m.count < m.ceiling; exact HP.out.2.2.2.2.1) ktv mac6 ksl (by have := HP.out; omega) (by show p < _; have := HP.out; omega) (by show (m.wrote ++ _).length < _; simp; have := HP.out; omega))
  have H6 := hide (And.intro wk6 (And.intro rw6 (And.intro k06 lt04)))
  have HVI := hide (show ((v.version : Int) < 1048576) from by have := HP.out; omega)
  clear s4 wk4 rw4 q4 k04 lt04 mac4 s5 wk5 rw5 q5 mac5 kv s6 wk6 rw6 mac6 k06 hp5 hp5' hd5 H4 HFL nin5 bin
  have hvi := HVI.out
  go_wp2_with fail
  have ev : (v.version : Int) + 1 = ((v.version + 1 : Nat) : Int) := by omega
  rw [ev]
  refine HAD.out.mono ?_
  rintro e w7 ⟨rfl, wv7, s7, k7, lt7⟩
  obtain ⟨wk6, rw6, k06, lt04⟩ := H6.out
  have lt07 : Later wv wv7 w0.heap.size := lt04.trans lt7 k06.size
  have k07 : Kp (n :: Sys.set x b wv) w0 w7 := k06.step k7 (fun j hj => (lt04.sub hj).imp (List.mem_cons_of_mem _) id)
  have wk7 := wk6.of_block (k7.block bw wk6.lt fw3.1)
  have rw7 := owns_kp rw6 k7 (fun j hj => (frv3 j hj).1)
  have hz06 := k06.size
  have fw7 : Foreign x b wv7 bw := HF.out.1.later lt07 hwl
  have frv7 : ∀ j, rv.ownBlock = some j → Foreign x b wv7 j := fun j hj => (HF.out.2.2.2 j hj).1.later lt07 (HRV.out j hj)
  obtain ⟨ao, cp, hrv⟩ : ∃ ao cp, rv = .slice ao rl.length cp := by
    rcases rw7.2 with ⟨hv, hn⟩ | ⟨g, cp, cur, hv, _⟩
    · exact ⟨none, 0, by rw [hv, hn]⟩
    · exact ⟨_, cp, hv⟩
  have eM : saveM tk rk m v p k y = ((m.write p (pageL rk v.session (v.done + 1) p (leafOne k y))).flush).advance (v.version + 1) (slotL tk v.salt (v.version + 1) p DG) := by unfold saveM newTree; rw [hDG]
  have eV : saveV rk v p k y rl = { v with done := v.done + 1, place := p, digest := DG, version := v.version + 1, used := freed rl (v.used.set p true) } := by unfold saveV newTree; rw [hDG]
  obtain ⟨M, hM⟩ : ∃ M, ((m.write p (pageL rk v.session (v.done + 1) p (leafOne k y))).flush).advance (v.version + 1) (slotL tk v.salt (v.version + 1) p DG) = M := ⟨_, rfl⟩
  have s7' : Sys w7 x b M { v with done := v.done + 1, place := p, digest := DG, version := v.version + 1, used := freed [] (v.used.set p true) } wv7 := hM ▸ s7
  rw [hM] at eM
  have HEE := hide (And.intro eM eV)
  obtain ⟨L, hL⟩ : ∃ L, rl.length = L := ⟨_, rfl⟩
  have HL := hide hL
  rw [hL] at hrv rw7
  have hL48 : (L : Int) ≤ 48 := by have := HRL.out.2; omega
  have H7 := hide (And.intro s7' (And.intro wk7 (And.intro rw7 (And.intro k07 lt07))))
  have HFV := hide (And.intro fw7 frv7)
  subst hrv
  clear s7 s7' k7 lt7 wk6 rw6 k06 lt04 lt07 k07 wk7 rw7 fw7 frv7 H6 HAD c56 g0 g1 c8 c9 f8 f9 ktv ksl fw3 frv3 fbt3 fr73 hM hDG eM eV hw6 ev hL hvi HVI hw4
  go_wp2_with fail
  go_loopw [9] (fun i wr => ∃ j : Nat, j ≤ L ∧ i = .int .i64 (j : Int) ∧ Sys wr x b M { v with done := v.done + 1, place := p, digest := DG, version := v.version + 1, used := freed (rl.take j) (v.used.set p true) } wv7 ∧ Kp [b] w7 wr) (fun i _ => L - (intOf i).toNat)
  case atStart => exact ⟨0, by omega, rfl, by simpa using H7.out.1, Kp.refl _ _⟩
  case round =>
    obtain ⟨j, hj, rfl, sr, kr⟩ := hrel
    have hbw : b ≠ bw := fun e => HFV.out.1.1 (by simp [Sys.set, e])
    have wkr := H7.out.2.1.of_block (kr.block bw H7.out.2.1.lt (by simpa using Ne.symm hbw))
    have c3 := wkr.c3
    by_cases hlt : j < L
    · have hji : (j : Int) < (L : Int) := by omega
      obtain ⟨g, hao⟩ : ∃ g, ao = some ⟨g, 0, none⟩ := by
        rcases H7.out.2.2.1.2 with ⟨_, hn⟩ | ⟨g, cp', cur, hv, _⟩
        · omega
        · cases hv; exact ⟨g, rfl⟩
      subst hao
      have hgb : g ≠ b := fun e => (HFV.out.2 g rfl).1 (by simp [Sys.set, e])
      have hjr : j < rl.length := by rw [HL.out]; exact hlt
      have rwr := owns_kp H7.out.2.2.1 kr (fun q hq => by
        have e : g = q := by simpa [Value.ownBlock] using hq
        simp; omega)
      rw [← HL.out] at rwr
      have cg := (Cells.of_own rwr).at_ j hjr
      have hq : rl.getD j 0 = rl[j] := by simp [hjr]
      rw [hq] at cg
      have HU := hide (use_any x b M _ wv7 rl[j] false wr sr (HRL.out.1 _ (List.getElem_mem hjr)))
      have hfs : freed (rl.take (j + 1)) (v.used.set p true) = (freed (rl.take j) (v.used.set p true)).set rl[j] false := by rw [List.take_succ_eq_append_getElem hjr, freed_snoc]
      have HFS := hide hfs
      have HK := hide kr
      have HLT := hide hlt
      generalize hrj : rl[j] = q at *
      clear sr kr wkr rwr hq hfs hlt hj
      go_wp2_with fail
      refine HU.out.mono ?_
      rintro e w8 ⟨rfl, s8, k8⟩
      have s8' : Sys w8 x b M { v with done := v.done + 1, place := p, digest := DG, version := v.version + 1, used := freed (rl.take (j + 1)) (v.used.set p true) } wv7 := by rw [HFS.out]; exact s8
      have H8 := hide (And.intro s8' (HK.out.trans k8))
      clear s8 s8' k8 HU
      go_wp2_with fail
      go_roundw
      case rel => exact ⟨j + 1, by have := HLT.out; omega, by go_num, H8.out.1, H8.out.2⟩
      case measure => have := HLT.out; simp [intOf]; omega
    · have hjl : j = L := by omega
      subst hjl
      have HFI := hide (And.intro sr kr)
      clear sr kr wkr hlt
      go_wp2_with fail
      go_ret
      refine ⟨rfl, wv7, ?_, H7.out.2.2.2.1.trans (HFI.out.2.mono (fun q hq => by simp at hq; simp [Sys.set, hq])), H7.out.2.2.2.2⟩
      have e := HFI.out.1
      rw [List.take_of_length_le (by rw [HL.out]; exact Nat.le_refl _)] at e
      rw [HEE.out.1, HEE.out.2]
      exact e
end Go.Proofs.YtjnhlkaafnaooabGreatDoor
