import Derived.Test.YtjnhlkaafnaooabGreatDoorRmL
namespace Go.Proofs.YtjnhlkaafnaooabGreatDoor
open Go.RowKit
set_option maxRecDepth 100000 in
set_option maxHeartbeats 1000000 in
theorem save_no (x : DX) (b bw lk : Nat) (m : DM) (v : VM) (wv rv : Value) (k y : List UInt8) (n be cap c : Nat) (w : World) (h : Sys w x b m v wv) (hw : WorkAt w bw b lk (.pointer (some ⟨n, 0, none⟩)) rv true) (hl : LeafAt w n 0 [] k y be cap)
    (hroom : roomL m v 1 = c) (hc : 0 < c) (hd : v.done < 1000) :
    Calls Tryz.prog 35 #[.pointer (some ⟨b, 0, none⟩), .pointer (some ⟨bw, 0, none⟩)] w fun e w' => e = .returned (.int .i64 c) ∧ Below w.heap.size w w' := by
  have c2 := hw.c2
  have HNN := hide (newNodes_leaf n [] k y be cap w hl)
  have hrm := room_any x b m v wv 1 w h (by decide) (by omega)
  rw [hroom] at hrm
  have HRM := hide hrm
  have hci : ((c : Int) == 0) = false := by rw [beq_eq_false_iff_ne]; omega
  have hcn : ¬ (c = 0) := by omega
  clear h hw hl hroom hrm hd
  go_enter Tryz.func35, Tryz.ntmps35
  go_wp2_with fail
  refine HNN.out.mono ?_
  rintro e w0 ⟨rfl, rfl⟩
  clear HNN
  go_wp2_with fail
  refine HRM.out.mono ?_
  rintro e w1 ⟨rfl, hb1⟩
  go_wp2_with fail
  go_ret
  exact ⟨rfl, hb1⟩
/-- What a Commit begins with. -/
def freshWork (b : Nat) : Obj := .cells #[.pointer (some ⟨b, 0, none⟩), .int .i64 0, .pointer none, .slice none 0 0, .bool false] 85
theorem fresh_at (w : World) (b : Nat) : WorkAt (w.alloc (freshWork b)) w.heap.size b 0 (.pointer none) (.slice none 0 0) false := ⟨heap_alloc_new w _⟩
set_option maxRecDepth 100000 in
set_option maxHeartbeats 2000000 in
theorem commit_ok (x : DX) (b bt bp : Nat) (m : DM) (v : VM) (wv : Value) (tk rk k y : List UInt8) (p : Nat) (rest rl : List Nat) (w : World) (h : Kit w x b m v wv bt bp tk rk) (ho : v.opened = true)
    (hap : Calls Tryz.prog 34 #[.pointer (some ⟨w.heap.size, 0, none⟩), v.cv] (w.alloc (freshWork b)) fun e w' => e = .returned (.int .i64 0) ∧ Made (w.alloc (freshWork b)) w' w.heap.size b k y rl)
    (hroom : roomL m v 1 = 0) (hf : freeTo v.used m.blocks.length = p :: rest) (hp : p < m.blocks.length) (hd : v.done < 1000) (hse : v.session < 9223372036854775808) (hve : v.version < 1048576) (hct : m.count < m.ceiling) (hwr : m.wrote.length < 99000) (h8 : k.length ≤ 8) (h16 : y.length ≤ 16) (hrl : ∀ q ∈ rl, q < 48) (hrn : rl.length ≤ 48) :
    Calls Tryz.prog 13 #[.pointer (some ⟨b, 0, none⟩)] w fun e w' => e = .returned (.int .i64 0) ∧ ∃ wv', Kit w' x b (saveM tk rk m v p k y) { saveV rk v p k y rl with cv := .slice none 0 0 } wv' bt bp tk rk ∧ Kp (Sys.set x b wv) w w' ∧ Later wv wv' w.heap.size := by
  have c1 := h.sys.vault.c1
  rw [ho] at c1
  have hb0 : Below w.heap.size w (w.alloc (freshWork b)) := (Below.refl _ _).alloc (Nat.le_refl _) _
  have hz0 : (w.alloc (freshWork b)).heap.size = w.heap.size + 1 := by simp
  have kit0 := h.below hb0
  have c58 := kit0.sys.vault.c58
  have hbtl := h.mac.lt
  have hbpl := h.key.lt
  have HAP := hide hap
  have HK := hide (And.intro h (And.intro hb0 kit0))
  have HFN := hide (fun (j : Nat) (hj : w.heap.size ≤ j) => Foreign.new h.sys hj)
  have HP := hide (And.intro hroom (And.intro hf (And.intro hp (And.intro hd (And.intro hse (And.intro hve (And.intro hct (And.intro hwr (And.intro h8 (And.intro h16 (And.intro hrl hrn)))))))))))
  clear h hap kit0 hb0 hroom hf hp hd hse hve hct hwr h8 h16 hrl hrn
  unfold freshWork at c58 HAP
  go_enter Tryz.func13, Tryz.ntmps13
  go_wp2_with fail
  refine HAP.out.mono ?_
  rintro e w1 ⟨rfl, n, be, cap, rv, lk, wk1, l1, r1, hn1, he1, hr1, k1⟩
  obtain ⟨kit, hb0, kit0⟩ := HK.out
  have hz1 := k1.size
  rw [show (w.alloc (.cells #[.pointer (some ⟨b, 0, none⟩), .int .i64 0, .pointer none, .slice none 0 0, .bool false] 85)).heap.size = w.heap.size + 1 from hz0] at hn1 he1 hr1 hz1
  have c4 := wk1.c4
  have fw : Foreign x b wv w.heap.size := HFN.out _ (Nat.le_refl _)
  have s1 := kit0.sys.kp k1 (fun j hj => by simp at hj; subst hj; exact fw)
  have kit1 : Kit w1 x b m v wv bt bp tk rk := kit0.step s1 k1 (Later.refl _ _) (by simp; omega) (by simp; omega) rfl rfl rfl
  have r1' : w1.ownsRow 0 3 1 rv rl.length (vals .i64 rl) := r1
  have hrn' : ∀ j, rv.ownBlock = some j → j ≠ n := fun j hj e => by
    subst e
    rcases r1.2 with ⟨hv, _⟩ | ⟨g, cp, cur, hv, _, hb, _⟩
    · rw [hv] at hj; cases hj
    · rw [hv] at hj
      cases hj
      have := l1.node.blk.symm.trans hb
      simp at this
  have HSV := hide (save_ok x b bt bp w.heap.size lk m v wv rv tk rk k y n be cap p rest rl w1 kit1 wk1 l1 r1' fw (HFN.out n (by omega)) (HFN.out be (by omega)) (fun j hj => ⟨HFN.out j (by have := hr1 j hj; omega), hrn' j hj⟩) (by omega) (by omega) HP.out.1 HP.out.2.1 HP.out.2.2.1 HP.out.2.2.2.1 HP.out.2.2.2.2.1 HP.out.2.2.2.2.2.1 HP.out.2.2.2.2.2.2.1 HP.out.2.2.2.2.2.2.2.1 HP.out.2.2.2.2.2.2.2.2.1 HP.out.2.2.2.2.2.2.2.2.2.1 HP.out.2.2.2.2.2.2.2.2.2.2.1 HP.out.2.2.2.2.2.2.2.2.2.2.2)
  have k01 : Kp (Sys.set x b wv) w w1 := (Kp.of_below hb0 : Kp (Sys.set x b wv) w _).step k1 (fun j hj => by simp at hj; subst hj; exact .inr (Nat.le_refl _))
  have H1 := hide (And.intro kit1 (And.intro k01 hn1))
  clear wk1 l1 r1 r1' hrn' he1 hr1 k1 s1 kit1 k01 kit hb0 kit0 HAP HK c58 fw
  go_wp2_with fail
  refine HSV.out.mono ?_
  rintro e w2 ⟨rfl, wv2, s2, k2, lt2⟩
  obtain ⟨kit1, k01, hn1'⟩ := H1.out
  have c58 := s2.vault.c58
  have f58 := s2.vault.fr 58
  have kv : Kp [b] w2 (w2.setCell ⟨b, 58, none⟩ (.slice none 0 0)) := (Kp.refl [b] w2).setCell b 58 _ (.inl (by simp))
  have s3 := s2.ofVault kv (s2.vault.set58 (.slice none 0 0))
  have k13 : Kp (n :: Sys.set x b wv) w1 (w2.setCell ⟨b, 58, none⟩ (.slice none 0 0)) := k2.trans (kv.mono (fun j hj => by simp at hj; simp [Sys.set, hj]))
  have kit3 := kit1.step s3 k13 lt2 (by simp only [List.mem_cons, not_or]; exact ⟨by omega, kit1.abt.2⟩) (by simp only [List.mem_cons, not_or]; exact ⟨by omega, kit1.abp.2⟩) rfl rfl rfl
  have k03 : Kp (Sys.set x b wv) w (w2.setCell ⟨b, 58, none⟩ (.slice none 0 0)) := k01.step k13 (fun j hj => by
    simp only [List.mem_cons] at hj
    rcases hj with e | e
    · right; omega
    · exact .inl e)
  have lt03 : Later wv wv2 w.heap.size := fun j hj => (lt2 j hj).imp id (fun g => by have := k01.size; omega)
  have HF := hide (And.intro kit3 (And.intro k03 lt03))
  clear s2 s3 kv k13 kit3 k03 lt03 kit1 k01 k2 lt2 H1 HSV c4
  go_wp2_with fail
  go_ret
  exact ⟨rfl, wv2, HF.out.1, HF.out.2.1, HF.out.2.2⟩
set_option maxRecDepth 100000 in
set_option maxHeartbeats 2000000 in
theorem commit_no (x : DX) (b bt bp : Nat) (m : DM) (v : VM) (wv : Value) (tk rk k y : List UInt8) (rl : List Nat) (c : Nat) (w : World) (h : Kit w x b m v wv bt bp tk rk) (ho : v.opened = true)
    (hap : Calls Tryz.prog 34 #[.pointer (some ⟨w.heap.size, 0, none⟩), v.cv] (w.alloc (freshWork b)) fun e w' => e = .returned (.int .i64 0) ∧ Made (w.alloc (freshWork b)) w' w.heap.size b k y rl)
    (hroom : roomL m v 1 = c) (hc : 0 < c) (hd : v.done < 1000) :
    Calls Tryz.prog 13 #[.pointer (some ⟨b, 0, none⟩)] w fun e w' => e = .returned (.int .i64 c) ∧ Below w.heap.size w w' := by
  have c1 := h.sys.vault.c1
  rw [ho] at c1
  have hb0 : Below w.heap.size w (w.alloc (freshWork b)) := (Below.refl _ _).alloc (Nat.le_refl _) _
  have hz0 : (w.alloc (freshWork b)).heap.size = w.heap.size + 1 := by simp
  have kit0 := h.below hb0
  have c58 := kit0.sys.vault.c58
  have hci : ((c : Int) == 0) = false := by rw [beq_eq_false_iff_ne]; omega
  have hcn : ¬ (c = 0) := by omega
  have HAP := hide hap
  have HK := hide (And.intro h (And.intro hb0 kit0))
  have HFN := hide (fun (j : Nat) (hj : w.heap.size ≤ j) => Foreign.new h.sys hj)
  have HP := hide (And.intro hroom (And.intro hc hd))
  clear h hap kit0 hb0 hroom hd
  unfold freshWork at c58 HAP
  go_enter Tryz.func13, Tryz.ntmps13
  go_wp2_with fail
  refine HAP.out.mono ?_
  rintro e w1 ⟨rfl, n, be, cap, rv, lk, wk1, l1, r1, hn1, he1, hr1, k1⟩
  obtain ⟨kit, hb0, kit0⟩ := HK.out
  have c4 := wk1.c4
  have fw : Foreign x b wv w.heap.size := HFN.out _ (Nat.le_refl _)
  have s1 := kit0.sys.kp k1 (fun j hj => by simp at hj; subst hj; exact fw)
  have HSV := hide (save_no x b w.heap.size lk m v wv rv k y n be cap c w1 s1 wk1 l1 HP.out.1 HP.out.2.1 HP.out.2.2)
  have k01 : Kp [] w w1 := (Kp.of_below hb0 : Kp [] w _).step k1 (fun j hj => by simp at hj; subst hj; exact .inr (Nat.le_refl _))
  have b01 : Below w.heap.size w w1 := ⟨k01.os, k01.tape, k01.output, k01.size, fun j hj => k01.block j hj (by simp)⟩
  clear wk1 l1 r1 hn1 he1 hr1 k1 s1 k01 kit hb0 kit0 HAP HK c58 fw
  go_wp2_with fail
  refine HSV.out.mono ?_
  rintro e w2 ⟨rfl, hb2⟩
  have b02 := b01.trans (hb2.mono b01.size)
  go_wp2_with fail
  go_ret
  exact ⟨rfl, b02⟩
end Go.Proofs.YtjnhlkaafnaooabGreatDoor

namespace Go.Proofs.YtjnhlkaafnaooabGreatDoor
open Go.RowKit
/-- The tree on the disk is one leaf of one entry. -/
structure OneLeaf (m : DM) (v : VM) (rk k s : List UInt8) : Prop where
  h2 : 2 ≤ v.place
  hp : v.place < m.blocks.length
  hbl : (m.look v.place).length = 256
  hd : shaL (m.look v.place) = v.digest
  ho : openL rk (m.look v.place) v.place = some (leafOne k s)
set_option maxRecDepth 100000 in
set_option maxHeartbeats 1000000 in
theorem find_leaf (x : DX) (b bt bp : Nat) (m : DM) (v : VM) (wv : Value) (tk rk k s : List UInt8) (w : World) (h : Kit w x b m v wv bt bp tk rk) (hl : OneLeaf m v rk k s) (h1 : 1 ≤ k.length) (h8 : k.length ≤ 8) (h16 : s.length ≤ 16) :
    Calls Tryz.prog 43 #[.pointer (some ⟨b, 0, none⟩), .string ⟨k.toArray⟩] w fun e w' => e = .returned (.tuple #[strV s, .int .i64 0]) ∧ Below w.heap.size w w' := by
  obtain ⟨w0, hw0⟩ : ∃ w0, w.alloc (.cells #[.pointer (some ⟨b, 0, none⟩), .int .i64 0] 82) = w0 := ⟨_, rfl⟩
  have hb0 : Below w.heap.size w w0 := hw0 ▸ (Below.refl _ _).alloc (Nat.le_refl _) _
  have hz0 : w0.heap.size = w.heap.size + 1 := by rw [← hw0]; simp
  have q0 : w0.heap[w.heap.size]? = some (.cells #[.pointer (some ⟨b, 0, none⟩), .int .i64 0] 82 (0, 0)) := hw0 ▸ heap_alloc_new w _
  have kit0 := h.below hb0
  have fw : Foreign x b wv w.heap.size := Foreign.new h.sys (Nat.le_refl _)
  have HR := hide (root_leaf x b bp w.heap.size m v wv rk k s 0 w0 kit0.sys kit0.pv kit0.key (by rw [cell_of_row _ _ _ _ _ _ q0]; rfl) (by rw [cell_of_row _ _ _ _ _ _ q0]; rfl) (by simp [World.frozen?, q0]) fw (by have := h.key.lt; omega) (by decide) hl.h2 hl.hp hl.hbl hl.hd hl.ho h1 h8 h16)
  have HB0 := hide hb0
  clear h hl h1 h8 h16 q0 kit0 fw hb0
  go_enter Tryz.func43, Tryz.ntmps43
  go_wp2_with fail
  refine HR.out.mono ?_
  rintro e w1 ⟨n, be, cap, rfl, hl1, hn, hbe, k1, _⟩
  have k01 : Kp [] w w1 := (Kp.of_below HB0.out : Kp [] w _).step k1 (fun j hj => by simp at hj; subst hj; exact .inr (Nat.le_refl _))
  have b01 : Below w.heap.size w w1 := ⟨k01.os, k01.tape, k01.output, k01.size, fun j hj => k01.block j hj (by simp)⟩
  have H1 := hide (And.intro hl1 b01)
  clear hl1 k1 k01 b01 HR HB0 hw0
  go_wp2_with fail
  go_loopw [7, 8, 9] (fun nn e _ wr => nn = .pointer (some ⟨n, 0, none⟩) ∧ e = .int .i64 0 ∧ wr = w1) (fun _ _ _ _ => 0)
  case atStart => exact ⟨rfl, rfl, rfl⟩
  case round =>
    obtain ⟨rfl, rfl, rfl⟩ := hrel
    have c0 := H1.out.1.node.c0
    have HE := hide (entryOf_same n v.place v.digest k s be cap wr H1.out.1)
    go_wp2_with fail
    refine HE.out.mono ?_
    rintro e w2 ⟨rfl, hb2⟩
    have l2 := H1.out.1.kp (S := []) (Kp.of_below hb2) (by simp) (by simp)
    have c3 := l2.node.c3
    have e1 : w2.cell? ⟨be, 1, none⟩ = some (strV s) := l2.e 1 (by decide)
    have b02 := H1.out.2.trans (hb2.mono H1.out.2.size)
    clear l2 HE c0
    go_wp2_with fail
    go_ret2
    exact ⟨rfl, b02⟩
set_option maxRecDepth 100000 in
set_option maxHeartbeats 1000000 in
theorem get_leaf (x : DX) (b bt bp : Nat) (m : DM) (v : VM) (wv : Value) (tk rk k s : List UInt8) (w : World) (h : Kit w x b m v wv bt bp tk rk) (ho : v.opened = true) (hcv : v.cv = .slice none 0 0) (hl : OneLeaf m v rk k s) (h1 : 1 ≤ k.length) (h8 : k.length ≤ 8) (h16 : s.length ≤ 16) :
    Calls Tryz.prog 20 #[.pointer (some ⟨b, 0, none⟩), .string ⟨k.toArray⟩] w fun e w' => e = .returned (.tuple #[strV s, .int .i64 0]) ∧ Below w.heap.size w w' := by
  have c1 := h.sys.vault.c1
  rw [ho] at c1
  have HI := hide (isKey_any k w h1 h8)
  have HC := hide (changeOf_none x b m v wv k w h.sys hcv)
  have HFD := hide (fun w' (hw : Below w.heap.size w w') => find_leaf x b bt bp m v wv tk rk k s w' (h.below hw) hl h1 h8 h16)
  clear h ho hcv hl h1 h8 h16
  go_enter Tryz.func20, Tryz.ntmps20
  go_wp2_with fail
  refine HI.out.mono ?_
  rintro e w0 ⟨rfl, rfl⟩
  go_wp2_with fail
  refine HC.out.mono ?_
  rintro e w1 ⟨rfl, hb1⟩
  have HF1 := hide (HFD.out w1 hb1)
  clear HC HI HFD
  go_wp2_with fail
  refine HF1.out.mono ?_
  rintro e w2 ⟨rfl, hb2⟩
  have b02 := hb1.trans (hb2.mono hb1.size)
  go_wp2_with fail
  go_ret2
  exact ⟨rfl, b02⟩
end Go.Proofs.YtjnhlkaafnaooabGreatDoor

namespace Go.Proofs.YtjnhlkaafnaooabGreatDoor
open Go.RowKit
theorem freeTo_more (used : List Bool) (q d p : Nat) (rest : List Nat) (h : freeTo used q = p :: rest) : ∃ rest', freeTo used (q + d) = p :: rest' := by
  induction d with
  | zero => exact ⟨rest, h⟩
  | succ d ih =>
    obtain ⟨r, hr⟩ := ih
    rw [← Nat.add_assoc, freeTo_succ, hr]
    exact ⟨_, rfl⟩
theorem freeTo_first (used : List Bool) (n : Nat) (hn : 3 ≤ n) (h : used.getD 2 false = false) : ∃ rest, freeTo used n = 2 :: rest := by
  obtain ⟨d, rfl⟩ := Nat.exists_eq_add_of_le hn
  refine freeTo_more used 3 d 2 [] ?_
  rw [show 3 = 2 + 1 from rfl, freeTo_succ, freeTo_two, h]
  rfl
theorem freeTo_next (used : List Bool) (n : Nat) (hn : 4 ≤ n) (h : used.getD 2 false = true) (h3 : used.getD 3 false = false) : ∃ rest, freeTo used n = 3 :: rest := by
  obtain ⟨d, rfl⟩ := Nat.exists_eq_add_of_le hn
  refine freeTo_more used 4 d 3 [] ?_
  rw [show 4 = 2 + 1 + 1 from rfl, freeTo_succ, freeTo_succ, freeTo_two, h, h3]
  rfl
theorem freeTo_full (used : List Bool) (h : used.getD 2 false = true) : freeTo used 3 = [] := by
  rw [show 3 = 2 + 1 from rfl, freeTo_succ, freeTo_two, h]
  rfl
/-- One place is in use, or none (0). -/
def usedAt (p : Nat) : List Bool := if p = 0 then List.replicate 48 false else (List.replicate 48 false).set p true
theorem usedAt_len (p : Nat) : (usedAt p).length = 48 := by unfold usedAt; split <;> simp
theorem DM.look_write_same (m : DM) (k : Nat) (t : List UInt8) (hk : k < m.cache.length) (ht : t ≠ []) : (m.write k t).look k = t := by
  simp [DM.look, DM.write, hk, ht]
theorem DM.look_write_ne (m : DM) (k j : Nat) (t : List UInt8) (h : k ≠ j) : (m.write k t).look j = m.look j := by
  simp [DM.look, DM.write, h]
theorem DM.look_flush (m : DM) (k : Nat) (hk : k < m.blocks.length) : m.flush.look k = m.look k := by
  have h1 : m.flush.cache.getD k [] = [] := by simp [DM.flush, hk]
  have h2 : m.flush.blocks.getD k [] = m.look k := by simp [DM.flush, hk]
  unfold DM.look at *
  rw [h1, if_pos rfl]
  exact h2
theorem DM.look_settle (m : DM) (k : Nat) (hk : k < m.blocks.length) : m.settle.look k = m.look k := m.look_flush k hk
theorem saveM_len (tk rk : List UInt8) (m : DM) (v : VM) (p : Nat) (k y : List UInt8) : (saveM tk rk m v p k y).blocks.length = m.blocks.length := by
  simp [saveM, DM.advance, DM.settle, DM.flush, DM.write]
theorem saveM_count (tk rk : List UInt8) (m : DM) (v : VM) (p : Nat) (k y : List UInt8) : (saveM tk rk m v p k y).count = m.count + 1 := rfl
theorem saveM_ceiling (tk rk : List UInt8) (m : DM) (v : VM) (p : Nat) (k y : List UInt8) : (saveM tk rk m v p k y).ceiling = m.ceiling := rfl
theorem saveM_wrote (tk rk : List UInt8) (m : DM) (v : VM) (p : Nat) (k y : List UInt8) : (saveM tk rk m v p k y).wrote.length = m.wrote.length + 2 := by
  simp [saveM, DM.advance, DM.settle, DM.flush, DM.write]
theorem saveM_look (tk rk : List UInt8) (m : DM) (v : VM) (p : Nat) (k y : List UInt8) (hp : 2 ≤ p) (hpn : p < m.blocks.length) (hs : m.cache.length = m.blocks.length) (hr : rk.length = 240) : (saveM tk rk m v p k y).look p = newTree rk v p k y := by
  have hT : newTree rk v p k y ≠ [] := by
    intro e
    have := leafPage_len rk k y v.session (v.done + 1) p hr
    unfold newTree at e
    rw [e] at this
    cases this
  have l1 : (m.write p (newTree rk v p k y)).flush.blocks.length = m.blocks.length := by simp [DM.flush, DM.write]
  unfold saveM DM.advance
  rw [DM.look_settle _ _ (by simp [DM.write, DM.flush]; exact hpn), DM.look_write_ne _ _ _ _ (by omega), DM.look_flush _ _ (by simpa [DM.write] using hpn), DM.look_write_same _ _ _ (by omega) hT]
theorem save_leaf (tk rk : List UInt8) (m : DM) (v : VM) (p : Nat) (k y : List UInt8) (rl : List Nat) (cv : Value) (hp : 2 ≤ p) (hpn : p < m.blocks.length) (hs : m.cache.length = m.blocks.length) (hr : rk.length = 240) :
    OneLeaf (saveM tk rk m v p k y) { saveV rk v p k y rl with cv := cv } rk k y := by
  have hl := saveM_look tk rk m v p k y hp hpn hs hr
  refine ⟨hp, by rw [saveM_len]; exact hpn, ?_, ?_, ?_⟩
  · show ((saveM tk rk m v p k y).look p).length = 256
    rw [hl]; exact leafPage_len rk k y _ _ p hr
  · show shaL ((saveM tk rk m v p k y).look p) = shaL (newTree rk v p k y)
    rw [hl]
  · show openL rk ((saveM tk rk m v p k y).look p) p = some (leafOne k y)
    rw [hl]
    exact openL_page rk _ _ p (leafOne k y) hr (leafOne_len k y)
theorem used_first : freed [] ((usedAt 0).set 2 true) = usedAt 2 := by decide
theorem used_23 : freed [2] ((usedAt 2).set 3 true) = usedAt 3 := by decide
theorem used_32 : freed [3] ((usedAt 3).set 2 true) = usedAt 2 := by decide
end Go.Proofs.YtjnhlkaafnaooabGreatDoor

namespace Go.Proofs.YtjnhlkaafnaooabGreatDoor
open Go.RowKit
set_option maxHeartbeats 400000 in
theorem kpick_any (c : Int) (n : Nat) (w : World) (hn : 0 < n) (hn2 : n ≤ 1048576) (h1 : -9223372036854775808 ≤ c) (h2 : c ≤ 9223372036854775807) :
    Calls Tryz.prog 21 #[.int .i64 c, .int .i64 (n : Int)] w fun e w' => ∃ k : Nat, e = .returned (.int .i64 (k : Int)) ∧ k < n ∧ w' = w := by
  have hni : (0 : Int) < (n : Int) := by omega
  have hn2i : (n : Int) ≤ 1048576 := by omega
  have hne : ((n : Int) == 0) = false := by rw [beq_eq_false_iff_ne]; omega
  have hnn : ¬ (n = 0) := by omega
  clear hn hn2
  by_cases hc : c < 0
  · go_enter Tryz.func21, Tryz.ntmps21
    go_wp2_with fail
    have hk : (-(c + 1)) % (n : Int) < (n : Int) := Int.emod_lt_of_pos _ hni
    have hk0 : 0 ≤ (-(c + 1)) % (n : Int) := Int.emod_nonneg _ (by omega)
    have e : -((c + 1).tmod (n : Int)) = (((-(c + 1)) % (n : Int)).toNat : Int) := by
      rw [← Int.neg_tmod, Int.tmod_eq_emod_of_nonneg (by omega), Int.toNat_of_nonneg hk0]
    go_ret
    exact ⟨((-(c + 1)) % (n : Int)).toNat, ret_int e, by omega, rfl⟩
  · go_enter Tryz.func21, Tryz.ntmps21
    go_wp2_with fail
    have hk : c % (n : Int) < (n : Int) := Int.emod_lt_of_pos _ hni
    have hk0 : 0 ≤ c % (n : Int) := Int.emod_nonneg _ (by omega)
    go_ret
    exact ⟨(c % (n : Int)).toNat, ret_int (by rw [Int.toNat_of_nonneg hk0]), by omega, rfl⟩
def zeroVM : VM := ⟨false, [], .pointer none, .pointer none, 0, 0, 0, 0, [], List.replicate 48 false, .slice none 0 0⟩
set_option maxRecDepth 100000 in
set_option maxHeartbeats 1000000 in
theorem vaultOf_any (d : Nat) (w : World) :
    Calls Tryz.prog 25 #[.pointer (some ⟨d, 0, none⟩)] w fun e w' => e = .returned (.pointer (some ⟨w.heap.size, 0, none⟩)) ∧ VaultAt w' w.heap.size d zeroVM ∧ Below w.heap.size w w' ∧ w'.heap.size = w.heap.size + 1 := by
  go_enter Tryz.func25, Tryz.ntmps25
  go_wp2_with fail
  go_ret
  exact ⟨rfl, ⟨(heap_alloc_new w _).trans (by kernel_rfl), by simp [zeroVM]⟩, (Below.refl _ _).alloc (Nat.le_refl _) _, by simp⟩
set_option maxRecDepth 100000 in
set_option maxHeartbeats 1000000 in
theorem world_any (n c : Nat) (w : World) (h3 : 3 ≤ n) (h48 : n ≤ 48) (hc : c ≤ 1048576) (hk : Cells w 1 .u32 kWords) (h0 : Cells w 0 .u32 hWords) :
    Calls Tryz.prog 10 #[.int .i64 n, .int .i64 c] w fun e w' => ∃ x b bW, e = .returned (.pointer (some ⟨bW, 0, none⟩)) ∧ Sys w' x b ⟨List.replicate n zeroBlock, List.replicate n [], 0, c, []⟩ zeroVM (.slice none 0 0) ∧ w'.cell? ⟨bW, 1, none⟩ = some (.pointer (some ⟨b, 0, none⟩)) ∧ Apart w' x b (.slice none 0 0) bW ∧ Below w.heap.size w w' ∧ (∀ j ∈ Sys.set x b (.slice none 0 0), w.heap.size ≤ j) := by
  have HM := hide (make_any n c w h3 h48 hc)
  have hkl := hk.lt
  have h0l := h0.lt
  have HT := hide (And.intro hk h0)
  clear h3 h48 hc hk h0
  go_enter Tryz.func10, Tryz.ntmps10
  go_wp2_with fail
  refine HM.out.mono ?_
  rintro e w1 ⟨rfl, hb1, x, hxd, hxb, hxc, hd1⟩
  have HO := hide (vaultOf_any w.heap.size w1)
  have H1 := hide (And.intro hb1 hd1)
  clear hb1 hd1 HM
  go_wp2_with fail
  refine HO.out.mono ?_
  rintro e w2 ⟨rfl, hv2, hb2, hz2⟩
  obtain ⟨hb1, hd1⟩ := H1.out
  have hd2 := hd1.kp (S := []) (Kp.of_below hb2) (by simp)
  have hb02 := hb1.trans (hb2.mono hb1.size)
  have hdl := hd1.lt
  have hbl := hd1.rb.lt
  have hcl := hd1.rc.lt
  have s2 : Sys w2 x w1.heap.size ⟨List.replicate n zeroBlock, List.replicate n [], 0, c, []⟩ zeroVM (.slice none 0 0) :=
    ⟨hd2, hxd ▸ hv2, HT.out.1.below hb02 hkl, HT.out.2.below hb02 h0l, by simp [DX.set, Value.ownBlock]; omega, ⟨by simp [DX.set, Value.ownBlock]; omega, by omega⟩, ⟨by simp [DX.set, Value.ownBlock]; omega, by omega⟩⟩
  have hlo : ∀ j ∈ Sys.set x w1.heap.size (.slice none 0 0), w.heap.size ≤ j := fun j hj => by
    simp [Sys.set, DX.set, Value.ownBlock] at hj
    omega
  have H2 := hide (And.intro s2 (And.intro hb02 hlo))
  clear hlo hb1 hd1 hd2 hb02 s2 hv2 hb2 HO H1 HT hz2
  go_wp2_with fail
  go_ret
  have hba : ∀ o, Below w2.heap.size w2 (w2.alloc o) := fun o => (Below.refl _ _).alloc (Nat.le_refl _) _
  exact ⟨x, w1.heap.size, w2.heap.size, rfl, H2.out.1.later (hba _), by rw [World.cell?_alloc_at _ _ _ _ rfl]; rfl, H2.out.1.apart (Nat.le_refl _) (by simp), H2.out.2.1.trans ((hba _).mono H2.out.2.1.size), H2.out.2.2⟩
end Go.Proofs.YtjnhlkaafnaooabGreatDoor
