import Derived.Test.YtjnhlkaafnaooabGreatDoorRmE
namespace Go.Proofs.YtjnhlkaafnaooabGreatDoor
open Go.RowKit
/-- A vault's fields, but for its disk. -/
structure VM where
  opened : Bool
  salt : List UInt8
  tv : Value
  pv : Value
  version : Nat
  session : Nat
  done : Nat
  place : Nat
  digest : List UInt8
  used : List Bool
  cv : Value
def vcells (d : Nat) (v : VM) : List Value := [.pointer (some ⟨d, 0, none⟩), .bool v.opened, strV v.salt, v.tv, v.pv, .int .i64 v.version, .int .i64 v.session, .int .i64 v.done, .int .i64 v.place, strV v.digest] ++ (v.used.map Value.bool ++ [v.cv])
structure VaultAt (w : World) (b d : Nat) (v : VM) : Prop where
  blk : w.heap[b]? = some (.cells (vcells d v).toArray 71 (0, 0))
  ul : v.used.length = 48
section
variable {w : World} {b d : Nat} {v : VM}
theorem VaultAt.lt (h : VaultAt w b d v) : b < w.heap.size := lt_of_block h.blk
theorem VaultAt.fr (h : VaultAt w b d v) (i : Nat) : w.frozen? ⟨b, i, none⟩ = false := by simp [World.frozen?, h.blk]
theorem VaultAt.c0 (h : VaultAt w b d v) : w.cell? ⟨b, 0, none⟩ = some (.pointer (some ⟨d, 0, none⟩)) := by rw [cell_of_row _ _ _ _ _ _ h.blk]; simp [vcells]
theorem VaultAt.c1 (h : VaultAt w b d v) : w.cell? ⟨b, 1, none⟩ = some (.bool v.opened) := by rw [cell_of_row _ _ _ _ _ _ h.blk]; simp [vcells]
theorem VaultAt.c2 (h : VaultAt w b d v) : w.cell? ⟨b, 2, none⟩ = some (strV v.salt) := by rw [cell_of_row _ _ _ _ _ _ h.blk]; simp [vcells]
theorem VaultAt.c3 (h : VaultAt w b d v) : w.cell? ⟨b, 3, none⟩ = some v.tv := by rw [cell_of_row _ _ _ _ _ _ h.blk]; simp [vcells]
theorem VaultAt.c4 (h : VaultAt w b d v) : w.cell? ⟨b, 4, none⟩ = some v.pv := by rw [cell_of_row _ _ _ _ _ _ h.blk]; simp [vcells]
theorem VaultAt.c5 (h : VaultAt w b d v) : w.cell? ⟨b, 5, none⟩ = some (.int .i64 v.version) := by rw [cell_of_row _ _ _ _ _ _ h.blk]; simp [vcells]
theorem VaultAt.c6 (h : VaultAt w b d v) : w.cell? ⟨b, 6, none⟩ = some (.int .i64 v.session) := by rw [cell_of_row _ _ _ _ _ _ h.blk]; simp [vcells]
theorem VaultAt.c7 (h : VaultAt w b d v) : w.cell? ⟨b, 7, none⟩ = some (.int .i64 v.done) := by rw [cell_of_row _ _ _ _ _ _ h.blk]; simp [vcells]
theorem VaultAt.c8 (h : VaultAt w b d v) : w.cell? ⟨b, 8, none⟩ = some (.int .i64 v.place) := by rw [cell_of_row _ _ _ _ _ _ h.blk]; simp [vcells]
theorem VaultAt.c9 (h : VaultAt w b d v) : w.cell? ⟨b, 9, none⟩ = some (strV v.digest) := by rw [cell_of_row _ _ _ _ _ _ h.blk]; simp [vcells]
theorem VaultAt.cu (h : VaultAt w b d v) (p : Nat) (hp : p < 48) : w.cell? ⟨b, 10 + p, none⟩ = some (.bool (v.used.getD p false)) := by
  have hl := h.ul
  rw [cell_of_row _ _ _ _ _ _ h.blk, List.getElem?_toArray, vcells, List.getElem?_append_right (by simp), List.getElem?_append_left (by simp [hl]; omega)]
  simp [List.getElem?_eq_getElem (by omega : p < v.used.length)]
theorem VaultAt.c58 (h : VaultAt w b d v) : w.cell? ⟨b, 58, none⟩ = some v.cv := by
  have hl := h.ul
  rw [cell_of_row _ _ _ _ _ _ h.blk, List.getElem?_toArray, vcells, List.getElem?_append_right (by simp), List.getElem?_append_right (by simp [hl])]
  simp [hl]
theorem VaultAt.of_block {w' : World} (h : VaultAt w b d v) (e : w'.heap[b]? = w.heap[b]?) : VaultAt w' b d v := ⟨e.trans h.blk, h.ul⟩
theorem VaultAt.set1 (h : VaultAt w b d v) (y : Bool) : VaultAt (w.setCell ⟨b, 1, none⟩ (.bool y)) b d { v with opened := y } := ⟨by rw [set_prim h.blk 1 _]; simp [vcells], h.ul⟩
theorem VaultAt.set2 (h : VaultAt w b d v) (y : List UInt8) : VaultAt (w.setCell ⟨b, 2, none⟩ (strV y)) b d { v with salt := y } := ⟨by rw [set_prim h.blk 2 _]; simp [vcells], h.ul⟩
theorem VaultAt.set3 (h : VaultAt w b d v) (y : Value) : VaultAt (w.setCell ⟨b, 3, none⟩ y) b d { v with tv := y } := ⟨by rw [set_prim h.blk 3 _]; simp [vcells], h.ul⟩
theorem VaultAt.set4 (h : VaultAt w b d v) (y : Value) : VaultAt (w.setCell ⟨b, 4, none⟩ y) b d { v with pv := y } := ⟨by rw [set_prim h.blk 4 _]; simp [vcells], h.ul⟩
theorem VaultAt.set5 (h : VaultAt w b d v) (y : Nat) : VaultAt (w.setCell ⟨b, 5, none⟩ (.int .i64 y)) b d { v with version := y } := ⟨by rw [set_prim h.blk 5 _]; simp [vcells], h.ul⟩
theorem VaultAt.set6 (h : VaultAt w b d v) (y : Nat) : VaultAt (w.setCell ⟨b, 6, none⟩ (.int .i64 y)) b d { v with session := y } := ⟨by rw [set_prim h.blk 6 _]; simp [vcells], h.ul⟩
theorem VaultAt.set7 (h : VaultAt w b d v) (y : Nat) : VaultAt (w.setCell ⟨b, 7, none⟩ (.int .i64 y)) b d { v with done := y } := ⟨by rw [set_prim h.blk 7 _]; simp [vcells], h.ul⟩
theorem VaultAt.set8 (h : VaultAt w b d v) (y : Nat) : VaultAt (w.setCell ⟨b, 8, none⟩ (.int .i64 y)) b d { v with place := y } := ⟨by rw [set_prim h.blk 8 _]; simp [vcells], h.ul⟩
theorem VaultAt.set9 (h : VaultAt w b d v) (y : List UInt8) : VaultAt (w.setCell ⟨b, 9, none⟩ (strV y)) b d { v with digest := y } := ⟨by rw [set_prim h.blk 9 _]; simp [vcells], h.ul⟩
theorem VaultAt.setu (h : VaultAt w b d v) (p : Nat) (hp : p < 48) (y : Bool) : VaultAt (w.setCell ⟨b, 10 + p, none⟩ (.bool y)) b d { v with used := v.used.set p y } := by
  have hl := h.ul
  refine ⟨?_, by simpa using hl⟩
  rw [set_prim h.blk (10 + p) _]
  simp only [vcells, List.setIfInBounds_toArray]
  rw [List.set_append_right _ _ (by simp), List.set_append_left _ _ (by simp [hl]; omega)]
  simp [List.map_set]
theorem VaultAt.set58 (h : VaultAt w b d v) (y : Value) : VaultAt (w.setCell ⟨b, 58, none⟩ y) b d { v with cv := y } := by
  have hl := h.ul
  refine ⟨?_, hl⟩
  rw [set_prim h.blk 58 _]
  simp only [vcells, List.setIfInBounds_toArray]
  rw [List.set_append_right _ _ (by simp), List.set_append_right _ _ (by simp [hl])]
  simp [hl]
end
/-- A vault over a disk; the digest's tables are as they were laid. -/
structure Sys (w : World) (x : DX) (b : Nat) (m : DM) (v : VM) (wv : Value) : Prop where
  disk : DiskAt w x m wv
  vault : VaultAt w b x.d v
  hk : Cells w 1 .u32 kWords
  h0 : Cells w 0 .u32 hWords
  nb : b ∉ x.set wv
  nk : 1 ∉ x.set wv ∧ 1 ≠ b
  n0 : 0 ∉ x.set wv ∧ 0 ≠ b
/-- What a step may touch. -/
def Sys.set (x : DX) (b : Nat) (wv : Value) : List Nat := b :: x.set wv
/-- The list of writes lies where it lay, or is new. -/
def Later (wv wv' : Value) (n : Nat) : Prop := ∀ j, wv'.ownBlock = some j → wv.ownBlock = some j ∨ n ≤ j
theorem Later.refl (wv : Value) (n : Nat) : Later wv wv n := fun _ h => .inl h
theorem Later.trans {a b c : Value} {n m : Nat} (h : Later a b n) (k : Later b c m) (hnm : n ≤ m) : Later a c n := fun j hj => by
  rcases k j hj with e | e
  · exact h j e
  · exact .inr (Nat.le_trans hnm e)
theorem Later.out {x : DX} {wv wv' : Value} {n k : Nat} (h : Later wv wv' n) (hk : k ∉ x.set wv) (hn : k < n) : k ∉ x.set wv' := by
  intro e
  simp only [DX.set, List.mem_append, List.mem_cons, Option.mem_toList, List.not_mem_nil, or_false] at e hk
  rcases e with e | e
  · exact hk (.inl e)
  · rcases h k e with g | g
    · exact hk (.inr g)
    · omega
theorem Later.sub {x : DX} {wv wv' : Value} {n : Nat} (h : Later wv wv' n) {b k : Nat} (hk : k ∈ Sys.set x b wv') : k ∈ Sys.set x b wv ∨ n ≤ k := by
  simp only [Sys.set, DX.set, List.mem_append, List.mem_cons, Option.mem_toList, List.not_mem_nil, or_false] at hk ⊢
  rcases hk with e | e | e
  · exact .inl (.inl e)
  · exact .inl (.inr (.inl e))
  · rcases h k e with g | g
    · exact .inl (.inr (.inr g))
    · exact .inr g
/-- What lies apart of a vault and its disk. -/
def Apart (w : World) (x : DX) (b : Nat) (wv : Value) (k : Nat) : Prop := k < w.heap.size ∧ k ∉ Sys.set x b wv
theorem Apart.step {w w' : World} {x : DX} {b : Nat} {wv wv' : Value} {k : Nat} (h : Apart w x b wv k) (hl : Later wv wv' w.heap.size) (hz : w.heap.size ≤ w'.heap.size) : Apart w' x b wv' k :=
  ⟨Nat.lt_of_lt_of_le h.1 hz, fun e => (hl.sub e).elim h.2 (fun g => by have := h.1; omega)⟩
theorem Apart.block {w w' : World} {x : DX} {b : Nat} {wv : Value} {k : Nat} (h : Apart w x b wv k) (hp : Kp (Sys.set x b wv) w w') : w'.heap[k]? = w.heap[k]? := hp.block k h.1 h.2
theorem Sys.later {w w' : World} {x : DX} {b : Nat} {m : DM} {v : VM} {wv : Value} (h : Sys w x b m v wv) (hb : Below w.heap.size w w') : Sys w' x b m v wv :=
  ⟨h.disk.kp (S := []) (Kp.of_below hb) (by simp), h.vault.of_block (hb.block b h.vault.lt), h.hk.below hb h.hk.lt, h.h0.below hb h.h0.lt, h.nb, h.nk, h.n0⟩
theorem Sys.drewN {w : World} {x : DX} {b : Nat} {m : DM} {v : VM} {wv : Value} (h : Sys w x b m v wv) (n : Nat) : Sys (w.drewN n) x b m v wv := h.later (below_drewN (Below.refl _ _) n)
/-- A step of the disk's. -/
theorem Sys.ofDisk {w w' : World} {x : DX} {b : Nat} {m m' : DM} {v : VM} {wv wv' : Value} (h : Sys w x b m v wv) (hp : Kp (x.set wv) w w') (hd : DiskAt w' x m' wv') (hl : Later wv wv' w.heap.size) : Sys w' x b m' v wv' :=
  ⟨hd, h.vault.of_block (hp.block b h.vault.lt h.nb), hp.cells h.hk h.nk.1, hp.cells h.h0 h.n0.1, hl.out h.nb h.vault.lt, ⟨hl.out h.nk.1 h.hk.lt, h.nk.2⟩, ⟨hl.out h.n0.1 h.h0.lt, h.n0.2⟩⟩
/-- A store into the vault. -/
theorem Sys.ofVault {w w' : World} {x : DX} {b : Nat} {m : DM} {v v' : VM} {wv : Value} (h : Sys w x b m v wv) (hp : Kp [b] w w') (hv : VaultAt w' b x.d v') : Sys w' x b m v' wv :=
  ⟨h.disk.kp hp (fun j hj => by simp; rintro rfl; exact h.nb hj), hv, hp.cells h.hk (by simpa using h.nk.2), hp.cells h.h0 (by simpa using h.n0.2), h.nb, h.nk, h.n0⟩
theorem set_sub {x : DX} {b : Nat} {wv : Value} {k : Nat} (h : k ∈ x.set wv) : k ∈ Sys.set x b wv := List.mem_cons_of_mem _ h
theorem Sys.bound {w : World} {x : DX} {b : Nat} {m : DM} {v : VM} {wv : Value} (h : Sys w x b m v wv) {k : Nat} (hk : k ∈ Sys.set x b wv) : k < w.heap.size := by
  simp only [Sys.set, DX.set, List.mem_append, List.mem_cons, Option.mem_toList, List.not_mem_nil, or_false] at hk
  rcases hk with rfl | (rfl | rfl | rfl) | e
  · exact h.vault.lt
  · exact h.disk.lt
  · exact h.disk.rb.lt
  · exact h.disk.rc.lt
  · exact owns_lt h.disk.own k e
theorem Sys.apart {w w' : World} {x : DX} {b : Nat} {m : DM} {v : VM} {wv : Value} (h : Sys w x b m v wv) {k : Nat} (hk : w.heap.size ≤ k) (hk' : k < w'.heap.size) : Apart w' x b wv k := ⟨hk', fun e => by have := h.bound e; omega⟩
end Go.Proofs.YtjnhlkaafnaooabGreatDoor

namespace Go.Proofs.YtjnhlkaafnaooabGreatDoor
open Go.RowKit
def DM.settle (m : DM) : DM := { m.flush with count := m.count + 1 }
set_option maxRecDepth 100000 in
set_option maxHeartbeats 1000000 in
theorem settle_any (x : DX) (b : Nat) (m : DM) (v : VM) (wv : Value) (w : World) (h : Sys w x b m v wv) (hc : m.count < m.ceiling) :
    Calls Tryz.prog 58 #[.pointer (some ⟨b, 0, none⟩)] w fun e w' => e = .returned (.int .i64 0) ∧ Sys w' x b m.settle v wv ∧ Kp (x.set wv) w w' := by
  have c0 := h.vault.c0
  have HF := hide (flush_any x m wv w h.disk)
  have HS := hide h
  clear h
  go_enter Tryz.func58, Tryz.ntmps58
  go_wp2_with fail
  refine HF.out.mono ?_
  rintro e w1 ⟨rfl, hp1, hd1⟩
  have hp1' : Kp (x.set wv) w w1 := hp1.mono (fun k hk => by simp at hk; simp [DX.set]; rcases hk with e | e <;> simp [e])
  have h1 := HS.out.ofDisk hp1' hd1 (Later.refl _ _)
  have c01 := h1.vault.c0
  have HB := hide (bump_disk x m.flush wv w1 hd1 hc)
  have HS1 := hide h1
  clear h1 hd1 hp1 c0 HF hc
  go_wp2_with fail
  refine HB.out.mono ?_
  rintro e w2 ⟨rfl, hp2, hd2⟩
  have hp2' : Kp (x.set wv) w1 w2 := hp2.mono (fun k hk => by simp at hk; simp [DX.set, hk])
  have h2 := HS1.out.ofDisk hp2' hd2 (Later.refl _ _)
  have HS2 := hide h2
  clear h2 hd2 hp2 c01
  go_wp2_with fail
  go_ret
  exact ⟨rfl, HS2.out, hp1'.trans hp2'⟩
theorem run_load_row (oi : Oper) (a : Act) (T : TypeId) (x : Operand) (b o : Nat) (cs : List Value) (ho : oi.op = .load T x) (hx : a.eval x = .pointer (some ⟨b, o, none⟩)) (d : TypeDesc) (hu : Tryz.prog.underlying T = some d) (hd : d.isRow = true) (hi : (Tryz.prog.info? T).map (·.size) = some cs.length) (w : World) (hc : w.rangeAt b o cs) :
    (execOp a.eval oi).run Tryz.prog w = .ok (.value (.agg cs.toArray)) w := by
  unfold execOp
  simp only [ho, hx]
  simp only [Instr.loadAt, Instr.sureAddr, Sem.run_bind, Sem.run_pure, Result.andThen_ok, run_loadVar_mid w b o T cs d hc hu hd hi]
theorem range2 {w : World} {b o : Nat} {u v : Value} (h1 : w.cell? ⟨b, o, none⟩ = some u) (h2 : w.cell? ⟨b, o + 1, none⟩ = some v) : w.rangeAt b o [u, v] := by
  intro j y hj
  match j, hj with
  | 0, hj => simpa using h1.trans (by simpa using hj)
  | 1, hj => simpa using h2.trans (by simpa using hj)
def DM.advance (m : DM) (n : Nat) (t : List UInt8) : DM := (m.write (n % 2) t).settle
set_option maxRecDepth 100000 in
set_option maxHeartbeats 1000000 in
theorem advance_any (x : DX) (b bt : Nat) (tk : List UInt8) (m : DM) (v : VM) (wv : Value) (n : Nat) (w : World) (h : Sys w x b m v wv) (hc : m.count < m.ceiling) (htv : v.tv = .pointer (some ⟨bt, 0, none⟩)) (hm : MacFor w bt tk) (hs : v.salt.length = 16) (hn : n < 9223372036854775808) (hp : v.place < 9223372036854775808) (hl : m.wrote.length < 100000) :
    Calls Tryz.prog 57 #[.pointer (some ⟨b, 0, none⟩), .int .i64 n] w fun e w' => e = .returned (.int .i64 0) ∧ ∃ wv', Sys w' x b (m.advance n (slotL tk v.salt n v.place v.digest)) { v with version := n } wv' ∧ Kp (Sys.set x b wv) w w' ∧ Later wv wv' w.heap.size := by
  have hge := h.disk.ge
  have HR := hide (show ∀ w', Below w.heap.size w w' → w'.rangeAt b 3 [.pointer (some ⟨bt, 0, none⟩), v.pv] ∧ w'.cell? ⟨b, 2, none⟩ = some (strV v.salt) ∧ w'.rangeAt b 8 [.int .i64 v.place, strV v.digest] from fun w' hw' => by
    have h' := (h.later hw').vault
    exact ⟨range2 (by rw [h'.c3, htv]) h'.c4, h'.c2, range2 h'.c8 h'.c9⟩)
  have HST := hide (fun w' (hw' : Below w.heap.size w w') => slotText_any bt v.pv tk v.salt v.digest n v.place w' (hm.of_block (hw'.block bt hm.lt)) (h.hk.below hw' h.hk.lt) hs hn hp)
  have hni : (n : Int) < 9223372036854775808 := by omega
  obtain ⟨T, hT⟩ : ∃ T, slotL tk v.salt n v.place v.digest = T := ⟨_, rfl⟩
  rw [hT] at HST ⊢
  have HH := hide h
  have HP := hide (And.intro hc (And.intro hl hge))
  have HN := hide hn
  clear h hm hs hp hl hc hge hT hn
  go_enter Tryz.func57, Tryz.ntmps57
  go_wp2_with fail
  refine wp_region_one (fun w' => Below w.heap.size w w') (by kernel_rfl) (by kernel_rfl) (Below.refl _ _).drew ?_
  refine one_take 0 (.pointer (some ⟨b, 0, none⟩)) rfl (by kernel_rfl) (by kernel_rfl) (by kernel_rfl) rfl (gives_pure fun _ => by kernel_rfl) ?_
  refine one_take 1 (.pointer (some ⟨b, 0, none⟩)) rfl (by kernel_rfl) (by kernel_rfl) (by kernel_rfl) rfl (gives_pure fun _ => by kernel_rfl) ?_
  refine one_take 2 (.pointer (some ⟨b, 3, none⟩)) rfl (by kernel_rfl) (by kernel_rfl) (by kernel_rfl) rfl (gives_pure fun _ => by kernel_rfl) ?_
  refine one_take 3 (.agg #[.pointer (some ⟨bt, 0, none⟩), v.pv]) rfl (by kernel_rfl) (by kernel_rfl) (by kernel_rfl) rfl (gives_read fun w hw => run_load_row _ _ 65 _ b 3 [.pointer (some ⟨bt, 0, none⟩), v.pv] rfl (by kernel_rfl) _ Tryz.underlying65 rfl (by kernel_rfl) w (HR.out w hw).1) ?_
  refine one_take 4 (.pointer (some ⟨b, 0, none⟩)) rfl (by kernel_rfl) (by kernel_rfl) (by kernel_rfl) rfl (gives_pure fun _ => by kernel_rfl) ?_
  refine one_take 5 (.pointer (some ⟨b, 0, none⟩)) rfl (by kernel_rfl) (by kernel_rfl) (by kernel_rfl) rfl (gives_pure fun _ => by kernel_rfl) ?_
  refine one_take 6 (.pointer (some ⟨b, 2, none⟩)) rfl (by kernel_rfl) (by kernel_rfl) (by kernel_rfl) rfl (gives_pure fun _ => by kernel_rfl) ?_
  refine one_take 7 (strV v.salt) rfl (by kernel_rfl) (by kernel_rfl) (by kernel_rfl) rfl (gives_read fun w hw => run_load_str _ _ _ _ _ _ rfl (by kernel_rfl) w ((HR.out w hw).2.1)) ?_
  refine one_take 8 (.int .i64 n) rfl (by kernel_rfl) (by kernel_rfl) (by kernel_rfl) rfl (gives_pure fun _ => by kernel_rfl) ?_
  refine one_take 9 (.pointer (some ⟨b, 0, none⟩)) rfl (by kernel_rfl) (by kernel_rfl) (by kernel_rfl) rfl (gives_pure fun _ => by kernel_rfl) ?_
  refine one_take 10 (.pointer (some ⟨b, 0, none⟩)) rfl (by kernel_rfl) (by kernel_rfl) (by kernel_rfl) rfl (gives_pure fun _ => by kernel_rfl) ?_
  refine one_take 11 (.pointer (some ⟨b, 8, none⟩)) rfl (by kernel_rfl) (by kernel_rfl) (by kernel_rfl) rfl (gives_pure fun _ => by kernel_rfl) ?_
  refine one_take 12 (.agg #[.int .i64 v.place, strV v.digest]) rfl (by kernel_rfl) (by kernel_rfl) (by kernel_rfl) rfl (gives_read fun w hw => run_load_row _ _ 67 _ b 8 [.int .i64 v.place, strV v.digest] rfl (by kernel_rfl) _ Tryz.underlying67 rfl (by kernel_rfl) w (HR.out w hw).2.2) ?_
  refine one_take 13 (strV T) rfl (by kernel_rfl) (by kernel_rfl) (by kernel_rfl) rfl (gives_call (97) (#[.agg #[.pointer (some ⟨bt, 0, none⟩), v.pv], .string ⟨v.salt.toArray⟩, .int .i64 n, .agg #[.int .i64 v.place, .string ⟨v.digest.toArray⟩]]) (fun _ => by kernel_rfl) fun w hw => (HST.out w hw).mono fun e w2 h => ⟨h.1, hw.trans (h.2.mono hw.size)⟩) ?_
  refine one_take 14 (strV T) rfl (by kernel_rfl) (by kernel_rfl) (by kernel_rfl) rfl (gives_pure fun _ => by kernel_rfl) ?_
  refine OneWalk.done (by kernel_rfl) fun w1 hw1 => ?_
  have h1 := HH.out.later hw1
  have c01 := h1.vault.c0
  have HW := hide (write_disk x m wv (n % 2) T w1 h1.disk (by have := HP.out.2.2; omega) HP.out.2.1)
  have HS1 := hide h1
  clear h1 HR HST HH
  go_wp2_with fail
  have e2 : (n : Int) % 2 = ((n % 2 : Nat) : Int) := by simp
  rw [e2]
  refine HW.out.mono ?_
  rintro e w2 ⟨rfl, hp2, wv2, hd2, hl2⟩
  have h2 := HS1.out.ofDisk hp2 hd2 hl2
  have HST := hide (settle_any x b _ v wv2 w2 h2 (by exact HP.out.1))
  clear hd2 h2 e2 HW c01
  go_wp2_with fail
  refine HST.out.mono ?_
  rintro e w3 ⟨rfl, h3, hp3⟩
  have c5 := h3.vault.c5
  have f5 := h3.vault.fr 5
  have hv3 := h3.vault.set5 n
  have h4 := h3.ofVault ((Kp.refl [b] w3).setCell b 5 (.int .i64 n) (.inl (by simp))) hv3
  have hz1 := hw1.size
  have hz2 := hp2.size
  have hp12 : Kp (Sys.set x b wv) w w2 := (Kp.of_below hw1).trans (hp2.mono (fun k => set_sub))
  have hl12 : Later wv wv2 w.heap.size := fun j hj => (hl2 j hj).imp id (fun g => Nat.le_trans hz1 g)
  have hp13 : Kp (Sys.set x b wv) w w3 := hp12.step hp3 (fun k hk => hl12.sub (b := b) (set_sub hk))
  have hp14 : Kp (Sys.set x b wv) w (w3.setCell ⟨b, 5, none⟩ (.int .i64 n)) := hp13.setCell b 5 _ (.inl (by simp [Sys.set]))
  have HFIN := hide (And.intro h4 (And.intro hp14 hl12))
  clear h3 h4 hv3 hp3 hp12 hl12 hp13 hp14 hl2 hp2 hw1 HST HS1
  go_wp2_with fail
  go_ret
  exact ⟨rfl, wv2, HFIN.out.1, HFIN.out.2.1, HFIN.out.2.2⟩
theorem DM.settle_count (m : DM) : m.settle.count = m.count + 1 := rfl
theorem DM.advance_count (m : DM) (n : Nat) (t : List UInt8) : (m.advance n t).count = m.count + 1 := rfl
theorem DM.advance_ceiling (m : DM) (n : Nat) (t : List UInt8) : (m.advance n t).ceiling = m.ceiling := rfl
theorem DM.advance_wrote (m : DM) (n : Nat) (t : List UInt8) : (m.advance n t).wrote = m.wrote ++ [(n % 2, t)] := rfl
/-- BEGINNING, a slot of the counter's own version being there. -/
def DM.begin (m : DM) (tk salt : List UInt8) (place : Nat) (digest : List UInt8) : DM :=
  (m.advance (m.count + 1) (slotL tk salt (m.count + 1) place digest)).advance (m.count + 2) (slotL tk salt (m.count + 2) place digest)
set_option maxRecDepth 100000 in
set_option maxHeartbeats 1000000 in
theorem begin_any (x : DX) (b bt : Nat) (tk : List UInt8) (m : DM) (v : VM) (wv : Value) (w : World) (h : Sys w x b m v wv) (hc : m.count + 2 ≤ m.ceiling) (htv : v.tv = .pointer (some ⟨bt, 0, none⟩)) (hm : MacFor w bt tk) (hbt : Apart w x b wv bt) (hs : v.salt.length = 16) (hp : v.place < 9223372036854775808) (hl : m.wrote.length < 99000) :
    Calls Tryz.prog 31 #[.pointer (some ⟨b, 0, none⟩), .int .i64 m.count, .int .i64 m.count] w fun e w' => e = .returned (.int .i64 0) ∧ ∃ wv', Sys w' x b (m.begin tk v.salt v.place v.digest) { v with version := m.count + 2, session := m.count + 2, opened := true } wv' ∧ Kp (Sys.set x b wv) w w' ∧ Later wv wv' w.heap.size := by
  have hcl := h.disk.cl
  have HA := hide (advance_any x b bt tk m v wv (m.count + 1) w h (by omega) htv hm hs (by omega) hp (by omega))
  have hci : (m.count : Int) ≤ 1048576 := by omega
  have HP := hide (And.intro hc (And.intro hcl hl))
  have HM := hide (And.intro hm hbt)
  have HBG := hide (show m.begin tk v.salt v.place v.digest = (m.advance (m.count + 1) (slotL tk v.salt (m.count + 1) v.place v.digest)).advance (m.count + 2) (slotL tk v.salt (m.count + 2) v.place v.digest) from rfl)
  obtain ⟨c, hcc⟩ : ∃ c, m.count = c := ⟨_, rfl⟩
  rw [hcc] at hci HA HP HBG ⊢
  have HCC := hide hcc
  clear h hc hm hbt hl hcl hcc
  go_enter Tryz.func31, Tryz.ntmps31
  go_wp2_with fail
  have e1 : (c : Int) + 1 = ((c + 1 : Nat) : Int) := by omega
  rw [e1]
  refine HA.out.mono ?_
  rintro e w1 ⟨rfl, wv1, h1, hp1, hl1⟩
  have hb1 := HM.out.2.step hl1 hp1.size
  have hm1 := HM.out.1.of_block (HM.out.2.block hp1)
  have HA1 := hide (advance_any x b bt tk _ _ wv1 (c + 2) w1 h1 (by rw [DM.advance_count, DM.advance_ceiling, HCC.out]; have := HP.out.1; omega) htv hm1 hs (by have := HP.out; omega) hp (by rw [DM.advance_wrote]; simp; have := HP.out; omega))
  clear h1 HA e1
  go_wp2_with fail
  have e2 : (c : Int) + 2 = ((c + 2 : Nat) : Int) := by omega
  rw [e2]
  refine HA1.out.mono ?_
  rintro e w2 ⟨rfl, wv2, h2, hp2, hl2⟩
  clear HA1 e2
  have hp12 : Kp (Sys.set x b wv) w w2 := hp1.step hp2 (fun k hk => hl1.sub hk)
  have hl12 := hl1.trans hl2 hp1.size
  have c6 := h2.vault.c6
  have f6 := h2.vault.fr 6
  have h3 := h2.ofVault ((Kp.refl [b] w2).setCell b 6 (.int .i64 (c + 2 : Nat)) (.inl (by simp))) (h2.vault.set6 (c + 2))
  have c1 := h3.vault.c1
  have f1 := h3.vault.fr 1
  have h4 := h3.ofVault ((Kp.refl [b] _).setCell b 1 (.bool true) (.inl (by simp))) (h3.vault.set1 true)
  have hp14 : Kp (Sys.set x b wv) w ((w2.setCell ⟨b, 6, none⟩ (.int .i64 (c + 2 : Nat))).setCell ⟨b, 1, none⟩ (.bool true)) := (hp12.setCell b 6 _ (.inl (by simp [Sys.set]))).setCell b 1 _ (.inl (by simp [Sys.set]))
  have HFIN := hide (And.intro h4 (And.intro hp14 hl12))
  have e3 : ((c + 2 : Nat) : Int) = (c : Int) + 2 := by omega
  rw [e3] at c1 f1
  clear h2 h3 h4 hp14 hp12 hl12 hp1 hp2 hl1 hl2 HM e3
  go_wp2_with fail
  go_ret
  exact ⟨rfl, wv2, by rw [HBG.out]; exact HFIN.out.1, HFIN.out.2.1, HFIN.out.2.2⟩
end Go.Proofs.YtjnhlkaafnaooabGreatDoor

namespace Go.Proofs.YtjnhlkaafnaooabGreatDoor
open Go.RowKit
set_option maxRecDepth 100000 in
set_option maxHeartbeats 1000000 in
theorem vcount_any (x : DX) (b : Nat) (m : DM) (v : VM) (wv : Value) (pass : List UInt8) (w : World) (h : Sys w x b m v wv) (ho : v.opened = false) (hp : pass.length ≤ 40) :
    Calls Tryz.prog 26 #[.pointer (some ⟨b, 0, none⟩), .string ⟨pass.toArray⟩] w fun e w' => e = .returned (.tuple #[.int .i64 m.count, .int .i64 0]) ∧ w' = w := by
  have c1 := h.vault.c1
  rw [ho] at c1
  have c0 := h.vault.c0
  have HC := hide (count_any x.d w m.count h.disk.c2 h.disk.c5)
  have hs : (ByteArray.mk pass.toArray).size = pass.length := rfl
  have hd : decide ((40 : Int) < (pass.length : Int)) = false := by simp; omega
  clear h ho hp
  generalize pass.length = n at *
  go_enter Tryz.func26, Tryz.ntmps26
  go_wp2_with fail
  refine HC.out.mono ?_
  rintro e w1 ⟨rfl, rfl⟩
  go_wp2_with fail
  go_ret2
  exact ⟨rfl, rfl⟩
def salt0 : List UInt8 := List.replicate 16 0
set_option maxRecDepth 100000 in
set_option maxHeartbeats 1000000 in
theorem format_any (x : DX) (b : Nat) (m : DM) (v : VM) (wv : Value) (pass : List UInt8) (w : World) (h : Sys w x b m v wv) (ho : v.opened = false) (hp : pass.length ≤ 40) (hc : m.count + 2 ≤ m.ceiling) (hpl : v.place < 9223372036854775808) (hl : m.wrote.length < 99000) :
    Calls Tryz.prog 11 #[.pointer (some ⟨b, 0, none⟩), .string ⟨pass.toArray⟩] w fun e w' => e = .returned (.int .i64 0) ∧ ∃ wv' bt bp, Sys w' x b (m.begin (tagsL pass salt0) salt0 v.place v.digest) { v with salt := salt0, tv := .pointer (some ⟨bt, 0, none⟩), pv := .pointer (some ⟨bp, 0, none⟩), version := m.count + 2, session := m.count + 2, opened := true } wv' ∧
      MacFor w' bt (tagsL pass salt0) ∧ KeyAt w' bp (keysL (pagesL pass salt0)) ∧ Apart w' x b wv' bt ∧ Apart w' x b wv' bp ∧ Kp (Sys.set x b wv) w w' ∧ Later wv wv' w.heap.size := by
  have c0 := h.vault.c0
  have hcl := h.disk.cl
  have hci : (m.count : Int) ≤ 1048576 := by omega
  have hd : decide ((m.ceiling : Int) < (m.count : Int) + 2) = false := by simp; omega
  have HV := hide (vcount_any x b m v wv pass w h ho hp)
  have HCE := hide (ceiling_any x.d w m.ceiling h.disk.c3)
  have HDR := hide (draw_any x m wv w h.disk)
  have HH := hide h
  have HP := hide (And.intro hc (And.intro hp (And.intro hpl hl)))
  have hsl : salt0.length = 16 := by simp [salt0]
  have HSL := hide hsl
  have hsd : List.replicate 16 0 = salt0 := rfl
  rw [hsd] at HDR
  clear h ho hc hp hpl hl hcl hsd hsl
  generalize hS0 : salt0 = S0 at *
  obtain ⟨c, hcc⟩ : ∃ c, m.count = c := ⟨_, rfl⟩
  rw [hcc] at hci hd HV HP ⊢
  have HCC := hide hcc
  clear hcc
  go_enter Tryz.func11, Tryz.ntmps11
  go_wp2_with fail
  refine HV.out.mono ?_
  rintro e w1 ⟨rfl, rfl⟩
  clear HV
  go_wp2_with fail
  refine HCE.out.mono ?_
  rintro e w1 ⟨rfl, rfl⟩
  clear HCE
  go_wp2_with fail
  refine HDR.out.mono ?_
  rintro e w2 ⟨rfl, hb2⟩
  have h2 := HH.out.later hb2
  have c2 := h2.vault.c2
  have f2 := h2.vault.fr 2
  have h3 := h2.ofVault ((Kp.refl [b] w2).setCell b 2 (strV S0) (.inl (by simp))) (h2.vault.set2 S0)
  have HK := hide (keysOf_any pass S0 _ h3.hk h3.h0 HP.out.2.1 HSL.out)
  have H3 := hide h3
  have hz2 := hb2.size
  have hp3 : Kp (Sys.set x b wv) w1 (w2.setCell ⟨b, 2, none⟩ (strV S0)) := (Kp.of_below hb2).setCell b 2 _ (.inl (by simp [Sys.set]))
  have HP3 := hide hp3
  clear HDR h2 h3 hb2 hp3 hd
  go_wp2_with fail
  refine HK.out.mono ?_
  rintro e w4 ⟨bt, bp, rfl, hm4, hk4, hbt, hbp, hb4⟩
  have h4 := H3.out.later hb4
  have c3 := h4.vault.c3
  have c4 := h4.vault.c4
  have f3 := h4.vault.fr 3
  have f4 := h4.vault.fr 4
  have h5 := h4.ofVault ((Kp.refl [b] w4).setCell b 3 (.pointer (some ⟨bt, 0, none⟩)) (.inl (by simp))) (h4.vault.set3 _)
  have h6 := h5.ofVault ((Kp.refl [b] _).setCell b 4 (.pointer (some ⟨bp, 0, none⟩)) (.inl (by simp))) (h5.vault.set4 _)
  clear HK c2 f2
  go_wp2_with fail
  have hz4 := hb4.size
  have hz3 : (w2.setCell ⟨b, 2, none⟩ (strV S0)).heap.size = w2.heap.size := by simp [World.setCell]
  have hb2 := H3.out.vault.lt
  rw [hz3] at hb2 hbt hz4
  have hp46 : Kp [b] w4 ((w4.setCell ⟨b, 3, none⟩ (.pointer (some ⟨bt, 0, none⟩))).setCell ⟨b, 4, none⟩ (.pointer (some ⟨bp, 0, none⟩))) := ((Kp.refl [b] w4).setCell b 3 _ (.inl (by simp))).setCell b 4 _ (.inl (by simp))
  have hm6 := hm4.of_block (hp46.block bt hm4.lt (by simp; omega))
  have hk6 := hk4.of_block (hp46.block bp hk4.lt (by simp; omega)) hp46.size
  have ha6 : Apart _ x b wv bt := H3.out.apart (by rw [hz3]; exact hbt) (Nat.lt_of_lt_of_le hm4.lt hp46.size)
  have ha6' : Apart _ x b wv bp := H3.out.apart (by rw [hz3]; omega) (Nat.lt_of_lt_of_le hk4.lt hp46.size)
  have hp06 : Kp (Sys.set x b wv) w1 ((w4.setCell ⟨b, 3, none⟩ (.pointer (some ⟨bt, 0, none⟩))).setCell ⟨b, 4, none⟩ (.pointer (some ⟨bp, 0, none⟩))) := (HP3.out.trans (Kp.of_below hb4)).trans (hp46.mono (fun k hk => by simp at hk; simp [Sys.set, hk]))
  have hbg := begin_any x b bt (tagsL pass S0) m _ wv _ h6 (by rw [HCC.out]; exact HP.out.1) rfl hm6 ha6 HSL.out HP.out.2.2.1 HP.out.2.2.2
  rw [HCC.out] at hbg
  refine hbg.mono ?_
  rintro e w7 ⟨rfl, wv7, h7, hp7, hl7⟩
  have hz6 := hp06.size
  have hl07 : Later wv wv7 w1.heap.size := fun j hj => (hl7 j hj).imp id (fun g => Nat.le_trans hz6 g)
  have hp07 := hp06.trans hp7
  have ha7 := ha6.step hl7 hp7.size
  have ha7' := ha6'.step hl7 hp7.size
  have hm7 := hm6.of_block (ha6.block hp7)
  have hk7 := hk6.of_block (ha6'.block hp7) hp7.size
  have HFIN := hide (And.intro h7 (And.intro hm7 (And.intro hk7 (And.intro ha7 (And.intro ha7' (And.intro hp07 hl07))))))
  clear h4 h5 h6 h7 hm4 hk4 hm6 hk6 ha6 ha6' hp06 hbg hp7 hl7 hl07 hp07 ha7 ha7' hm7 hk7 hp46 HP3 H3 hb4
  go_wp2_with fail
  go_ret
  exact ⟨rfl, wv7, bt, bp, HFIN.out⟩
end Go.Proofs.YtjnhlkaafnaooabGreatDoor
