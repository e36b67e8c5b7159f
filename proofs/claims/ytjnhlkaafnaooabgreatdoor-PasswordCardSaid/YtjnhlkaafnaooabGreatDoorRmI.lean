import Derived.Test.YtjnhlkaafnaooabGreatDoorRmH
namespace Go.Proofs.YtjnhlkaafnaooabGreatDoor
open Go.RowKit
/-- Blocks that are neither the vault's nor its disk's nor the tables'. -/
def Foreign (x : DX) (b : Nat) (wv : Value) (j : Nat) : Prop := j ∉ Sys.set x b wv ∧ j ≠ 1 ∧ j ≠ 0
theorem Sys.kp {w w' : World} {x : DX} {b : Nat} {m : DM} {v : VM} {wv : Value} {S : List Nat} (h : Sys w x b m v wv) (k : Kp S w w') (hs : ∀ j ∈ S, Foreign x b wv j) : Sys w' x b m v wv :=
  ⟨h.disk.kp k (fun j hj e => (hs j e).1 (set_sub hj)), h.vault.of_block (k.block b h.vault.lt (fun e => (hs b e).1 (by simp [Sys.set]))), k.cells h.hk (fun e => (hs _ e).2.1 rfl), k.cells h.h0 (fun e => (hs _ e).2.2 rfl), h.nb, h.nk, h.n0⟩
theorem Foreign.new {w : World} {x : DX} {b : Nat} {m : DM} {v : VM} {wv : Value} (h : Sys w x b m v wv) {j : Nat} (hj : w.heap.size ≤ j) : Foreign x b wv j :=
  ⟨fun e => by have := h.bound e; omega, by have := h.hk.lt; omega, by have := h.h0.lt; omega⟩
theorem run_neq_same (oi : Oper) (a : Act) (x y : Operand) (U : TypeId) (X : List UInt8) (ho : oi.op = .binOp .neq 9 x y U) (hx : a.eval x = .string ⟨X.toArray⟩) (hy : a.eval y = .string ⟨X.toArray⟩) (w : World) :
    (execOp a.eval oi).run Tryz.prog w = .ok (.value (.bool false)) w := by
  unfold execOp
  simp only [ho, hx, hy]
  clear hx hy ho
  go_simp
set_option maxRecDepth 100000 in
set_option maxHeartbeats 2000000 in
theorem look_leaf (x : DX) (b bp vb : Nat) (m : DM) (v : VM) (wv : Value) (rk d k s : List UInt8) (p lk : Nat) (w : World) (h : Sys w x b m v wv) (hpv : v.pv = .pointer (some ⟨bp, 0, none⟩)) (hk : KeyAt w bp rk)
    (hv0 : w.cell? ⟨vb, 0, none⟩ = some (.pointer (some ⟨b, 0, none⟩))) (hv1 : w.cell? ⟨vb, 1, none⟩ = some (.int .i64 lk)) (hvf : w.frozen? ⟨vb, 1, none⟩ = false) (hvb : Foreign x b wv vb) (hbp : bp ≠ vb) (hlk : lk < 48)
    (h2 : 2 ≤ p) (hp : p < m.blocks.length) (hbl : (m.look p).length = 256) (hd : shaL (m.look p) = d) (ho : openL rk (m.look p) p = some (leafOne k s)) (h1 : 1 ≤ k.length) (h8 : k.length ≤ 8) (h16 : s.length ≤ 16) :
    Calls Tryz.prog 100 #[.pointer (some ⟨vb, 0, none⟩), .agg #[.int .i64 p, .string ⟨d.toArray⟩]] w fun e w' => ∃ n be cap, e = .returned (.tuple #[.pointer (some ⟨n, 0, none⟩), .int .i64 0]) ∧ LeafAt w' n p d k s be cap ∧ w.heap.size ≤ n ∧ w.heap.size ≤ be ∧ Kp [vb] w w' ∧ w'.heap[vb]? = (w.setCell ⟨vb, 1, none⟩ (.int .i64 (lk + 1 : Nat))).heap[vb]? := by
  have hvl : vb < w.heap.size := by
    rcases Nat.lt_or_ge vb w.heap.size with g | g
    · exact g
    · simp [World.cell?, Array.getElem?_eq_none g] at hv0
  have hle := h.disk.le
  obtain ⟨w0, hw0⟩ : ∃ w0, w.alloc (.cells #[.int .i64 (p : Int), .string ⟨d.toArray⟩] 67) = w0 := ⟨_, rfl⟩
  have hb0 : Below w.heap.size w w0 := hw0 ▸ (Below.refl _ _).alloc (Nat.le_refl _) _
  have hz0 : w0.heap.size = w.heap.size + 1 := by rw [← hw0]; simp
  have q0 : w0.heap[w.heap.size]? = some (.cells #[.int .i64 (p : Int), .string ⟨d.toArray⟩] 67 (0, 0)) := hw0 ▸ heap_alloc_new w _
  have l0 : w0.cell? ⟨w.heap.size, 0, none⟩ = some (.int .i64 (p : Int)) := by rw [cell_of_row _ _ _ _ _ _ q0]; rfl
  have g0 : w0.cell? ⟨vb, 0, none⟩ = some (.pointer (some ⟨b, 0, none⟩)) := (hb0.cell (p := ⟨vb, 0, none⟩) hvl).trans hv0
  have g1 : w0.cell? ⟨vb, 1, none⟩ = some (.int .i64 lk) := (hb0.cell (p := ⟨vb, 1, none⟩) hvl).trans hv1
  have gf : w0.frozen? ⟨vb, 1, none⟩ = false := (hb0.frozen (p := ⟨vb, 1, none⟩) hvl).trans hvf
  have h0 := h.later hb0
  have c0 := h0.vault.c0
  have HS := hide (fun w' (hw : Below w0.heap.size w0 w') => And.intro ((hw.cell (p := ⟨w.heap.size, 0, none⟩) (by rw [hz0]; simp)).trans l0) (And.intro ((h0.later hw).vault.c0) (And.intro ((hw.cell (p := ⟨vb, 1, none⟩) (by rw [hz0]; show vb < _; omega)).trans g1) (blocks_any x.d x.bb x.cb m.blocks.length w' (h0.later hw).disk.c0))))
  have i1 : ¬ ((p : Int) < 2) := by omega
  have i2 : ¬ ((m.blocks.length : Int) ≤ (p : Int)) := by omega
  have i3 : ¬ ((48 : Int) ≤ (lk : Int)) := by omega
  have d1 : decide ((p : Int) < 2) = false := by simpa using i1
  have d2 : decide ((m.blocks.length : Int) ≤ (p : Int)) = false := by simpa using i2
  have d3 : decide ((48 : Int) ≤ (lk : Int)) = false := by simpa using i3
  have HH := hide (And.intro h (And.intro h0 q0))
  have HA := hide (And.intro hlk (And.intro h2 (And.intro hp (And.intro hle hvl))))
  clear h h0 q0 hlk h2 hp hle i1 i2 i3
  generalize hn : m.blocks.length = N at *
  go_enter Tryz.func100, Tryz.ntmps100
  go_wp2_with fail
  refine wp_region_one (fun w' => Below w0.heap.size w0 w') (by kernel_rfl) (by kernel_rfl) (Below.refl _ _).drew ?_
  refine one_take 0 (.pointer (some ⟨w.heap.size, 0, none⟩)) rfl (by kernel_rfl) (by kernel_rfl) (by kernel_rfl) rfl (gives_pure fun _ => by kernel_rfl) ?_
  refine one_take 1 (.int .i64 p) rfl (by kernel_rfl) (by kernel_rfl) (by kernel_rfl) rfl (gives_read fun w hw => run_load_int _ _ _ _ _ _ rfl (by kernel_rfl) w ((HS.out w hw).1)) ?_
  refine one_take 2 (.bool false) rfl (by kernel_rfl) (by kernel_rfl) (by kernel_rfl) rfl (gives_pure fun w => run_lss _ _ _ _ _ (p) (2) false rfl (by kernel_rfl) (by kernel_rfl) (d1) w) ?_
  refine one_take 3 (.bool false) rfl (by kernel_rfl) (by kernel_rfl) (by kernel_rfl) rfl (gives_pure fun _ => by kernel_rfl) ?_
  refine one_take 4 (.pointer (some ⟨w.heap.size, 0, none⟩)) rfl (by kernel_rfl) (by kernel_rfl) (by kernel_rfl) rfl (gives_pure fun _ => by kernel_rfl) ?_
  refine one_take 5 (.int .i64 p) rfl (by kernel_rfl) (by kernel_rfl) (by kernel_rfl) rfl (gives_read fun w hw => run_load_int _ _ _ _ _ _ rfl (by kernel_rfl) w ((HS.out w hw).1)) ?_
  refine one_take 6 (.pointer (some ⟨b, 0, none⟩)) rfl (by kernel_rfl) (by kernel_rfl) (by kernel_rfl) rfl (gives_pure fun _ => by kernel_rfl) ?_
  refine one_take 7 (.pointer (some ⟨b, 0, none⟩)) rfl (by kernel_rfl) (by kernel_rfl) (by kernel_rfl) rfl (gives_pure fun _ => by kernel_rfl) ?_
  refine one_take 8 (.pointer (some ⟨b, 0, none⟩)) rfl (by kernel_rfl) (by kernel_rfl) (by kernel_rfl) rfl (gives_pure fun _ => by kernel_rfl) ?_
  refine one_take 9 (.pointer (some ⟨x.d, 0, none⟩)) rfl (by kernel_rfl) (by kernel_rfl) (by kernel_rfl) rfl (gives_read fun w hw => run_load_disk _ _ _ _ _ _ rfl (by kernel_rfl) w ((HS.out w hw).2.1)) ?_
  refine one_take 10 (.int .i64 N) rfl (by kernel_rfl) (by kernel_rfl) (by kernel_rfl) rfl (gives_call (85) (#[.pointer (some ⟨x.d, 0, none⟩)]) (fun _ => by kernel_rfl) fun w hw => ((HS.out w hw).2.2.2).mono fun e w2 h => ⟨h.1, h.2 ▸ hw⟩) ?_
  refine one_take 11 (.bool false) rfl (by kernel_rfl) (by kernel_rfl) (by kernel_rfl) rfl (gives_pure fun w => run_geq _ _ _ _ _ (p) (N) false rfl (by kernel_rfl) (by kernel_rfl) (d2) w) ?_
  refine one_take 12 (.bool false) rfl (by kernel_rfl) (by kernel_rfl) (by kernel_rfl) rfl (gives_pure fun _ => by kernel_rfl) ?_
  refine one_take 13 (.bool false) rfl (by kernel_rfl) (by kernel_rfl) (by kernel_rfl) rfl (gives_pure fun _ => by kernel_rfl) ?_
  refine one_take 14 (.pointer (some ⟨vb, 0, none⟩)) rfl (by kernel_rfl) (by kernel_rfl) (by kernel_rfl) rfl (gives_pure fun _ => by kernel_rfl) ?_
  refine one_take 15 (.pointer (some ⟨vb, 0, none⟩)) rfl (by kernel_rfl) (by kernel_rfl) (by kernel_rfl) rfl (gives_pure fun _ => by kernel_rfl) ?_
  refine one_take 16 (.pointer (some ⟨vb, 1, none⟩)) rfl (by kernel_rfl) (by kernel_rfl) (by kernel_rfl) rfl (gives_pure fun _ => by kernel_rfl) ?_
  refine one_take 17 (.int .i64 lk) rfl (by kernel_rfl) (by kernel_rfl) (by kernel_rfl) rfl (gives_read fun w hw => run_load_int _ _ _ _ _ _ rfl (by kernel_rfl) w ((HS.out w hw).2.2.1)) ?_
  refine one_take 18 (.bool false) rfl (by kernel_rfl) (by kernel_rfl) (by kernel_rfl) rfl (gives_pure fun w => run_geq _ _ _ _ _ (lk) (48) false rfl (by kernel_rfl) (by kernel_rfl) (d3) w) ?_
  refine one_take 19 (.bool false) rfl (by kernel_rfl) (by kernel_rfl) (by kernel_rfl) rfl (gives_pure fun _ => by kernel_rfl) ?_
  refine OneWalk.done (by kernel_rfl) fun w1 hw1 => ?_
  have hw1v := hw1.cell (p := ⟨vb, 1, none⟩) (by rw [hz0]; show vb < _; omega)
  have gv1 : w1.cell? ⟨vb, 1, none⟩ = some (.int .i64 lk) := hw1v.trans g1
  have gvf : w1.frozen? ⟨vb, 1, none⟩ = false := (hw1.frozen (p := ⟨vb, 1, none⟩) (by rw [hz0]; show vb < _; omega)).trans gf
  obtain ⟨w2, hw2⟩ : ∃ w2, w1.setCell ⟨vb, 1, none⟩ (.int .i64 (lk + 1 : Nat)) = w2 := ⟨_, rfl⟩
  have hb01 : Below w.heap.size w w1 := hb0.trans (hw1.mono hb0.size)
  have k2 : Kp [vb] w w2 := hw2 ▸ (Kp.of_below hb01).setCell vb 1 _ (.inl (by simp))
  have hz2 : w2.heap.size = w1.heap.size := by rw [← hw2]; simp [World.setCell]
  have hz1 := hw1.size
  have s2 : Sys w2 x b m v wv := HH.out.1.kp k2 (fun j hj => by simp at hj; subst hj; exact hvb)
  have q2 : w2.heap[w.heap.size]? = some (.cells #[.int .i64 (p : Int), .string ⟨d.toArray⟩] 67 (0, 0)) := by
    rw [← hw2]
    exact set_far ((hw1.block w.heap.size (by rw [hz0]; omega)).trans HH.out.2.2) _ _ (by show w.heap.size ≠ vb; omega)
  have v2 : w2.heap[vb]? = (w.setCell ⟨vb, 1, none⟩ (.int .i64 (lk + 1 : Nat))).heap[vb]? := by
    have e := hb01.block vb hvl
    rw [← hw2]
    simp only [World.setCell, Array.getElem?_modify, if_true]
    rw [e]
  have hkey2 := hk.of_block (k2.block bp hk.lt (by simpa using hbp)) k2.size
  have HS2 := hide (fun w' (hw : Below w2.heap.size w2 w') => And.intro ((hw.cell (p := ⟨w.heap.size, 0, none⟩) (by rw [hz2]; show w.heap.size < _; omega)).trans (by rw [cell_of_row _ _ _ _ _ _ q2]; rfl : w2.cell? ⟨w.heap.size, 0, none⟩ = some (.int .i64 (p : Int)))) (And.intro ((hw.cell (p := ⟨w.heap.size, 1, none⟩) (by rw [hz2]; show w.heap.size < _; omega)).trans (by rw [cell_of_row _ _ _ _ _ _ q2]; rfl : w2.cell? ⟨w.heap.size, 1, none⟩ = some (.string ⟨d.toArray⟩))) (And.intro (s2.later hw) (hkey2.below hw hkey2.lt))))
  have HRD := hide (fun w' (hw : Below w2.heap.size w2 w') => read_any x m wv p w' (s2.later hw).disk (by rw [hn]; exact HA.out.2.2.1))
  have HOF := hide (fun w' (hw : Below w2.heap.size w2 w') => of_any ⟨(m.look p).toArray⟩ w' (s2.later hw).hk (s2.later hw).h0 (by show (m.look p).length ≤ _; omega))
  have hdl : shaL (ByteArray.mk (m.look p).toArray).data.toList = d := by simpa using hd
  rw [hdl] at HOF
  have hop := fun w' (hw : Below w2.heap.size w2 w') => openPage_any bp v.tv rk (m.look p) p w' (hkey2.below hw hkey2.lt) (by have := HA.out; omega) hbl
  rw [ho] at hop
  have HOP := hide hop
  have HNO := hide (fun w => nodeOf_one k s w h1 h8 h16)
  obtain ⟨B, hB⟩ : ∃ B, m.look p = B := ⟨_, rfl⟩
  obtain ⟨T, hT⟩ : ∃ T, leafOne k s = T := ⟨_, rfl⟩
  rw [hB] at HRD HOF HOP
  rw [hT] at HOP HNO
  have HE := hide (And.intro k2 v2)
  have HZ := hide (And.intro hz2 (And.intro hz1 hz0))
  have hlki : (lk : Int) < 48 := by have := HA.out.1; omega
  clear HS hw1v k2 s2 q2 v2 hkey2 d1 d2 d3 g0 g1 gf l0 c0 hw0 hb01 hw1 HH hdl hop hB hT hd hbl ho h1 h8 h16
  have hw2' : w1.setCell ⟨vb, 1, none⟩ (.int .i64 ((lk : Int) + 1)) = w2 := hw2
  clear hw2
  simp only [Act.put, List.setIfInBounds_toArray, List.set_cons_succ, List.set_cons_zero]
  go_wp2_with fail
  refine wp_region_one (fun w' => Below w2.heap.size w2 w') (by kernel_rfl) (by kernel_rfl) (Below.refl _ _).drew ?_
  refine one_take 0 (.pointer (some ⟨b, 0, none⟩)) rfl (by kernel_rfl) (by kernel_rfl) (by kernel_rfl) rfl (gives_pure fun _ => by kernel_rfl) ?_
  refine one_take 1 (.pointer (some ⟨b, 0, none⟩)) rfl (by kernel_rfl) (by kernel_rfl) (by kernel_rfl) rfl (gives_pure fun _ => by kernel_rfl) ?_
  refine one_take 2 (.pointer (some ⟨b, 0, none⟩)) rfl (by kernel_rfl) (by kernel_rfl) (by kernel_rfl) rfl (gives_pure fun _ => by kernel_rfl) ?_
  refine one_take 3 (.pointer (some ⟨x.d, 0, none⟩)) rfl (by kernel_rfl) (by kernel_rfl) (by kernel_rfl) rfl (gives_read fun w hw => run_load_disk _ _ _ _ _ _ rfl (by kernel_rfl) w ((HS2.out w hw).2.2.1.vault.c0)) ?_
  refine one_take 4 (.pointer (some ⟨w.heap.size, 0, none⟩)) rfl (by kernel_rfl) (by kernel_rfl) (by kernel_rfl) rfl (gives_pure fun _ => by kernel_rfl) ?_
  refine one_take 5 (.int .i64 p) rfl (by kernel_rfl) (by kernel_rfl) (by kernel_rfl) rfl (gives_read fun w hw => run_load_int _ _ _ _ _ _ rfl (by kernel_rfl) w ((HS2.out w hw).1)) ?_
  refine one_take 6 (.tuple #[strV B, .bool true]) rfl (by kernel_rfl) (by kernel_rfl) (by kernel_rfl) rfl (gives_call (67) (#[.pointer (some ⟨x.d, 0, none⟩), .int .i64 p]) (fun _ => by kernel_rfl) fun w hw => (HRD.out w hw).mono fun e w2 h => ⟨h.1, h.2 ▸ hw⟩) ?_
  refine one_take 7 (.tuple #[strV B, .bool true]) rfl (by kernel_rfl) (by kernel_rfl) (by kernel_rfl) rfl (gives_pure fun _ => by kernel_rfl) ?_
  refine one_take 8 (strV B) rfl (by kernel_rfl) (by kernel_rfl) (by kernel_rfl) rfl (gives_pure fun _ => by kernel_rfl) ?_
  refine one_take 9 (.bool true) rfl (by kernel_rfl) (by kernel_rfl) (by kernel_rfl) rfl (gives_pure fun _ => by kernel_rfl) ?_
  refine one_take 10 (strV B) rfl (by kernel_rfl) (by kernel_rfl) (by kernel_rfl) rfl (gives_pure fun _ => by kernel_rfl) ?_
  refine one_take 11 (.bool true) rfl (by kernel_rfl) (by kernel_rfl) (by kernel_rfl) rfl (gives_pure fun _ => by kernel_rfl) ?_
  refine OneWalk.done (by kernel_rfl) fun w3 hw3 => ?_
  simp only [Act.put, List.setIfInBounds_toArray, List.set_cons_succ, List.set_cons_zero]
  go_wp2_with fail
  refine wp_region_one (fun w' => Below w2.heap.size w2 w') (by kernel_rfl) (by kernel_rfl) hw3.drew ?_
  refine one_take 0 (strV B) rfl (by kernel_rfl) (by kernel_rfl) (by kernel_rfl) rfl (gives_pure fun _ => by kernel_rfl) ?_
  refine one_take 1 (strV d) rfl (by kernel_rfl) (by kernel_rfl) (by kernel_rfl) rfl (gives_call (40) (#[.string ⟨B.toArray⟩]) (fun _ => by kernel_rfl) fun w hw => (HOF.out w hw).mono fun e w2 h => ⟨h.1, hw.trans (h.2.mono hw.size)⟩) ?_
  refine one_take 2 (.pointer (some ⟨w.heap.size, 1, none⟩)) rfl (by kernel_rfl) (by kernel_rfl) (by kernel_rfl) rfl (gives_pure fun _ => by kernel_rfl) ?_
  refine one_take 3 (strV d) rfl (by kernel_rfl) (by kernel_rfl) (by kernel_rfl) rfl (gives_read fun w hw => run_load_str _ _ _ _ _ _ rfl (by kernel_rfl) w ((HS2.out w hw).2.1)) ?_
  refine one_take 4 (.bool false) rfl (by kernel_rfl) (by kernel_rfl) (by kernel_rfl) rfl (gives_pure fun w => run_neq_same _ _ _ _ _ d rfl (by kernel_rfl) (by kernel_rfl) w) ?_
  refine OneWalk.done (by kernel_rfl) fun w4 hw4 => ?_
  simp only [Act.put, List.setIfInBounds_toArray, List.set_cons_succ, List.set_cons_zero]
  go_wp2_with fail
  refine wp_region_one (fun w' => Below w2.heap.size w2 w') (by kernel_rfl) (by kernel_rfl) hw4.drew ?_
  refine one_take 0 (.pointer (some ⟨b, 0, none⟩)) rfl (by kernel_rfl) (by kernel_rfl) (by kernel_rfl) rfl (gives_pure fun _ => by kernel_rfl) ?_
  refine one_take 1 (.pointer (some ⟨b, 0, none⟩)) rfl (by kernel_rfl) (by kernel_rfl) (by kernel_rfl) rfl (gives_pure fun _ => by kernel_rfl) ?_
  refine one_take 2 (.pointer (some ⟨b, 3, none⟩)) rfl (by kernel_rfl) (by kernel_rfl) (by kernel_rfl) rfl (gives_pure fun _ => by kernel_rfl) ?_
  refine one_take 3 (.agg #[v.tv, .pointer (some ⟨bp, 0, none⟩)]) rfl (by kernel_rfl) (by kernel_rfl) (by kernel_rfl) rfl (gives_read fun w hw => run_load_row _ _ 65 _ b 3 [v.tv, .pointer (some ⟨bp, 0, none⟩)] rfl (by kernel_rfl) _ Tryz.underlying65 rfl (by kernel_rfl) w (range2 (HS2.out w hw).2.2.1.vault.c3 (by rw [(HS2.out w hw).2.2.1.vault.c4, hpv]))) ?_
  refine one_take 4 (strV B) rfl (by kernel_rfl) (by kernel_rfl) (by kernel_rfl) rfl (gives_pure fun _ => by kernel_rfl) ?_
  refine one_take 5 (.pointer (some ⟨w.heap.size, 0, none⟩)) rfl (by kernel_rfl) (by kernel_rfl) (by kernel_rfl) rfl (gives_pure fun _ => by kernel_rfl) ?_
  refine one_take 6 (.int .i64 p) rfl (by kernel_rfl) (by kernel_rfl) (by kernel_rfl) rfl (gives_read fun w hw => run_load_int _ _ _ _ _ _ rfl (by kernel_rfl) w ((HS2.out w hw).1)) ?_
  refine one_take 7 (.tuple #[strV T, .bool true]) rfl (by kernel_rfl) (by kernel_rfl) (by kernel_rfl) rfl (gives_call (125) (#[.agg #[v.tv, .pointer (some ⟨bp, 0, none⟩)], .string ⟨B.toArray⟩, .int .i64 p]) (fun _ => by kernel_rfl) fun w hw => (HOP.out w hw).mono fun e w2 h => ⟨h.1, hw.trans (h.2.mono hw.size)⟩) ?_
  refine one_take 8 (.tuple #[strV T, .bool true]) rfl (by kernel_rfl) (by kernel_rfl) (by kernel_rfl) rfl (gives_pure fun _ => by kernel_rfl) ?_
  refine one_take 9 (strV T) rfl (by kernel_rfl) (by kernel_rfl) (by kernel_rfl) rfl (gives_pure fun _ => by kernel_rfl) ?_
  refine one_take 10 (.bool true) rfl (by kernel_rfl) (by kernel_rfl) (by kernel_rfl) rfl (gives_pure fun _ => by kernel_rfl) ?_
  refine one_take 11 (strV T) rfl (by kernel_rfl) (by kernel_rfl) (by kernel_rfl) rfl (gives_pure fun _ => by kernel_rfl) ?_
  refine one_take 12 (.bool true) rfl (by kernel_rfl) (by kernel_rfl) (by kernel_rfl) rfl (gives_pure fun _ => by kernel_rfl) ?_
  refine OneWalk.done (by kernel_rfl) fun w5 hw5 => ?_
  simp only [Act.put, List.setIfInBounds_toArray, List.set_cons_succ, List.set_cons_zero]
  go_wp2_with fail
  refine (HNO.out w5).mono ?_
  rintro e w6 ⟨n, be, cap, rfl, hl6, hn6, hbe6, hb6⟩
  have hw6 := hw5.trans (hb6.mono hw5.size)
  have m0 := (HS2.out w6 hw6).1
  have m1 := (HS2.out w6 hw6).2.1
  have c1 := hl6.node.c1
  have c2 := hl6.node.c2
  have f1 := hl6.node.fr 1
  have f2 := hl6.node.fr 2
  have hz5 := hw5.size
  have hzz := HZ.out
  have hl7 := (hl6.node.set1 p).set2 d
  have kk : Kp [n] w6 ((w6.setCell ⟨n, 1, none⟩ (.int .i64 p)).setCell ⟨n, 2, none⟩ (strV d)) := ((Kp.refl [n] w6).setCell n 1 _ (.inl (by simp))).setCell n 2 _ (.inl (by simp))
  have hvl := HA.out.2.2.2.2
  have ho7 := owns_kp hl6.own kk (fun j hj => by
    have : be = j := by simpa [Value.ownBlock] using hj
    have := hl6.ne
    simp; omega)
  have kv : Kp [vb] w ((w6.setCell ⟨n, 1, none⟩ (.int .i64 p)).setCell ⟨n, 2, none⟩ (strV d)) := ((HE.out.1.trans (Kp.of_below hw6)).setCell n 1 _ (.inr (by omega))).setCell n 2 _ (.inr (by omega))
  have vv : ((w6.setCell ⟨n, 1, none⟩ (.int .i64 p)).setCell ⟨n, 2, none⟩ (strV d)).heap[vb]? = _ := (kk.block vb (by have := hw6.size; omega) (by simp; omega)).trans ((hw6.block vb (by omega)).trans HE.out.2)
  have HF := hide (And.intro hl7 (And.intro ho7 (And.intro hl6.ne (And.intro kv vv))))
  clear hl6 hl7 kk ho7 kv vv hb6 hw6 hw5 hw4 hw3
  go_wp2_with fail
  go_ret2
  exact ⟨n, be, cap, rfl, ⟨HF.out.1, HF.out.2.1, HF.out.2.2.1⟩, by omega, by omega, HF.out.2.2.2.1, HF.out.2.2.2.2⟩
end Go.Proofs.YtjnhlkaafnaooabGreatDoor

namespace Go.Proofs.YtjnhlkaafnaooabGreatDoor
open Go.RowKit
set_option maxRecDepth 100000 in
set_option maxHeartbeats 1000000 in
theorem root_none (x : DX) (b vb : Nat) (m : DM) (v : VM) (wv : Value) (w : World) (h : Sys w x b m v wv) (hp : v.place = 0)
    (hv0 : w.cell? ⟨vb, 0, none⟩ = some (.pointer (some ⟨b, 0, none⟩))) :
    Calls Tryz.prog 59 #[.pointer (some ⟨vb, 0, none⟩)] w fun e w' => e = .returned (.tuple #[.pointer none, .int .i64 0]) ∧ w' = w := by
  have c8 := h.vault.c8
  rw [hp] at c8
  clear h hp
  go_enter Tryz.func59, Tryz.ntmps59
  go_wp2_with fail
  go_ret2
  exact ⟨rfl, rfl⟩
set_option maxRecDepth 100000 in
set_option maxHeartbeats 1000000 in
theorem root_leaf (x : DX) (b bp vb : Nat) (m : DM) (v : VM) (wv : Value) (rk k s : List UInt8) (lk : Nat) (w : World) (h : Sys w x b m v wv) (hpv : v.pv = .pointer (some ⟨bp, 0, none⟩)) (hk : KeyAt w bp rk)
    (hv0 : w.cell? ⟨vb, 0, none⟩ = some (.pointer (some ⟨b, 0, none⟩))) (hv1 : w.cell? ⟨vb, 1, none⟩ = some (.int .i64 lk)) (hvf : w.frozen? ⟨vb, 1, none⟩ = false) (hvb : Foreign x b wv vb) (hbp : bp ≠ vb) (hlk : lk < 48)
    (h2 : 2 ≤ v.place) (hp : v.place < m.blocks.length) (hbl : (m.look v.place).length = 256) (hd : shaL (m.look v.place) = v.digest) (ho : openL rk (m.look v.place) v.place = some (leafOne k s)) (h1 : 1 ≤ k.length) (h8 : k.length ≤ 8) (h16 : s.length ≤ 16) :
    Calls Tryz.prog 59 #[.pointer (some ⟨vb, 0, none⟩)] w fun e w' => ∃ n be cap, e = .returned (.tuple #[.pointer (some ⟨n, 0, none⟩), .int .i64 0]) ∧ LeafAt w' n v.place v.digest k s be cap ∧ w.heap.size ≤ n ∧ w.heap.size ≤ be ∧ Kp [vb] w w' ∧ w'.heap[vb]? = (w.setCell ⟨vb, 1, none⟩ (.int .i64 (lk + 1 : Nat))).heap[vb]? := by
  have c8 := h.vault.c8
  have c9 := h.vault.c9
  have HL := hide (look_leaf x b bp vb m v wv rk v.digest k s v.place lk w h hpv hk hv0 hv1 hvf hvb hbp hlk h2 hp hbl hd ho h1 h8 h16)
  have hne : ((v.place : Int) == 0) = false := by rw [beq_eq_false_iff_ne]; omega
  have hne2 : ¬ (v.place = 0) := by omega
  clear h hpv hk hv1 hvf hvb hlk h2 hp hbl hd ho h1 h8 h16
  generalize v.place = p at *
  generalize v.digest = d at *
  go_enter Tryz.func59, Tryz.ntmps59
  go_wp2_with fail
  refine HL.out.mono ?_
  rintro e w1 ⟨n, be, cap, rfl, hr⟩
  have HR := hide hr
  clear hr HL
  go_wp2_with fail
  go_ret2
  exact ⟨n, be, cap, rfl, HR.out⟩
end Go.Proofs.YtjnhlkaafnaooabGreatDoor
