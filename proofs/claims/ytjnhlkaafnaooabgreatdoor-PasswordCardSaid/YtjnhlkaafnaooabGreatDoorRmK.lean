import Derived.Test.YtjnhlkaafnaooabGreatDoorRmJ
namespace Go.Proofs.YtjnhlkaafnaooabGreatDoor
open Go.RowKit
/-- The free places below q. -/
def freeTo (used : List Bool) (q : Nat) : List Nat := (List.range q).filter (fun p => decide (2 ≤ p) && !used.getD p false)
theorem freeTo_succ (used : List Bool) (q : Nat) : freeTo used (q + 1) = freeTo used q ++ (if (decide (2 ≤ q) && !used.getD q false) = true then [q] else []) := by
  unfold freeTo
  rw [List.range_succ, List.filter_append]
  congr 1
  by_cases h : (decide (2 ≤ q) && !used.getD q false) = true
  · rw [if_pos h]; simp only [List.filter_cons, h, if_true, List.filter_nil]
  · rw [if_neg h]; simp only [List.filter_cons, h, List.filter_nil]; rfl
theorem freeTo_two (used : List Bool) : freeTo used 2 = [] := rfl
theorem freeTo_len (used : List Bool) (q : Nat) : (freeTo used q).length ≤ q := by
  have := List.length_filter_le (fun p => decide (2 ≤ p) && !used.getD p false) (List.range q)
  simpa [freeTo] using this
set_option maxRecDepth 100000 in
set_option maxHeartbeats 1000000 in
theorem free_any (x : DX) (b : Nat) (m : DM) (v : VM) (wv : Value) (w : World) (h : Sys w x b m v wv) :
    Calls Tryz.prog 104 #[.pointer (some ⟨b, 0, none⟩)] w fun e w' => ∃ fv, e = .returned fv ∧ w'.ownsRow w.heap.size 3 1 fv (freeTo v.used m.blocks.length).length (vals .i64 (freeTo v.used m.blocks.length)) ∧ Below w.heap.size w w' := by
  obtain ⟨i0, hi, hz0, hz1, hz2⟩ := info_parts info_int
  have hge := h.disk.ge
  have hle := h.disk.le
  have HH := hide h
  clear h
  generalize hn : m.blocks.length = n at *
  go_enter Tryz.func104, Tryz.ntmps104
  go_wp2_with fail
  go_loopw [3, 4] (fun l p wr => ∃ (q : Nat) (ao : Option Addr) (ln cap : Nat), 2 ≤ q ∧ q ≤ n ∧ p = .int .i64 (q : Int) ∧ l = .slice ao ln cap ∧ ln = (freeTo v.used q).length ∧ wr.ownsRow w.heap.size 3 1 (.slice ao ln cap) ln (vals .i64 (freeTo v.used q)) ∧ Below w.heap.size w wr) (fun _ p _ => n - (intOf p).toNat)
  case atStart => exact ⟨2, none, 0, 0, by omega, by omega, rfl, rfl, rfl, World.ownsRow_nil _ _ _ _, Below.refl _ _⟩
  case round =>
    obtain ⟨q, ao, ln, cap, hq2, hqn, rfl, rfl, hln, hown, hbel⟩ := hrel
    have HLN := hide hln
    have hlen0 : ln ≤ q := by rw [hln]; exact freeTo_len _ _
    clear hln
    have hs := HH.out.later hbel
    have c0 := hs.vault.c0
    have HB := hide (blocks_any x.d x.bb x.cb m.blocks.length wr hs.disk.c0)
    rw [hn] at HB
    have hszr := hbel.size
    by_cases hlt : q < n
    · have hqi : (q : Int) < (n : Int) := by omega
      have hq48 : (q : Int) < 48 := by omega
      have cu := hs.vault.cu q (by omega)
      have HLT := hide hlt
      by_cases hu : v.used.getD q false = true
      · have hsucc : freeTo v.used (q + 1) = freeTo v.used q := by rw [freeTo_succ, hu]; simp
        rw [hu] at cu
        have HD := hide (And.intro hsucc (And.intro hown hbel))
        clear hs hu hlt hsucc hown hbel
        go_wp2_with fail
        refine HB.out.mono ?_
        rintro e w1 ⟨rfl, rfl⟩
        go_wp2_with fail
        go_roundw
        case rel => exact ⟨q + 1, ao, ln, cap, by omega, by have := HLT.out; omega, by go_num, rfl, by rw [HD.out.1]; exact HLN.out, by rw [HD.out.1]; exact HD.out.2.1, HD.out.2.2⟩
        case measure => have := HLT.out; simp [intOf]; omega
      · have hu' : v.used.getD q false = false := by simpa using hu
        have hsucc : freeTo v.used (q + 1) = freeTo v.used q ++ [q] := by rw [freeTo_succ, hu']; simp [hq2]
        rw [hu'] at cu
        have HD := hide (And.intro hsucc (And.intro hown hbel))
        clear hs hu hu' hlt hsucc hown hbel
        go_wp2_with fail
        refine HB.out.mono ?_
        rintro e w1 ⟨rfl, rfl⟩
        go_wp2_with (at_builtin; refine wpList_append_lies _ rfl _ _ 24 rfl w.heap.size 3 i0 (.int .i64 0) 1 8 Tryz.underlying24 hi hz0 hz1 hz2 rfl (by decide) _ _ (vals .i64 (freeTo v.used q)) rfl (HD.out.2.1.alloc _) ⟨w1.heap.size, 0, none⟩ 1 1 [.int .i64 q] rfl rfl ?c1 ?c2 (by decide) ?c3 ?c4 ?c5 _ rfl ?_)
        case c1 => exact World.news_of_block (cs := #[.int .i64 (q : Int)]) (heap_alloc_new _ _)
        case c2 => intro u hu; simp at hu; subst hu; rfl
        case c3 => unfold maxLen; omega
        case c4 => omega
        case c5 => simp; omega
        intro g2 cap2 w2 hown2 hgrow hlie hg2
        have hb2 : Below w.heap.size w w2 := Below.grown (Below.alloc HD.out.2.2 hszr _) hgrow (by simp; omega) (fun k hk => (HD.out.2.1.lt k hk).1)
        have hv : vals .i64 (freeTo v.used (q + 1)) = vals .i64 (freeTo v.used q) ++ [.int .i64 q] := by rw [HD.out.1]; simp [vals]
        rw [← hv] at hown2
        have hln2 : ln + 1 = (freeTo v.used (q + 1)).length := by rw [HD.out.1, List.length_append, HLN.out]; rfl
        have HF := hide (And.intro hown2 (And.intro hb2 hln2))
        clear hown2 hb2 hgrow hlie hg2 hv hln2 HD
        go_wp2_with fail
        go_roundw
        case rel => first
          | exact ⟨q + 1, some ⟨g2, 0, none⟩, ln + 1, cap2, by omega, by have := HLT.out; omega, by go_num, rfl, HF.out.2.2, HF.out.1, HF.out.2.1⟩
          | ((repeat apply Exists.intro); exact ⟨⟨q + 1, some ⟨g2, 0, none⟩, ln + 1, cap2, by omega, by have := HLT.out; omega, by go_num, rfl, HF.out.2.2, HF.out.1, HF.out.2.1⟩, rfl⟩)
        case measure => have := HLT.out; simp [intOf]; omega
    · have hqn' : q = n := by omega
      subst hqn'
      have HD := hide (And.intro hown hbel)
      clear hs hlt hown hbel
      go_wp2_with fail
      refine HB.out.mono ?_
      rintro e w1 ⟨rfl, rfl⟩
      go_wp2_with fail
      go_ret
      exact ⟨_, rfl, HLN.out ▸ HD.out.1, HD.out.2⟩
set_option maxRecDepth 100000 in
set_option maxHeartbeats 1000000 in
theorem use_any (x : DX) (b : Nat) (m : DM) (v : VM) (wv : Value) (p : Nat) (u : Bool) (w : World) (h : Sys w x b m v wv) (hp : p < 48) :
    Calls Tryz.prog 66 #[.pointer (some ⟨b, 0, none⟩), .int .i64 p, .bool u] w fun e w' => e = .returned (.tuple #[]) ∧ Sys w' x b m { v with used := v.used.set p u } wv ∧ Kp [b] w w' := by
  have cu := h.vault.cu p hp
  have fu := h.vault.fr (10 + p)
  have hpi : (p : Int) < 48 := by omega
  have k1 : Kp [b] w (w.setCell ⟨b, 10 + p, none⟩ (.bool u)) := (Kp.refl _ w).setCell b _ _ (.inl (by simp))
  have HF := hide (And.intro (h.ofVault k1 (h.vault.setu p hp u)) k1)
  clear h k1 hp
  go_enter Tryz.func66, Tryz.ntmps66
  go_wp2_with fail
  go_end0
  exact ⟨rfl, HF.out⟩
end Go.Proofs.YtjnhlkaafnaooabGreatDoor

namespace Go.Proofs.YtjnhlkaafnaooabGreatDoor
open Go.RowKit
set_option maxRecDepth 100000 in
set_option maxHeartbeats 1000000 in
theorem newNodes_nil (w : World) : Calls Tryz.prog 62 #[.pointer none] w fun e w' => e = .returned (.int .i64 0) ∧ w' = w := by
  go_enter Tryz.func62, Tryz.ntmps62
  go_wp2_with fail
  go_ret
  exact ⟨rfl, rfl⟩
set_option maxRecDepth 100000 in
set_option maxHeartbeats 1000000 in
theorem newNodes_leaf (n : Nat) (d k s : List UInt8) (be cap : Nat) (w : World) (h : LeafAt w n 0 d k s be cap) :
    Calls Tryz.prog 62 #[.pointer (some ⟨n, 0, none⟩)] w fun e w' => e = .returned (.int .i64 1) ∧ w' = w := by
  have c1 := h.node.c1
  have c3 := h.node.c3
  have e4 : w.cell? ⟨be, 4, none⟩ = some (.pointer none) := h.e 4 (by decide)
  have HN := hide (newNodes_nil w)
  clear h
  go_enter Tryz.func62, Tryz.ntmps62
  go_wp2_with fail
  go_loopw [3, 4] (fun c i wr => c = .int .i64 1 ∧ wr = w ∧ (i = .int .i64 0 ∨ i = .int .i64 1)) (fun _ i _ => (2 - intOf i).toNat)
  case atStart => exact ⟨rfl, rfl, .inl rfl⟩
  case round =>
    obtain ⟨rfl, rfl, rfl | rfl⟩ := hrel
    · go_wp2_with fail
      refine HN.out.mono ?_
      rintro e w1 ⟨rfl, rfl⟩
      go_wp2_with fail
      exact ⟨⟨rfl, by first | rfl | trivial, .inr rfl⟩, by decide⟩
    · go_wp2_with fail
      go_ret
      exact ⟨rfl, rfl⟩
def roomL (m : DM) (v : VM) (c : Nat) : Nat := if m.ceiling ≤ v.version then 10 else if 40 < v.done + c then 11 else if (freeTo v.used m.blocks.length).length < c then 9 else 0
set_option maxRecDepth 100000 in
set_option maxHeartbeats 1000000 in
theorem room_any (x : DX) (b : Nat) (m : DM) (v : VM) (wv : Value) (c : Nat) (w : World) (h : Sys w x b m v wv) (hc : c ≤ 1000) (hd : v.done ≤ 1000) :
    Calls Tryz.prog 63 #[.pointer (some ⟨b, 0, none⟩), .int .i64 c] w fun e w' => e = .returned (.int .i64 (roomL m v c)) ∧ Below w.heap.size w w' := by
  have HS := hide (fun w' (hw : Below w.heap.size w w') => (h.later hw))
  have hci : (c : Int) ≤ 1000 := by omega
  have hdi : (v.done : Int) ≤ 1000 := by omega
  have HRL := hide (show roomL m v c = if m.ceiling ≤ v.version then 10 else if 40 < v.done + c then 11 else if (freeTo v.used m.blocks.length).length < c then 9 else 0 from rfl)
  clear h hc hd
  obtain ⟨b1, hb1⟩ : ∃ r, decide (m.ceiling ≤ v.version) = r := ⟨_, rfl⟩
  have hb1' : decide ((m.ceiling : Int) ≤ (v.version : Int)) = b1 := by rw [← hb1]; simp
  go_enter Tryz.func63, Tryz.ntmps63
  go_wp2_with fail
  refine wp_region_one (fun w' => Below w.heap.size w w') (by kernel_rfl) (by kernel_rfl) (Below.refl _ _).drew ?_
  refine one_take 0 (.pointer (some ⟨b, 0, none⟩)) rfl (by kernel_rfl) (by kernel_rfl) (by kernel_rfl) rfl (gives_pure fun _ => by kernel_rfl) ?_
  refine one_take 1 (.pointer (some ⟨b, 0, none⟩)) rfl (by kernel_rfl) (by kernel_rfl) (by kernel_rfl) rfl (gives_pure fun _ => by kernel_rfl) ?_
  refine one_take 2 (.pointer (some ⟨b, 5, none⟩)) rfl (by kernel_rfl) (by kernel_rfl) (by kernel_rfl) rfl (gives_pure fun _ => by kernel_rfl) ?_
  refine one_take 3 (.int .i64 v.version) rfl (by kernel_rfl) (by kernel_rfl) (by kernel_rfl) rfl (gives_read fun w hw => run_load_int _ _ _ _ _ _ rfl (by kernel_rfl) w ((HS.out w hw).vault.c5)) ?_
  refine one_take 4 (.pointer (some ⟨b, 0, none⟩)) rfl (by kernel_rfl) (by kernel_rfl) (by kernel_rfl) rfl (gives_pure fun _ => by kernel_rfl) ?_
  refine one_take 5 (.pointer (some ⟨b, 0, none⟩)) rfl (by kernel_rfl) (by kernel_rfl) (by kernel_rfl) rfl (gives_pure fun _ => by kernel_rfl) ?_
  refine one_take 6 (.pointer (some ⟨b, 0, none⟩)) rfl (by kernel_rfl) (by kernel_rfl) (by kernel_rfl) rfl (gives_pure fun _ => by kernel_rfl) ?_
  refine one_take 7 (.pointer (some ⟨x.d, 0, none⟩)) rfl (by kernel_rfl) (by kernel_rfl) (by kernel_rfl) rfl (gives_read fun w hw => run_load_disk _ _ _ _ _ _ rfl (by kernel_rfl) w ((HS.out w hw).vault.c0)) ?_
  refine one_take 8 (.int .i64 m.ceiling) rfl (by kernel_rfl) (by kernel_rfl) (by kernel_rfl) rfl (gives_call (27) (#[.pointer (some ⟨x.d, 0, none⟩)]) (fun _ => by kernel_rfl) fun w hw => (ceiling_any x.d w m.ceiling (HS.out w hw).disk.c3).mono fun e w2 h => ⟨h.1, h.2 ▸ hw⟩) ?_
  refine one_take 9 (.bool b1) rfl (by kernel_rfl) (by kernel_rfl) (by kernel_rfl) rfl (gives_pure fun w => run_geq _ _ _ _ _ (v.version) (m.ceiling) b1 rfl (by kernel_rfl) (by kernel_rfl) (hb1') w) ?_
  refine OneWalk.done (by kernel_rfl) fun w1 hw1 => ?_
  simp only [Act.put, List.setIfInBounds_toArray, List.set_cons_succ, List.set_cons_zero]
  have h1 := HS.out w1 hw1
  have c7 := h1.vault.c7
  cases b1 with
  | true =>
    have HRR := hide (show roomL m v c = 10 from by rw [HRL.out, if_pos (by simpa using hb1)])
    clear h1
    go_wp2_with fail
    go_ret
    exact ⟨by rw [HRR.out]; rfl, hw1⟩
  | false =>
    rw [if_neg (by simpa using hb1)] at HRL
    obtain ⟨b2, hb2⟩ : ∃ r, decide (40 < v.done + c) = r := ⟨_, rfl⟩
    have hb2' : decide ((40 : Int) < (v.done : Int) + (c : Int)) = b2 := by rw [← hb2]; simp; omega
    cases b2 with
    | true =>
      have HRR := hide (show roomL m v c = 11 from by rw [HRL.out, if_pos (by simpa using hb2)])
      clear h1 hb2
      go_wp2_with fail
      go_ret
      exact ⟨by rw [HRR.out]; rfl, hw1⟩
    | false =>
      rw [if_neg (by simpa using hb2)] at HRL
      have HFR := hide (free_any x b m v wv w1 h1)
      clear h1 hb2
      go_wp2_with fail
      refine HFR.out.mono ?_
      rintro e w2 ⟨fv, rfl, hown, hb12⟩
      have hw2 := hw1.trans (hb12.mono hw1.size)
      clear HFR
      generalize hF : freeTo v.used m.blocks.length = F at *
      obtain ⟨ao, cap, hfv⟩ : ∃ ao cap, fv = .slice ao F.length cap := by
        rcases hown.2 with ⟨hv, hn⟩ | ⟨g, cap, cur, hv, _⟩
        · exact ⟨none, 0, by rw [hv, hn]⟩
        · exact ⟨_, cap, hv⟩
      subst hfv
      obtain ⟨b3, hb3⟩ : ∃ r, decide (F.length < c) = r := ⟨_, rfl⟩
      generalize F.length = L at *
      cases b3 with
      | true =>
        have HRR := hide (show roomL m v c = 9 from by rw [HRL.out, if_pos (by simpa using hb3)])
        clear hown
        go_wp2_with fail
        go_ret
        exact ⟨by rw [HRR.out]; rfl, hw2⟩
      | false =>
        have HRR := hide (show roomL m v c = 0 from by rw [HRL.out, if_neg (by simpa using hb3)])
        clear hown
        go_wp2_with fail
        go_ret
        exact ⟨by rw [HRR.out]; rfl, hw2⟩
end Go.Proofs.YtjnhlkaafnaooabGreatDoor

namespace Go.Proofs.YtjnhlkaafnaooabGreatDoor
open Go.RowKit
theorem run_load_ents (oi : Oper) (a : Act) (x : Operand) (b o : Nat) (v : Value) (ho : oi.op = .load 111 x) (hx : a.eval x = .pointer (some ⟨b, o, none⟩)) (w : World) (hc : w.cell? ⟨b, o, none⟩ = some v) :
    (execOp a.eval oi).run Tryz.prog w = .ok (.value v) w := by
  unfold execOp
  simp only [ho, hx]
  clear hx ho
  go_simp
theorem leafOne_text (k s : List UInt8) : fillL (onesL 1 1 ++ onesL 1 1 ++ (onesL k.length 1 ++ k) ++ (onesL s.length 1 ++ s)) 228 = leafOne k s := by
  unfold leafOne nodeT
  simp [entT, List.append_assoc]
set_option maxRecDepth 100000 in
set_option maxHeartbeats 1000000 in
theorem text_leaf (n p : Nat) (d k s : List UInt8) (be cap : Nat) (w : World) (h : LeafAt w n p d k s be cap) (h8 : k.length ≤ 8) (h16 : s.length ≤ 16) :
    Calls Tryz.prog 133 #[.pointer (some ⟨n, 0, none⟩)] w fun e w' => e = .returned (strV (leafOne k s)) ∧ Below w.heap.size w w' := by
  have HS := hide (fun w' (hw : Below w.heap.size w w') => h.kp (S := []) (Kp.of_below hw) (by simp) (by simp))
  have c0 := h.node.c0
  have HT := hide (leafOne_text k s)
  have HL := hide (And.intro h8 h16)
  obtain ⟨T0, hT0⟩ : ∃ T, onesL 1 1 ++ onesL 1 1 = T := ⟨_, rfl⟩
  obtain ⟨T1, hT1⟩ : ∃ T, T0 ++ (onesL k.length 1 ++ k) = T := ⟨_, rfl⟩
  obtain ⟨T2, hT2⟩ : ∃ T, T1 ++ (onesL s.length 1 ++ s) = T := ⟨_, rfl⟩
  have l0 : T0.length = 2 := by rw [← hT0]; simp [onesL_len]
  have l1 : T1.length = 3 + k.length := by rw [← hT1]; simp [onesL_len, l0]; omega
  rw [hT0, hT1, hT2] at HT
  have HE := hide (And.intro hT0 (And.intro hT1 hT2))
  have HL0 := hide (And.intro l0 l1)
  clear h h8 h16 l0 l1 hT0 hT1 hT2
  go_enter Tryz.func133, Tryz.ntmps133
  go_wp2_with fail
  refine wp_region_one (fun w' => Below w.heap.size w w') (by kernel_rfl) (by kernel_rfl) (Below.refl _ _).drew ?_
  refine one_take 0 (.int .i64 1) rfl (by kernel_rfl) (by kernel_rfl) (by kernel_rfl) rfl (gives_pure fun _ => by kernel_rfl) ?_
  refine one_take 1 (strV (onesL 1 1)) rfl (by kernel_rfl) (by kernel_rfl) (by kernel_rfl) rfl (gives_call (54) (#[.int .i64 1, .int .i64 1]) (fun _ => by kernel_rfl) fun w hw => (numText_any 1 1 w (by decide) (by decide)).mono fun e w2 h => ⟨h.1, hw.trans (h.2.mono hw.size)⟩) ?_
  refine one_take 2 (.pointer (some ⟨n, 0, none⟩)) rfl (by kernel_rfl) (by kernel_rfl) (by kernel_rfl) rfl (gives_pure fun _ => by kernel_rfl) ?_
  refine one_take 3 (.pointer (some ⟨n, 0, none⟩)) rfl (by kernel_rfl) (by kernel_rfl) (by kernel_rfl) rfl (gives_pure fun _ => by kernel_rfl) ?_
  refine one_take 4 (.pointer (some ⟨n, 3, none⟩)) rfl (by kernel_rfl) (by kernel_rfl) (by kernel_rfl) rfl (gives_pure fun _ => by kernel_rfl) ?_
  refine one_take 5 (.slice (some ⟨be, 0, none⟩) 1 cap) rfl (by kernel_rfl) (by kernel_rfl) (by kernel_rfl) rfl (gives_read fun w hw => run_load_ents _ _ _ _ _ _ rfl (by kernel_rfl) w ((HS.out w hw).node.c3)) ?_
  refine one_take 6 (.int .i64 1) rfl (by kernel_rfl) (by kernel_rfl) (by kernel_rfl) rfl (gives_pure fun _ => by kernel_rfl) ?_
  refine one_take 7 (strV (onesL 1 1)) rfl (by kernel_rfl) (by kernel_rfl) (by kernel_rfl) rfl (gives_call (54) (#[.int .i64 1, .int .i64 1]) (fun _ => by kernel_rfl) fun w hw => (numText_any 1 1 w (by decide) (by decide)).mono fun e w2 h => ⟨h.1, hw.trans (h.2.mono hw.size)⟩) ?_
  refine one_take 8 (strV (onesL 1 1 ++ onesL 1 1)) rfl (by kernel_rfl) (by kernel_rfl) (by kernel_rfl) rfl (gives_pure fun w => run_add _ _ _ _ _ (onesL 1 1) (onesL 1 1) rfl (by kernel_rfl) (by kernel_rfl) (by simp [onesL_len]) w) ?_
  refine one_take 9 (strV (onesL 1 1 ++ onesL 1 1)) rfl (by kernel_rfl) (by kernel_rfl) (by kernel_rfl) rfl (gives_pure fun _ => by kernel_rfl) ?_
  refine OneWalk.done (by kernel_rfl) fun w1 hw1 => ?_
  simp only [Act.put, List.setIfInBounds_toArray, List.set_cons_succ, List.set_cons_zero]
  rw [HE.out.1]
  go_wp2_with fail
  go_loopw [4, 5, 6] (fun t i _ wr => Below w.heap.size w wr ∧ ((t = strV T0 ∧ i = .int .i64 0) ∨ (t = strV T2 ∧ i = .int .i64 1))) (fun _ i _ _ => (2 - intOf i).toNat)
  case atStart => exact ⟨hw1, .inl ⟨rfl, rfl⟩⟩
  case round =>
    obtain ⟨hbel, ⟨rfl, rfl⟩ | ⟨rfl, rfl⟩⟩ := hrel
    · have hl := HS.out wr hbel
      have n3 := hl.node.c3
      have e0 : wr.cell? ⟨be, 0, none⟩ = some (strV k) := hl.e 0 (by decide)
      have e1 : wr.cell? ⟨be, 1, none⟩ = some (strV s) := hl.e 1 (by decide)
      have e2 : wr.cell? ⟨be, 2, none⟩ = some (.int .i64 0) := hl.e 2 (by decide)
      have e3 : wr.cell? ⟨be, 3, none⟩ = some (.string ⟨#[]⟩) := hl.e 3 (by decide)
      have e4 : wr.cell? ⟨be, 4, none⟩ = some (.pointer none) := hl.e 4 (by decide)
      obtain ⟨w2, hw2⟩ : ∃ w2, wr.alloc (.cells #[strV k, strV s, .int .i64 0, .string ⟨#[]⟩, .pointer none] 128) = w2 := ⟨_, rfl⟩
      have q2 : w2.heap[wr.heap.size]? = some (.cells #[strV k, strV s, .int .i64 0, .string ⟨#[]⟩, .pointer none] 128 (0, 0)) := hw2 ▸ heap_alloc_new wr _
      have hb2 : Below w.heap.size w w2 := hw2 ▸ hbel.alloc hbel.size _
      have hz2 : w2.heap.size = wr.heap.size + 1 := by rw [← hw2]; simp
      have HQ := hide (fun w' (hw : Below w2.heap.size w2 w') => And.intro ((hw.cell (p := ⟨wr.heap.size, 0, none⟩) (by rw [hz2]; simp)).trans (by rw [cell_of_row _ _ _ _ _ _ q2]; rfl : w2.cell? ⟨wr.heap.size, 0, none⟩ = some (strV k))) (And.intro ((hw.cell (p := ⟨wr.heap.size, 1, none⟩) (by rw [hz2]; simp)).trans (by rw [cell_of_row _ _ _ _ _ _ q2]; rfl : w2.cell? ⟨wr.heap.size, 1, none⟩ = some (strV s))) (HS.out w' (hb2.trans (hw.mono hb2.size)))))
      have HW2 := hide hw2
      have HB2 := hide hb2
      clear hl q2 hb2 hw2 hbel hw1
      go_wp2_with fail
      rw [HW2.out]
      refine wp_region_one (fun w' => Below w2.heap.size w2 w') (by kernel_rfl) (by kernel_rfl) (Below.refl _ _).drew ?_
      refine one_take 0 (strV T0) rfl (by kernel_rfl) (by kernel_rfl) (by kernel_rfl) rfl (gives_pure fun _ => by kernel_rfl) ?_
      refine one_take 1 (.pointer (some ⟨wr.heap.size, 0, none⟩)) rfl (by kernel_rfl) (by kernel_rfl) (by kernel_rfl) rfl (gives_pure fun _ => by kernel_rfl) ?_
      refine one_take 2 (strV k) rfl (by kernel_rfl) (by kernel_rfl) (by kernel_rfl) rfl (gives_read fun w hw => run_load_str _ _ _ _ _ _ rfl (by kernel_rfl) w ((HQ.out w hw).1)) ?_
      refine one_take 3 (.int .i64 k.length) rfl (by kernel_rfl) (by kernel_rfl) (by kernel_rfl) rfl (gives_pure fun _ => by kernel_rfl) ?_
      refine one_take 4 (strV (onesL k.length 1)) rfl (by kernel_rfl) (by kernel_rfl) (by kernel_rfl) rfl (gives_call (54) (#[.int .i64 k.length, .int .i64 1]) (fun _ => by kernel_rfl) fun w hw => (numText_any k.length 1 w (by have := HL.out; omega) (by decide)).mono fun e w2 h => ⟨h.1, hw.trans (h.2.mono hw.size)⟩) ?_
      refine one_take 5 (.pointer (some ⟨wr.heap.size, 0, none⟩)) rfl (by kernel_rfl) (by kernel_rfl) (by kernel_rfl) rfl (gives_pure fun _ => by kernel_rfl) ?_
      refine one_take 6 (strV k) rfl (by kernel_rfl) (by kernel_rfl) (by kernel_rfl) rfl (gives_read fun w hw => run_load_str _ _ _ _ _ _ rfl (by kernel_rfl) w ((HQ.out w hw).1)) ?_
      refine one_take 7 (strV (onesL k.length 1 ++ k)) rfl (by kernel_rfl) (by kernel_rfl) (by kernel_rfl) rfl (gives_pure fun w => run_add _ _ _ _ _ (onesL k.length 1) (k) rfl (by kernel_rfl) (by kernel_rfl) (by rw [onesL_len]; have := HL.out; omega) w) ?_
      refine one_take 8 (strV (T0 ++ (onesL k.length 1 ++ k))) rfl (by kernel_rfl) (by kernel_rfl) (by kernel_rfl) rfl (gives_pure fun w => run_add _ _ _ _ _ (T0) ((onesL k.length 1 ++ k)) rfl (by kernel_rfl) (by kernel_rfl) (by rw [HL0.out.1]; simp [onesL_len]; have := HL.out; omega) w) ?_
      refine one_take 9 (strV (T0 ++ (onesL k.length 1 ++ k))) rfl (by kernel_rfl) (by kernel_rfl) (by kernel_rfl) rfl (gives_pure fun _ => by kernel_rfl) ?_
      refine OneWalk.done (by kernel_rfl) fun w3 hw3 => ?_
      simp only [Act.put, List.setIfInBounds_toArray, List.set_cons_succ, List.set_cons_zero]
      rw [HE.out.2.1]
      have c03 := (HQ.out w3 hw3).2.2.node.c0
      go_wp2_with fail
      refine wp_region_one (fun w' => Below w2.heap.size w2 w') (by kernel_rfl) (by kernel_rfl) hw3.drew ?_
      refine one_take 0 (strV T1) rfl (by kernel_rfl) (by kernel_rfl) (by kernel_rfl) rfl (gives_pure fun _ => by kernel_rfl) ?_
      refine one_take 1 (.pointer (some ⟨wr.heap.size, 1, none⟩)) rfl (by kernel_rfl) (by kernel_rfl) (by kernel_rfl) rfl (gives_pure fun _ => by kernel_rfl) ?_
      refine one_take 2 (strV s) rfl (by kernel_rfl) (by kernel_rfl) (by kernel_rfl) rfl (gives_read fun w hw => run_load_str _ _ _ _ _ _ rfl (by kernel_rfl) w ((HQ.out w hw).2.1)) ?_
      refine one_take 3 (.int .i64 s.length) rfl (by kernel_rfl) (by kernel_rfl) (by kernel_rfl) rfl (gives_pure fun _ => by kernel_rfl) ?_
      refine one_take 4 (strV (onesL s.length 1)) rfl (by kernel_rfl) (by kernel_rfl) (by kernel_rfl) rfl (gives_call (54) (#[.int .i64 s.length, .int .i64 1]) (fun _ => by kernel_rfl) fun w hw => (numText_any s.length 1 w (by have := HL.out; omega) (by decide)).mono fun e w2 h => ⟨h.1, hw.trans (h.2.mono hw.size)⟩) ?_
      refine one_take 5 (.pointer (some ⟨wr.heap.size, 1, none⟩)) rfl (by kernel_rfl) (by kernel_rfl) (by kernel_rfl) rfl (gives_pure fun _ => by kernel_rfl) ?_
      refine one_take 6 (strV s) rfl (by kernel_rfl) (by kernel_rfl) (by kernel_rfl) rfl (gives_read fun w hw => run_load_str _ _ _ _ _ _ rfl (by kernel_rfl) w ((HQ.out w hw).2.1)) ?_
      refine one_take 7 (strV (onesL s.length 1 ++ s)) rfl (by kernel_rfl) (by kernel_rfl) (by kernel_rfl) rfl (gives_pure fun w => run_add _ _ _ _ _ (onesL s.length 1) (s) rfl (by kernel_rfl) (by kernel_rfl) (by rw [onesL_len]; have := HL.out; omega) w) ?_
      refine one_take 8 (strV (T1 ++ (onesL s.length 1 ++ s))) rfl (by kernel_rfl) (by kernel_rfl) (by kernel_rfl) rfl (gives_pure fun w => run_add _ _ _ _ _ (T1) ((onesL s.length 1 ++ s)) rfl (by kernel_rfl) (by kernel_rfl) (by rw [HL0.out.2]; simp [onesL_len]; have := HL.out; omega) w) ?_
      refine one_take 9 (strV (T1 ++ (onesL s.length 1 ++ s))) rfl (by kernel_rfl) (by kernel_rfl) (by kernel_rfl) rfl (gives_pure fun _ => by kernel_rfl) ?_
      refine OneWalk.done (by kernel_rfl) fun w4 hw4 => ?_
      simp only [Act.put, List.setIfInBounds_toArray, List.set_cons_succ, List.set_cons_zero]
      rw [HE.out.2.2]
      have hb4 := HB2.out.trans (hw4.mono HB2.out.size)
      go_wp2_with fail
      exact ⟨⟨hb4, .inr ⟨rfl, rfl⟩⟩, by decide⟩
    · have hl := HS.out wr hbel
      have n3 := hl.node.c3
      have HF := hide (fillText_any T2 228 wr (by decide))
      clear hl
      go_wp2_with fail
      refine HF.out.mono ?_
      rintro e w2 ⟨rfl, hb2⟩
      go_wp2_with fail
      go_ret
      exact ⟨by rw [← HT.out]; rfl, hbel.trans (hb2.mono hbel.size)⟩
end Go.Proofs.YtjnhlkaafnaooabGreatDoor
