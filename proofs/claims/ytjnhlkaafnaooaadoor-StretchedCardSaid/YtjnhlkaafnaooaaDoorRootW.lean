import Derived.Test.YtjnhlkaafnaooaaDoorBigW
import Derived.Test.YtjnhlkaafnaooaaDoorRoot
namespace Go.Proofs.YtjnhlkaafnaooaaDoor
open Go.RowKit

theorem and_65535 (f : Nat) (hf : f < 9223372036854775808) : bits .and .i64 (f : Int) 65535 = ((f % 65536 : Nat) : Int) := by
  have := i64_and_nat f 65535 hf (by decide)
  rw [nat_mask16] at this
  exact this
set_option maxRecDepth 100000 in
set_option maxHeartbeats 400000 in
theorem digits_any (v : Nat) (w : World) (hv : v < 281474976710656) :
    Calls Tryd.prog 30 #[.int .i64 (v : Int)] w fun e w' => e = .returned (.slice (some ⟨w.heap.size, 0, none⟩) 3 3) ∧ Row w' w.heap.size 3 .i64 (digs v) ∧ Below w.heap.size w w' := by
  have hvi : (v : Int) < 281474976710656 := by omega
  have e1 := and_65535 v (by omega)
  have e2 := and_65535 (v / 65536) (by omega)
  have e3 := and_65535 (v / 4294967296) (by omega)
  clear hv
  go_enter Tryd.func30, Tryd.ntmps30
  go_wp2
  go_ret
  refine ⟨rfl, ?_, (Below.refl _ _).alloc (Nat.le_refl _) _⟩
  refine Row.new w _ _ (digs v) _ rfl ?_
  intro i hi
  match i, hi with
  | 0, _ => simp [digs]
  | 1, _ =>
    have e : (v : Int) / 65536 = ((v / 65536 : Nat) : Int) := by simp
    simp only [List.getElem?_toArray, List.getElem?_cons_succ, List.getElem?_cons_zero, digs, List.getD_cons_succ, List.getD_cons_zero]
    rw [e, e2]
  | 2, _ =>
    have e : (v : Int) / 4294967296 = ((v / 4294967296 : Nat) : Int) := by simp
    simp only [List.getElem?_toArray, List.getElem?_cons_succ, List.getElem?_cons_zero, digs, List.getD_cons_succ, List.getD_cons_zero]
    rw [e, e3]
  | i + 3, hi => exact absurd hi (by simp [digs])

/-- What the rounds of 'root' keep: n bits are still to be looked at. -/
structure RI (w : World) (p deg n v : Nat) (wr : World) : Prop where
  row : Row wr w.heap.size 3 .i64 ((List.replicate (2 * deg + 1) 0).set (2 * deg) p)
  bel : Below w.heap.size w wr
  ans : rootN p deg = rootGo p deg n v % 4294967296
  bnd : v + 2 ^ n ≤ 2199023255552
theorem most_lt (n p : Nat) (hp : p < 1000) : ∀ d ∈ (List.replicate (n + 1) 0).set n p, d < 65536 := by
  intro d hd
  rcases List.mem_or_eq_of_mem_set hd with h | h
  · simp at h; omega
  · omega
theorem RI.start (w : World) (p deg : Nat) : RI w p deg 41 0 (w.alloc (.cells ((madeCells #[.int .i64 0] (2 * deg + 1)).setIfInBounds (2 * deg) (.int .i64 (p : Int))) 3)) := by
  refine ⟨?_, (Below.refl _ _).alloc (Nat.le_refl _) _, rfl, by decide⟩
  have h := (Row.made w 3 .i64 (2 * deg + 1)).set (2 * deg) p
  rwa [World.setCell_alloc_at _ _ _ _ _ rfl] at h
theorem RI.step {w : World} {p deg n v : Nat} {wr wr' : World} (h : RI w p deg (n + 1) v wr) (hb : Below wr.heap.size wr wr') (v' : Nat) (hv : v' = rootStep p deg v (2 ^ n)) : RI w p deg n v' wr' := by
  have h2 : v' ≤ v + 2 ^ n := by
    rw [hv, rootStep]
    split
    · exact Nat.le_refl _
    · exact Nat.le_add_right _ _
  have hbd := h.bnd
  rw [Nat.pow_succ] at hbd
  refine ⟨h.row.below hb h.row.lt, h.bel.trans (hb.mono h.bel.size), ?_, by omega⟩
  rw [h.ans, rootGo, hv]
theorem Row.not_old {w w' : World} (_h : Below w.heap.size w w') : w.heap.size ≤ w'.heap.size := _h.size

set_option maxRecDepth 100000 in
set_option maxHeartbeats 1000000 in
theorem root2_any (p : Nat) (w : World) (hp : p < 1000) :
    Calls Tryd.prog 18 #[.int .i64 (p : Int), .int .i64 2] w fun e w' => e = .returned (.int .i64 (rootN p 2 : Nat)) ∧ Below w.heap.size w w' := by
  have hmk : ∀ w, (Instr.makeSlice 60 (.int .i64 5) (.int .i64 5)).run Tryd.prog w = .ok (.slice (some ⟨w.heap.size, 0, none⟩) 5 5) (w.alloc (.cells (madeCells #[.int .i64 0] 5) 3)) := fun w => run_make_row' (P := Tryd.prog) 60 3 (.int .i64 0) 8 Tryd.underlying60 info_int rfl .i64 .i64 5 (by omega) (by omega) w
  have hst := hide (RI.start w p 2)
  have hm4 : (madeCells #[Value.int .i64 0] 5)[4]? = some (.int .i64 0) := by simp [madeCells]
  have hd := most_lt 4 p hp
  have hv := bval_most 4 p
  have Hd := hide hd
  have Hv := hide hv
  clear hd hv hp
  go_enter Tryd.func18, Tryd.ntmps18
  go_wp2
  go_loopw [6, 7, 8, 9, 10] (fun v b _ _ _ wr => ∃ n V : Nat, n ≤ 41 ∧ b = .int .i64 ((2 ^ n / 2 : Nat) : Int) ∧ v = .int .i64 (V : Int) ∧ RI w p 2 n V wr) (fun _ b _ _ _ _ => (intOf b).toNat)
  case atStart => exact ⟨41, 0, by omega, rfl, rfl, hst.out⟩
  case round =>
    clear hst hmk hm4
    obtain ⟨n, V, hn, rfl, rfl, hri⟩ := hrel
    cases n with
    | zero =>
      have h0 : ((2 ^ 0 / 2 : Nat) : Int) = 0 := rfl
      rw [h0]
      have hbd := hri.bnd
      have hVi : (V : Int) < 2199023255553 := by omega
      clear h0 hbd
      go_wp2
      go_ret
      exact ⟨ret_int (by rw [hri.ans]; rfl), hri.bel⟩
    | succ n =>
      rw [half_two]
      have hbd := hri.bnd
      rw [Nat.pow_succ] at hbd
      obtain ⟨c, hc⟩ : ∃ c, 2 ^ n = c := ⟨_, rfl⟩
      have hc0 : 0 < c := by rw [← hc]; exact Nat.two_pow_pos n
      rw [hc] at hbd ⊢
      have hVc : (V : Int) + (c : Int) < 2199023255553 := by omega
      have hci : 0 < (c : Int) := by omega
      have hN := fun wr' hb => RI.step hri (wr' := wr') hb
      rw [hc] at hN
      have HN := hide hN
      have HC := hide hc
      clear hN hc
      have hrow := hri.row
      have hri0 := hri.bel.size
      clear hri
      go_wp2_with fail
      have es : (V : Int) + (c : Int) = ((V + c : Nat) : Int) := by omega
      rw [es]
      refine (digits_any (V + c) _ (by omega)).mono ?_
      rintro e w1 ⟨rfl, hr1, hb1⟩
      have hz1 := hr1.lt
      clear es
      go_wp2_with fail
      refine (times_at _ _ 3 3 3 3 7 (digs (V + c)) (digs (V + c)) _ rfl rfl rfl (by omega) (by omega) hr1 hr1 (digs_lt _) (digs_lt _)).mono ?_
      rintro e w2 ⟨rfl, o2, hl2, hr2, hd2, hv2, hb2⟩
      have HL2 := hide hl2
      have HV2 := hide hv2
      clear hl2 hv2
      go_wp2_with fail
      have hbb : Below wr.heap.size wr w2 := hb1.trans (hb2.mono hb1.size)
      have hab := above_any w1.heap.size w.heap.size 7 5 7 5 o2 _ w2 (by omega) (by omega) HL2.out rfl hr2 (hrow.below hbb hrow.lt) hd2 Hd.out
      have hbv : bval o2 = (V + c) ^ 2 := by rw [HV2.out, digs_val _ (by omega), Nat.pow_two]
      have hmv : bval ((List.replicate (2 * 2 + 1) 0).set (2 * 2) p) = p * B (2 * 2) := Hv.out
      by_cases hle : (V + c) ^ 2 ≤ p * B (2 * 2)
      · have hdec : decide (bval ((List.replicate (2 * 2 + 1) 0).set (2 * 2) p) < bval o2) = false := by rw [hmv, hbv]; simpa using hle
        rw [hdec] at hab
        refine hab.mono ?_
        rintro e w3 ⟨rfl, rfl⟩
        have hNN := HN.out _ hbb (V + c) (by rw [rootStep, if_pos hle])
        have HR := hide hNN
        clear hle hdec hbv hmv hNN hab hbb
        go_wp2_with fail
        go_roundw
        case rel => exact ⟨n, V + c, by omega, val_int (by rw [← HC.out]; omega), by go_num, HR.out⟩
        case measure => simp [intOf]; omega
      · have hdec : decide (bval ((List.replicate (2 * 2 + 1) 0).set (2 * 2) p) < bval o2) = true := by rw [hmv, hbv]; simpa using hle
        rw [hdec] at hab
        refine hab.mono ?_
        rintro e w3 ⟨rfl, rfl⟩
        have hNN := HN.out _ hbb V (by rw [rootStep, if_neg hle])
        have HR := hide hNN
        clear hle hdec hbv hmv hNN hab hbb
        go_wp2_with fail
        go_roundw
        case rel => exact ⟨n, V, by omega, val_int (by rw [← HC.out]; omega), rfl, HR.out⟩
        case measure => simp [intOf]; omega
set_option maxRecDepth 100000 in
set_option maxHeartbeats 1000000 in
theorem root3_any (p : Nat) (w : World) (hp : p < 1000) :
    Calls Tryd.prog 18 #[.int .i64 (p : Int), .int .i64 3] w fun e w' => e = .returned (.int .i64 (rootN p 3 : Nat)) ∧ Below w.heap.size w w' := by
  have hmk : ∀ w, (Instr.makeSlice 60 (.int .i64 7) (.int .i64 7)).run Tryd.prog w = .ok (.slice (some ⟨w.heap.size, 0, none⟩) 7 7) (w.alloc (.cells (madeCells #[.int .i64 0] 7) 3)) := fun w => run_make_row' (P := Tryd.prog) 60 3 (.int .i64 0) 8 Tryd.underlying60 info_int rfl .i64 .i64 7 (by omega) (by omega) w
  have hst := hide (RI.start w p 3)
  have hm4 : (madeCells #[Value.int .i64 0] 7)[6]? = some (.int .i64 0) := by simp [madeCells]
  have hd := most_lt 6 p hp
  have hv := bval_most 6 p
  have Hd := hide hd
  have Hv := hide hv
  clear hd hv hp
  go_enter Tryd.func18, Tryd.ntmps18
  go_wp2
  go_loopw [6, 7, 8, 9, 10] (fun v b _ _ _ wr => ∃ n V : Nat, n ≤ 41 ∧ b = .int .i64 ((2 ^ n / 2 : Nat) : Int) ∧ v = .int .i64 (V : Int) ∧ RI w p 3 n V wr) (fun _ b _ _ _ _ => (intOf b).toNat)
  case atStart => exact ⟨41, 0, by omega, rfl, rfl, hst.out⟩
  case round =>
    clear hst hmk hm4
    obtain ⟨n, V, hn, rfl, rfl, hri⟩ := hrel
    cases n with
    | zero =>
      have h0 : ((2 ^ 0 / 2 : Nat) : Int) = 0 := rfl
      rw [h0]
      have hbd := hri.bnd
      have hVi : (V : Int) < 2199023255553 := by omega
      clear h0 hbd
      go_wp2
      go_ret
      exact ⟨ret_int (by rw [hri.ans]; rfl), hri.bel⟩
    | succ n =>
      rw [half_two]
      have hbd := hri.bnd
      rw [Nat.pow_succ] at hbd
      obtain ⟨c, hc⟩ : ∃ c, 2 ^ n = c := ⟨_, rfl⟩
      have hc0 : 0 < c := by rw [← hc]; exact Nat.two_pow_pos n
      rw [hc] at hbd ⊢
      have hVc : (V : Int) + (c : Int) < 2199023255553 := by omega
      have hci : 0 < (c : Int) := by omega
      have hN := fun wr' hb => RI.step hri (wr' := wr') hb
      rw [hc] at hN
      have HN := hide hN
      have HC := hide hc
      clear hN hc
      have hrow := hri.row
      have hri0 := hri.bel.size
      clear hri
      go_wp2_with fail
      have es : (V : Int) + (c : Int) = ((V + c : Nat) : Int) := by omega
      rw [es]
      refine (digits_any (V + c) _ (by omega)).mono ?_
      rintro e w1 ⟨rfl, hr1, hb1⟩
      have hz1 := hr1.lt
      clear es
      go_wp2_with fail
      refine (times_at _ _ 3 3 3 3 7 (digs (V + c)) (digs (V + c)) _ rfl rfl rfl (by omega) (by omega) hr1 hr1 (digs_lt _) (digs_lt _)).mono ?_
      rintro e w2 ⟨rfl, o2, hl2, hr2, hd2, hv2, hb2⟩
      have HL2 := hide hl2
      have HV2 := hide hv2
      have hz2 := hr2.lt
      clear hl2 hv2
      go_wp2_with fail
      refine (times_at _ _ 7 3 7 3 11 o2 (digs (V + c)) _ HL2.out rfl rfl (by omega) (by omega) hr2 (hr1.below hb2 hz1) hd2 (digs_lt _)).mono ?_
      rintro e w3 ⟨rfl, o3, hl3, hr3, hd3, hv3, hb3⟩
      have HL3 := hide hl3
      have HV3 := hide hv3
      clear hl3 hv3
      go_wp2_with fail
      have hbb : Below wr.heap.size wr w3 := (hb1.trans (hb2.mono hb1.size)).trans (hb3.mono (Nat.le_trans hb1.size hb2.size))
      have hab := above_any w2.heap.size w.heap.size 11 7 11 7 o3 _ w3 (by omega) (by omega) HL3.out rfl hr3 (hrow.below hbb hrow.lt) hd3 Hd.out
      have hbv : bval o3 = (V + c) ^ 3 := by rw [HV3.out, HV2.out, digs_val _ (by omega), Nat.pow_succ, Nat.pow_two]
      have hmv : bval ((List.replicate (2 * 3 + 1) 0).set (2 * 3) p) = p * B (2 * 3) := Hv.out
      by_cases hle : (V + c) ^ 3 ≤ p * B (2 * 3)
      · have hdec : decide (bval ((List.replicate (2 * 3 + 1) 0).set (2 * 3) p) < bval o3) = false := by rw [hmv, hbv]; simpa using hle
        rw [hdec] at hab
        refine hab.mono ?_
        rintro e w4 ⟨rfl, rfl⟩
        have hNN := HN.out _ hbb (V + c) (by rw [rootStep, if_pos hle])
        have HR := hide hNN
        clear hle hdec hbv hmv hNN hab hbb
        go_wp2_with fail
        go_roundw
        case rel => exact ⟨n, V + c, by omega, val_int (by rw [← HC.out]; omega), by go_num, HR.out⟩
        case measure => simp [intOf]; omega
      · have hdec : decide (bval ((List.replicate (2 * 3 + 1) 0).set (2 * 3) p) < bval o3) = true := by rw [hmv, hbv]; simpa using hle
        rw [hdec] at hab
        refine hab.mono ?_
        rintro e w4 ⟨rfl, rfl⟩
        have hNN := HN.out _ hbb V (by rw [rootStep, if_neg hle])
        have HR := hide hNN
        clear hle hdec hbv hmv hNN hab hbb
        go_wp2_with fail
        go_roundw
        case rel => exact ⟨n, V, by omega, val_int (by rw [← HC.out]; omega), rfl, HR.out⟩
        case measure => simp [intOf]; omega
end Go.Proofs.YtjnhlkaafnaooaaDoor
