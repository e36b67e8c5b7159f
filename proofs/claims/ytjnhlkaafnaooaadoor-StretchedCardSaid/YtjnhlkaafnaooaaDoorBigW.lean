import Derived.Test.YtjnhlkaafnaooaaDoorBase
import Derived.Test.YtjnhlkaafnaooaaDoorBig
import Derived.Test.YtjnhlkaafnaooaaDoorField
namespace Go.Proofs.YtjnhlkaafnaooaaDoor
open Go.RowKit

/-- 'out' in mid-product: n whole rounds and m of the next are in it. -/
structure TI (w : World) (L : Nat) (xa xb : List Nat) (n m : Nat) (out : List Nat) (wr : World) : Prop where
  len : out.length = L
  row : Row wr w.heap.size 3 .i64 out
  dig : ∀ d ∈ out, d < 65536
  val : bval out = sumTo xa xb n m
  bel : Below w.heap.size w wr
/-- .. while a carry stands at k. -/
structure TK (w : World) (L : Nat) (xa xb : List Nat) (n m k : Nat) (out : List Nat) (wr : World) : Prop where
  len : out.length = L
  row : Row wr w.heap.size 3 .i64 out
  car : Carrying out k
  val : bval out = sumTo xa xb n m
  bel : Below w.heap.size w wr

theorem TI.start (w : World) (xa xb : List Nat) : TI w (xa.length + xb.length + 1) xa xb 0 0 (List.replicate (xa.length + xb.length + 1) 0) (w.alloc (.cells (madeCells #[.int .i64 0] (xa.length + xb.length + 1)) 3)) :=
  ⟨by simp, Row.made w _ _ _, fun d hd => by simp at hd; omega, by rw [bval_replicate, sumTo_zero], (Below.refl _ _).alloc (Nat.le_refl _) _⟩
theorem TI.store {w : World} {L : Nat} {xa xb : List Nat} {n m : Nat} {out : List Nat} {wr : World} (h : TI w L xa xb n m out wr) (hL : L = xa.length + xb.length + 1) (hn : n < xa.length) (hm : m < xb.length)
    (x y z : Nat) (hx : out.getD (n + m) 0 = x) (hy : xa.getD n 0 = y) (hz : xb.getD m 0 = z) (hv : x + y * z < 8589934592) :
    TK w L xa xb n (m + 1) (n + m) (out.set (n + m) (x + y * z)) (wr.setCell ⟨w.heap.size, n + m, none⟩ (.int .i64 ((x + y * z : Nat) : Int))) := by
  have hlt : n + m < out.length := by rw [h.len]; omega
  refine ⟨by rw [List.length_set]; exact h.len, h.row.set _ _, carrying_start h.dig hlt hv, ?_, h.bel.setCell (Nat.le_refl _) _⟩
  have hs := bval_set out (n + m) (x + y * z) hlt
  have e : out[n + m] = x := by rw [← hx]; simp [List.getElem?_eq_getElem hlt]
  have ez : xb[m] = z := by rw [← hz]; simp [List.getElem?_eq_getElem hm]
  rw [e] at hs
  rw [sumTo_j xa xb n m hm, ← h.val, hy, ez]
  rw [Nat.add_mul] at hs
  omega
theorem TK.step {w : World} {L : Nat} {xa xb : List Nat} {n m k : Nat} {out : List Nat} {wr : World} (h : TK w L xa xb n m k out wr) (hk : k + 1 < out.length) (x y : Nat) (hx : out.getD k 0 = x) (hy : out.getD (k + 1) 0 = y) :
    TK w L xa xb n m (k + 1) ((out.set (k + 1) (y + x / 65536)).set k (x % 65536)) ((wr.setCell ⟨w.heap.size, k + 1, none⟩ (.int .i64 ((y + x / 65536 : Nat) : Int))).setCell ⟨w.heap.size, k, none⟩ (.int .i64 ((x % 65536 : Nat) : Int))) := by
  have hc := carrying_step h.car hk
  rw [hx, hy] at hc
  exact ⟨by simp [h.len], (h.row.set _ _).set _ _, hc.1, by rw [hc.2, h.val], (h.bel.setCell (Nat.le_refl _) _).setCell (Nat.le_refl _) _⟩
theorem TI.drew {w : World} {L : Nat} {xa xb : List Nat} {n m : Nat} {out : List Nat} {wr : World} (h : TI w L xa xb n m out wr) : TI w L xa xb n m out wr.drew := ⟨h.len, h.row, h.dig, h.val, h.bel.drew⟩
theorem TK.drew {w : World} {L : Nat} {xa xb : List Nat} {n m k : Nat} {out : List Nat} {wr : World} (h : TK w L xa xb n m k out wr) : TK w L xa xb n m k out wr.drew := ⟨h.len, h.row, h.car, h.val, h.bel.drew⟩
theorem TK.done {w : World} {L : Nat} {xa xb : List Nat} {n m k : Nat} {out : List Nat} {wr : World} (h : TK w L xa xb n m k out wr) (h2 : out.getD k 0 < 65536) : TI w L xa xb n m out wr :=
  ⟨h.len, h.row, carrying_done h.car h2, h.val, h.bel⟩
theorem TI.next {w : World} {L : Nat} {xa xb : List Nat} {n m : Nat} {out : List Nat} {wr : World} (h : TI w L xa xb n m out wr) (hn : n < xa.length) (hm : m = xb.length) : TI w L xa xb (n + 1) 0 out wr := by
  subst hm
  exact ⟨h.len, h.row, h.dig, by rw [h.val, sumTo_i _ _ _ hn], h.bel⟩
theorem TK.room {w : World} {L : Nat} {xa xb : List Nat} {n m k : Nat} {out : List Nat} {wr : World} (h : TK w L xa xb n m k out wr) (hL : L = xa.length + xb.length + 1) (hda : ∀ d ∈ xa, d < 65536) (hdb : ∀ d ∈ xb, d < 65536) (h2 : 65536 ≤ out.getD k 0) : k + 1 < out.length :=
  carrying_room h.car h2 (by rw [h.len, hL]) (by rw [h.val]; exact sumTo_lt xa xb n m hda hdb)

theorem getD_mem_lt {l : List Nat} {n : Nat} (h : ∀ d ∈ l, d < 65536) : l.getD n 0 < 65536 := by
  by_cases hn : n < l.length
  · have := h l[n] (List.getElem_mem hn); simpa [List.getElem?_eq_getElem hn] using this
  · simp [List.getElem?_eq_none (by omega : l.length ≤ n)]

set_option maxRecDepth 100000 in
set_option maxHeartbeats 1000000 in
theorem times_any (ga gb ca cb : Nat) (xa xb : List Nat) (w : World) (hla : xa.length < 100) (hlb : xb.length < 100)
    (ha : Row w ga 3 .i64 xa) (hb : Row w gb 3 .i64 xb) (hda : ∀ d ∈ xa, d < 65536) (hdb : ∀ d ∈ xb, d < 65536) :
    Calls Tryd.prog 31 #[.slice (some ⟨ga, 0, none⟩) xa.length ca, .slice (some ⟨gb, 0, none⟩) xb.length cb] w fun e w' =>
      ∃ out : List Nat, e = .returned (.slice (some ⟨w.heap.size, 0, none⟩) (xa.length + xb.length + 1) (xa.length + xb.length + 1)) ∧ out.length = xa.length + xb.length + 1 ∧ Row w' w.heap.size 3 .i64 out ∧
        (∀ d ∈ out, d < 65536) ∧ bval out = bval xa * bval xb ∧ Below w.heap.size w w' := by
  have hmk := fun w => run_make_row' (P := Tryd.prog) 60 3 (.int .i64 0) 8 Tryd.underlying60 info_int rfl .i64 .i64 (xa.length + xb.length + 1) (by omega) (by omega) w
  have ec : ((xa.length + xb.length + 1 : Nat) : Int) = (xa.length : Int) + (xb.length : Int) + 1 := by omega
  rw [ec] at hmk
  clear ec
  go_enter Tryd.func31, Tryd.ntmps31
  go_wp2
  go_loopw [6, 7, 8] (fun i _ _ wr => ∃ (n : Nat) (out : List Nat), n ≤ xa.length ∧ i = .int .i64 n ∧ TI w (xa.length + xb.length + 1) xa xb n 0 out wr) (fun i _ _ _ => xa.length - (intOf i).toNat)
  case atStart => exact ⟨0, _, by omega, rfl, TI.start w xa xb⟩
  case round =>
    clear hmk
    obtain ⟨n, out, hn, rfl, hti⟩ := hrel
    by_cases hlt : n < xa.length
    · go_wp2
      go_loopw [7, 8] (fun j _ wr => ∃ (m : Nat) (out : List Nat), m ≤ xb.length ∧ j = .int .i64 m ∧ TI w (xa.length + xb.length + 1) xa xb n m out wr) (fun j _ _ => xb.length - (intOf j).toNat)
      case atStart => exact ⟨0, _, by omega, rfl, hti⟩
      case round =>
        clear hti out
        rename_i wq _
        obtain ⟨m, out, hm, rfl, hti⟩ := hrel
        by_cases hltm : m < xb.length
        · obtain ⟨x, hx⟩ : ∃ x, out.getD (n + m) 0 = x := ⟨_, rfl⟩
          obtain ⟨y, hy⟩ : ∃ y, xa.getD n 0 = y := ⟨_, rfl⟩
          obtain ⟨z, hz⟩ : ∃ z, xb.getD m 0 = z := ⟨_, rfl⟩
          have cx := hti.row.cell (i := n + m) (by rw [hti.len]; omega)
          have cf := hti.row.frozen (n + m)
          have cy := (ha.below hti.bel ha.lt).cell (i := n) (by omega)
          have cz := (hb.below hti.bel hb.lt).cell (i := m) (by omega)
          rw [hx] at cx
          rw [hy] at cy
          rw [hz] at cz
          have bx : x < 65536 := by rw [← hx]; exact getD_mem_lt hti.dig
          have by' : y < 65536 := by rw [← hy]; exact getD_mem_lt hda
          have bz : z < 65536 := by rw [← hz]; exact getD_mem_lt hdb
          have byz : y * z ≤ 65535 * 65535 := Nat.mul_le_mul (by omega) (by omega)
          have hTK := hti.store rfl hlt hltm x y z hx hy hz (by omega)
          have HT := hide hTK
          clear hTK hti hx hy hz
          have e1 : ((x + y * z : Nat) : Int) = (x : Int) + (y : Int) * (z : Int) := by simp
          have p1 : 0 ≤ (y : Int) * (z : Int) := by rw [← Int.natCast_mul]; omega
          have p2 : (y : Int) * (z : Int) ≤ 4294836225 := by rw [← Int.natCast_mul]; omega
          rw [e1] at HT
          clear e1 byz
          go_wp2
          go_region
          go_wp2
          clear cx cf cy cz p1 p2
          go_loopw [8] (fun k wr => ∃ (c : Nat) (out : List Nat), c < xa.length + xb.length + 1 ∧ k = .int .i64 c ∧ TK w (xa.length + xb.length + 1) xa xb n (m + 1) c out wr) (fun k _ => xa.length + xb.length + 1 - (intOf k).toNat)
          case atStart => exact ⟨n + m, _, by omega, by go_num, HT.out.drew⟩
          case round =>
            clear HT bx by' bz
            obtain ⟨c, ov, hc, rfl, htk⟩ := hrel
            obtain ⟨f, hf⟩ : ∃ f, ov.getD c 0 = f := ⟨_, rfl⟩
            obtain ⟨g, hg⟩ : ∃ g, ov.getD (c + 1) 0 = g := ⟨_, rfl⟩
            have cx := htk.row.cell (i := c) (by rw [htk.len]; omega)
            rw [hf] at cx
            by_cases hge : 65536 ≤ f
            · have hroom := htk.room rfl hda hdb (by omega)
              have hlen := htk.len
              have hlt1 : c + 1 < xa.length + xb.length + 1 := by omega
              have cy := htk.row.cell (i := c + 1) (by omega)
              rw [hg] at cy
              have cf := htk.row.frozen c
              have cf1 := htk.row.frozen (c + 1)
              have bx : f < 8589934592 := by
                have := htk.car.2.2 (by omega)
                rw [← hf]; simpa [List.getElem?_eq_getElem (by omega : c < ov.length)] using this
              have by' : g < 65536 := by
                have := htk.car.2.1 (c + 1) hroom (by omega)
                rw [← hg]; simpa [List.getElem?_eq_getElem hroom] using this
              have hs := hide (htk.step hroom f g hf hg)
              have e1 : ((g + f / 65536 : Nat) : Int) = (g : Int) + (f : Int) / 65536 := by simp
              have e2 : ((f % 65536 : Nat) : Int) = bits .and .i64 (f : Int) 65535 := by
                have := i64_and_nat f 65535 (by omega) (by decide)
                rw [nat_mask16] at this
                exact this.symm
              rw [e1, e2] at hs
              have bxi : (f : Int) < 8589934592 := by omega
              have byi : (g : Int) < 65536 := by omega
              have hgi : (65536 : Int) ≤ (f : Int) := by omega
              clear htk hf hg hroom hlen e1 e2 bx by' hge
              go_wp2
              go_region
              go_wp2
              go_roundw
              case rel => exact ⟨c + 1, _, by omega, by go_num, hs.out.drew⟩
              case measure => simp [intOf]; omega
            · have hd := htk.done (by omega)
              have hgi : decide ((65536 : Int) ≤ (f : Int)) = false := by simp; omega
              clear htk hf hg hge
              go_wp2
              go_roundw
              case rel => exact ⟨m + 1, ov, by omega, by go_num, hd⟩
              case measure => simp [intOf]; omega
        · go_wp2
          go_roundw
          case rel => exact ⟨n + 1, out, by omega, by go_num, hti.next hlt (by omega)⟩
          case measure => simp [intOf]; omega
    · go_wp2
      go_ret
      have : n = xa.length := by omega
      subst this
      exact ⟨out, rfl, hti.len, hti.row, hti.dig, by rw [hti.val, sumTo_end], hti.bel⟩

theorem times_at (ga gb ca cb la lb L : Nat) (xa xb : List Nat) (w : World) (hea : xa.length = la) (heb : xb.length = lb) (hL : la + lb + 1 = L) (hla : la < 100) (hlb : lb < 100)
    (ha : Row w ga 3 .i64 xa) (hb : Row w gb 3 .i64 xb) (hda : ∀ d ∈ xa, d < 65536) (hdb : ∀ d ∈ xb, d < 65536) :
    Calls Tryd.prog 31 #[.slice (some ⟨ga, 0, none⟩) la ca, .slice (some ⟨gb, 0, none⟩) lb cb] w fun e w' =>
      e = .returned (.slice (some ⟨w.heap.size, 0, none⟩) L L) ∧ ∃ out : List Nat, out.length = L ∧ Row w' w.heap.size 3 .i64 out ∧
        (∀ d ∈ out, d < 65536) ∧ bval out = bval xa * bval xb ∧ Below w.heap.size w w' := by
  subst hea heb hL
  exact (times_any ga gb ca cb xa xb w hla hlb ha hb hda hdb).mono fun e w' ⟨out, h1, h2⟩ => ⟨h1, out, h2⟩
theorem getD_ge {l : List Nat} {n : Nat} (h : l.length ≤ n) : l.getD n 0 = 0 := by simp [List.getElem?_eq_none h]

set_option maxRecDepth 100000 in
set_option maxHeartbeats 1000000 in
theorem above_any (ga gb ca cb la lb : Nat) (xa xb : List Nat) (w : World) (hla : la < 100) (hlb : lb < 100) (hea : xa.length = la) (heb : xb.length = lb)
    (ha : Row w ga 3 .i64 xa) (hb : Row w gb 3 .i64 xb) (hda : ∀ d ∈ xa, d < 65536) (hdb : ∀ d ∈ xb, d < 65536) :
    Calls Tryd.prog 32 #[.slice (some ⟨ga, 0, none⟩) la ca, .slice (some ⟨gb, 0, none⟩) lb cb] w fun e w' =>
      e = .returned (.bool (decide (bval xb < bval xa))) ∧ w' = w := by
  have HA := hide hea
  have HB := hide heb
  clear hea heb
  go_enter Tryd.func32, Tryd.ntmps32
  go_wp2
  all_goals
    go_loop [6, 7, 8] (fun i _ _ => ∃ n : Nat, n ≤ 100 ∧ i = .int .i64 ((n : Int) - 1) ∧ Hid (bval (xa.drop n) = bval (xb.drop n))) (fun i _ _ => (intOf i + 1).toNat)
    case atStart =>
      first
        | exact ⟨lb, by omega, rfl, by rw [List.drop_eq_nil_of_le (by have := HA.out; omega), List.drop_eq_nil_of_le (by have := HB.out; omega)]; rfl⟩
        | exact ⟨la, by omega, rfl, by rw [List.drop_eq_nil_of_le (by have := HA.out; omega), List.drop_eq_nil_of_le (by have := HB.out; omega)]; rfl⟩
    case round =>
      obtain ⟨n, hn, rfl, hh⟩ := hrel
      rcases Nat.eq_zero_or_pos n with h0 | h0
      · subst h0
        go_wp2
        go_ret
        have : bval xa = bval xb := hh.out
        exact ⟨ret_bool (by rw [this]; simp), rfl⟩
      · obtain ⟨k, rfl⟩ : ∃ k, n = k + 1 := ⟨n - 1, by omega⟩
        have e1 : ((k + 1 : Nat) : Int) - 1 = (k : Int) := by omega
        rw [e1]
        clear e1
        obtain ⟨x, hx⟩ : ∃ x, xa.getD k 0 = x := ⟨_, rfl⟩
        obtain ⟨y, hy⟩ : ∃ y, xb.getD k 0 = y := ⟨_, rfl⟩
        have cx : k < la → w.cell? ⟨ga, k, none⟩ = some (.int .i64 (x : Int)) := fun h => by have := ha.cell (i := k) (by have := HA.out; omega); rwa [hx] at this
        have cy : k < lb → w.cell? ⟨gb, k, none⟩ = some (.int .i64 (y : Int)) := fun h => by have := hb.cell (i := k) (by have := HB.out; omega); rwa [hy] at this
        have zx : la ≤ k → x = 0 := fun h => by rw [← hx]; exact getD_ge (by have := HA.out; omega)
        have zy : lb ≤ k → y = 0 := fun h => by rw [← hy]; exact getD_ge (by have := HB.out; omega)
        by_cases hxy : x = y
        · have hN := hide (above_same xa xb k hh.out (by rw [hx, hy, hxy]))
          clear hx hy hh
          have hb1 : ((x : Int) != (y : Int)) = false := by simp; omega
          clear hxy
          by_cases h1 : k < la <;> by_cases h2 : k < lb
          all_goals
            first
              | (have cx1 := cx (by assumption); clear zx)
              | (have zx1 := zx (by omega); subst zx1)
            first
              | (have cy1 := cy (by assumption); clear zy)
              | (have zy1 := zy (by omega); subst zy1)
            clear cx cy
            try (have hb2 : ((0 : Int) != (y : Int)) = false := hb1)
            try (have hb3 : ((x : Int) != (0 : Int)) = false := hb1)
            go_wp2
            all_goals
              go_round
              case rel => exact ⟨k, by omega, by go_num, hN⟩
              case measure => simp [intOf] <;> omega
        · have hN := hide (above_part xa xb k hda hdb hh.out (by rw [hx, hy]; exact hxy))
          rw [hx, hy] at hN
          clear hx hy hh
          have hb1 : ((x : Int) != (y : Int)) = true := by simp; omega
          clear hxy
          by_cases h1 : k < la <;> by_cases h2 : k < lb
          all_goals
            first
              | (have cx1 := cx (by assumption); clear zx)
              | (have zx1 := zx (by omega); subst zx1)
            first
              | (have cy1 := cy (by assumption); clear zy)
              | (have zy1 := zy (by omega); subst zy1)
            clear cx cy
            try (have hb2 : ((0 : Int) != (y : Int)) = true := hb1)
            try (have hb3 : ((x : Int) != (0 : Int)) = true := hb1)
            go_wp2
            all_goals
              first
                | exact absurd hb1 (by decide)
                | (go_ret; exact ⟨ret_bool (by rw [hN.out] <;> simp), rfl⟩)
end Go.Proofs.YtjnhlkaafnaooaaDoor
