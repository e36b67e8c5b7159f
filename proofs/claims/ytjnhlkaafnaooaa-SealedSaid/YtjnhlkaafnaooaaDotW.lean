import Derived.Test.YtjnhlkaafnaooaaColsW
import Derived.Test.YtjnhlkaafnaooaaDot4
namespace Go.Proofs.Ytjnhlkaafnaooaa
open Go.RowKit
/-- A row of ints that may be written. -/
structure NR (wr : World) (b : Nat) (xs : List Nat) : Prop where
  lt : b < wr.heap.size
  cell : ∀ i, i < xs.length → wr.cell? ⟨b, i, none⟩ = some (.int .i64 ((xs.getD i 0 : Nat) : Int))
  frz : ∀ i, i < xs.length → wr.frozen? ⟨b, i, none⟩ = false
theorem NR.set {wr : World} {b : Nat} {xs : List Nat} (h : NR wr b xs) (i x : Nat) (hi : i < xs.length) : NR (wr.setCell ⟨b, i, none⟩ (.int .i64 (x : Int))) b (xs.set i x) := by
  refine ⟨by simpa [World.setCell] using h.lt, fun j hj => ?_, fun j hj => ?_⟩
  · rw [List.length_set] at hj
    by_cases e : i = j
    · subst e
      rw [World.cell?_setCell_same _ _ _ (h.cell i hi)]
      simp [List.getElem?_set_self hi]
    · rw [World.cell?_setCell_other _ _ _ _ (by intro h2; apply e; injection h2), h.cell j hj]
      simp [List.getElem?_set_ne e]
  · rw [List.length_set] at hj
    rw [World.frozen?_setCell]; exact h.frz j hj
theorem NR.of_block {wr wr' : World} {b : Nat} {xs : List Nat} (h : NR wr b xs) (e : wr'.heap[b]? = wr.heap[b]?) (hl : b < wr'.heap.size) : NR wr' b xs :=
  ⟨hl, fun i hi => by rw [World.cell?_of_block e]; exact h.cell i hi, fun i hi => by rw [World.frozen?_of_block e]; exact h.frz i hi⟩
theorem NR.below {wr wr' : World} {b B : Nat} {xs : List Nat} (h : NR wr b xs) (hb : Below B wr wr') (hB : b < B) : NR wr' b xs := h.of_block (hb.block b hB) (Nat.lt_of_lt_of_le h.lt hb.size)
theorem NR.other {wr : World} {b : Nat} {xs : List Nat} (h : NR wr b xs) (a : Addr) (v : Value) (hb : b ≠ a.block) : NR (wr.setCell a v) b xs :=
  h.of_block (Below.heap_setCell wr a v b hb) (by simpa [World.setCell] using h.lt)
theorem NR.drew {wr : World} {b : Nat} {xs : List Nat} (h : NR wr b xs) : NR wr.drew b xs := ⟨h.lt, h.cell, h.frz⟩
theorem NR.drewN {wr : World} {b : Nat} {xs : List Nat} (h : NR wr b xs) (n : Nat) : NR (wr.drewN n) b xs := ⟨h.lt, h.cell, h.frz⟩
theorem NR.of_own {w : World} {base g cap n : Nat} {xs : List Nat} (h : w.ownsRow base 3 1 (.slice (some ⟨g, 0, none⟩) n cap) n (vals .i64 xs)) (hn : 0 < n) : NR w g xs ∧ base ≤ g := by
  obtain ⟨hl, h2⟩ := h
  rcases h2 with ⟨h3, h4⟩ | ⟨g2, cap2, cur, hv, hb, hblk, hnc, hcm, hcs, htk⟩
  · omega
  · injection hv with e1 e2 e3
    injection e1 with e1
    injection e1 with e1
    subst e1
    have hlx : xs.length = n := by simpa [vals] using hl
    refine ⟨⟨lt_of_block hblk, fun i hi => ?_, fun i hi => ?_⟩, hb⟩
    · rw [cell_of_row _ _ _ _ _ _ hblk]
      have h5 : (cur.toList.take (n * 1))[i]? = (vals .i64 xs)[i]? := by rw [htk]
      rw [List.getElem?_take_of_lt (by omega)] at h5
      rw [← Array.getElem?_toList, h5]
      simp [vals, List.getElem?_eq_getElem hi]
    · have : w.rowIs g 3 cur.size (fun i => cur.getD i undef) := ⟨cur, hblk, rfl, fun i hi => by simp [hi]⟩
      exact World.rowIs.frozen this i
theorem NR.made (w : World) (n : Nat) : NR (w.alloc (.cells (madeCells #[.int .i64 0] n) 3)) w.heap.size (List.replicate n 0) := by
  have h := Row.made w 3 .i64 n
  exact ⟨h.lt, fun i hi => h.cell hi, fun i _ => h.frozen i⟩
/-- A text filled up to whole blocks. -/
def wholeL (t : List UInt8) : List UInt8 := t ++ List.replicate ((16 - t.length % 16) % 16) 0
theorem wholeL_len (t : List UInt8) : (wholeL t).length % 16 = 0 := by simp [wholeL]; omega
theorem wholeL_blocks : ∀ (n : Nat) (t : List UInt8), t.length ≤ n → blocksN (wholeL t) = blocksN t := by
  intro n
  induction n with
  | zero =>
    intro t h
    have : t = [] := List.length_eq_zero_iff.1 (by omega)
    subst this; rfl
  | succ n ih =>
    intro t h
    by_cases hne : t = []
    · subst hne; rfl
    · have hpos : 0 < t.length := List.length_pos_iff.2 hne
      have hne2 : wholeL t ≠ [] := by intro e; exact hne (List.append_eq_nil_iff.1 e).1
      rw [blocksN_ne _ hne2, blocksN_ne _ hne]
      by_cases h16 : 16 ≤ t.length
      · have e1 : fillL (wholeL t) 16 = fillL t 16 := by
          unfold fillL wholeL
          rw [List.take_append_of_le_length h16]
          congr 2
          simp; omega
        have e2 : (wholeL t).drop 16 = wholeL (t.drop 16) := by
          unfold wholeL
          rw [List.drop_append_of_le_length h16]
          congr 2
          simp; omega
        rw [e1, e2, ih (t.drop 16) (by simp; omega)]
      · have hm : (16 - t.length % 16) % 16 = 16 - t.length := by omega
        have e1 : fillL (wholeL t) 16 = fillL t 16 := by
          unfold fillL wholeL
          rw [hm, List.take_of_length_le (by simp; omega), List.take_of_length_le (l := t) (by omega)]
          simp; omega
        have e2 : (wholeL t).drop 16 = t.drop 16 := by
          rw [List.drop_eq_nil_of_le (by simp [wholeL]; omega), List.drop_eq_nil_of_le (by omega)]
        rw [e1, e2]
def strLen : Value → Nat
  | .string s => s.size
  | _ => 0
set_option maxRecDepth 100000 in
set_option maxHeartbeats 400000 in
theorem whole_any (t : List UInt8) (w : World) (ht : t.length ≤ 4096) :
    Calls Try.prog 24 #[.string ⟨t.toArray⟩] w fun e w' => e = .returned (.string ⟨(wholeL t).toArray⟩) ∧ Below w.heap.size w w' := by
  obtain ⟨n, hn⟩ : ∃ n, t.length = n := ⟨_, rfl⟩
  obtain ⟨z, hz⟩ : ∃ z, (16 - n % 16) % 16 = z := ⟨_, rfl⟩
  have HW := hide (show wholeL t = t ++ List.replicate z 0 by unfold wholeL; rw [hn, hz])
  have HN := hide (And.intro hn hz)
  have hni : (n : Int) ≤ 4096 := by omega
  clear hn hz ht
  go_enter Try.func24, Try.ntmps24
  go_wp2_with fail
  go_loopw [0] (fun tv wr => ∃ k : Nat, k ≤ z ∧ tv = .string ⟨(t ++ List.replicate k 0).toArray⟩ ∧ Below w.heap.size w wr) (fun tv _ => 4200 - strLen tv)
  case atStart => exact ⟨0, by omega, by simp, Below.refl _ _⟩
  case round =>
    obtain ⟨k, hk, rfl, hbel⟩ := hrel
    have hn := HN.out.1
    have hz := HN.out.2
    obtain ⟨pj, hpj⟩ : ∃ l, t ++ List.replicate k 0 = l := ⟨_, rfl⟩
    obtain ⟨m, hm⟩ : ∃ m, n + k = m := ⟨_, rfl⟩
    have hlen : pj.length = m := by rw [← hpj]; simp [hn, hm]
    have hsz : (ByteArray.mk pj.toArray).size = m := by simp [ByteArray.size, hlen]
    have hpn : t ++ List.replicate (k + 1) 0 = pj ++ [0] := by rw [← hpj, List.replicate_succ', List.append_assoc]
    rw [hpj]
    by_cases hlt : k < z
    · have hb : ((m : Int) % 16 != 0) = true := by rw [bne_iff_ne]; omega
      have a2 := fun w => add_str pj [0] (by simp [hlen]; omega) w
      rw [← hpn] at a2
      have hmi : (m : Int) ≤ 4200 := by omega
      have HPJ := hide hpj
      have HL := hide (And.intro hlen hm)
      clear hpn hpj hm hn hz hlen
      go_wp2_with fail
      go_roundw
      case rel => exact ⟨k + 1, by omega, rfl, hbel⟩
      case measure =>
        have h1 := HL.out.1
        have h2 := HN.out.1
        have h3 := HN.out.2
        have h4 := HL.out.2
        simp [strLen, ByteArray.size, h1, h2]
        omega
    · have hkz : k = z := by omega
      subst hkz
      have hb : ((m : Int) % 16 != 0) = false := by rw [bne_eq_false_iff_eq]; omega
      have hmi : (m : Int) ≤ 4200 := by omega
      have HPJ := hide hpj
      clear hpn hpj hm hn hz hlen hlt hk
      go_wp2_with fail
      go_ret
      exact ⟨by rw [HW.out, HPJ.out]; rfl, hbel⟩
/-- The first k words of a block. -/
def w4To (e k : Nat) : List Nat := (words4 e).take k
theorem w4To_succ (e k : Nat) (hk : k < 4) : w4To e (k + 1) = w4To e k ++ [w4 e k] := by
  have : k = 0 ∨ k = 1 ∨ k = 2 ∨ k = 3 := by omega
  rcases this with rfl | rfl | rfl | rfl <;> rfl
set_option maxRecDepth 100000 in
set_option maxHeartbeats 400000 in
theorem words_any (s : List UInt8) (w : World) (hs : s.length = 16) :
    Calls Try.prog 44 #[.string ⟨s.toArray⟩] w fun e w' => ∃ g cap, e = .returned (.slice (some ⟨g, 0, none⟩) 4 cap) ∧ NR w' g (words4 (numL s)) ∧ w.heap.size ≤ g ∧ Below w.heap.size w w' := by
  obtain ⟨i0, hi, hz0, hz1, hz2⟩ := info_parts info_int
  have hss : (ByteArray.mk s.toArray).size = 16 := by simp [ByteArray.size, hs]
  have HS := hide hs
  clear hs
  go_enter Try.func44, Try.ntmps44
  go_wp2_with fail
  go_loopw [3, 4, 5] (fun v i _ wr => ∃ (k : Nat) (ao : Option Addr) (cap : Nat), k ≤ 4 ∧ i = .int .i64 ((4 * k : Nat) : Int) ∧ v = .slice ao k cap ∧ wr.ownsRow w.heap.size 3 1 (.slice ao k cap) k (vals .i64 (w4To (numL s) k)) ∧ Below w.heap.size w wr) (fun _ i _ _ => (17 - intOf i).toNat)
  case atStart => exact ⟨0, none, 0, by omega, rfl, rfl, World.ownsRow_nil _ _ _ _, Below.refl _ _⟩
  case round =>
    obtain ⟨k, ao, cap, hk, rfl, rfl, hown, hbel⟩ := hrel
    by_cases hlt : k < 4
    · have hex : (ByteArray.mk s.toArray).extract (4 * k) (4 * k + 4) = ⟨((s.drop (4 * k)).take 4).toArray⟩ := by
        rw [ByteArray.extract_mk, show 4 * k + 4 - 4 * k = 4 from by omega]
      have hw4 := w4_num s k HS.out hlt
      have hsl : (ByteArray.mk ((s.drop (4 * k)).take 4).toArray).size ≤ 4 := by simp [ByteArray.size]; omega
      have hnl : (ByteArray.mk ((s.drop (4 * k)).take 4).toArray).data.toList = (s.drop (4 * k)).take 4 := by simp
      generalize (s.drop (4 * k)).take 4 = S4 at *
      obtain ⟨m, hm⟩ : ∃ m, 4 * k = m := ⟨_, rfl⟩
      have HM := hide (And.intro hm hlt)
      rw [hm] at hex ⊢
      have hmi : (m : Int) ≤ 12 := by omega
      have HSL := hide (And.intro hsl hnl)
      clear hm hlt hk hsl hnl
      go_wp2_with fail
      refine (number_any _ _ HSL.out.1).mono ?_
      rintro e w1 ⟨rfl, rfl⟩
      rw [show (ByteArray.mk S4.toArray).data.toList = S4 from by simp, ← hw4]
      obtain ⟨x, hx⟩ : ∃ x, w4 (numL s) k = x := ⟨_, rfl⟩
      rw [hx]
      have HX := hide hx
      have hszw := hbel.size
      clear hx hw4 hex
      go_wp2_with (at_builtin; refine wpList_append_lies _ rfl _ _ 37 rfl w.heap.size 3 i0 (.int .i64 0) 1 8 Try.underlying37 hi hz0 hz1 hz2 rfl (by decide) _ _ _ rfl (hown.alloc _) ⟨w1.heap.size, 0, none⟩ 1 1 [.int .i64 x] rfl rfl ?c1 ?c2 (by decide) ?c3 ?c4 ?c5 _ rfl ?_)
      case c1 =>
        intro j u hj
        match j, hj with
        | 0, hj => simp at hj; subst hj; simp [Addr.add]
      case c2 => intro u hu; simp at hu; subst hu; rfl
      case c3 => unfold maxLen; have := HM.out; omega
      case c4 => have := HM.out; omega
      case c5 => simp; omega
      intro g cap2 w2 hown2 hgrow hlie hg2
      have hbel2 : Below w.heap.size w w2 := Below.grown (hbel.alloc hszw _) hgrow (by simp; omega) (fun k hk => (hown.lt k hk).1)
      have hown3 : w2.ownsRow w.heap.size 3 1 (.slice (some ⟨g, 0, none⟩) (k + 1) cap2) (k + 1) (vals .i64 (w4To (numL s) (k + 1))) := by
        rw [w4To_succ _ _ HM.out.2, vals_snoc, HX.out]; exact hown2
      clear hown2 hgrow hlie hown hbel
      go_wp2_with fail
      go_roundw
      case rel => first
        | exact ⟨k + 1, _, _, by have := HM.out; omega, val_int (by have := HM.out; omega), rfl, hown3, hbel2⟩
        | ((repeat apply Exists.intro); exact ⟨⟨k + 1, _, _, by have := HM.out; omega, val_int (by have := HM.out; omega), rfl, hown3, hbel2⟩, rfl⟩)
      case measure => have := HM.out; simp [intOf]; omega
    · have hk4 : k = 4 := by omega
      subst hk4
      have e4 : w4To (numL s) 4 = words4 (numL s) := rfl
      rw [e4] at hown
      obtain ⟨g, cap', hv⟩ := own_form hown (by omega)
      injection hv with e1 e2 e3
      subst e1
      obtain ⟨hnr, hg⟩ := NR.of_own hown (by decide)
      have HR := hide (And.intro hnr hg)
      clear hlt hk hown hnr hg e4 e3
      simp only [show ((4 * 4 : Nat) : Int) = 16 from rfl]
      go_wp2_with fail
      go_ret
      refine ⟨g, ?_, HR.out.1, HR.out.2, hbel⟩
      simp
end Go.Proofs.Ytjnhlkaafnaooaa
