import Derived.Test.YtjnhlkaafnaooaaArrW
import Derived.Test.YtjnhlkaafnaooaaGcmR
import Derived.Test.YtjnhlkaafnaooaaAes2
namespace Go.Proofs.Ytjnhlkaafnaooaa
open Go.RowKit
/-- The reference's constants: the substitution lies where its third field says. -/
structure PS (w : World) (pb gs cs : Nat) : Prop where
  lt : pb < w.heap.size
  c2 : w.cell? ⟨pb, 2, none⟩ = some (.slice (some ⟨gs, 0, none⟩) 256 cs)
  s : Cells w gs .i64 (sList 256)
theorem PS.below {w w' : World} {pb gs cs B : Nat} (h : PS w pb gs cs) (hb : Below B w w') (hB : w.heap.size ≤ B) : PS w' pb gs cs :=
  ⟨Nat.lt_of_lt_of_le h.lt hb.size, by rw [hb.cell (p := ⟨pb, 2, none⟩) (Nat.lt_of_lt_of_le h.lt hB)]; exact h.c2, h.s.below hb (Nat.lt_of_lt_of_le h.s.lt hB)⟩
theorem PS.at_ {w : World} {pb gs cs : Nat} (h : PS w pb gs cs) (i : Nat) (hi : i < 256) : w.cell? ⟨gs, i, none⟩ = some (.int .i64 ((sboxN i : Nat) : Int)) := by
  have hl : (sList 256).length = 256 := by rw [sList_lit, ← boxTo_lit]; exact boxTo_len 255
  rw [h.s.at_ i (by omega), sList_lit, sbLit_get i hi]
theorem natsx_get (l : List UInt8) (i : Nat) : (nats l).getD i 0 = (l.getD i 0).toNat := by
  simp only [nats, List.getD_eq_getElem?_getD, List.getElem?_map]
  cases l[i]? <;> simp
/-- A row of bytes, its first k written. -/
def upTo (A : List UInt8) (k : Nat) : List Nat := nats (A.take k) ++ List.replicate (A.length - k) 0
theorem upTo_zero (A : List UInt8) : upTo A 0 = List.replicate A.length 0 := by simp [upTo, nats]
theorem upTo_len (A : List UInt8) (k : Nat) (hk : k ≤ A.length) : (upTo A k).length = A.length := by simp [upTo, nats]; omega
theorem upTo_set (A : List UInt8) (k : Nat) (hk : k < A.length) : (upTo A k).set k (A.getD k 0).toNat = upTo A (k + 1) := by
  have hl : (nats (A.take k)).length = k := by rw [nats_len]; simp; omega
  unfold upTo
  rw [List.set_append_right k _ (by omega), hl, Nat.sub_self, show A.length - k = (A.length - (k + 1)) + 1 by omega, List.replicate_succ, List.set_cons_zero, List.take_succ_eq_append_getElem hk]
  have e : A.getD k 0 = A[k] := by rw [List.getD_eq_getElem?_getD, List.getElem?_eq_getElem hk]; rfl
  rw [e]
  unfold nats
  rw [List.map_append, List.append_assoc]
  rfl
theorem upTo_all (A : List UInt8) : upTo A A.length = nats A := by simp [upTo]
theorem byte_at (t : List UInt8) (i : Nat) (h : i < (ByteArray.mk t.toArray).size) : ((ByteArray.mk t.toArray)[i]'h) = t.getD i 0 := by
  have h2 : i < t.length := by simpa [ByteArray.size] using h
  rw [List.getD_eq_getElem?_getD, List.getElem?_eq_getElem h2]
  rfl
theorem subLx_get (B : List UInt8) (i : Nat) (hi : i < B.length) : ((subL B).getD i 0).toNat = sboxN (B.getD i 0).toNat := by
  simp only [subL, List.getD_eq_getElem?_getD, List.getElem?_map, List.getElem?_eq_getElem hi, Option.map_some, Option.getD_some]
  exact (UInt8.toNat_ofNat' ..).trans (Nat.mod_eq_of_lt (sboxN_lt _))
set_option maxRecDepth 100000 in
set_option maxHeartbeats 400000 in
theorem swap_any (pb gs cs : Nat) (t : List UInt8) (w : World) (hp : PS w pb gs cs) (ht : t.length ≤ 16) :
    Calls Try.prog 41 #[.pointer (some ⟨pb, 0, none⟩), .string ⟨t.toArray⟩] w fun e w' => e = .returned (.string ⟨(subL t).toArray⟩) ∧ Below w.heap.size w w' := by
  obtain ⟨n, hn⟩ : ∃ n, t.length = n := ⟨_, rfl⟩
  have hmk := make_u8 n (by omega)
  have hsz : (ByteArray.mk t.toArray).size = n := by simp [ByteArray.size, hn]
  have hni : (n : Int) ≤ 16 := by omega
  have hAl := subL_len t
  have HG := hide (fun i (hi : i < t.length) => subLx_get t i hi)
  obtain ⟨A, hA⟩ : ∃ A, subL t = A := ⟨_, rfl⟩
  rw [hA, hn] at hAl
  rw [hA] at HG
  have HA := hide hA
  have HN := hide (And.intro hn hAl)
  clear hn hA hAl ht
  go_enter Try.func41, Try.ntmps41
  go_wp2_with fail
  go_loopw [6] (fun i wr => ∃ k : Nat, k ≤ n ∧ i = .int .i64 (k : Int) ∧ Row wr w.heap.size 5 .u8 (upTo A k) ∧ Below w.heap.size w wr) (fun i _ => (17 - intOf i).toNat)
  case atStart => exact ⟨0, by omega, rfl, by rw [upTo_zero, HN.out.2]; exact Row.made w _ _ n, (Below.refl _ _).alloc (Nat.le_refl _) _⟩
  case round =>
    obtain ⟨k, hk, rfl, hrow, hbel⟩ := hrel
    by_cases hlt : k < n
    · have hki : (k : Int) < (n : Int) := by omega
      have hc := hrow.cell (i := k) (by rw [upTo_len A k (by rw [HN.out.2]; exact hk), HN.out.2]; exact hlt)
      have hf := hrow.frozen k
      have hset := hrow.set k (A.getD k 0).toNat
      rw [upTo_set A k (by rw [HN.out.2]; exact hlt)] at hset
      have hb2 : Below w.heap.size w (wr.setCell ⟨w.heap.size, k, none⟩ (.int .u8 (((A.getD k 0).toNat : Nat) : Int))) := hbel.setCell (Nat.le_refl _) _
      have hps := hp.below hbel (Nat.le_refl _)
      have c2 := hps.c2
      have sa := hps.at_ (t.getD k 0).toNat (UInt8.toNat_lt _)
      rw [← HG.out k (by rw [HN.out.1]; exact hlt)] at sa
      have hby := byte_at t k (by rw [hsz]; exact hlt)
      have hlt8 : (A.getD k 0).toNat < 256 := UInt8.toNat_lt _
      have hyl : (t.getD k 0).toNat < 256 := UInt8.toNat_lt _
      have HS := hide (And.intro hset hb2)
      generalize (upTo A k).getD k 0 = g at *
      generalize (A.getD k 0).toNat = z at *
      generalize t.getD k 0 = y at *
      have hzi : (z : Int) < 256 := by omega
      have hyi : (y.toNat : Int) < 256 := by omega
      clear hset hb2 hrow hps
      go_wp2_with fail
      go_region
      go_wp2_with fail
      go_roundw
      case rel => exact ⟨k + 1, by omega, by go_num, HS.out.1.drew, HS.out.2.drew⟩
      case measure => simp [intOf]; omega
    · have hkn : k = n := by omega
      subst hkn
      have e1 : upTo A k = nats A := by rw [← HN.out.2]; exact upTo_all A
      rw [e1] at hrow
      have hcv := conv_row (cap := k) hrow
      rw [nats_len, HN.out.2, show (nats A).map UInt8.ofNat = A from map_toNat_ofNat A] at hcv
      clear hrow e1
      go_wp2_with fail
      go_ret
      exact ⟨by rw [HA.out]; rfl, hbel⟩
set_option maxRecDepth 100000 in
set_option maxHeartbeats 400000 in
theorem refShifted_any (t : List UInt8) (w : World) (ht : t.length = 16) :
    Calls Try.prog 42 #[.string ⟨t.toArray⟩] w fun e w' => e = .returned (.string ⟨(rowsL t).toArray⟩) ∧ Below w.heap.size w w' := by
  have hmk : ∀ w, (Instr.makeSlice 34 (.int .i64 16) (.int .i64 16)).run Try.prog w = .ok (.slice (some ⟨w.heap.size, 0, none⟩) 16 16) (w.alloc (.cells (madeCells #[.int .u8 0] 16) 5)) := fun w => make_u8 16 (by omega) w
  have hsz : (ByteArray.mk t.toArray).size = 16 := by simp [ByteArray.size, ht]
  have hAl := rowsL_len t
  have HG := hide (fun i (hi : i < 16) => show (rowsL t).getD i 0 = t.getD ((i + 4 * (i % 4)) % 16) 0 from by unfold rowsL; rw [List.getD_eq_getElem?_getD, List.getElem?_map, List.getElem?_range hi]; rfl)
  obtain ⟨A, hA⟩ : ∃ A, rowsL t = A := ⟨_, rfl⟩
  rw [hA] at hAl HG
  have HA := hide hA
  have HN := hide hAl
  clear hA hAl ht
  go_enter Try.func42, Try.ntmps42
  go_wp2_with fail
  go_loopw [4] (fun i wr => ∃ k : Nat, k ≤ 16 ∧ i = .int .i64 (k : Int) ∧ Row wr w.heap.size 5 .u8 (upTo A k) ∧ Below w.heap.size w wr) (fun i _ => (17 - intOf i).toNat)
  case atStart => exact ⟨0, by omega, rfl, by rw [upTo_zero, HN.out]; exact Row.made w _ _ 16, (Below.refl _ _).alloc (Nat.le_refl _) _⟩
  case round =>
    clear hmk
    obtain ⟨k, hk, rfl, hrow, hbel⟩ := hrel
    by_cases hlt : k < 16
    · have hki : (k : Int) < 16 := by omega
      have hc := hrow.cell (i := k) (by rw [upTo_len A k (by rw [HN.out]; exact hk), HN.out]; exact hlt)
      have hf := hrow.frozen k
      have hset := hrow.set k (A.getD k 0).toNat
      rw [upTo_set A k (by rw [HN.out]; exact hlt)] at hset
      have hb2 : Below w.heap.size w (wr.setCell ⟨w.heap.size, k, none⟩ (.int .u8 (((A.getD k 0).toNat : Nat) : Int))) := hbel.setCell (Nat.le_refl _) _
      have hj : (k + 4 * (k % 4)) % 16 < 16 := Nat.mod_lt _ (by decide)
      have hby := byte_at t ((k + 4 * (k % 4)) % 16) (by rw [hsz]; exact hj)
      rw [← HG.out k hlt] at hby
      have hidx : ((k : Int) + 4 * ((k : Int) % 4)) % 16 = (((k + 4 * (k % 4)) % 16 : Nat) : Int) := by omega
      have HS := hide (And.intro hset hb2)
      generalize (upTo A k).getD k 0 = g at *
      generalize A.getD k 0 = z at *
      generalize (k + 4 * (k % 4)) % 16 = j at *
      have hji : (j : Int) < 16 := by omega
      clear hset hb2 hrow
      go_wp2_with fail
      go_roundw
      case rel => exact ⟨k + 1, by omega, by go_num, HS.out.1, HS.out.2⟩
      case measure => simp [intOf]; omega
    · have hkn : k = 16 := by omega
      subst hkn
      have e1 : upTo A 16 = nats A := by rw [← HN.out]; exact upTo_all A
      rw [e1] at hrow
      have hcv := conv_row (cap := 16) hrow
      rw [nats_len, HN.out, show (nats A).map UInt8.ofNat = A from map_toNat_ofNat A] at hcv
      clear hrow e1
      go_wp2_with fail
      go_ret
      exact ⟨by rw [HA.out]; rfl, hbel⟩
end Go.Proofs.Ytjnhlkaafnaooaa
