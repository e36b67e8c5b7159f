import Derived.Test.YtjnhlkaafnaooabGreatDoorSealW
import Derived.Test.YtjnhlkaafnaooabGreatDoorRmA
import Derived.Test.YtjnhlkaafnaooabGreatDoorRmC
namespace Go.Proofs.YtjnhlkaafnaooabGreatDoor
open Go.RowKit
/- What a vault writes: plain lists of bytes. -/
def markL : List UInt8 := [83, 69, 65, 76]
def bodyL (salt : List UInt8) (v p : Nat) (d : List UInt8) : List UInt8 := markL ++ salt ++ onesL v 8 ++ onesL p 1 ++ fillL d 32
def slotL (tk salt : List UInt8) (v p : Nat) (d : List UInt8) : List UInt8 := fillL (bodyL salt v p d ++ macL tk (bodyL salt v p d)) 256
def nonceL (s n : Nat) : List UInt8 := onesL s 8 ++ onesL n 4
def pageL (rk : List UInt8) (s n p : Nat) (t : List UInt8) : List UInt8 := nonceL s n ++ sealL rk (nonceL s n) (onesL p 1) t
def stretchL (pass salt : List UInt8) : List UInt8 := keyL (onesL pass.length 1 ++ pass) salt 3 64
def tagsL (pass salt : List UInt8) : List UInt8 := (stretchL pass salt).take 32
def pagesL (pass salt : List UInt8) : List UInt8 := (stretchL pass salt).drop 32
/-- An entry, as it is written. -/
structure EntM where
  key : List UInt8
  value : List UInt8
  place : Nat
  digest : List UInt8
def entT (leaf : Bool) (e : EntM) : List UInt8 := onesL e.key.length 1 ++ e.key ++ (if leaf then onesL e.value.length 1 ++ e.value else onesL e.place 1 ++ e.digest)
def nodeT (leaf : Bool) (es : List EntM) : List UInt8 := fillL (onesL (if leaf then 1 else 2) 1 ++ onesL es.length 1 ++ es.flatMap (entT leaf)) 228
theorem slotL_len (tk salt : List UInt8) (v p : Nat) (d : List UInt8) : (slotL tk salt v p d).length = 256 := fillL_len _ _
theorem nonceL_len (s n : Nat) : (nonceL s n).length = 12 := by simp [nonceL, onesL_len]
theorem nodeT_len (leaf : Bool) (es : List EntM) : (nodeT leaf es).length = 228 := fillL_len _ _
theorem sealL_len (rk nonce a t : List UInt8) (hr : rk.length = 240) (hn : nonce.length = 12) : (sealL rk nonce a t).length = t.length + 16 := by
  unfold sealL
  rw [List.length_append, ctrL_len rk nonce hr hn, tagL_len]
theorem pageL_len (rk : List UInt8) (s n p : Nat) (t : List UInt8) (hr : rk.length = 240) : (pageL rk s n p t).length = t.length + 28 := by
  unfold pageL
  rw [List.length_append, nonceL_len, sealL_len rk _ _ t hr (nonceL_len s n)]
  omega
theorem onesL_succ (n j : Nat) : onesL n (j + 1) = UInt8.ofNat (n / 256 ^ j % 256) :: onesL n j := by
  have h := onesL_cut j 1 n
  rw [Nat.add_comm 1 j] at h
  rw [h]
  rfl
theorem fillL_grow (t : List UInt8) (n : Nat) (h : t.length ≤ n) : fillL t n = t ++ List.replicate (n - t.length) 0 := by
  unfold fillL
  rw [List.take_of_length_le h]
end Go.Proofs.YtjnhlkaafnaooabGreatDoor

namespace Go.Proofs.YtjnhlkaafnaooabGreatDoor
open Go.RowKit
theorem rep_set (k : Nat) (x : Nat) (l : List Nat) : (List.replicate (k + 1) 0 ++ l).set k x = List.replicate k 0 ++ (x :: l) := by
  rw [List.replicate_succ', List.append_assoc, List.set_append_right _ _ (by simp)]
  simp
set_option maxRecDepth 100000 in
set_option maxHeartbeats 1000000 in
theorem numText_any (v n : Nat) (w : World) (hv : v < 9223372036854775808) (hn : n ≤ 8) :
    Calls Tryz.prog 54 #[.int .i64 v, .int .i64 n] w fun e w' => e = .returned (strV (onesL v n)) ∧ Below w.heap.size w w' := by
  have hmk := make_u8 n (by omega)
  have hni : (n : Int) ≤ 8 := by omega
  have hvi : (v : Int) < 9223372036854775808 := by omega
  have HN := hide hn
  have HV := hide hv
  clear hn hv
  go_enter Tryz.func54, Tryz.ntmps54
  go_wp2_with fail
  go_loopw [0, 6] (fun nv i wr => ∃ k : Nat, k ≤ n ∧ i = .int .i64 ((k : Int) - 1) ∧ nv = .int .i64 ((v / 256 ^ (n - k) : Nat) : Int) ∧ Row wr w.heap.size 5 .u8 (List.replicate k 0 ++ nats (onesL v (n - k))) ∧ Below w.heap.size w wr) (fun _ i _ => (intOf i + 1).toNat)
  case atStart => exact ⟨n, by omega, rfl, by simp, by simpa [nats, onesL] using Row.made w 5 .u8 n, (Below.refl _ _).alloc (Nat.le_refl _) _⟩
  case round =>
    obtain ⟨k, hk, rfl, rfl, hrow, hbel⟩ := hrel
    rcases k with _ | k
    · simp only [Nat.sub_zero, List.replicate_zero, List.nil_append] at hrow
      have hcv := conv_row (cap := n) hrow
      rw [nats_len, onesL_len, nats, map_toNat_ofNat] at hcv
      clear hrow hmk
      go_wp2_with fail
      go_ret
      exact ⟨rfl, hbel⟩
    · have e1 : n - k = (n - (k + 1)) + 1 := by omega
      obtain ⟨j, hj⟩ : ∃ j, n - (k + 1) = j := ⟨_, rfl⟩
      have hl : (List.replicate (k + 1) 0 ++ nats (onesL v j)).length = n := by simp [nats_len, onesL_len]; omega
      rw [hj] at hrow e1 ⊢
      obtain ⟨q, hq⟩ : ∃ q, v / 256 ^ j = q := ⟨_, rfl⟩
      rw [hq]
      have hqv : q ≤ v := by rw [← hq]; exact Nat.div_le_self _ _
      have hc := hrow.cell (i := k) (by rw [hl]; omega)
      have hf := hrow.frozen k
      have hset := hrow.set k (q % 256)
      have hrs : (List.replicate (k + 1) 0 ++ nats (onesL v j)).set k (q % 256) = List.replicate k 0 ++ nats (onesL v (j + 1)) := by
        rw [rep_set, onesL_succ, hq]
        simp [nats]
      rw [hrs, ← e1] at hset
      have hdiv : v / 256 ^ (n - k) = q / 256 := by rw [e1, Nat.pow_succ, ← Nat.div_div_eq_div_mul, hq]
      have hb2 : Below w.heap.size w (wr.setCell ⟨w.heap.size, k, none⟩ (.int .u8 ((q % 256 : Nat) : Int))) := hbel.setCell (Nat.le_refl _) _
      have hki : (((k + 1 : Nat) : Int) - 1) = (k : Int) := by omega
      rw [hki]
      have hkn : (k : Int) < (n : Int) := by omega
      have hqi : (q : Int) < 9223372036854775808 := by have := HV.out; omega
      have HS := hide (And.intro hset (And.intro hb2 hdiv))
      have HK := hide hk
      generalize (List.replicate (k + 1) 0 ++ nats (onesL v j)).getD k 0 = y at *
      clear hset hb2 hdiv hrs hl hrow hki hqv hq hj e1 hk hmk
      go_wp2_with fail
      refine ⟨⟨k, by have := HK.out; omega, rfl, by rw [HS.out.2.2]; simp, ?_, ?_⟩, by simp [intOf]⟩
      · exact HS.out.1
      · exact HS.out.2.1
theorem made_u8 (n : Nat) : madeCells #[.int .u8 0] n = (vals .u8 (List.replicate n 0)).toArray := by
  apply Array.ext
  · simp [madeCells, vals]
  · intro i h1 h2
    simp [madeCells, vals, Nat.mod_one]
set_option maxRecDepth 100000 in
set_option maxHeartbeats 400000 in
theorem fillText_any (t : List UInt8) (n : Nat) (w : World) (hn : n ≤ 1000) :
    Calls Tryz.prog 124 #[.string ⟨t.toArray⟩, .int .i64 (n : Int)] w fun e w' => e = .returned (strV (fillL t n)) ∧ Below w.heap.size w w' := by
  have hmk := make_u8 n hn
  have hni : (n : Int) ≤ 1000 := by omega
  have hcp : ∀ sT ty, (Builtin.copy_ #[52, sT] ty #[.slice (some ⟨w.heap.size, 0, none⟩) n n, .string ⟨t.toArray⟩]).run Tryz.prog (w.alloc (.cells (madeCells #[.int .u8 0] n) 5)) = .ok (goInt (t.take n).length) (w.alloc (.cells (bvals (fillL t n)).toArray 5)) := fun sT ty => by
    rw [made_u8]; exact copy_new t n w sT ty 5
  have hFl := fillL_len t n
  generalize fillL t n = F at *
  have hrow : Row (w.alloc (.cells (bvals F).toArray 5)) w.heap.size 5 .u8 (nats F) := Row.new w _ _ _ _ (by simp [bvals, nats]) (fun i hi => by rw [← vals_nats]; exact vals_get .u8 _ i hi)
  have hcv := conv_row (cap := n) hrow
  rw [nats_len, hFl, map_ofNat_nats] at hcv
  clear hrow hFl hn
  go_enter Tryz.func124, Tryz.ntmps124
  go_wp2_with fail
  go_ret
  exact ⟨rfl, (Below.refl _ _).alloc (Nat.le_refl _) _⟩
end Go.Proofs.YtjnhlkaafnaooabGreatDoor
