import Derived.Test.YtjnhlkaafnaooabGreatDoorRows
import Derived.WalkKit
import Derived.WalkSpells
import Derived.WalkLawsBesides
import Derived.BigQuiet
import Derived.Deep.QuietTactic
import Derived.Deep.OwnRows
import Derived.Laws.BytesArg
import Derived.Deep.AppendLies
import Derived.Deep.RegionLaw
import Derived.Deep.RegionHeld
import Derived.Deep.MidRow
import Derived.Lib.Strings
import Derived.Lib.AppendStr
import Derived.Laws.BitsAllLaws
namespace Go.Proofs.YtjnhlkaafnaooabGreatDoor
open Go.RowKit
theorem info_int : (Tryz.prog.info? 3).map (fun i => (i.zero, i.size, i.bytes)) = some (some (.int .i64 0), 1, 8) := by kernel_rfl
/-- Block b is a row of numbers. -/
def Row (w : World) (b : Nat) (t : TypeId) (k : IntKind) (xs : List Nat) : Prop := w.rowIs b t xs.length (fun i => .int k ((xs.getD i 0 : Nat) : Int))
theorem Row.lt {w : World} {b : Nat} {t : TypeId} {k : IntKind} {xs : List Nat} (h : Row w b t k xs) : b < w.heap.size := World.rowIs.lt h
theorem Row.cell {w : World} {b : Nat} {t : TypeId} {k : IntKind} {xs : List Nat} (h : Row w b t k xs) {i : Nat} (hi : i < xs.length) : w.cell? ⟨b, i, none⟩ = some (.int k ((xs.getD i 0 : Nat) : Int)) := World.rowIs.cell h hi
theorem Row.frozen {w : World} {b : Nat} {t : TypeId} {k : IntKind} {xs : List Nat} (h : Row w b t k xs) (i : Nat) : w.frozen? ⟨b, i, none⟩ = false := World.rowIs.frozen h i
theorem Row.of_block {w w' : World} {b : Nat} {t : TypeId} {k : IntKind} {xs : List Nat} (h : Row w b t k xs) (e : w'.heap[b]? = w.heap[b]?) : Row w' b t k xs := World.rowIs.of_block h e
theorem Row.below {w w' : World} {b B : Nat} {t : TypeId} {k : IntKind} {xs : List Nat} (h : Row w b t k xs) (hb : Below B w w') (hB : b < B) : Row w' b t k xs := h.of_block (hb.block b hB)
theorem Row.alloc {w : World} {b : Nat} {t : TypeId} {k : IntKind} {xs : List Nat} (h : Row w b t k xs) (o : Obj) : Row (w.alloc o) b t k xs := World.rowIs.alloc h o
theorem Row.drew {w : World} {b : Nat} {t : TypeId} {k : IntKind} {xs : List Nat} (h : Row w b t k xs) : Row w.drew b t k xs := h
theorem Row.drewN {w : World} {b : Nat} {t : TypeId} {k : IntKind} {xs : List Nat} (h : Row w b t k xs) (n : Nat) : Row (w.drewN n) b t k xs := h
theorem Row.set {w : World} {b : Nat} {t : TypeId} {k : IntKind} {xs : List Nat} (h : Row w b t k xs) (i y : Nat) : Row (w.setCell ⟨b, i, none⟩ (.int k (y : Int))) b t k (xs.set i y) := by
  have h2 := World.rowIs.set h i (.int k (y : Int))
  unfold Row
  rw [List.length_set]
  refine h2.congr fun j hj => ?_
  by_cases e : j = i
  · subst e; simp [hj]
  · simp [e, Ne.symm e]
theorem Row.setOther {w : World} {b : Nat} {t : TypeId} {k : IntKind} {xs : List Nat} (h : Row w b t k xs) {a : Addr} (ha : b ≠ a.block) (v : Value) : Row (w.setCell a v) b t k xs := World.rowIs.setOther h ha v
theorem Row.made (w : World) (t : TypeId) (k : IntKind) (n : Nat) : Row (w.alloc (.cells (madeCells #[.int k 0] n) t)) w.heap.size t k (List.replicate n 0) := by
  have h := World.rowIs_made w (.int k 0) n t
  unfold Row
  rw [List.length_replicate]
  refine h.congr fun j hj => ?_
  simp [hj]
theorem Row.new (w : World) (t : TypeId) (k : IntKind) (xs : List Nat) (c : Array Value) (hs : c.size = xs.length) (hc : ∀ i, i < xs.length → c[i]? = some (.int k ((xs.getD i 0 : Nat) : Int))) : Row (w.alloc (.cells c t)) w.heap.size t k xs := by
  have h := World.rowIs_alloc w c t (fun i => .int k ((xs.getD i 0 : Nat) : Int)) (fun i hi => hc i (by omega))
  unfold Row
  rw [← hs]; exact h
theorem add_str (x y : List UInt8) (h : x.length + y.length ≤ 9223372036854775807) (w : World) : (Op.stringOp .add ⟨x.toArray⟩ ⟨y.toArray⟩).run Tryz.prog w = .ok (.string ⟨(x ++ y).toArray⟩) w := by
  rw [run_string_add_sum w _ _ (by simpa [ByteArray.size] using h), ByteArray.mk_append_mk]
/-- 'string(b)' of a new row of bytes. -/
theorem conv_row {w : World} {b cap : Nat} {xs : List Nat} {t : TypeId} (h : Row w b t .u8 xs) : (convert 52 9 (.slice (some ⟨b, 0, none⟩) xs.length cap)).run Tryz.prog w = .ok (.string ⟨(xs.map UInt8.ofNat).toArray⟩) w := by
  have := run_convert_bytes_arg (P := Tryz.prog) w 52 5 Tryz.underlying52 Tryz.underlying5 b 0 xs.length cap (xs.map fun n : Nat => (n : Int)) (by simp) (fun i hi => by
    rw [Nat.zero_add, h.cell hi]
    simp [List.getElem?_eq_getElem hi]) 9 Tryz.underlying9
  rw [this]
  simp [strOfNums, Function.comp_def]
theorem below_drewN {B : Nat} {a w : World} (h : Below B a w) (n : Nat) : Below B a (w.drewN n) := ⟨h.os, h.tape, h.output, h.size, h.block⟩
theorem hide {p : Prop} (h : p) : Hid p := h
theorem ret_int {k : IntKind} {a b : Int} (h : a = b) : Ending.returned (.int k a) = .returned (.int k b) := by rw [h]
theorem ret_bool {a b : Bool} (h : a = b) : Ending.returned (.bool a) = .returned (.bool b) := by rw [h]
theorem val_int {k : IntKind} {a b : Int} (h : a = b) : Value.int k a = .int k b := by rw [h]
end Go.Proofs.YtjnhlkaafnaooabGreatDoor

namespace Go.Proofs.YtjnhlkaafnaooabGreatDoor
/-- The number that digits to the base 2^16 are, the low one first. -/
def bval : List Nat → Nat
  | [] => 0
  | d :: r => d + 65536 * bval r

def B (k : Nat) : Nat := 65536 ^ k
theorem B_succ (k : Nat) : B (k + 1) = 65536 * B k := by unfold B; rw [Nat.pow_succ, Nat.mul_comm]
theorem B_zero : B 0 = 1 := rfl
theorem B_pos (k : Nat) : 0 < B k := Nat.pow_pos (by decide)
theorem B_add (a b : Nat) : B (a + b) = B a * B b := Nat.pow_add _ _ _

theorem bval_lt : ∀ (l : List Nat), (∀ d ∈ l, d < 65536) → bval l < B l.length
  | [], _ => by decide
  | d :: r, h => by
    have h1 := bval_lt r fun x hx => h x (List.mem_cons_of_mem _ hx)
    have h2 := h d (List.mem_cons_self)
    rw [List.length_cons, B_succ, bval]
    omega

theorem bval_set : ∀ (l : List Nat) (k x : Nat) (hk : k < l.length), bval (l.set k x) + l[k] * B k = bval l + x * B k
  | d :: r, 0, x, _ => by simp [bval, B_zero]; omega
  | d :: r, k + 1, x, hk => by
    have h := bval_set r k x (by simpa using hk)
    simp only [List.set_cons_succ, bval, List.getElem_cons_succ, B_succ]
    have e1 : r[k]'(by simpa using hk) * (65536 * B k) = 65536 * (r[k]'(by simpa using hk) * B k) := by rw [Nat.mul_left_comm]
    have e2 : x * (65536 * B k) = 65536 * (x * B k) := by rw [Nat.mul_left_comm]
    rw [e1, e2]
    omega

theorem bval_take_succ : ∀ (l : List Nat) (k : Nat) (hk : k < l.length), bval (l.take (k + 1)) = bval (l.take k) + l[k] * B k
  | d :: r, 0, _ => by simp [bval, B_zero]
  | d :: r, k + 1, hk => by
    have h := bval_take_succ r k (by simpa using hk)
    simp only [List.take_succ_cons, bval, List.getElem_cons_succ, B_succ]
    rw [h]
    have e1 : r[k]'(by simpa using hk) * (65536 * B k) = 65536 * (r[k]'(by simpa using hk) * B k) := by rw [Nat.mul_left_comm]
    rw [e1]
    omega

theorem bval_take_le (l : List Nat) : ∀ k, bval (l.take k) ≤ bval l := by
  induction l with
  | nil => intro k; simp
  | cons d r ih =>
    intro k
    cases k with
    | zero => simp [bval]
    | succ k => simp only [List.take_succ_cons, bval]; have := ih k; omega

theorem bval_ge (l : List Nat) : ∀ (k : Nat) (hk : k < l.length), l[k] * B k ≤ bval l := by
  intro k hk
  have h := bval_take_succ l k hk
  have h2 := bval_take_le l (k + 1)
  omega

theorem bval_replicate (n : Nat) : bval (List.replicate n 0) = 0 := by
  induction n with
  | zero => rfl
  | succ n ih => simp [List.replicate_succ, bval, ih]

/-- What stands in 'out' behind i whole rounds and j of the next. -/
def sumTo (a b : List Nat) (i j : Nat) : Nat := bval (a.take i) * bval b + a.getD i 0 * B i * bval (b.take j)

theorem sumTo_zero (a b : List Nat) : sumTo a b 0 0 = 0 := by simp [sumTo, bval]
theorem sumTo_j (a b : List Nat) (i j : Nat) (hj : j < b.length) : sumTo a b i (j + 1) = sumTo a b i j + a.getD i 0 * b[j] * B (i + j) := by
  unfold sumTo
  rw [bval_take_succ b j hj, Nat.mul_add, ← Nat.add_assoc]
  congr 1
  rw [B_add, Nat.mul_assoc, Nat.mul_assoc, Nat.mul_left_comm (B i), Nat.mul_left_comm]
theorem sumTo_i (a b : List Nat) (i : Nat) (hi : i < a.length) : sumTo a b i b.length = sumTo a b (i + 1) 0 := by
  unfold sumTo
  rw [List.take_of_length_le (Nat.le_refl b.length), bval_take_succ a i hi]
  simp [bval, List.getElem?_eq_getElem hi, Nat.add_mul]
theorem sumTo_end (a b : List Nat) : sumTo a b a.length 0 = bval a * bval b := by
  unfold sumTo
  rw [List.take_of_length_le (Nat.le_refl _)]
  simp [bval]
theorem sumTo_lt (a b : List Nat) (i j : Nat) (ha : ∀ d ∈ a, d < 65536) (hb : ∀ d ∈ b, d < 65536) : sumTo a b i j < B (a.length + b.length) := by
  have h1 : sumTo a b i j ≤ bval a * bval b := by
    by_cases hi : i < a.length
    · have e : sumTo a b i j ≤ bval (a.take i) * bval b + a.getD i 0 * B i * bval b := Nat.add_le_add_left (Nat.mul_le_mul_left _ (bval_take_le b j)) _
      have e2 : a.getD i 0 = a[i] := by simp [List.getElem?_eq_getElem hi]
      rw [e2, ← Nat.add_mul, ← bval_take_succ a i hi] at e
      exact Nat.le_trans e (Nat.mul_le_mul_right _ (bval_take_le a _))
    · unfold sumTo
      have e2 : a.getD i 0 = 0 := by simp [List.getElem?_eq_none (by omega : a.length ≤ i)]
      rw [e2]
      simp
      exact Nat.mul_le_mul_right _ (bval_take_le a _)
  have h2 := bval_lt a ha
  have h3 := bval_lt b hb
  rw [B_add]
  exact Nat.lt_of_le_of_lt h1 (Nat.mul_lt_mul'' h2 h3)

/-- All digits but the one at k are digits; that one is below 2^33. -/
def Carrying (l : List Nat) (k : Nat) : Prop := k < l.length ∧ (∀ i (h : i < l.length), i ≠ k → l[i] < 65536) ∧ ∀ h : k < l.length, l[k] < 8589934592

theorem carrying_done {l : List Nat} {k : Nat} (h : Carrying l k) (h2 : l.getD k 0 < 65536) : ∀ d ∈ l, d < 65536 := by
  obtain ⟨hk, h3, _⟩ := h
  intro d hd
  obtain ⟨i, hi, rfl⟩ := List.mem_iff_getElem.1 hd
  by_cases e : i = k
  · subst e; simpa [List.getElem?_eq_getElem hk] using h2
  · exact h3 i hi e

theorem carrying_room {l : List Nat} {k n : Nat} (h : Carrying l k) (h2 : 65536 ≤ l.getD k 0) (hl : l.length = n + 1) (hv : bval l < B n) : k + 1 < l.length := by
  obtain ⟨hk, _, _⟩ := h
  have h3 := bval_ge l k hk
  have e : l.getD k 0 = l[k] := by simp [List.getElem?_eq_getElem hk]
  rw [e] at h2
  by_cases hkn : k = n
  · subst hkn
    exfalso
    have := Nat.mul_le_mul_right (B k) h2
    have hp := B_pos k
    omega
  · omega

theorem carrying_start {l : List Nat} {p x : Nat} (hl : ∀ d ∈ l, d < 65536) (hp : p < l.length) (hx : x < 8589934592) : Carrying (l.set p x) p := by
  refine ⟨by simpa using hp, ?_, ?_⟩
  · intro i h hne
    rw [List.getElem_set_ne (by omega)]
    exact hl _ (List.getElem_mem _)
  · intro h
    simpa using hx

theorem carrying_step {l : List Nat} {k : Nat} (h : Carrying l k) (hk1 : k + 1 < l.length) :
    Carrying ((l.set (k + 1) (l.getD (k + 1) 0 + l.getD k 0 / 65536)).set k (l.getD k 0 % 65536)) (k + 1) ∧
    bval ((l.set (k + 1) (l.getD (k + 1) 0 + l.getD k 0 / 65536)).set k (l.getD k 0 % 65536)) = bval l := by
  obtain ⟨hk, h3, h4⟩ := h
  have e : l.getD k 0 = l[k] := by simp [List.getElem?_eq_getElem hk]
  have e' : l.getD (k + 1) 0 = l[k + 1] := by simp [List.getElem?_eq_getElem hk1]
  have hd := h3 (k + 1) hk1 (by omega)
  have hd' := h4 hk
  rw [e, e']
  constructor
  · refine ⟨by simpa using hk1, ?_, ?_⟩
    · intro i hi hne
      by_cases e2 : i = k
      · subst e2
        simp only [List.getElem_set_self]
        omega
      · rw [List.getElem_set_ne (by omega), List.getElem_set_ne (by omega)]
        exact h3 i (by simpa using hi) e2
    · intro hi
      rw [List.getElem_set_ne (by omega), List.getElem_set_self]
      omega
  · have s1 := bval_set l (k + 1) (l[k + 1] + l[k] / 65536) hk1
    have s2 := bval_set (l.set (k + 1) (l[k + 1] + l[k] / 65536)) k (l[k] % 65536) (by simpa using hk)
    rw [List.getElem_set_ne (by omega)] at s2
    rw [B_succ] at s1
    have hdm := Nat.div_add_mod l[k] 65536
    have e5 : l[k] * B k = (65536 * (l[k] / 65536)) * B k + l[k] % 65536 * B k := by rw [← Nat.add_mul, hdm]
    have e6 : (l[k + 1] + l[k] / 65536) * (65536 * B k) = l[k + 1] * (65536 * B k) + (65536 * (l[k] / 65536)) * B k := by
      rw [Nat.add_mul]
      congr 1
      rw [Nat.mul_comm 65536 (l[k] / 65536), Nat.mul_assoc]
    rw [e6] at s1
    omega

/-- a above b, both of digits: the first that differ from the top decide. -/
theorem bval_split : ∀ (l : List Nat) (k : Nat), k ≤ l.length → bval l = bval (l.take k) + B k * bval (l.drop k)
  | l, 0, _ => by simp [bval, B_zero]
  | d :: r, k + 1, h => by
    have := bval_split r k (by simpa using h)
    simp only [List.take_succ_cons, List.drop_succ_cons, bval, B_succ]
    rw [this, Nat.mul_add, Nat.mul_assoc]
    omega
theorem getD_take_drop (l : List Nat) (k : Nat) : bval (l.drop k) = l.getD k 0 + 65536 * bval (l.drop (k + 1)) := by
  by_cases hk : k < l.length
  · rw [List.drop_eq_getElem_cons hk, bval]
    simp [List.getElem?_eq_getElem hk]
  · simp [List.drop_eq_nil_of_le (by omega : l.length ≤ k), List.drop_eq_nil_of_le (by omega : l.length ≤ k + 1), List.getElem?_eq_none (by omega : l.length ≤ k), bval]
theorem bval_split' (l : List Nat) (k : Nat) : bval l = bval (l.take k) + B k * bval (l.drop k) := by
  by_cases hk : k ≤ l.length
  · exact bval_split l k hk
  · rw [List.take_of_length_le (by omega), List.drop_eq_nil_of_le (by omega)]; simp [bval]
theorem bval_take_lt (l : List Nat) (k : Nat) (h : ∀ d ∈ l, d < 65536) : bval (l.take k) < B k := by
  have h1 := bval_lt (l.take k) fun d hd => h d (List.mem_of_mem_take hd)
  rw [List.length_take] at h1
  have : B (min k l.length) ≤ B k := Nat.pow_le_pow_right (by decide) (Nat.min_le_left _ _)
  omega
/-- From k on they are the same: at k they part, or they go on being the same. -/
theorem above_part (a b : List Nat) (k : Nat) (ha : ∀ d ∈ a, d < 65536) (hb : ∀ d ∈ b, d < 65536) (h : bval (a.drop (k + 1)) = bval (b.drop (k + 1))) (hne : a.getD k 0 ≠ b.getD k 0) :
    decide (bval b < bval a) = decide (b.getD k 0 < a.getD k 0) := by
  have s1 := bval_split' a k
  have s2 := bval_split' b k
  have t1 := bval_take_lt a k ha
  have t2 := bval_take_lt b k hb
  rw [getD_take_drop a k] at s1
  rw [getD_take_drop b k, ← h] at s2
  generalize bval (a.drop (k + 1)) = R at s1 s2
  generalize bval (a.take k) = p at s1 t1
  generalize bval (b.take k) = q at s2 t2
  generalize a.getD k 0 = x at *
  generalize b.getD k 0 = y at *
  rw [Bool.eq_iff_iff, decide_eq_true_eq, decide_eq_true_eq, s1, s2]
  generalize 65536 * R = R'
  constructor
  · intro hlt
    rcases Nat.lt_or_ge y x with h1 | h1
    · exact h1
    · exfalso
      have h2 : x + 1 ≤ y := by omega
      have := Nat.mul_le_mul_left (B k) (show x + R' + 1 ≤ y + R' by omega)
      rw [Nat.mul_add _ (x + R')] at this
      omega
  · intro hlt
    have := Nat.mul_le_mul_left (B k) (show y + R' + 1 ≤ x + R' by omega)
    rw [Nat.mul_add _ (y + R')] at this
    omega
theorem above_same (a b : List Nat) (k : Nat) (h : bval (a.drop (k + 1)) = bval (b.drop (k + 1))) (he : a.getD k 0 = b.getD k 0) : bval (a.drop k) = bval (b.drop k) := by
  rw [getD_take_drop a k, getD_take_drop b k, h, he]
end Go.Proofs.YtjnhlkaafnaooabGreatDoor

namespace Go.Proofs.YtjnhlkaafnaooabGreatDoor
theorem wrap_i64_nat (n : Nat) (h : n < 9223372036854775808) : IntKind.i64.wrap (n : Int) = (n : Int) := by
  simp [IntKind.wrap, IntKind.bits, IntKind.signed]
  omega

theorem ofInt64_nat (a : Nat) (h : a < 18446744073709551616) : (BitVec.ofInt 64 (a : Int)).toNat = a := by
  rw [BitVec.ofInt_natCast, BitVec.toNat_ofNat]; exact Nat.mod_eq_of_lt (by omega)

theorem i64_xor_nat (a b : Nat) (ha : a < 9223372036854775808) (hb : b < 9223372036854775808) : bits .xor .i64 (a : Int) (b : Int) = ((a ^^^ b : Nat) : Int) := by
  show IntKind.i64.wrap ((BitVec.ofInt 64 (a : Int) ^^^ BitVec.ofInt 64 (b : Int)).toNat : Int) = _
  rw [BitVec.toNat_xor, ofInt64_nat _ (by omega), ofInt64_nat _ (by omega)]
  exact wrap_i64_nat _ (Nat.xor_lt_two_pow (n := 63) (by omega) (by omega))

theorem i64_and_nat (a b : Nat) (ha : a < 9223372036854775808) (hb : b < 9223372036854775808) : bits .and .i64 (a : Int) (b : Int) = ((a &&& b : Nat) : Int) := by
  show IntKind.i64.wrap ((BitVec.ofInt 64 (a : Int) &&& BitVec.ofInt 64 (b : Int)).toNat : Int) = _
  rw [BitVec.toNat_and, ofInt64_nat _ (by omega), ofInt64_nat _ (by omega)]
  exact wrap_i64_nat _ (Nat.lt_of_le_of_lt Nat.and_le_left ha)

theorem i64_or_nat (a b : Nat) (ha : a < 9223372036854775808) (hb : b < 9223372036854775808) : bits .or .i64 (a : Int) (b : Int) = ((a ||| b : Nat) : Int) := by
  show IntKind.i64.wrap ((BitVec.ofInt 64 (a : Int) ||| BitVec.ofInt 64 (b : Int)).toNat : Int) = _
  rw [BitVec.toNat_or, ofInt64_nat _ (by omega), ofInt64_nat _ (by omega)]
  exact wrap_i64_nat _ (Nat.or_lt_two_pow (n := 63) (by omega) (by omega))

/-- A round of the product in the field of 2^8 elements. -/
def prodStep (a b v k : Nat) : Nat :=
  let u := if 256 ≤ 2 * v then (2 * v) ^^^ 283 else 2 * v
  if b / 2 ^ (7 - k) % 2 = 1 then u ^^^ a else u
def prodTo (a b : Nat) : Nat → Nat
  | 0 => 0
  | k + 1 => prodStep a b (prodTo a b k) k
def prodN (a b : Nat) : Nat := prodTo a b 8

theorem double_lt (v : Nat) (hv : v < 256) : (if 256 ≤ 2 * v then (2 * v) ^^^ 283 else 2 * v) < 256 := by
  have : ∀ v : Fin 256, (if 256 ≤ 2 * v.val then (2 * v.val) ^^^ 283 else 2 * v.val) < 256 := by decide +kernel
  exact this ⟨v, hv⟩
theorem prodStep_lt (a b v k : Nat) (ha : a < 256) (hv : v < 256) : prodStep a b v k < 256 := by
  unfold prodStep
  have h := double_lt v hv
  dsimp only
  split
  · exact Nat.xor_lt_two_pow (n := 8) h ha
  · exact h
theorem prodTo_lt (a b k : Nat) (ha : a < 256) : prodTo a b k < 256 := by
  induction k with
  | zero => exact Nat.zero_lt_succ _
  | succ k ih => exact prodStep_lt a b _ k ha ih

/-- The element by which a is one, looked for from b on; of 0 0. -/
def invFrom (a : Nat) : Nat → Nat → Nat
  | 0, _ => 0
  | f + 1, b => if prodN a b = 1 then b else invFrom a f (b + 1)
def invN (a : Nat) : Nat := invFrom a 255 1
theorem invFrom_lt (a : Nat) : ∀ f b, b + f ≤ 256 → invFrom a f b < 256
  | 0, _, _ => Nat.zero_lt_succ _
  | f + 1, b, h => by
    unfold invFrom
    split
    · omega
    · exact invFrom_lt a f (b + 1) (by omega)

/-- No divisor of n from d on, as long as its square is not above n. -/
def primeFrom (n : Nat) : Nat → Nat → Bool
  | 0, _ => true
  | f + 1, d => if n < d * d then true else if n % d = 0 then false else primeFrom n f (d + 1)
def primeN (n : Nat) : Bool := primeFrom n n 2
theorem bit_test (b j : Nat) (hb : b < 9223372036854775808) : (bits .and .i64 ((b : Int) / 2 ^ j) 1 == 1) = decide (b / 2 ^ j % 2 = 1) := by
  have e1 : (b : Int) / 2 ^ j = ((b / 2 ^ j : Nat) : Int) := by simp
  have h1 : b / 2 ^ j < 9223372036854775808 := Nat.lt_of_le_of_lt (Nat.div_le_self _ _) hb
  have e2 := i64_and_nat (b / 2 ^ j) 1 h1 (by decide)
  rw [nat_mask1] at e2
  rw [e1, show (1 : Int) = ((1 : Nat) : Int) from rfl, e2, Bool.eq_iff_iff]
  simp
  omega
theorem prod_big (V : Nat) (hV : V < 256) : bits .xor .i64 (2 * (V : Int)) 283 = ((2 * V ^^^ 283 : Nat) : Int) := by
  have := i64_xor_nat (2 * V) 283 (by omega) (by decide)
  rw [← this]; congr 1
theorem prod_x (u a : Nat) (hu : u < 512) (ha : a < 256) : bits .xor .i64 (u : Int) (a : Int) = ((u ^^^ a : Nat) : Int) :=
  i64_xor_nat u a (by omega) (by omega)
theorem prod_tt (V a b k : Nat) (hV : V < 256) (ha : a < 256) (hb : b < 256) (h1 : (256 : Int) ≤ 2 * (V : Int)) (h2 : (bits .and .i64 ((b : Int) / 2 ^ (7 - k)) 1 == 1) = true) :
    bits .xor .i64 (bits .xor .i64 (2 * (V : Int)) 283) (a : Int) = ((prodStep a b V k : Nat) : Int) := by
  rw [bit_test _ _ (by omega), decide_eq_true_eq] at h2
  have h := double_lt V hV
  rw [if_pos (by omega)] at h
  rw [prod_big V hV, prod_x _ _ (by omega) ha]
  unfold prodStep
  rw [if_pos (show 256 ≤ 2 * V by omega), if_pos h2]
theorem prod_tf (V a b k : Nat) (hV : V < 256) (hb : b < 256) (h1 : (256 : Int) ≤ 2 * (V : Int)) (h2 : (bits .and .i64 ((b : Int) / 2 ^ (7 - k)) 1 == 1) = false) :
    bits .xor .i64 (2 * (V : Int)) 283 = ((prodStep a b V k : Nat) : Int) := by
  rw [bit_test _ _ (by omega), decide_eq_false_iff_not] at h2
  rw [prod_big V hV]
  unfold prodStep
  rw [if_pos (show 256 ≤ 2 * V by omega), if_neg h2]
theorem prod_ft (V a b k : Nat) (hV : V < 256) (ha : a < 256) (hb : b < 256) (h1 : 2 * (V : Int) < 256) (h2 : (bits .and .i64 ((b : Int) / 2 ^ (7 - k)) 1 == 1) = true) :
    bits .xor .i64 (2 * (V : Int)) (a : Int) = ((prodStep a b V k : Nat) : Int) := by
  rw [bit_test _ _ (by omega), decide_eq_true_eq] at h2
  have := prod_x (2 * V) a (by omega) ha
  unfold prodStep
  rw [if_neg (show ¬ 256 ≤ 2 * V by omega), if_pos h2, ← this]
  congr 1
theorem prod_ff (V a b k : Nat) (hb : b < 256) (h1 : 2 * (V : Int) < 256) (h2 : (bits .and .i64 ((b : Int) / 2 ^ (7 - k)) 1 == 1) = false) :
    2 * (V : Int) = ((prodStep a b V k : Nat) : Int) := by
  rw [bit_test _ _ (by omega), decide_eq_false_iff_not] at h2
  unfold prodStep
  rw [if_neg (show ¬ 256 ≤ 2 * V by omega), if_neg h2]
  omega
theorem invFrom_hit (a f b : Nat) (h : prodN a b = 1) : invFrom a (f + 1) b = b := by simp [invFrom, h]
theorem invFrom_miss (a f b : Nat) (h : ¬ prodN a b = 1) : invFrom a (f + 1) b = invFrom a f (b + 1) := by simp [invFrom, h]
theorem prodN_lt (a b : Nat) (ha : a < 256) : prodN a b < 256 := prodTo_lt a b 8 ha
theorem primeFrom_end (n f d : Nat) (h : n < d * d) : primeFrom n f d = true := by
  cases f with
  | zero => rfl
  | succ f => simp [primeFrom, h]
theorem primeFrom_no (n f d : Nat) (h : ¬ n < d * d) (h2 : n % d = 0) : primeFrom n (f + 1) d = false := by simp [primeFrom, h, h2]
theorem primeFrom_on (n f d : Nat) (h : ¬ n < d * d) (h2 : ¬ n % d = 0) : primeFrom n (f + 1) d = primeFrom n f (d + 1) := by simp [primeFrom, h, h2]
end Go.Proofs.YtjnhlkaafnaooabGreatDoor

namespace Go.Proofs.YtjnhlkaafnaooabGreatDoor
open Go.RowKit

/-- 'out' in mid-product: n whole rounds and m of the next are in it. -/
structure TI (w : World) (L : Nat) (xa xb : List Nat) (n m : Nat) (out : List Nat) (wr : World) : Prop where
  len : out.length = L
  row : Row wr w.heap.size 3 .i64 out
  dig : ∀ d ∈ out, d < 65536
  val : bval out = sumTo xa xb n m
  bel : Below w.heap.size w wr
/-- .. while a carry stands at k. -/
structure TK (w : World) (L : Nat) (xa xb : List Nat) (n m k : Nat) (out : List Nat) (wr : World) : Prop where
  len : out.length = L
  row : Row wr w.heap.size 3 .i64 out
  car : Carrying out k
  val : bval out = sumTo xa xb n m
  bel : Below w.heap.size w wr

theorem TI.start (w : World) (xa xb : List Nat) : TI w (xa.length + xb.length + 1) xa xb 0 0 (List.replicate (xa.length + xb.length + 1) 0) (w.alloc (.cells (madeCells #[.int .i64 0] (xa.length + xb.length + 1)) 3)) :=
  ⟨by simp, Row.made w _ _ _, fun d hd => by simp at hd; omega, by rw [bval_replicate, sumTo_zero], (Below.refl _ _).alloc (Nat.le_refl _) _⟩
theorem TI.store {w : World} {L : Nat} {xa xb : List Nat} {n m : Nat} {out : List Nat} {wr : World} (h : TI w L xa xb n m out wr) (hL : L = xa.length + xb.length + 1) (hn : n < xa.length) (hm : m < xb.length)
    (x y z : Nat) (hx : out.getD (n + m) 0 = x) (hy : xa.getD n 0 = y) (hz : xb.getD m 0 = z) (hv : x + y * z < 8589934592) :
    TK w L xa xb n (m + 1) (n + m) (out.set (n + m) (x + y * z)) (wr.setCell ⟨w.heap.size, n + m, none⟩ (.int .i64 ((x + y * z : Nat) : Int))) := by
  have hlt : n + m < out.length := by rw [h.len]; omega
  refine ⟨by rw [List.length_set]; exact h.len, h.row.set _ _, carrying_start h.dig hlt hv, ?_, h.bel.setCell (Nat.le_refl _) _⟩
  have hs := bval_set out (n + m) (x + y * z) hlt
  have e : out[n + m] = x := by rw [← hx]; simp [List.getElem?_eq_getElem hlt]
  have ez : xb[m] = z := by rw [← hz]; simp [List.getElem?_eq_getElem hm]
  rw [e] at hs
  rw [sumTo_j xa xb n m hm, ← h.val, hy, ez]
  rw [Nat.add_mul] at hs
  omega
theorem TK.step {w : World} {L : Nat} {xa xb : List Nat} {n m k : Nat} {out : List Nat} {wr : World} (h : TK w L xa xb n m k out wr) (hk : k + 1 < out.length) (x y : Nat) (hx : out.getD k 0 = x) (hy : out.getD (k + 1) 0 = y) :
    TK w L xa xb n m (k + 1) ((out.set (k + 1) (y + x / 65536)).set k (x % 65536)) ((wr.setCell ⟨w.heap.size, k + 1, none⟩ (.int .i64 ((y + x / 65536 : Nat) : Int))).setCell ⟨w.heap.size, k, none⟩ (.int .i64 ((x % 65536 : Nat) : Int))) := by
  have hc := carrying_step h.car hk
  rw [hx, hy] at hc
  exact ⟨by simp [h.len], (h.row.set _ _).set _ _, hc.1, by rw [hc.2, h.val], (h.bel.setCell (Nat.le_refl _) _).setCell (Nat.le_refl _) _⟩
theorem TI.drew {w : World} {L : Nat} {xa xb : List Nat} {n m : Nat} {out : List Nat} {wr : World} (h : TI w L xa xb n m out wr) : TI w L xa xb n m out wr.drew := ⟨h.len, h.row, h.dig, h.val, h.bel.drew⟩
theorem TK.drew {w : World} {L : Nat} {xa xb : List Nat} {n m k : Nat} {out : List Nat} {wr : World} (h : TK w L xa xb n m k out wr) : TK w L xa xb n m k out wr.drew := ⟨h.len, h.row, h.car, h.val, h.bel.drew⟩
theorem TK.done {w : World} {L : Nat} {xa xb : List Nat} {n m k : Nat} {out : List Nat} {wr : World} (h : TK w L xa xb n m k out wr) (h2 : out.getD k 0 < 65536) : TI w L xa xb n m out wr :=
  ⟨h.len, h.row, carrying_done h.car h2, h.val, h.bel⟩
theorem TI.next {w : World} {L : Nat} {xa xb : List Nat} {n m : Nat} {out : List Nat} {wr : World} (h : TI w L xa xb n m out wr) (hn : n < xa.length) (hm : m = xb.length) : TI w L xa xb (n + 1) 0 out wr := by
  subst hm
  exact ⟨h.len, h.row, h.dig, by rw [h.val, sumTo_i _ _ _ hn], h.bel⟩
theorem TK.room {w : World} {L : Nat} {xa xb : List Nat} {n m k : Nat} {out : List Nat} {wr : World} (h : TK w L xa xb n m k out wr) (hL : L = xa.length + xb.length + 1) (hda : ∀ d ∈ xa, d < 65536) (hdb : ∀ d ∈ xb, d < 65536) (h2 : 65536 ≤ out.getD k 0) : k + 1 < out.length :=
  carrying_room h.car h2 (by rw [h.len, hL]) (by rw [h.val]; exact sumTo_lt xa xb n m hda hdb)

theorem getD_mem_lt {l : List Nat} {n : Nat} (h : ∀ d ∈ l, d < 65536) : l.getD n 0 < 65536 := by
  by_cases hn : n < l.length
  · have := h l[n] (List.getElem_mem hn); simpa [List.getElem?_eq_getElem hn] using this
  · simp [List.getElem?_eq_none (by omega : l.length ≤ n)]

theorem getD_ge {l : List Nat} {n : Nat} (h : l.length ≤ n) : l.getD n 0 = 0 := by simp [List.getElem?_eq_none h]

end Go.Proofs.YtjnhlkaafnaooabGreatDoor

namespace Go.Proofs.YtjnhlkaafnaooabGreatDoor
/-- One bit more of the root of p, if there is room for it. -/
def rootStep (p deg v b : Nat) : Nat := if (v + b) ^ deg ≤ p * B (2 * deg) then v + b else v
def rootGo (p deg : Nat) : Nat → Nat → Nat
  | 0, v => v
  | n + 1, v => rootGo p deg n (rootStep p deg v (2 ^ n))
def rootN (p deg : Nat) : Nat := rootGo p deg 41 0 % 4294967296
def digs (v : Nat) : List Nat := [v % 65536, v / 65536 % 65536, v / 4294967296 % 65536]
theorem digs_lt (v : Nat) : ∀ d ∈ digs v, d < 65536 := by
  intro d hd
  simp [digs] at hd
  omega
theorem digs_val (v : Nat) (h : v < 281474976710656) : bval (digs v) = v := by
  simp only [digs, bval]
  omega
theorem bval_most (n p : Nat) : bval ((List.replicate (n + 1) 0).set n p) = p * B n := by
  have h := bval_set (List.replicate (n + 1) 0) n p (by simp)
  rw [bval_replicate] at h
  simp at h
  exact h
theorem half_two (n : Nat) : 2 ^ (n + 1) / 2 = 2 ^ n := by rw [Nat.pow_succ, Nat.mul_div_cancel _ (by decide)]
end Go.Proofs.YtjnhlkaafnaooabGreatDoor

namespace Go.Proofs.YtjnhlkaafnaooabGreatDoor
open Go.RowKit

theorem and_65535 (f : Nat) (hf : f < 9223372036854775808) : bits .and .i64 (f : Int) 65535 = ((f % 65536 : Nat) : Int) := by
  have := i64_and_nat f 65535 hf (by decide)
  rw [nat_mask16] at this
  exact this
/-- What the rounds of 'root' keep: n bits are still to be looked at. -/
structure RI (w : World) (p deg n v : Nat) (wr : World) : Prop where
  row : Row wr w.heap.size 3 .i64 ((List.replicate (2 * deg + 1) 0).set (2 * deg) p)
  bel : Below w.heap.size w wr
  ans : rootN p deg = rootGo p deg n v % 4294967296
  bnd : v + 2 ^ n ≤ 2199023255552
theorem most_lt (n p : Nat) (hp : p < 1000) : ∀ d ∈ (List.replicate (n + 1) 0).set n p, d < 65536 := by
  intro d hd
  rcases List.mem_or_eq_of_mem_set hd with h | h
  · simp at h; omega
  · omega
theorem RI.start (w : World) (p deg : Nat) : RI w p deg 41 0 (w.alloc (.cells ((madeCells #[.int .i64 0] (2 * deg + 1)).setIfInBounds (2 * deg) (.int .i64 (p : Int))) 3)) := by
  refine ⟨?_, (Below.refl _ _).alloc (Nat.le_refl _) _, rfl, by decide⟩
  have h := (Row.made w 3 .i64 (2 * deg + 1)).set (2 * deg) p
  rwa [World.setCell_alloc_at _ _ _ _ _ rfl] at h
theorem RI.step {w : World} {p deg n v : Nat} {wr wr' : World} (h : RI w p deg (n + 1) v wr) (hb : Below wr.heap.size wr wr') (v' : Nat) (hv : v' = rootStep p deg v (2 ^ n)) : RI w p deg n v' wr' := by
  have h2 : v' ≤ v + 2 ^ n := by
    rw [hv, rootStep]
    split
    · exact Nat.le_refl _
    · exact Nat.le_add_right _ _
  have hbd := h.bnd
  rw [Nat.pow_succ] at hbd
  refine ⟨h.row.below hb h.row.lt, h.bel.trans (hb.mono h.bel.size), ?_, by omega⟩
  rw [h.ans, rootGo, hv]
theorem Row.not_old {w w' : World} (_h : Below w.heap.size w w') : w.heap.size ≤ w'.heap.size := _h.size

end Go.Proofs.YtjnhlkaafnaooabGreatDoor

namespace Go.Proofs.YtjnhlkaafnaooabGreatDoor
open Go.RowKit


end Go.Proofs.YtjnhlkaafnaooabGreatDoor

namespace Go.Proofs.YtjnhlkaafnaooabGreatDoor
/-- What one number adds to the two lists of words. -/
def stepC (n : Nat) (hk : List Nat × List Nat) : List Nat × List Nat :=
  if primeN n then (if hk.1.length < 8 then hk.1 ++ [rootN n 2] else hk.1, hk.2 ++ [rootN n 3]) else hk
def constTo : Nat → List Nat × List Nat
  | 0 => ([], [])
  | m + 1 => stepC (m + 2) (constTo m)
def hWords : List Nat := [1779033703, 3144134277, 1013904242, 2773480762, 1359893119, 2600822924, 528734635, 1541459225]
def kWords : List Nat := [1116352408, 1899447441, 3049323471, 3921009573, 961987163, 1508970993, 2453635748, 2870763221, 3624381080, 310598401, 607225278, 1426881987, 1925078388, 2162078206, 2614888103, 3248222580, 3835390401, 4022224774, 264347078, 604807628, 770255983, 1249150122, 1555081692, 1996064986, 2554220882, 2821834349, 2952996808, 3210313671, 3336571891, 3584528711, 113926993, 338241895, 666307205, 773529912, 1294757372, 1396182291, 1695183700, 1986661051, 2177026350, 2456956037, 2730485921, 2820302411, 3259730800, 3345764771, 3516065817, 3600352804, 4094571909, 275423344, 430227734, 506948616, 659060556, 883997877, 958139571, 1322822218, 1537002063, 1747873779, 1955562222, 2024104815, 2227730452, 2361852424, 2428436474, 2756734187, 3204031479, 3329325298]
theorem constTo_end : constTo 310 = (hWords, kWords) := by decide +kernel
theorem constTo_last : (constTo 309).2.length = 63 := by decide +kernel
theorem constTo_mono (m : Nat) : (constTo m).2.length ≤ (constTo (m + 1)).2.length := by
  show _ ≤ (stepC (m + 2) (constTo m)).2.length
  unfold stepC
  split <;> simp
theorem constTo_short : ∀ d m, m + d = 309 → (constTo m).2.length < 64
  | 0, m, h => by have : m = 309 := by omega
                  subst this; rw [constTo_last]; decide
  | d + 1, m, h => by have := constTo_short d (m + 1) (by omega); have := constTo_mono m; omega
theorem constTo_lt (m : Nat) (h : m < 310) : (constTo m).2.length < 64 := constTo_short (309 - m) m (by omega)
theorem constTo_h8 (m : Nat) : (constTo m).1.length ≤ 8 := by
  induction m with
  | zero => simp [constTo]
  | succ m ih =>
    show (stepC (m + 2) (constTo m)).1.length ≤ 8
    unfold stepC
    split
    · dsimp only
      split
      · simp; omega
      · exact ih
    · exact ih
/-- The bits of the substitution. -/
def sbit (x i : Nat) : Nat := x / 2 ^ i ^^^ x / 2 ^ ((i + 4) % 8) ^^^ x / 2 ^ ((i + 5) % 8) ^^^ x / 2 ^ ((i + 6) % 8) ^^^ x / 2 ^ ((i + 7) % 8) ^^^ 99 / 2 ^ i
def sTo (x : Nat) : Nat → Nat
  | 0 => 0
  | i + 1 => sTo x i + sbit x i % 2 * 2 ^ i
def sboxN (b : Nat) : Nat := sTo (invN b) 8
def sList (n : Nat) : List Nat := (List.range n).map sboxN
theorem sList_succ (n : Nat) : sList (n + 1) = sList n ++ [sboxN n] := by simp [sList, List.range_succ]
theorem sList_len (n : Nat) : (sList n).length = n := by simp [sList]
theorem sTo_lt (x i : Nat) : sTo x i < 2 ^ i := by
  induction i with
  | zero => simp [sTo]
  | succ i ih =>
    rw [sTo, Nat.pow_succ]
    have h1 : sbit x i % 2 * 2 ^ i ≤ 1 * 2 ^ i := Nat.mul_le_mul_right _ (by omega)
    omega
theorem invN_lt (a : Nat) : invN a < 256 := invFrom_lt a 255 1 (by omega)
theorem sboxN_lt (b : Nat) : sboxN b < 256 := sTo_lt _ 8
theorem sh_bit (k x : Nat) (hx : x < 256) (_hk : k < 8) :
    bits .xor .i64 (bits .xor .i64 (bits .xor .i64 (bits .xor .i64 (bits .xor .i64 ((x / 2 ^ k : Nat) : Int) ((x / 2 ^ ((k + 4) % 8) : Nat) : Int)) ((x / 2 ^ ((k + 5) % 8) : Nat) : Int)) ((x / 2 ^ ((k + 6) % 8) : Nat) : Int)) ((x / 2 ^ ((k + 7) % 8) : Nat) : Int)) ((99 / 2 ^ k : Nat) : Int) = ((sbit x k : Nat) : Int) := by
  have hd : ∀ j, x / 2 ^ j < 256 := fun j => Nat.lt_of_le_of_lt (Nat.div_le_self _ _) hx
  have h9 : 99 / 2 ^ k < 256 := Nat.lt_of_le_of_lt (Nat.div_le_self _ _) (by decide)
  have hx2 : ∀ a b : Nat, a < 256 → b < 256 → a ^^^ b < 256 := fun a b ha hb => Nat.xor_lt_two_pow (n := 8) ha hb
  have key : ∀ a b : Nat, a < 256 → b < 256 → bits .xor .i64 (a : Int) (b : Int) = ((a ^^^ b : Nat) : Int) := fun a b ha hb => i64_xor_nat a b (by omega) (by omega)
  rw [key _ _ (hd _) (hd _), key _ _ (hx2 _ _ (hd _) (hd _)) (hd _), key _ _ (hx2 _ _ (hx2 _ _ (hd _) (hd _)) (hd _)) (hd _), key _ _ (hx2 _ _ (hx2 _ _ (hx2 _ _ (hd _) (hd _)) (hd _)) (hd _)) (hd _), key _ _ (hx2 _ _ (hx2 _ _ (hx2 _ _ (hx2 _ _ (hd _) (hd _)) (hd _)) (hd _)) (hd _)) h9]
  rfl
theorem wrap_small (y z : Nat) (h : y + z < 65536) : RowKit.wrap64 ((y : Int) + RowKit.wrap64 (z : Int)) = ((y + z : Nat) : Int) := by
  unfold RowKit.wrap64
  omega
theorem sbit_lt (x k : Nat) (hx : x < 256) : sbit x k < 256 := by
  have hd : ∀ j, x / 2 ^ j < 256 := fun j => Nat.lt_of_le_of_lt (Nat.div_le_self _ _) hx
  have h9 : 99 / 2 ^ k < 256 := Nat.lt_of_le_of_lt (Nat.div_le_self _ _) (by decide)
  have hx2 : ∀ a b : Nat, a < 256 → b < 256 → a ^^^ b < 256 := fun a b ha hb => Nat.xor_lt_two_pow (n := 8) ha hb
  unfold sbit
  exact hx2 _ _ (hx2 _ _ (hx2 _ _ (hx2 _ _ (hx2 _ _ (hd _) (hd _)) (hd _)) (hd _)) (hd _)) h9
theorem and_one (n : Nat) (h : n < 9223372036854775808) : bits .and .i64 (n : Int) 1 = ((n % 2 : Nat) : Int) := by
  have := i64_and_nat n 1 h (by decide)
  rw [nat_mask1] at this
  exact this
theorem sh_round (k x : Nat) (hx : x < 256) (hk : k < 8) :
    RowKit.wrap64 (((sTo x k : Nat) : Int) + RowKit.wrap64 (bits .and .i64 (bits .xor .i64 (bits .xor .i64 (bits .xor .i64 (bits .xor .i64 (bits .xor .i64 ((x : Int) / 2 ^ k) ((x : Int) / 2 ^ ((k + 4) % 8))) ((x : Int) / 2 ^ ((k + 5) % 8))) ((x : Int) / 2 ^ ((k + 6) % 8))) ((x : Int) / 2 ^ ((k + 7) % 8))) (99 / 2 ^ k)) 1 * 2 ^ k)) = ((sTo x (k + 1) : Nat) : Int) := by
  have h := sh_bit k x hx hk
  have e : ∀ j : Nat, ((x / 2 ^ j : Nat) : Int) = (x : Int) / 2 ^ j := fun j => by simp
  have e9 : ((99 / 2 ^ k : Nat) : Int) = 99 / 2 ^ k := by simp
  rw [e, e, e, e, e, e9] at h
  rw [h, and_one _ (by have := sbit_lt x k hx; omega)]
  have ep : (((sbit x k % 2 : Nat) : Int)) * 2 ^ k = ((sbit x k % 2 * 2 ^ k : Nat) : Int) := by simp
  have hl := sTo_lt x (k + 1)
  have hp : 2 ^ (k + 1) ≤ 256 := Nat.pow_le_pow_right (n := 2) (by decide) (show k + 1 ≤ 8 by omega)
  have hl2 : sTo x (k + 1) = sTo x k + sbit x k % 2 * 2 ^ k := rfl
  rw [ep, hl2]
  exact wrap_small _ _ (by rw [← hl2]; omega)
end Go.Proofs.YtjnhlkaafnaooabGreatDoor

namespace Go.Proofs.YtjnhlkaafnaooabGreatDoor
open Go.RowKit

def vals (k : IntKind) (xs : List Nat) : List Value := xs.map fun n : Nat => .int k (n : Int)
theorem vals_snoc (k : IntKind) (xs : List Nat) (n : Nat) : vals k (xs ++ [n]) = vals k xs ++ [.int k (n : Int)] := by simp [vals]

theorem ownsRow_setCell_far {w : World} {base : Nat} {e : TypeId} {v : Value} {n : Nat} {xs : List Value} (h : w.ownsRow base e 1 v n xs) {a : Addr} (ha : a.block < base) (u : Value) : (w.setCell a u).ownsRow base e 1 v n xs := ownsRow_setCell_below h ha u
theorem keep_other {w w' : World} {base : Nat} {e : TypeId} {v v2 : Value} {n : Nat} {xs : List Value} (h : w.ownsRow base e 1 v n xs) (hg : w.grownBy w' v2.ownBlock) (hd : ∀ g, v.ownBlock = some g → v2.ownBlock ≠ some g) : w'.ownsRow base e 1 v n xs := by
  refine h.kept hg ?_
  cases hv : v.ownBlock with
  | none => exact .inl rfl
  | some g => exact .inr fun e => hd g hv (by rw [← e])
theorem set_prim {w : World} {b : Nat} {c : Array Value} {t : TypeId} (h : w.heap[b]? = some (.cells c t (0, 0))) (j : Nat) (v : Value) : (w.setCell ⟨b, j, none⟩ v).heap[b]? = some (.cells (c.setIfInBounds j v) t (0, 0)) := by
  simp [World.setCell, Array.getElem?_modify, h]

theorem grown_of_below {w w' : World} (h : Below w.heap.size w w') (v : Value) (hv : v.ownBlock = none) : w.grownBy w' v.ownBlock := by
  rw [hv]
  exact ⟨h.os, h.tape, h.output, h.size, fun k hk _ => h.block k hk⟩
theorem owns_below {w w' : World} {base : Nat} {e : TypeId} {v : Value} {n : Nat} {xs : List Value} (h : w.ownsRow base e 1 v n xs) (hb : Below w.heap.size w w') : w'.ownsRow base e 1 v n xs := by
  refine h.kept (grown_of_below hb (.slice none 0 0) rfl) ?_
  cases hv : v.ownBlock with
  | none => exact .inl rfl
  | some g => exact .inr (by simp [Value.ownBlock])
theorem own_some {w : World} {base : Nat} {e : TypeId} {a : Option Addr} {n c : Nat} {xs : List Value} (h : w.ownsRow base e 1 (.slice a n c) n xs) (hn : 0 < n) : ∃ g, a = some ⟨g, 0, none⟩ := by
  rcases h.2 with ⟨_, h0⟩ | ⟨g, cap, cur, hv, _⟩
  · omega
  · simp at hv
    exact ⟨g, hv.1⟩
theorem constTo_next (n : Nat) (hn : 2 ≤ n) : constTo (n + 1 - 2) = stepC n (constTo (n - 2)) := by
  obtain ⟨m, rfl⟩ : ∃ m, n = m + 2 := ⟨n - 2, by omega⟩
  rw [show m + 2 + 1 - 2 = m + 1 from by omega, show m + 2 - 2 = m from by omega]
  rfl

end Go.Proofs.YtjnhlkaafnaooabGreatDoor

namespace Go.Proofs.YtjnhlkaafnaooabGreatDoor
/-- Turned right by n bits. -/
def rotr (x n : Nat) : Nat := x / 2 ^ n + x * 2 ^ (32 - n) % 4294967296

theorem rotr_lt (x n : Nat) (hx : x < 4294967296) (hn : 1 ≤ n) (hn2 : n ≤ 31) : rotr x n < 4294967296 := by
  unfold rotr
  have h1 : x / 2 ^ n < 2 ^ (32 - n) := by
    rw [Nat.div_lt_iff_lt_mul (by exact Nat.two_pow_pos n), ← Nat.pow_add]
    have : 32 - n + n = 32 := by omega
    rw [this]; simpa using hx
  have e : (4294967296 : Nat) = 2 ^ (32 - n) * 2 ^ n := by
    rw [← Nat.pow_add]
    have : 32 - n + n = 32 := by omega
    rw [this]
  have h2 : x * 2 ^ (32 - n) % 4294967296 = 2 ^ (32 - n) * (x % 2 ^ n) := by
    rw [e, Nat.mul_comm x, Nat.mul_mod_mul_left]
  have h3 : x % 2 ^ n + 1 ≤ 2 ^ n := Nat.mod_lt _ (Nat.two_pow_pos n)
  have h4 : 2 ^ (32 - n) * (x % 2 ^ n + 1) ≤ 2 ^ (32 - n) * 2 ^ n := Nat.mul_le_mul_left _ h3
  rw [← e, Nat.mul_add, Nat.mul_one] at h4
  rw [h2]
  omega

theorem rotr_or (x n : Nat) (hx : x < 4294967296) (_hn : 1 ≤ n) (hn2 : n ≤ 31) : (x / 2 ^ n) ||| (x * 2 ^ (32 - n) % 4294967296) = rotr x n := by
  have h1 : x / 2 ^ n < 2 ^ (32 - n) := by
    rw [Nat.div_lt_iff_lt_mul (by exact Nat.two_pow_pos n), ← Nat.pow_add]
    have : 32 - n + n = 32 := by omega
    rw [this]; simpa using hx
  have e : (4294967296 : Nat) = 2 ^ (32 - n) * 2 ^ n := by
    rw [← Nat.pow_add]
    have : 32 - n + n = 32 := by omega
    rw [this]
  have h2 : x * 2 ^ (32 - n) % 4294967296 = 2 ^ (32 - n) * (x % 2 ^ n) := by
    rw [e, Nat.mul_comm x, Nat.mul_mod_mul_left]
  rw [Nat.or_comm, nat_join (32 - n) _ _ (by rw [h2]; exact Nat.mul_mod_right _ _) h1, rotr, Nat.add_comm]

/-- The walk's own writing of 'turn'. -/
theorem turn_int (x : Nat) (n : Int) (hx : x < 4294967296) (hn : 1 ≤ n) (hn2 : n ≤ 31) :
    bits .or .u32 ((x : Int) / 2 ^ n.toNat) ((x : Int) * 2 ^ (32 - n).toNat % 4294967296) = ((rotr x n.toNat : Nat) : Int) := by
  have e1 : (x : Int) / 2 ^ n.toNat = ((x / 2 ^ n.toNat : Nat) : Int) := by simp
  have e2 : (32 - n).toNat = 32 - n.toNat := by omega
  have e3 : (x : Int) * 2 ^ (32 - n.toNat) % 4294967296 = ((x * 2 ^ (32 - n.toNat) % 4294967296 : Nat) : Int) := by simp
  rw [e2, e1, e3, u32_or_nat _ _ (Nat.lt_of_le_of_lt (Nat.div_le_self _ _) hx) (Nat.mod_lt _ (by decide)), rotr_or x n.toNat hx (by omega) (by omega)]

theorem right_int (x : Nat) (n : Int) (hx : x < 4294967296) (hn : 1 ≤ n) (hn2 : n ≤ 31) :
    RowKit.wrap64 ((x : Int) / 2 ^ n.toNat + (RowKit.wrap64 ((x : Int) * 2 ^ (32 - n).toNat)).tmod 4294967296) = ((rotr x n.toNat : Nat) : Int) := by
  have e1 : (x : Int) / 2 ^ n.toNat = ((x / 2 ^ n.toNat : Nat) : Int) := by simp
  have e2 : (32 - n).toNat = 32 - n.toNat := by omega
  have e3 : (x : Int) * 2 ^ (32 - n.toNat) = ((x * 2 ^ (32 - n.toNat) : Nat) : Int) := by simp
  have h5 : x * 2 ^ (32 - n.toNat) < 9223372036854775808 := by
    have a1 : (2 : Nat) ^ (32 - n.toNat) ≤ 2 ^ 31 := Nat.pow_le_pow_right (by decide) (by omega)
    have a2 : x * 2 ^ (32 - n.toNat) ≤ 4294967295 * 2 ^ 31 := Nat.mul_le_mul (by omega) a1
    have a3 : 4294967295 * 2 ^ 31 < 9223372036854775808 := by decide
    omega
  have hr := rotr_lt x n.toNat hx (by omega) (by omega)
  rw [e2, e1, e3]
  have w1 : RowKit.wrap64 ((x * 2 ^ (32 - n.toNat) : Nat) : Int) = ((x * 2 ^ (32 - n.toNat) : Nat) : Int) := by
    unfold RowKit.wrap64
    omega
  rw [w1]
  have t1 : (((x * 2 ^ (32 - n.toNat) : Nat) : Int)).tmod 4294967296 = ((x * 2 ^ (32 - n.toNat) % 4294967296 : Nat) : Int) := by
    rw [Int.tmod_eq_emod_of_nonneg (by omega)]; rfl
  rw [t1, ← Int.natCast_add]
  show RowKit.wrap64 ((rotr x n.toNat : Nat) : Int) = _
  generalize rotr x n.toNat = z at hr
  unfold RowKit.wrap64
  omega
end Go.Proofs.YtjnhlkaafnaooabGreatDoor

namespace Go.Proofs.YtjnhlkaafnaooabGreatDoor
/-- A number as n bytes, the high one first. -/
def onesL : Nat → Nat → List UInt8
  | _, 0 => []
  | v, n + 1 => onesL (v / 256) n ++ [UInt8.ofNat (v % 256)]
theorem onesL_len : ∀ n v, (onesL v n).length = n
  | 0, _ => rfl
  | n + 1, v => by simp [onesL, onesL_len n]
/-- The number that bytes are. -/
def numL (l : List UInt8) : Nat := l.foldl (fun v b => v * 256 + b.toNat) 0
theorem numL_snoc (l : List UInt8) (b : UInt8) : numL (l ++ [b]) = numL l * 256 + b.toNat := by simp [numL]
theorem numL_go : ∀ (l : List UInt8) (v : Nat), l.foldl (fun v b => v * 256 + b.toNat) v < (v + 1) * 256 ^ l.length
  | [], v => by simp
  | b :: l, v => by
    have h := numL_go l (v * 256 + b.toNat)
    have hb : v * 256 + b.toNat + 1 ≤ (v + 1) * 256 := by have := b.toNat_lt; omega
    have h2 := Nat.mul_le_mul_right (256 ^ l.length) hb
    rw [List.foldl_cons, List.length_cons, Nat.pow_succ, Nat.mul_comm (256 ^ l.length), ← Nat.mul_assoc]
    exact Nat.lt_of_lt_of_le h h2
theorem numL_lt (l : List UInt8) : numL l < 256 ^ l.length := by
  have := numL_go l 0
  simpa [numL] using this
end Go.Proofs.YtjnhlkaafnaooabGreatDoor

namespace Go.Proofs.YtjnhlkaafnaooabGreatDoor
open Go.RowKit
theorem getElem_byte (s : ByteArray) (k : Nat) (h : k < s.size) : s.data.toList[k]'(by simpa using h) = s[k] := rfl
end Go.Proofs.YtjnhlkaafnaooabGreatDoor

namespace Go.Proofs.YtjnhlkaafnaooabGreatDoor
/-- The eight words. -/
structure St where
  a : Nat
  b : Nat
  c : Nat
  d : Nat
  e : Nat
  f : Nat
  g : Nat
  h : Nat
def St.list (s : St) : List Nat := [s.a, s.b, s.c, s.d, s.e, s.f, s.g, s.h]
structure St.ok (s : St) : Prop where
  a : s.a < 4294967296
  b : s.b < 4294967296
  c : s.c < 4294967296
  d : s.d < 4294967296
  e : s.e < 4294967296
  f : s.f < 4294967296
  g : s.g < 4294967296
  h : s.h < 4294967296
def sig0 (x : Nat) : Nat := rotr x 7 ^^^ rotr x 18 ^^^ x / 8
def sig1 (x : Nat) : Nat := rotr x 17 ^^^ rotr x 19 ^^^ x / 1024
def bigE (x : Nat) : Nat := rotr x 6 ^^^ rotr x 11 ^^^ rotr x 25
def bigA (x : Nat) : Nat := rotr x 2 ^^^ rotr x 13 ^^^ rotr x 22
def chN (e f g : Nat) : Nat := (e &&& f) ||| ((4294967295 - e) &&& g)
def majN (a b c : Nat) : Nat := (a &&& b) ||| (a &&& c) ||| (b &&& c)
theorem xor32 {a b : Nat} (ha : a < 4294967296) (hb : b < 4294967296) : a ^^^ b < 4294967296 := Nat.xor_lt_two_pow (n := 32) ha hb
theorem or32 {a b : Nat} (ha : a < 4294967296) (hb : b < 4294967296) : a ||| b < 4294967296 := Nat.or_lt_two_pow (n := 32) ha hb
theorem and32 {a b : Nat} (ha : a < 4294967296) : a &&& b < 4294967296 := Nat.lt_of_le_of_lt Nat.and_le_left ha
theorem sig0_lt (x : Nat) (h : x < 4294967296) : sig0 x < 4294967296 := xor32 (xor32 (rotr_lt x 7 h (by decide) (by decide)) (rotr_lt x 18 h (by decide) (by decide))) (by omega)
theorem sig1_lt (x : Nat) (h : x < 4294967296) : sig1 x < 4294967296 := xor32 (xor32 (rotr_lt x 17 h (by decide) (by decide)) (rotr_lt x 19 h (by decide) (by decide))) (by omega)
theorem bigE_lt (x : Nat) (h : x < 4294967296) : bigE x < 4294967296 := xor32 (xor32 (rotr_lt x 6 h (by decide) (by decide)) (rotr_lt x 11 h (by decide) (by decide))) (rotr_lt x 25 h (by decide) (by decide))
theorem bigA_lt (x : Nat) (h : x < 4294967296) : bigA x < 4294967296 := xor32 (xor32 (rotr_lt x 2 h (by decide) (by decide)) (rotr_lt x 13 h (by decide) (by decide))) (rotr_lt x 22 h (by decide) (by decide))
theorem chN_lt (e f g : Nat) (he : e < 4294967296) : chN e f g < 4294967296 := or32 (and32 he) (and32 (by omega))
theorem majN_lt (a b c : Nat) (ha : a < 4294967296) (hb : b < 4294967296) : majN a b c < 4294967296 := or32 (or32 (and32 ha) (and32 ha)) (and32 hb)

/-- The i-th word of a block. -/
def wordAt (t : List UInt8) (i : Nat) : Nat := numL ((t.drop (4 * i)).take 4)
def wordsTo (t : List UInt8) : Nat → List Nat
  | 0 => []
  | n + 1 => wordsTo t n ++ [wordAt t n]
def nextW (w : List Nat) (i : Nat) : Nat := (sig1 (w.getD (i - 2) 0) + w.getD (i - 7) 0 + sig0 (w.getD (i - 15) 0) + w.getD (i - 16) 0) % 4294967296
def schedTo (t : List UInt8) : Nat → List Nat
  | 0 => wordsTo t 16
  | n + 1 => schedTo t n ++ [nextW (schedTo t n) (n + 16)]
def sched (t : List UInt8) : List Nat := schedTo t 48
theorem wordsTo_len (t : List UInt8) : ∀ n, (wordsTo t n).length = n
  | 0 => rfl
  | n + 1 => by simp [wordsTo, wordsTo_len t n]
theorem schedTo_len (t : List UInt8) : ∀ n, (schedTo t n).length = n + 16
  | 0 => wordsTo_len t 16
  | n + 1 => by simp [schedTo, schedTo_len t n]
theorem wordAt_lt (t : List UInt8) (i : Nat) : wordAt t i < 4294967296 := by
  have h := numL_lt ((t.drop (4 * i)).take 4)
  have hl : ((t.drop (4 * i)).take 4).length ≤ 4 := by rw [List.length_take]; omega
  have hp : 256 ^ ((t.drop (4 * i)).take 4).length ≤ 256 ^ 4 := Nat.pow_le_pow_right (by decide) hl
  unfold wordAt
  omega
theorem wordsTo_lt (t : List UInt8) : ∀ n, ∀ x ∈ wordsTo t n, x < 4294967296
  | 0, x, hx => by simp [wordsTo] at hx
  | n + 1, x, hx => by
    rw [wordsTo, List.mem_append] at hx
    rcases hx with hx | hx
    · exact wordsTo_lt t n x hx
    · simp at hx; rw [hx]; exact wordAt_lt t n
theorem schedTo_lt (t : List UInt8) : ∀ n, ∀ x ∈ schedTo t n, x < 4294967296
  | 0, x, hx => wordsTo_lt t 16 x hx
  | n + 1, x, hx => by
    rw [schedTo, List.mem_append] at hx
    rcases hx with hx | hx
    · exact schedTo_lt t n x hx
    · simp at hx; rw [hx]; exact Nat.mod_lt _ (by decide)
theorem getD_lt {l : List Nat} {i : Nat} (h : ∀ x ∈ l, x < 4294967296) : l.getD i 0 < 4294967296 := by
  by_cases hn : i < l.length
  · have := h l[i] (List.getElem_mem hn); simpa [List.getElem?_eq_getElem hn] using this
  · simp [List.getElem?_eq_none (by omega : l.length ≤ i)]

/-- One round. -/
def rnd (k w : Nat) (s : St) : St :=
  { a := (s.h + bigE s.e + chN s.e s.f s.g + k + w + (bigA s.a + majN s.a s.b s.c)) % 4294967296, b := s.a, c := s.b, d := s.c,
    e := (s.d + (s.h + bigE s.e + chN s.e s.f s.g + k + w)) % 4294967296, f := s.e, g := s.f, h := s.g }
def rnds (w : List Nat) (s : St) : Nat → St
  | 0 => s
  | n + 1 => rnd (kWords.getD n 0) (w.getD n 0) (rnds w s n)
def addSt (x y : St) : St :=
  { a := (x.a + y.a) % 4294967296, b := (x.b + y.b) % 4294967296, c := (x.c + y.c) % 4294967296, d := (x.d + y.d) % 4294967296,
    e := (x.e + y.e) % 4294967296, f := (x.f + y.f) % 4294967296, g := (x.g + y.g) % 4294967296, h := (x.h + y.h) % 4294967296 }
def comp (s : St) (t : List UInt8) : St := addSt (rnds (sched t) s 64) s
theorem rnd_ok (k w : Nat) {s : St} (h : s.ok) : (rnd k w s).ok := ⟨Nat.mod_lt _ (by decide), h.a, h.b, h.c, Nat.mod_lt _ (by decide), h.e, h.f, h.g⟩
theorem rnds_ok (w : List Nat) {s : St} (h : s.ok) : ∀ n, (rnds w s n).ok
  | 0 => h
  | n + 1 => rnd_ok _ _ (rnds_ok w h n)
theorem addSt_ok (x y : St) : (addSt x y).ok := ⟨Nat.mod_lt _ (by decide), Nat.mod_lt _ (by decide), Nat.mod_lt _ (by decide), Nat.mod_lt _ (by decide), Nat.mod_lt _ (by decide), Nat.mod_lt _ (by decide), Nat.mod_lt _ (by decide), Nat.mod_lt _ (by decide)⟩
theorem comp_ok (s : St) (t : List UInt8) : (comp s t).ok := addSt_ok _ _
def startSt : St := ⟨1779033703, 3144134277, 1013904242, 2773480762, 1359893119, 2600822924, 528734635, 1541459225⟩
theorem startSt_list : startSt.list = hWords := rfl
theorem startSt_ok : startSt.ok := by constructor <;> decide
/-- All whole blocks of a text taken in. -/
def takeIn (s : St) (t : List UInt8) : Nat → St
  | 0 => s
  | n + 1 => comp (takeIn s t n) ((t.drop (64 * n)).take 64)
/-- What is added behind a text of n bytes. -/
def padL (n : Nat) : List UInt8 := 128 :: List.replicate ((119 - n % 64) % 64) 0 ++ onesL (8 * n) 8
def digest (s : St) : List UInt8 := s.list.flatMap fun x => onesL x 4
def shaL (t : List UInt8) : List UInt8 := digest (takeIn startSt (t ++ padL t.length) ((t.length + 72) / 64))
def padZ (n : Nat) : Nat := (119 - n % 64) % 64
theorem padL_eq (n : Nat) : padL n = (128 :: List.replicate (padZ n) 0) ++ onesL (8 * n) 8 := rfl
theorem padL_len (n : Nat) : (padL n).length = padZ n + 9 := by simp [padL_eq, onesL_len]
theorem padZ_lt (n : Nat) : padZ n < 64 := Nat.mod_lt _ (by decide)
theorem padZ_hit (n : Nat) : (n + 1 + padZ n) % 64 = 56 := by unfold padZ; omega
theorem padZ_miss (n j : Nat) (h : j < padZ n) : (n + 1 + j) % 64 ≠ 56 := by unfold padZ at h; omega
theorem blocks_eq (n : Nat) : n + (padZ n + 9) = 64 * ((n + 72) / 64) := by unfold padZ; omega
theorem takeIn_ok (t : List UInt8) (s : St) (h : s.ok) : ∀ n, (takeIn s t n).ok
  | 0 => h
  | _ + 1 => comp_ok _ _
def digTo (s : St) (k : Nat) : List UInt8 := (s.list.take k).flatMap fun x => onesL x 4
theorem digTo_end (s : St) : digTo s 8 = digest s := rfl
theorem digTo_succ (s : St) (k : Nat) (hk : k < 8) : digTo s (k + 1) = digTo s k ++ onesL (s.list.getD k 0) 4 := by
  have hl : k < s.list.length := by simpa [St.list] using hk
  unfold digTo
  rw [List.take_succ_eq_append_getElem hl, List.flatMap_append]
  simp [List.getElem?_eq_getElem hl]
theorem digTo_len (s : St) (k : Nat) (hk : k ≤ 8) : (digTo s k).length = 4 * k := by
  induction k with
  | zero => rfl
  | succ k ih => rw [digTo_succ s k (by omega), List.length_append, ih (by omega), onesL_len]; omega
theorem digest_len (s : St) : (digest s).length = 32 := digTo_len s 8 (by omega)
theorem shaL_len (t : List UInt8) : (shaL t).length = 32 := digest_len _
end Go.Proofs.YtjnhlkaafnaooabGreatDoor

namespace Go.Proofs.YtjnhlkaafnaooabGreatDoor
/-- What is left in hand behind a text T. -/
structure Taken (st : St) (buf : List UInt8) (T : List UInt8) : Prop where
  st_ : st = takeIn startSt T (T.length / 64)
  len : buf.length = 64
  buf_ : buf.take (T.length % 64) = T.drop (64 * (T.length / 64))
theorem takeIn_append (s : St) (T t : List UInt8) : ∀ n, 64 * n ≤ T.length → takeIn s (T ++ t) n = takeIn s T n
  | 0, _ => rfl
  | n + 1, h => by
    have ih := takeIn_append s T t n (by omega)
    simp only [takeIn]
    rw [ih, List.drop_append_of_le_length (by omega), List.take_append_of_le_length (by simp; omega)]
theorem Taken.start : Taken startSt (List.replicate 64 0) [] := ⟨rfl, by simp, by simp⟩
theorem Taken.step {st : St} {buf T : List UInt8} (h : Taken st buf T) (c : UInt8) (hne : (T.length + 1) % 64 ≠ 0) : Taken st (buf.set (T.length % 64) c) (T ++ [c]) := by
  have hd : (T.length + 1) / 64 = T.length / 64 := by omega
  have hm : (T.length + 1) % 64 = T.length % 64 + 1 := by omega
  refine ⟨?_, by simp [h.len], ?_⟩
  · rw [List.length_append, List.length_singleton, hd, takeIn_append _ _ _ _ (by omega)]; exact h.st_
  · rw [List.length_append, List.length_singleton, hd, hm, List.drop_append_of_le_length (by omega), ← h.buf_]
    rw [List.take_succ_eq_append_getElem (by simp [h.len]; omega)]
    simp [List.take_set_of_le]
theorem Taken.full {st : St} {buf T : List UInt8} (h : Taken st buf T) (c : UInt8) (hz : (T.length + 1) % 64 = 0) : Taken (comp st (buf.set (T.length % 64) c)) (buf.set (T.length % 64) c) (T ++ [c]) := by
  have hd : (T.length + 1) / 64 = T.length / 64 + 1 := by omega
  have hm : T.length % 64 = 63 := by omega
  have hb : buf.set (T.length % 64) c = T.drop (64 * (T.length / 64)) ++ [c] := by
    rw [← h.buf_, hm]
    have hl := h.len
    apply List.ext_getElem
    · simp [hl]
    · intro i h1 h2
      by_cases e : i = 63
      · subst e; simp [hl]
      · have hi : i < 63 := by simp [hl] at h1; omega
        rw [List.getElem_set_ne (by omega), List.getElem_append_left (by simp [hl]; omega)]
        simp
  refine ⟨?_, by simp [h.len], ?_⟩
  · rw [List.length_append, List.length_singleton, hd, takeIn, takeIn_append _ _ _ _ (by omega), ← h.st_, hb]
    congr 1
    rw [List.drop_append_of_le_length (by omega), List.take_of_length_le]
    simp; omega
  · rw [List.length_append, List.length_singleton, hd, hz]
    simp
    omega
/-- The digest of all that was taken in, the padding behind it. -/
theorem Taken.digest {st : St} {buf T : List UInt8} (h : Taken st buf (T ++ padL T.length)) : digest st = shaL T := by
  rw [shaL, h.st_, List.length_append, padL_len, blocks_eq, Nat.mul_div_cancel_left _ (by decide)]
end Go.Proofs.YtjnhlkaafnaooabGreatDoor

namespace Go.Proofs.YtjnhlkaafnaooabGreatDoor
/-- Two texts, added bit by bit. -/
def xorL (a b : List UInt8) : List UInt8 := List.zipWith (fun x y => x ^^^ y) a b
theorem xorL_len (a b : List UInt8) (h : a.length = b.length) : (xorL a b).length = a.length := by simp [xorL, h]
/-- A key of at most a block. -/
def shortL (key : List UInt8) : List UInt8 := if 64 < key.length then shaL key else key
theorem shortL_len (key : List UInt8) : (shortL key).length ≤ 64 := by
  unfold shortL; split
  · rw [shaL_len]; omega
  · omega
/-- The key, noughts behind it up to a block. -/
def blockL (key : List UInt8) : List UInt8 := shortL key ++ List.replicate (64 - (shortL key).length) 0
theorem blockL_len (key : List UInt8) : (blockL key).length = 64 := by
  have := shortL_len key
  simp [blockL]; omega
def padIn (key : List UInt8) : List UInt8 := xorL (blockL key) (List.replicate 64 54)
def padOut (key : List UInt8) : List UInt8 := xorL (blockL key) (List.replicate 64 92)
theorem padIn_len (key : List UInt8) : (padIn key).length = 64 := by unfold padIn; rw [xorL_len _ _ (by rw [blockL_len]; simp), blockL_len]
theorem padOut_len (key : List UInt8) : (padOut key).length = 64 := by unfold padOut; rw [xorL_len _ _ (by rw [blockL_len]; simp), blockL_len]
/-- A tag. -/
def macL (key t : List UInt8) : List UInt8 := shaL (padOut key ++ shaL (padIn key ++ t))
theorem macL_len (key t : List UInt8) : (macL key t).length = 32 := shaL_len _
/-- The r-th link of the chain of one block of a stretched key, and the links so far added. -/
def linkL (pass salt : List UInt8) (i : Nat) : Nat → List UInt8
  | 0 => macL pass (salt ++ onesL i 4)
  | r + 1 => macL pass (linkL pass salt i r)
def sumL (pass salt : List UInt8) (i : Nat) : Nat → List UInt8
  | 0 => linkL pass salt i 0
  | r + 1 => xorL (sumL pass salt i r) (linkL pass salt i (r + 1))
theorem linkL_len (pass salt : List UInt8) (i r : Nat) : (linkL pass salt i r).length = 32 := by cases r <;> exact macL_len _ _
theorem sumL_len (pass salt : List UInt8) (i r : Nat) : (sumL pass salt i r).length = 32 := by
  induction r with
  | zero => exact linkL_len _ _ _ _
  | succ r ih => show (xorL _ _).length = 32; rw [xorL_len _ _ (by rw [ih, linkL_len]), ih]
/-- The first m blocks of a stretched key. -/
def keyTo (pass salt : List UInt8) (r : Nat) : Nat → List UInt8
  | 0 => []
  | m + 1 => keyTo pass salt r m ++ sumL pass salt (m + 1) r
theorem keyTo_len (pass salt : List UInt8) (r m : Nat) : (keyTo pass salt r m).length = 32 * m := by
  induction m with
  | zero => rfl
  | succ m ih => rw [keyTo, List.length_append, ih, sumL_len]; omega
/-- How many turns behind the first a number of rounds asks for. -/
def turnsOf (rounds : Int) : Nat := (rounds - 1).toNat
def keyL (pass salt : List UInt8) (rounds : Int) (size : Nat) : List UInt8 := (keyTo pass salt (turnsOf rounds) ((size + 31) / 32)).take size
/-- Two texts of one length, the first k bytes added. -/
theorem xor_set (a b : List UInt8) (k n : Nat) (hn : a.length = n) (hab : b.length = n) (hk : k < n) :
    ((xorL (a.take k) (b.take k)).map UInt8.toNat ++ List.replicate (n - k) 0).set k (a[k].toNat ^^^ b[k].toNat) = (xorL (a.take (k + 1)) (b.take (k + 1))).map UInt8.toNat ++ List.replicate (n - (k + 1)) 0 := by
  have hl : ((xorL (a.take k) (b.take k)).map UInt8.toNat).length = k := by rw [List.length_map, xorL_len _ _ (by simp; omega)]; simp; omega
  have e1 : xorL (a.take (k + 1)) (b.take (k + 1)) = xorL (a.take k) (b.take k) ++ [a[k] ^^^ b[k]] := by
    rw [List.take_succ_eq_append_getElem (by omega : k < a.length), List.take_succ_eq_append_getElem (by omega : k < b.length)]
    unfold xorL
    rw [List.zipWith_append (by simp; omega)]
    rfl
  rw [e1, List.map_append, List.set_append_right k _ (by omega), hl, Nat.sub_self]
  have e2 : n - k = (n - (k + 1)) + 1 := by omega
  rw [e2, List.replicate_succ, List.set_cons_zero, List.append_assoc]
  simp
end Go.Proofs.YtjnhlkaafnaooabGreatDoor

namespace Go.Proofs.YtjnhlkaafnaooabGreatDoor
open Go.RowKit
/-- From the head of block g on lie these numbers. -/
structure Cells (w : World) (g : Nat) (k : IntKind) (xs : List Nat) : Prop where
  lt : g < w.heap.size
  at_ : ∀ i, i < xs.length → w.cell? ⟨g, i, none⟩ = some (.int k ((xs.getD i 0 : Nat) : Int))
theorem Cells.below {w w' : World} {g B : Nat} {k : IntKind} {xs : List Nat} (h : Cells w g k xs) (hb : Below B w w') (hB : g < B) : Cells w' g k xs :=
  ⟨Nat.lt_of_lt_of_le h.lt hb.size, fun i hi => (hb.cell (p := ⟨g, i, none⟩) hB).trans (h.at_ i hi)⟩
theorem Cells.of_own {w : World} {base g cap : Nat} {e : TypeId} {k : IntKind} {xs : List Nat} (h : w.ownsRow base e 1 (.slice (some ⟨g, 0, none⟩) xs.length cap) xs.length (vals k xs)) : Cells w g k xs := by
  refine ⟨(h.lt g rfl).2, fun i hi => ?_⟩
  rw [h.cellAt i (by omega)]
  simp [vals, List.getElem?_eq_getElem hi]
theorem vals_set (k : IntKind) (xs : List Nat) (i x : Nat) : vals k (xs.set i x) = (vals k xs).set i (.int k (x : Int)) := by simp [vals, List.map_set]
theorem vals_one (k : IntKind) (xs : List Nat) : ∀ u ∈ vals k xs, u.oneCell' = true := by
  intro u hu
  obtain ⟨n, _, rfl⟩ := List.mem_map.1 hu
  rfl
theorem Cells.grown {w w' : World} {g : Nat} {k : IntKind} {xs : List Nat} {v : Value} (h : Cells w g k xs) (hg : w.grownBy w' v.ownBlock) (hv : v.ownBlock ≠ some g := by simp [Value.ownBlock]) : Cells w' g k xs :=
  ⟨Nat.lt_of_lt_of_le h.lt hg.size, fun i hi => (hg.cell_far ⟨g, i, none⟩ h.lt (fun e => hv e.symm)).trans (h.at_ i hi)⟩
def bvals (l : List UInt8) : List Value := l.map fun b => .int .u8 (b.toNat : Int)
def nats (l : List UInt8) : List Nat := l.map UInt8.toNat
theorem nats_len (l : List UInt8) : (nats l).length = l.length := by simp [nats]
theorem nats_lt (l : List UInt8) (i : Nat) : (nats l).getD i 0 < 256 := by
  by_cases h : i < l.length
  · simp [nats, List.getElem?_eq_getElem h]; exact (l[i]).toNat_lt
  · simp [nats, List.getElem?_eq_none (by omega : l.length ≤ i)]
theorem vals_nats (l : List UInt8) : vals .u8 (nats l) = bvals l := by simp [vals, nats, bvals, Function.comp_def]
theorem Cells.of_block {w : World} {g : Nat} {t : TypeId} {fr : Nat × Nat} {k : IntKind} {xs : List Nat} (h : w.heap[g]? = some (.cells (vals k xs).toArray t fr)) : Cells w g k xs := by
  refine ⟨lt_of_block h, fun i hi => ?_⟩
  rw [cell_of_row _ _ _ _ _ _ h]
  simp [vals, List.getElem?_eq_getElem hi]
theorem Cells.alloc {w : World} {g : Nat} {k : IntKind} {xs : List Nat} (h : Cells w g k xs) (o : Obj) : Cells (w.alloc o) g k xs := h.below ((Below.refl _ _).alloc (Nat.le_refl _) o) h.lt
theorem there_new (w : World) (c : Array Value) (t : TypeId) : (w.alloc (.cells c t)).there w.heap.size 0 c.size := by
  intro j hj
  rw [Nat.zero_add]
  refine ⟨?_, ?_⟩
  · rw [World.cell?_alloc_at _ _ _ _ rfl]; simp [hj]
  · exact World.frozen?_alloc_at _ _ _ _ rfl
theorem there_below {w w' : World} {b o n B : Nat} (h : w.there b o n) (hb : Below B w w') (hB : b < B) : w'.there b o n := by
  intro j hj
  rw [hb.cell (p := ⟨b, o + j, none⟩) hB, hb.frozen (p := ⟨b, o + j, none⟩) hB]
  exact h j hj
theorem vals_get (k : IntKind) (xs : List Nat) (i : Nat) (hi : i < xs.length) : (vals k xs).toArray[i]? = some (.int k ((xs.getD i 0 : Nat) : Int)) := by
  simp [vals, List.getElem?_eq_getElem hi]
theorem cell_set_far (w : World) (a p : Addr) (v : Value) (h : p.block ≠ a.block) : (w.setCell a v).drew.cell? p = w.cell? p :=
  World.cell?_of_block (w := w) (Below.heap_setCell w a v p.block h)
theorem or_join (a b i : Nat) (ha : a % 2 ^ i = 0) (hb : b < 2 ^ i) : a ||| b = a + b := nat_join i a b ha hb
theorem row_range {w : World} {b : Nat} {t : TypeId} {k : IntKind} {xs : List Nat} (h : Row w b t k xs) : w.rangeAt b 0 (vals k xs) := by
  intro j v hv
  obtain ⟨hj, he⟩ := List.getElem?_eq_some_iff.1 hv
  have hj2 : j < xs.length := by simpa [vals] using hj
  rw [Nat.zero_add, h.cell hj2, ← he]
  simp [vals, List.getElem?_eq_getElem hj2]
theorem setCells_block (b : Nat) : ∀ (vs : List Value) (o : Nat) (w : World), (w.setCells b o vs).heap.size = w.heap.size ∧ (w.setCells b o vs).os = w.os ∧ (w.setCells b o vs).tape = w.tape ∧ (w.setCells b o vs).output = w.output ∧ ∀ k, k ≠ b → (w.setCells b o vs).heap[k]? = w.heap[k]?
  | [], o, w => ⟨rfl, rfl, rfl, rfl, fun _ _ => rfl⟩
  | v :: vs, o, w => by
    obtain ⟨h1, h2, h3, h4, h5⟩ := setCells_block b vs (o + 1) (w.setCell ⟨b, o, none⟩ v)
    refine ⟨h1.trans (by simp [World.setCell]), h2, h3, h4, fun k hk => (h5 k hk).trans (Below.heap_setCell w ⟨b, o, none⟩ v k hk)⟩
theorem below_setCells (w : World) (B b o : Nat) (vs : List Value) (hb : B ≤ b) : Below B w (w.setCells b o vs) := by
  obtain ⟨h1, h2, h3, h4, h5⟩ := setCells_block b vs o w
  exact ⟨h2, h3, h4, by omega, fun k hk => h5 k (by omega)⟩
theorem results_cell_mid {P : Program} {fn : Func} {p : Tmp} {ty : TypeId} (h : fn.results = #[.cell p ty]) (tmps : Array Value) (w : World) (b o : Nat) (cs : List Value) (d : TypeDesc)
    (hp : tmps.getD p undef = .pointer (some ⟨b, o, none⟩)) (hc : w.rangeAt b o cs)
    (hu : P.underlying ty = some d) (hd : d.isRow = true) (hi : (P.info? ty).map (·.size) = some cs.length) :
    (results fn tmps).run P w = .ok (.agg cs.toArray) w := by
  have hp' : tmps[p]?.getD undef = .pointer (some ⟨b, o, none⟩) := by simpa using hp
  simp [results, h, hp', asAddr, run_loadVar_mid w b o ty cs d hc hu hd hi]
theorem info_u8 : (Tryz.prog.info? 5).map (fun i => (i.zero, i.size, i.bytes)) = some (some (.int .u8 0), 1, 1) := by kernel_rfl
theorem strCells_eq (l : List UInt8) : Lib.strCells ⟨l.toArray⟩ = bvals l := by simp [Lib.strCells, bvals]
theorem bvals_append (a b : List UInt8) : bvals (a ++ b) = bvals a ++ bvals b := by simp [bvals]
theorem bvals_len (a : List UInt8) : (bvals a).length = a.length := by simp [bvals]
/-- 'string(b)' of a slice of the call's own. -/
theorem conv_own {w : World} {base g cap n : Nat} {e : TypeId} {l : List UInt8} (h : w.ownsRow base e 1 (.slice (some ⟨g, 0, none⟩) n cap) n (bvals l)) (hn : l.length = n) :
    (convert 52 9 (.slice (some ⟨g, 0, none⟩) n cap)).run Tryz.prog w = .ok (.string ⟨l.toArray⟩) w := by
  subst hn
  refine run_convert_bytes_back (P := Tryz.prog) w 52 9 5 ⟨g, 0, none⟩ cap l Tryz.underlying52 Tryz.underlying5 Tryz.underlying9 (fun j hj => ?_)
  rw [Addr.add_mid, Nat.zero_add, h.cellAt j (by omega)]
  simp [bvals, List.getElem?_eq_getElem hj]
theorem own_form {w : World} {base : Nat} {e : TypeId} {v : Value} {n : Nat} {xs : List Value} (h : w.ownsRow base e 1 v n xs) (hn : 0 < n) : ∃ g cap, v = .slice (some ⟨g, 0, none⟩) n cap := by
  rcases h.2 with ⟨_, h0⟩ | ⟨g, cap, cur, hv, _⟩
  · omega
  · exact ⟨g, cap, hv⟩
theorem setCells_same (b : Nat) (t : TypeId) : ∀ (vs : List Value) (o : Nat) (w : World) (c : Array Value), w.heap[b]? = some (.cells c t (0, 0)) → ∃ c', (w.setCells b o vs).heap[b]? = some (.cells c' t (0, 0)) ∧ c'.size = c.size
  | [], o, w, c, h => ⟨c, h, rfl⟩
  | v :: vs, o, w, c, h => by
    obtain ⟨c', h1, h2⟩ := setCells_same b t vs (o + 1) (w.setCell ⟨b, o, none⟩ v) _ (set_prim h o v)
    exact ⟨c', h1, by simpa using h2⟩
theorem setCells_all (w : World) (t : TypeId) (c : Array Value) (vs : List Value) (h : c.size = vs.length) : ((w.alloc (.cells c t)).setCells w.heap.size 0 vs).heap[w.heap.size]? = some (.cells vs.toArray t (0, 0)) := by
  obtain ⟨c', h1, h2⟩ := setCells_same w.heap.size t vs 0 (w.alloc (.cells c t)) c (heap_alloc_new w _)
  have e : c' = vs.toArray := by
    apply Array.ext'
    apply List.ext_getElem?
    intro i
    have hcell : ((w.alloc (.cells c t)).setCells w.heap.size 0 vs).cell? ⟨w.heap.size, i, none⟩ = c'[i]? := cell_of_row _ _ _ _ _ _ h1
    by_cases hi : i < vs.length
    · have hin := World.cell?_setCells_in w.heap.size vs 0 (w.alloc (.cells c t)) (fun k hk => (there_new w c t k (by omega)).1) i hi
      rw [Nat.zero_add, hcell] at hin
      simp [hin, List.getElem?_eq_getElem hi]
    · simp [Array.getElem?_eq_none (by omega : c'.size ≤ i), List.getElem?_eq_none (by omega : vs.length ≤ i)]
  rw [h1, e]
theorem str_eta (s : ByteArray) : (⟨s.data.toList.toArray⟩ : ByteArray) = s := by cases s; simp
theorem map_toNat_ofNat (l : List UInt8) : (l.map UInt8.toNat).map UInt8.ofNat = l := by simp [Function.comp_def]
theorem make_u8 (n : Nat) (hn : n ≤ 1000) (w : World) : (Instr.makeSlice 52 (.int .i64 (n : Int)) (.int .i64 (n : Int))).run Tryz.prog w = .ok (.slice (some ⟨w.heap.size, 0, none⟩) n n) (w.alloc (.cells (madeCells #[.int .u8 0] n) 5)) :=
  run_make_row' (P := Tryz.prog) 52 5 (.int .u8 0) 1 Tryz.underlying52 info_u8 rfl .i64 .i64 n (by omega) (by omega) w
theorem xorL_take (a b : List UInt8) (n : Nat) (h : a.length ≤ n) : xorL a (b.take n) = xorL a b := by
  unfold xorL
  apply List.ext_getElem?
  intro i
  rw [List.getElem?_zipWith, List.getElem?_zipWith]
  by_cases hi : i < n
  · rw [List.getElem?_take_of_lt hi]
  · rw [List.getElem?_eq_none (by omega : a.length ≤ i)]
theorem xor_set_le (a b : List UInt8) (k n : Nat) (hn : a.length = n) (hab : n ≤ b.length) (hk : k < n) :
    ((xorL (a.take k) (b.take k)).map UInt8.toNat ++ List.replicate (n - k) 0).set k (a[k].toNat ^^^ b[k].toNat) = (xorL (a.take (k + 1)) (b.take (k + 1))).map UInt8.toNat ++ List.replicate (n - (k + 1)) 0 := by
  have h := xor_set a (b.take n) k n hn (by simp; omega) hk
  have e1 : (b.take n).take k = b.take k := by rw [List.take_take, Nat.min_eq_left (by omega)]
  have e2 : (b.take n).take (k + 1) = b.take (k + 1) := by rw [List.take_take, Nat.min_eq_left (by omega)]
  rw [e1, e2] at h
  simpa using h
end Go.Proofs.YtjnhlkaafnaooabGreatDoor

namespace Go.Proofs.YtjnhlkaafnaooabGreatDoor
open Go.RowKit
theorem xor3_int (a b c : Nat) (ha : a < 4294967296) (hb : b < 4294967296) (hc : c < 4294967296) : bits .xor .i64 (bits .xor .i64 (a : Int) (b : Int)) (c : Int) = ((a ^^^ b ^^^ c : Nat) : Int) := by
  have h1 : a ^^^ b < 4294967296 := Nat.xor_lt_two_pow (n := 32) ha hb
  rw [i64_xor_nat a b (by omega) (by omega), i64_xor_nat _ c (by omega) (by omega)]

end Go.Proofs.YtjnhlkaafnaooabGreatDoor
