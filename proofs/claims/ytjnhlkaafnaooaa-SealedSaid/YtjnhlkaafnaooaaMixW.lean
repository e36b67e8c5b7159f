import Derived.Test.YtjnhlkaafnaooaaProgW
import Derived.Deep.Cut
namespace Go.Proofs.Ytjnhlkaafnaooaa
open Go.RowKit
def stv (s : St) : Array Value := #[.int .u32 (s.a : Int), .int .u32 (s.b : Int), .int .u32 (s.c : Int), .int .u32 (s.d : Int), .int .u32 (s.e : Int), .int .u32 (s.f : Int), .int .u32 (s.g : Int), .int .u32 (s.h : Int)]

theorem three_blocks (w : World) (o1 o2 o3 : Obj) : (((w.alloc o1).alloc o2).alloc o3).heap[w.heap.size]? = some o1 ∧ (((w.alloc o1).alloc o2).alloc o3).heap[w.heap.size + 1 + 1]? = some o3 := by
  refine ⟨?_, ?_⟩
  · rw [Below.heap_alloc _ _ _ (by simp; omega), Below.heap_alloc _ _ _ (by simp)]; exact heap_alloc_new w o1
  · have := heap_alloc_new ((w.alloc o1).alloc o2) o3
    simpa using this
theorem ch_u32 (e f g : Nat) (he : e < 4294967296) (hf : f < 4294967296) (hg : g < 4294967296) : bits .xor .u32 (bits .and .u32 (e : Int) (f : Int)) (bits .and .u32 ((4294967295 - e : Nat) : Int) (g : Int)) = ((chN e f g : Nat) : Int) := by
  have h1 : e &&& f < 4294967296 := and32 he
  have h2 : (4294967295 - e) &&& g < 4294967296 := and32 (by omega)
  rw [u32_and_nat _ _ he hf, u32_and_nat _ _ (by omega) hg, u32_xor_nat _ _ h1 h2]
  congr 1
  unfold chN
  apply Nat.eq_of_testBit_eq
  intro i
  have hn : (4294967295 - e).testBit i = (decide (i < 32) && !e.testBit i) := by
    have := Nat.testBit_two_pow_sub_succ (n := 32) (x := e) he i
    rw [show 2 ^ 32 - (e + 1) = 4294967295 - e from by omega] at this
    exact this
  simp only [Nat.testBit_xor, Nat.testBit_or, Nat.testBit_and, hn]
  cases e.testBit i <;> cases f.testBit i <;> cases g.testBit i <;> cases decide (i < 32) <;> rfl
theorem not_bits (e : Nat) (he : e < 4294967296) (i : Nat) : (4294967295 - e).testBit i = (decide (i < 32) && !e.testBit i) := by
  have := Nat.testBit_two_pow_sub_succ (n := 32) (x := e) he i
  rw [show 2 ^ 32 - (e + 1) = 4294967295 - e from by omega] at this
  exact this
theorem not_u32 (e : Nat) (he : e < 4294967296) : Op.unary .xor (.int .u32 (e : Int)) = pure (.int .u32 ((4294967295 - e : Nat) : Int)) := by
  show Op.intBits .xor .u32 ((4294967295 : Nat) : Int) (e : Int) = _
  rw [intBits_xor, u32_xor_nat 4294967295 e (by decide) he]
  have hx : 4294967295 ^^^ e = 4294967295 - e := by
    apply Nat.eq_of_testBit_eq
    intro i
    have h1 : (4294967295 : Nat).testBit i = decide (i < 32) := by
      have := Nat.testBit_two_pow_sub_one 32 i
      exact this
    rw [Nat.testBit_xor, h1, not_bits e he]
    by_cases hi : i < 32
    · simp [hi]
    · have : e.testBit i = false := Nat.testBit_lt_two_pow (Nat.lt_of_lt_of_le he (by exact Nat.pow_le_pow_right (n := 2) (by decide) (show 32 ≤ i by omega)))
      simp [hi, this]
  rw [hx]
theorem maj_u32 (a b c : Nat) (ha : a < 4294967296) (hb : b < 4294967296) (hc : c < 4294967296) : bits .xor .u32 (bits .xor .u32 (bits .and .u32 (a : Int) (b : Int)) (bits .and .u32 (a : Int) (c : Int))) (bits .and .u32 (b : Int) (c : Int)) = ((majN a b c : Nat) : Int) := by
  have h1 : a &&& b < 4294967296 := and32 ha
  have h2 : a &&& c < 4294967296 := and32 ha
  have h3 : b &&& c < 4294967296 := and32 hb
  rw [u32_and_nat _ _ ha hb, u32_and_nat _ _ ha hc, u32_and_nat _ _ hb hc, u32_xor_nat _ _ h1 h2, u32_xor_nat _ _ (xor32 h1 h2) h3]
  congr 1
  unfold majN
  apply Nat.eq_of_testBit_eq
  intro i
  simp only [Nat.testBit_xor, Nat.testBit_or, Nat.testBit_and]
  cases a.testBit i <;> cases b.testBit i <;> cases c.testBit i <;> rfl
theorem bigE_u32 (x : Nat) (hx : x < 4294967296) : bits .xor .u32 (bits .xor .u32 ((rotr x 6 : Nat) : Int) ((rotr x 11 : Nat) : Int)) ((rotr x 25 : Nat) : Int) = ((bigE x : Nat) : Int) := by
  rw [xor3_u32 _ _ _ (rotr_lt x 6 hx (by decide) (by decide)) (rotr_lt x 11 hx (by decide) (by decide)) (rotr_lt x 25 hx (by decide) (by decide))]; rfl
theorem bigA_u32 (x : Nat) (hx : x < 4294967296) : bits .xor .u32 (bits .xor .u32 ((rotr x 2 : Nat) : Int) ((rotr x 13 : Nat) : Int)) ((rotr x 22 : Nat) : Int) = ((bigA x : Nat) : Int) := by
  rw [xor3_u32 _ _ _ (rotr_lt x 2 hx (by decide) (by decide)) (rotr_lt x 13 hx (by decide) (by decide)) (rotr_lt x 22 hx (by decide) (by decide))]; rfl
end Go.Proofs.Ytjnhlkaafnaooaa
