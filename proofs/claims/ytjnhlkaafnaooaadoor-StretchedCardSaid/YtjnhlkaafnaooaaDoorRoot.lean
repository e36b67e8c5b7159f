import Derived.Test.YtjnhlkaafnaooaaDoorBig
namespace Go.Proofs.YtjnhlkaafnaooaaDoor
/-- One bit more of the root of p, if there is room for it. -/
def rootStep (p deg v b : Nat) : Nat := if (v + b) ^ deg ≤ p * B (2 * deg) then v + b else v
def rootGo (p deg : Nat) : Nat → Nat → Nat
  | 0, v => v
  | n + 1, v => rootGo p deg n (rootStep p deg v (2 ^ n))
def rootN (p deg : Nat) : Nat := rootGo p deg 41 0 % 4294967296
def digs (v : Nat) : List Nat := [v % 65536, v / 65536 % 65536, v / 4294967296 % 65536]
theorem digs_lt (v : Nat) : ∀ d ∈ digs v, d < 65536 := by
  intro d hd
  simp [digs] at hd
  omega
theorem digs_val (v : Nat) (h : v < 281474976710656) : bval (digs v) = v := by
  simp only [digs, bval]
  omega
theorem bval_most (n p : Nat) : bval ((List.replicate (n + 1) 0).set n p) = p * B n := by
  have h := bval_set (List.replicate (n + 1) 0) n p (by simp)
  rw [bval_replicate] at h
  simp at h
  exact h
theorem half_two (n : Nat) : 2 ^ (n + 1) / 2 = 2 ^ n := by rw [Nat.pow_succ, Nat.mul_div_cancel _ (by decide)]
end Go.Proofs.YtjnhlkaafnaooaaDoor
