import Derived.Test.YtjnhlkaafnaooaaGf2
namespace Go.Proofs.Ytjnhlkaafnaooaa
/-- The hash of the tags, over blocks as numbers. -/
def ghN (h z : Nat) : List Nat → Nat
  | [] => z
  | b :: bs => ghN h (dotN (z ^^^ b) h) bs
theorem ghN_append (h z : Nat) (az bs : List Nat) : ghN h z (az ++ bs) = ghN h (ghN h z az) bs := by
  induction az generalizing z with
  | nil => rfl
  | cons a az ih => exact ih _
theorem ghN_lt (h z : Nat) (bs : List Nat) (hh : h < 2 ^ 128) (hz : z < 2 ^ 128) : ghN h z bs < 2 ^ 128 := by
  induction bs generalizing z with
  | nil => exact hz
  | cons b bs ih => exact ih _ (dot_lt _ _ hh)
theorem ghN_xor (h : Nat) (hh : h < 2 ^ 128) (bs : List Nat) : ∀ (z d : Nat), d < 2 ^ 128 → ghN h (z ^^^ d) bs = ghN h z bs ^^^ dotN d (gPow h bs.length) := by
  induction bs with
  | nil => intro z d hd; show z ^^^ d = z ^^^ dotN d gOne; rw [dot_one d hd]
  | cons b bs ih =>
    intro z d hd
    have e : (z ^^^ d) ^^^ b = (z ^^^ b) ^^^ d := by rw [Nat.xor_assoc, Nat.xor_comm d b, Nat.xor_assoc]
    show ghN h (dotN ((z ^^^ d) ^^^ b) h) bs = ghN h (dotN (z ^^^ b) h) bs ^^^ dotN d (dotN (gPow h bs.length) h)
    rw [e, dot_xor_left, ih _ _ (dot_lt _ _ hh), dot_assoc d h _ hh (gPow_lt h _ hh), dot_comm h (gPow h bs.length) hh (gPow_lt h _ hh)]
/-- A turned bit of one block turns the hash, unless the key's own block is 0. -/
theorem ghN_bent (h z b i : Nat) (az bs : List Nat) (hh : h < 2 ^ 128) (heq : ghN h z (az ++ (b ^^^ shN gOne i) :: bs) = ghN h z (az ++ b :: bs)) : h = 0 := by
  rw [ghN_append, ghN_append] at heq
  have hd : shN gOne i < 2 ^ 128 := shN_lt _ _ (by decide)
  have e : ghN h (ghN h z az) ((b ^^^ shN gOne i) :: bs) = ghN h (ghN h z az) (b :: bs) ^^^ dotN (shN gOne i) (gPow h (bs.length + 1)) := by
    show ghN h (dotN (ghN h z az ^^^ (b ^^^ shN gOne i)) h) bs = ghN h (dotN (ghN h z az ^^^ b) h) bs ^^^ dotN (shN gOne i) (dotN (gPow h bs.length) h)
    rw [← Nat.xor_assoc, dot_xor_left, ghN_xor h hh bs _ _ (dot_lt _ _ hh), dot_assoc _ h _ hh (gPow_lt h _ hh), dot_comm h (gPow h bs.length) hh (gPow_lt h _ hh)]
  rw [e] at heq
  have h0 : dotN (shN gOne i) (gPow h (bs.length + 1)) = 0 := by
    have := congrArg (ghN h (ghN h z az) (b :: bs) ^^^ ·) heq
    simpa [← Nat.xor_assoc] using this
  exact bit_pow_ne h _ i hh h0
end Go.Proofs.Ytjnhlkaafnaooaa
