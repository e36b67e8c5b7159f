import Derived.Test.YtjnhlkaafnaooaaHashW
namespace Go.Proofs.Ytjnhlkaafnaooaa
open Go.RowKit
def zeroSt : St := ⟨0, 0, 0, 0, 0, 0, 0, 0⟩
theorem hcells_one (st : St) (buf : List UInt8) (n : Nat) : ∀ v ∈ hcells st buf n, v.oneCell' = true := by
  intro v hv
  simp only [hcells, List.mem_append, List.mem_singleton] at hv
  rcases hv with (hv | hv) | hv
  · exact vals_one _ _ v hv
  · rw [← vals_nats] at hv; exact vals_one _ _ v hv
  · subst hv; rfl
end Go.Proofs.Ytjnhlkaafnaooaa
