import Derived.Test.YtjnhlkaafnaooaaPutW
namespace Go.Proofs.Ytjnhlkaafnaooaa
open Go.RowKit
/-- The next byte. -/
theorem one_take_drop (t : List UInt8) (p : Nat) (h : p < t.length) : (t.drop p).take 1 = [t.getD p 0] := by
  have e : t.getD p 0 = t[p] := by simp [h]
  rw [e, List.drop_eq_getElem_cons h]
  rfl
end Go.Proofs.Ytjnhlkaafnaooaa
