import Derived.Test.YtjnhlkaafnaooaaApplyW
namespace Go.Proofs.Ytjnhlkaafnaooaa
open Go.RowKit
/-- The free places below q. -/
def freeTo (used : List Bool) (q : Nat) : List Nat := (List.range q).filter (fun p => decide (2 ≤ p) && !used.getD p false)
theorem freeTo_succ (used : List Bool) (q : Nat) : freeTo used (q + 1) = freeTo used q ++ (if (decide (2 ≤ q) && !used.getD q false) = true then [q] else []) := by
  unfold freeTo
  rw [List.range_succ, List.filter_append]
  congr 1
  by_cases h : (decide (2 ≤ q) && !used.getD q false) = true
  · rw [if_pos h]; simp only [List.filter_cons, h, if_true, List.filter_nil]
  · rw [if_neg h]; simp only [List.filter_cons, h, List.filter_nil]; rfl
theorem freeTo_two (used : List Bool) : freeTo used 2 = [] := rfl
theorem freeTo_len (used : List Bool) (q : Nat) : (freeTo used q).length ≤ q := by
  have := List.length_filter_le (fun p => decide (2 ≤ p) && !used.getD p false) (List.range q)
  simpa [freeTo] using this
end Go.Proofs.Ytjnhlkaafnaooaa
