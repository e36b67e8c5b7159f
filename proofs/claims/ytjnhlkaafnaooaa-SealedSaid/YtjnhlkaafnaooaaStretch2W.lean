import Derived.Test.YtjnhlkaafnaooaaStretchW
namespace Go.Proofs.Ytjnhlkaafnaooaa
open Go.RowKit
/-- 'string(t[:k])' of a slice of the call's own. -/
theorem conv_own_part {w : World} {base g cap n k : Nat} {e : TypeId} {l : List UInt8} (h : w.ownsRow base e 1 (.slice (some ⟨g, 0, none⟩) n cap) n (bvals l)) (hn : l.length = n) (hk : k ≤ n) :
    (convert 34 9 (.slice (some ⟨g, 0, none⟩) k cap)).run Try.prog w = .ok (.string ⟨(l.take k).toArray⟩) w := by
  subst hn
  have hl : (l.take k).length = k := by simp; omega
  have := run_convert_bytes_back (P := Try.prog) w 34 9 5 ⟨g, 0, none⟩ cap (l.take k) Try.underlying34 Try.underlying5 Try.underlying9 (fun j hj => by
    rw [hl] at hj
    rw [Addr.add_mid, Nat.zero_add, h.cellAt j (by omega)]
    simp [bvals, List.getElem?_eq_getElem (by omega : j < l.length)])
  rw [hl] at this
  exact this

end Go.Proofs.Ytjnhlkaafnaooaa
