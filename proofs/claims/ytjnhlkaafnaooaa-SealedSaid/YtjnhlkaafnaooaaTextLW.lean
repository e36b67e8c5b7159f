import Derived.Test.YtjnhlkaafnaooaaSaveW
namespace Go.Proofs.Ytjnhlkaafnaooaa
open Go.RowKit
theorem leafOne_text (k s : List UInt8) : fillL (onesL 1 1 ++ onesL 1 1 ++ (onesL k.length 1 ++ k) ++ (onesL s.length 1 ++ s)) 228 = leafOne k s := by
  unfold leafOne nodeT
  simp [entT, List.append_assoc]
end Go.Proofs.Ytjnhlkaafnaooaa
