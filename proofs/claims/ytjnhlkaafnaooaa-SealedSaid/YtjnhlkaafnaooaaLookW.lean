import Derived.Test.YtjnhlkaafnaooaaNodeOfW
namespace Go.Proofs.Ytjnhlkaafnaooaa
open Go.RowKit
theorem run_neq_same (oi : Oper) (a : Act) (x y : Operand) (U : TypeId) (X : List UInt8) (ho : oi.op = .binOp .neq 9 x y U) (hx : a.eval x = .string ⟨X.toArray⟩) (hy : a.eval y = .string ⟨X.toArray⟩) (w : World) :
    (execOp a.eval oi).run Try.prog w = .ok (.value (.bool false)) w := by
  unfold execOp
  simp only [ho, hx, hy]
  clear hx hy ho
  go_simp
end Go.Proofs.Ytjnhlkaafnaooaa
