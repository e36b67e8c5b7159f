import Derived.Test.YtjnhlkaafnaooaaMixW
import Derived.Test.YtjnhlkaafnaooaaWriteW
import Derived.Test.YtjnhlkaafnaooaaHashP
namespace Go.Proofs.Ytjnhlkaafnaooaa
open Go.RowKit
def hcells (st : St) (buf : List UInt8) (n : Nat) : List Value := vals .u32 st.list ++ bvals buf ++ [.int .u64 (n : Int)]
theorem wpList_build {P : Program} {ops : Array Oper} {rest : List Oper} {o : Oper} {a : Act} {w : World} {Q : Exit → Act → World → Prop} (hgd : o.guard = none) (t : TypeId) (parts : Array (Nat × Operand)) (ho : o.op = .build t parts) (v : Value) (ps : Array (Nat × Value)) (hp : (parts.map fun (i, x) => (i, a.eval x)) = ps)
    (hr : (Instr.build t ps).run P w = .ok v w) (h : wpList P ops Q rest (a.put o.dst v) w) : wpList P ops Q (o :: rest) a w := by
  refine wpList_plain hgd fun K hK => ?_
  unfold Oper.wp execOp
  simp only [ho, hp, Sem.run_bind, hr, Result.andThen_ok, Sem.run_pure]
  exact hK _ _ h
theorem hcells_len (st : St) (buf : List UInt8) (n : Nat) (h : buf.length = 64) : (hcells st buf n).length = 73 := by simp [hcells, vals, bvals, St.list, h]
end Go.Proofs.Ytjnhlkaafnaooaa
