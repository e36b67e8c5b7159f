import Derived.Test.YtjnhlkaafnaooaaMaskW
import Derived.Laws.Tables
namespace Go.Proofs.Ytjnhlkaafnaooaa
open Go.RowKit
def mcells (ist : St) (ibuf : List UInt8) (ost : St) (obuf : List UInt8) : List Value := hcells ist ibuf 64 ++ hcells ost obuf 64
theorem foldl_set : ∀ (l : List Value) (cells : Array Value) (off k : Nat), off + k + l.length ≤ cells.size →
    ((l.zipIdx k).foldl (fun cs (p : Value × Nat) => cs.setIfInBounds (off + p.2) p.1) cells).toList = cells.toList.take (off + k) ++ l ++ cells.toList.drop (off + k + l.length)
  | [], cells, off, k, _ => by simp
  | x :: l, cells, off, k, h => by
    have hs : off + k < cells.toList.length := by simp at h ⊢; omega
    rw [List.zipIdx_cons, List.foldl_cons, foldl_set l _ off (k + 1) (by simp at h ⊢; omega)]
    simp only [Array.toList_setIfInBounds]
    have e1 : (cells.toList.set (off + k) x).take (off + (k + 1)) = cells.toList.take (off + k) ++ [x] := by
      rw [← Nat.add_assoc, List.take_succ_eq_append_getElem (by simpa using hs), List.getElem_set_self, List.take_set_of_le (Nat.le_refl _)]
    rw [e1, List.drop_set_of_lt (by omega)]
    have e2 : off + (k + 1) + l.length = off + k + (x :: l).length := by simp; omega
    rw [e2]
    simp
theorem fill_part (f : Nat → Option (Nat × Nat)) (cells : Array Value) (i off : Nat) (A : List Value) (rest : List (Nat × Value)) (hf : f i = some (off, A.length)) (hc : off + A.length ≤ cells.size) :
    Instr.fill f cells ((i, .agg A.toArray) :: rest) = Instr.fill f (cells.toList.take off ++ A ++ cells.toList.drop (off + A.length)).toArray rest := by
  have hcs : (Value.agg A.toArray).cells = A.toArray := rfl
  have hfold : (A.toArray.zipIdx.foldl (fun cs (p : Value × Nat) => cs.setIfInBounds (off + p.2) p.1) cells) = (cells.toList.take off ++ A ++ cells.toList.drop (off + A.length)).toArray := by
    apply Array.toList_inj.1
    have := foldl_set A cells off 0 (by omega)
    simp only [Nat.add_zero] at this
    rw [← Array.foldl_toList]
    simpa using this
  rw [Instr.fill, hf]
  simp only [hcs]
  rw [if_neg (by simp; omega)]
  exact congrArg (fun c => Instr.fill f c rest) hfold
section
variable {P : Program} {ops : Array Oper} {Q : Exit → Act → World → Prop} {md : Region.Mode} {fuel : Nat} {listed : Array Bool} {a : Act} {w w' : World} {i : Nat} {op : Oper} {rs : List Nat}
theorem allReady_run (hi' : ops[i]? = some op) (hw : Region.wanted op (yielded ops a.tmps) = true) (v : Value) (hr : (execOp a.eval op).run P w = .ok (.value v) w')
    (h : wpAny P md ops Q fuel (listed.setIfInBounds i true) (a.put op.dst v) w') (hs : AllReady P md ops Q fuel listed a w rs) : AllReady P md ops Q fuel listed a w (i :: rs) :=
  AllReady.cons hi' (fun K' hK => by
    rw [if_pos hw]
    unfold Oper.wp
    rw [hr, Oper.upon_value]
    exact hK _ _ h) hs
theorem allReady_build (hi' : ops[i]? = some op) (hw : Region.wanted op (yielded ops a.tmps) = true) (t : TypeId) (parts : Array (Nat × Operand)) (ho : op.op = .build t parts) (v : Value) (ps : Array (Nat × Value)) (hp : (parts.map fun (i, x) => (i, a.eval x)) = ps)
    (hr : (Instr.build t ps).run P w = .ok v w)
    (h : wpAny P md ops Q fuel (listed.setIfInBounds i true) (a.put op.dst v) w) (hs : AllReady P md ops Q fuel listed a w rs) : AllReady P md ops Q fuel listed a w (i :: rs) :=
  AllReady.cons hi' (fun K' hK => by
    rw [if_pos hw]
    unfold Oper.wp execOp
    simp only [ho, hp, Sem.run_bind, hr, Result.andThen_ok, Sem.run_pure]
    exact hK _ _ h) hs
end
end Go.Proofs.Ytjnhlkaafnaooaa
