import Derived.Test.YtjnhlkaafnaooaaSysW
namespace Go.Proofs.Ytjnhlkaafnaooaa
open Go.RowKit
def DM.settle (m : DM) : DM := { m.flush with count := m.count + 1 }
theorem run_load_row (oi : Oper) (a : Act) (T : TypeId) (x : Operand) (b o : Nat) (cs : List Value) (ho : oi.op = .load T x) (hx : a.eval x = .pointer (some ⟨b, o, none⟩)) (d : TypeDesc) (hu : Try.prog.underlying T = some d) (hd : d.isRow = true) (hi : (Try.prog.info? T).map (·.size) = some cs.length) (w : World) (hc : w.rangeAt b o cs) :
    (execOp a.eval oi).run Try.prog w = .ok (.value (.agg cs.toArray)) w := by
  unfold execOp
  simp only [ho, hx]
  simp only [Instr.loadAt, Instr.sureAddr, Sem.run_bind, Sem.run_pure, Result.andThen_ok, run_loadVar_mid w b o T cs d hc hu hd hi]
theorem range2 {w : World} {b o : Nat} {u v : Value} (h1 : w.cell? ⟨b, o, none⟩ = some u) (h2 : w.cell? ⟨b, o + 1, none⟩ = some v) : w.rangeAt b o [u, v] := by
  intro j y hj
  match j, hj with
  | 0, hj => simpa using h1.trans (by simpa using hj)
  | 1, hj => simpa using h2.trans (by simpa using hj)
def DM.advance (m : DM) (n : Nat) (t : List UInt8) : DM := (m.write (n % 2) t).settle
theorem DM.settle_count (m : DM) : m.settle.count = m.count + 1 := rfl
theorem DM.advance_count (m : DM) (n : Nat) (t : List UInt8) : (m.advance n t).count = m.count + 1 := rfl
theorem DM.advance_ceiling (m : DM) (n : Nat) (t : List UInt8) : (m.advance n t).ceiling = m.ceiling := rfl
theorem DM.advance_wrote (m : DM) (n : Nat) (t : List UInt8) : (m.advance n t).wrote = m.wrote ++ [(n % 2, t)] := rfl
/-- BEGINNING, a slot of the counter's own version being there. -/
def DM.begin (m : DM) (tk salt : List UInt8) (place : Nat) (digest : List UInt8) : DM :=
  (m.advance (m.count + 1) (slotL tk salt (m.count + 1) place digest)).advance (m.count + 2) (slotL tk salt (m.count + 2) place digest)
end Go.Proofs.Ytjnhlkaafnaooaa
