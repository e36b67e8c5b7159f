import Derived.Test.YtjnhlkaafnaooaaFrameW
namespace Go.Proofs.Ytjnhlkaafnaooaa
open Go.RowKit
/-- Where a disk lies. -/
structure DX where
  d : Nat
  bb : Nat
  cb : Nat
  bc : Nat
  cc : Nat
/-- A disk all of whose operations work, and for which no salt was laid. -/
structure DM where
  blocks : List (List UInt8)
  cache : List (List UInt8)
  count : Nat
  ceiling : Nat
  wrote : List (Nat × List UInt8)
def wcells (l : List (Nat × List UInt8)) : List Value := l.flatMap fun p => [.int .i64 (p.1 : Int), strV p.2]
theorem wcells_len (l : List (Nat × List UInt8)) : (wcells l).length = l.length * 2 := by
  induction l with
  | nil => rfl
  | cons a l ih => simp only [wcells, List.flatMap_cons, List.length_append, List.length_cons, List.length_nil] at ih ⊢; omega
theorem wcells_snoc (l : List (Nat × List UInt8)) (k : Nat) (t : List UInt8) : wcells (l ++ [(k, t)]) = wcells l ++ [.int .i64 (k : Int), strV t] := by simp [wcells]
def DM.look (m : DM) (k : Nat) : List UInt8 := if m.cache.getD k [] = [] then m.blocks.getD k [] else m.cache.getD k []
/-- The blocks that a disk has. -/
def DX.set (x : DX) (wv : Value) : List Nat := [x.d, x.bb, x.bc] ++ wv.ownBlock.toList
section
variable {w : World} {x : DX} {m : DM} {wv : Value}
end
def DM.write (m : DM) (k : Nat) (t : List UInt8) : DM := { m with cache := m.cache.set k t, wrote := m.wrote ++ [(k, t)] }
end Go.Proofs.Ytjnhlkaafnaooaa
