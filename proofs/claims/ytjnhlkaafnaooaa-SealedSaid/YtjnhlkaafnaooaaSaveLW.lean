import Derived.Test.YtjnhlkaafnaooaaPageLW
namespace Go.Proofs.Ytjnhlkaafnaooaa
open Go.RowKit
def freed (rl : List Nat) (u : List Bool) : List Bool := rl.foldl (fun u q => u.set q false) u
theorem freed_snoc (rl : List Nat) (q : Nat) (u : List Bool) : freed (rl ++ [q]) u = (freed rl u).set q false := by simp [freed]
def newTree (rk : List UInt8) (v : VM) (p : Nat) (k y : List UInt8) : List UInt8 := pageL rk v.session (v.done + 1) p (leafOne k y)
def saveM (tk rk : List UInt8) (m : DM) (v : VM) (p : Nat) (k y : List UInt8) : DM := ((m.write p (newTree rk v p k y)).flush).advance (v.version + 1) (slotL tk v.salt (v.version + 1) p (shaL (newTree rk v p k y)))
def saveV (rk : List UInt8) (v : VM) (p : Nat) (k y : List UInt8) (rl : List Nat) : VM := { v with done := v.done + 1, place := p, digest := shaL (newTree rk v p k y), version := v.version + 1, used := freed rl (v.used.set p true) }
end Go.Proofs.Ytjnhlkaafnaooaa
