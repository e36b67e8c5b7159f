import Derived.Test.YtjnhlkaafnaooaaKeysOfW
namespace Go.Proofs.Ytjnhlkaafnaooaa
open Go.RowKit
/-- A vault's fields, but for its disk. -/
structure VM where
  opened : Bool
  salt : List UInt8
  tv : Value
  pv : Value
  version : Nat
  session : Nat
  done : Nat
  place : Nat
  digest : List UInt8
  used : List Bool
  cv : Value
def vcells (d : Nat) (v : VM) : List Value := [.pointer (some ⟨d, 0, none⟩), .bool v.opened, strV v.salt, v.tv, v.pv, .int .i64 v.version, .int .i64 v.session, .int .i64 v.done, .int .i64 v.place, strV v.digest] ++ (v.used.map Value.bool ++ [v.cv])
section
variable {w : World} {b d : Nat} {v : VM}
end
/-- The list of writes lies where it lay, or is new. -/
def Later (wv wv' : Value) (n : Nat) : Prop := ∀ j, wv'.ownBlock = some j → wv.ownBlock = some j ∨ n ≤ j
theorem Later.refl (wv : Value) (n : Nat) : Later wv wv n := fun _ h => .inl h
theorem Later.trans {a b c : Value} {n m : Nat} (h : Later a b n) (k : Later b c m) (hnm : n ≤ m) : Later a c n := fun j hj => by
  rcases k j hj with e | e
  · exact h j e
  · exact .inr (Nat.le_trans hnm e)
theorem Later.out {x : DX} {wv wv' : Value} {n k : Nat} (h : Later wv wv' n) (hk : k ∉ x.set wv) (hn : k < n) : k ∉ x.set wv' := by
  intro e
  simp only [DX.set, List.mem_append, List.mem_cons, Option.mem_toList, List.not_mem_nil, or_false] at e hk
  rcases e with e | e
  · exact hk (.inl e)
  · rcases h k e with g | g
    · exact hk (.inr g)
    · omega
end Go.Proofs.Ytjnhlkaafnaooaa
