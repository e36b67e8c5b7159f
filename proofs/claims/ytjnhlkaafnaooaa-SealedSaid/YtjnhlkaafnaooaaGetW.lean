import Derived.Test.YtjnhlkaafnaooaaCommitW
namespace Go.Proofs.Ytjnhlkaafnaooaa
open Go.RowKit
/-- The tree on the disk is one leaf of one entry. -/
structure OneLeaf (m : DM) (v : VM) (rk k s : List UInt8) : Prop where
  h2 : 2 ≤ v.place
  hp : v.place < m.blocks.length
  hbl : (m.look v.place).length = 256
  hd : shaL (m.look v.place) = v.digest
  ho : openL rk (m.look v.place) v.place = some (leafOne k s)
end Go.Proofs.Ytjnhlkaafnaooaa
