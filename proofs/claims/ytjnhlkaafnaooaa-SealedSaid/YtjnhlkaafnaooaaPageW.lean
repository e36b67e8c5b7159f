import Derived.Test.YtjnhlkaafnaooaaSlotW
import Derived.Test.YtjnhlkaafnaooaaStretch2W
import Derived.Test.YtjnhlkaafnaooaaKeyW2
namespace Go.Proofs.Ytjnhlkaafnaooaa
open Go.RowKit
theorem KeyAt.of_block {w w' : World} {b : Nat} {rk : List UInt8} (h : KeyAt w b rk) (e : w'.heap[b]? = w.heap[b]?) (hz : w.heap.size ≤ w'.heap.size) : KeyAt w' b rk :=
  ⟨⟨Nat.lt_of_lt_of_le h.lt hz, fun i hi => (World.cell?_of_block (a := ⟨b, i, none⟩) e).trans (h.cells.at_ i hi)⟩, h.len⟩
/-- What a page says at a place. -/
def openL (rk block : List UInt8) (p : Nat) : Option (List UInt8) := if tagL rk (block.take 12) (onesL p 1) ((block.drop 12).take 228) = block.drop 240 then some (ctrL rk (block.take 12) 2 ((block.drop 12).take 228)) else none
theorem openL_page (rk : List UInt8) (s n p : Nat) (t : List UInt8) (hr : rk.length = 240) (ht : t.length = 228) : openL rk (pageL rk s n p t) p = some t := by
  have hnl := nonceL_len s n
  have hcl := ctrL_len rk (nonceL s n) hr hnl 2 t
  have e1 : (pageL rk s n p t).take 12 = nonceL s n := by unfold pageL; rw [List.take_left' hnl]
  have e2 : (pageL rk s n p t).drop 12 = sealL rk (nonceL s n) (onesL p 1) t := by unfold pageL; rw [List.drop_left' hnl]
  have e3 : (pageL rk s n p t).drop 240 = tagL rk (nonceL s n) (onesL p 1) (ctrL rk (nonceL s n) 2 t) := by
    have : (pageL rk s n p t).drop 240 = ((pageL rk s n p t).drop 12).drop 228 := by rw [List.drop_drop]
    rw [this, e2]; unfold sealL; rw [List.drop_left' (by omega)]
  have e4 : (sealL rk (nonceL s n) (onesL p 1) t).take 228 = ctrL rk (nonceL s n) 2 t := by unfold sealL; rw [List.take_left' (by omega)]
  unfold openL
  rw [e1, e2, e3, e4, if_pos rfl, ctrL_twice rk _ hr hnl]
def resV (o : Option (List UInt8)) : Value := match o with
  | some t => .tuple #[strV t, .bool true]
  | none => .tuple #[strV [], .bool false]
end Go.Proofs.Ytjnhlkaafnaooaa
