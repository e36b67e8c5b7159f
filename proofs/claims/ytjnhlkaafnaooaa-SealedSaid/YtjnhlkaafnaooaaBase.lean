import Derived.Test.YtjnhlkaafnaooaaRows
import Derived.WalkKit
import Derived.WalkSpells
import Derived.WalkLawsBesides
import Derived.BigQuiet
import Derived.Deep.QuietTactic
import Derived.Deep.OwnRows
import Derived.Laws.BytesArg
namespace Go.Proofs.Ytjnhlkaafnaooaa
open Go.RowKit
theorem info_int : (Try.prog.info? 3).map (fun i => (i.zero, i.size, i.bytes)) = some (some (.int .i64 0), 1, 8) := by kernel_rfl
/-- Block b is a row of numbers. -/
def Row (w : World) (b : Nat) (t : TypeId) (k : IntKind) (xs : List Nat) : Prop := w.rowIs b t xs.length (fun i => .int k ((xs.getD i 0 : Nat) : Int))
theorem Row.lt {w : World} {b : Nat} {t : TypeId} {k : IntKind} {xs : List Nat} (h : Row w b t k xs) : b < w.heap.size := World.rowIs.lt h
theorem Row.cell {w : World} {b : Nat} {t : TypeId} {k : IntKind} {xs : List Nat} (h : Row w b t k xs) {i : Nat} (hi : i < xs.length) : w.cell? ⟨b, i, none⟩ = some (.int k ((xs.getD i 0 : Nat) : Int)) := World.rowIs.cell h hi
theorem Row.frozen {w : World} {b : Nat} {t : TypeId} {k : IntKind} {xs : List Nat} (h : Row w b t k xs) (i : Nat) : w.frozen? ⟨b, i, none⟩ = false := World.rowIs.frozen h i
theorem Row.of_block {w w' : World} {b : Nat} {t : TypeId} {k : IntKind} {xs : List Nat} (h : Row w b t k xs) (e : w'.heap[b]? = w.heap[b]?) : Row w' b t k xs := World.rowIs.of_block h e
theorem Row.below {w w' : World} {b B : Nat} {t : TypeId} {k : IntKind} {xs : List Nat} (h : Row w b t k xs) (hb : Below B w w') (hB : b < B) : Row w' b t k xs := h.of_block (hb.block b hB)
theorem Row.alloc {w : World} {b : Nat} {t : TypeId} {k : IntKind} {xs : List Nat} (h : Row w b t k xs) (o : Obj) : Row (w.alloc o) b t k xs := World.rowIs.alloc h o
theorem Row.drew {w : World} {b : Nat} {t : TypeId} {k : IntKind} {xs : List Nat} (h : Row w b t k xs) : Row w.drew b t k xs := h
theorem Row.drewN {w : World} {b : Nat} {t : TypeId} {k : IntKind} {xs : List Nat} (h : Row w b t k xs) (n : Nat) : Row (w.drewN n) b t k xs := h
theorem Row.set {w : World} {b : Nat} {t : TypeId} {k : IntKind} {xs : List Nat} (h : Row w b t k xs) (i y : Nat) : Row (w.setCell ⟨b, i, none⟩ (.int k (y : Int))) b t k (xs.set i y) := by
  have h2 := World.rowIs.set h i (.int k (y : Int))
  unfold Row
  rw [List.length_set]
  refine h2.congr fun j hj => ?_
  by_cases e : j = i
  · subst e; simp [hj]
  · simp [e, Ne.symm e]
theorem Row.setOther {w : World} {b : Nat} {t : TypeId} {k : IntKind} {xs : List Nat} (h : Row w b t k xs) {a : Addr} (ha : b ≠ a.block) (v : Value) : Row (w.setCell a v) b t k xs := World.rowIs.setOther h ha v
theorem Row.made (w : World) (t : TypeId) (k : IntKind) (n : Nat) : Row (w.alloc (.cells (madeCells #[.int k 0] n) t)) w.heap.size t k (List.replicate n 0) := by
  have h := World.rowIs_made w (.int k 0) n t
  unfold Row
  rw [List.length_replicate]
  refine h.congr fun j hj => ?_
  simp [hj]
theorem Row.new (w : World) (t : TypeId) (k : IntKind) (xs : List Nat) (c : Array Value) (hs : c.size = xs.length) (hc : ∀ i, i < xs.length → c[i]? = some (.int k ((xs.getD i 0 : Nat) : Int))) : Row (w.alloc (.cells c t)) w.heap.size t k xs := by
  have h := World.rowIs_alloc w c t (fun i => .int k ((xs.getD i 0 : Nat) : Int)) (fun i hi => hc i (by omega))
  unfold Row
  rw [← hs]; exact h
theorem add_str (x y : List UInt8) (h : x.length + y.length ≤ 9223372036854775807) (w : World) : (Op.stringOp .add ⟨x.toArray⟩ ⟨y.toArray⟩).run Try.prog w = .ok (.string ⟨(x ++ y).toArray⟩) w := by
  rw [run_string_add_sum w _ _ (by simpa [ByteArray.size] using h), ByteArray.mk_append_mk]
/-- 'string(b)' of a new row of bytes. -/
theorem conv_row {w : World} {b cap : Nat} {xs : List Nat} {t : TypeId} (h : Row w b t .u8 xs) : (convert 34 9 (.slice (some ⟨b, 0, none⟩) xs.length cap)).run Try.prog w = .ok (.string ⟨(xs.map UInt8.ofNat).toArray⟩) w := by
  have := run_convert_bytes_arg (P := Try.prog) w 34 5 Try.underlying34 Try.underlying5 b 0 xs.length cap (xs.map fun n : Nat => (n : Int)) (by simp) (fun i hi => by
    rw [Nat.zero_add, h.cell hi]
    simp [List.getElem?_eq_getElem hi]) 9 Try.underlying9
  rw [this]
  simp [strOfNums, Function.comp_def]
theorem below_drewN {B : Nat} {a w : World} (h : Below B a w) (n : Nat) : Below B a (w.drewN n) := ⟨h.os, h.tape, h.output, h.size, h.block⟩
theorem hide {p : Prop} (h : p) : Hid p := h
theorem ret_int {k : IntKind} {a b : Int} (h : a = b) : Ending.returned (.int k a) = .returned (.int k b) := by rw [h]
theorem ret_bool {a b : Bool} (h : a = b) : Ending.returned (.bool a) = .returned (.bool b) := by rw [h]
theorem val_int {k : IntKind} {a b : Int} (h : a = b) : Value.int k a = .int k b := by rw [h]
end Go.Proofs.Ytjnhlkaafnaooaa
