import Derived.Test.YtjnhlkaafnaooaaDoorConstsW
import Derived.Test.YtjnhlkaafnaooaaDoorNumW
import Derived.Test.YtjnhlkaafnaooaaDoorMacP
import Derived.Deep.RegionLaw
import Derived.Deep.RegionHeld
import Derived.Deep.MidRow
import Derived.Lib.Strings
import Derived.Lib.AppendStr
import Derived.Laws.BitsAllLaws
namespace Go.Proofs.YtjnhlkaafnaooaaDoor
open Go.RowKit
/-- From the head of block g on lie these numbers. -/
structure Cells (w : World) (g : Nat) (k : IntKind) (xs : List Nat) : Prop where
  lt : g < w.heap.size
  at_ : ∀ i, i < xs.length → w.cell? ⟨g, i, none⟩ = some (.int k ((xs.getD i 0 : Nat) : Int))
theorem Cells.below {w w' : World} {g B : Nat} {k : IntKind} {xs : List Nat} (h : Cells w g k xs) (hb : Below B w w') (hB : g < B) : Cells w' g k xs :=
  ⟨Nat.lt_of_lt_of_le h.lt hb.size, fun i hi => (hb.cell (p := ⟨g, i, none⟩) hB).trans (h.at_ i hi)⟩
theorem Cells.of_own {w : World} {base g cap : Nat} {e : TypeId} {k : IntKind} {xs : List Nat} (h : w.ownsRow base e 1 (.slice (some ⟨g, 0, none⟩) xs.length cap) xs.length (vals k xs)) : Cells w g k xs := by
  refine ⟨(h.lt g rfl).2, fun i hi => ?_⟩
  rw [h.cellAt i (by omega)]
  simp [vals, List.getElem?_eq_getElem hi]
theorem vals_set (k : IntKind) (xs : List Nat) (i x : Nat) : vals k (xs.set i x) = (vals k xs).set i (.int k (x : Int)) := by simp [vals, List.map_set]
theorem vals_one (k : IntKind) (xs : List Nat) : ∀ u ∈ vals k xs, u.oneCell' = true := by
  intro u hu
  obtain ⟨n, _, rfl⟩ := List.mem_map.1 hu
  rfl
theorem Cells.grown {w w' : World} {g : Nat} {k : IntKind} {xs : List Nat} {v : Value} (h : Cells w g k xs) (hg : w.grownBy w' v.ownBlock) (hv : v.ownBlock ≠ some g := by simp [Value.ownBlock]) : Cells w' g k xs :=
  ⟨Nat.lt_of_lt_of_le h.lt hg.size, fun i hi => (hg.cell_far ⟨g, i, none⟩ h.lt (fun e => hv e.symm)).trans (h.at_ i hi)⟩
def bvals (l : List UInt8) : List Value := l.map fun b => .int .u8 (b.toNat : Int)
def nats (l : List UInt8) : List Nat := l.map UInt8.toNat
theorem nats_len (l : List UInt8) : (nats l).length = l.length := by simp [nats]
theorem nats_lt (l : List UInt8) (i : Nat) : (nats l).getD i 0 < 256 := by
  by_cases h : i < l.length
  · simp [nats, List.getElem?_eq_getElem h]; exact (l[i]).toNat_lt
  · simp [nats, List.getElem?_eq_none (by omega : l.length ≤ i)]
theorem vals_nats (l : List UInt8) : vals .u8 (nats l) = bvals l := by simp [vals, nats, bvals, Function.comp_def]
theorem Cells.of_block {w : World} {g : Nat} {t : TypeId} {fr : Nat × Nat} {k : IntKind} {xs : List Nat} (h : w.heap[g]? = some (.cells (vals k xs).toArray t fr)) : Cells w g k xs := by
  refine ⟨lt_of_block h, fun i hi => ?_⟩
  rw [cell_of_row _ _ _ _ _ _ h]
  simp [vals, List.getElem?_eq_getElem hi]
theorem Cells.alloc {w : World} {g : Nat} {k : IntKind} {xs : List Nat} (h : Cells w g k xs) (o : Obj) : Cells (w.alloc o) g k xs := h.below ((Below.refl _ _).alloc (Nat.le_refl _) o) h.lt
theorem there_new (w : World) (c : Array Value) (t : TypeId) : (w.alloc (.cells c t)).there w.heap.size 0 c.size := by
  intro j hj
  rw [Nat.zero_add]
  refine ⟨?_, ?_⟩
  · rw [World.cell?_alloc_at _ _ _ _ rfl]; simp [hj]
  · exact World.frozen?_alloc_at _ _ _ _ rfl
theorem there_below {w w' : World} {b o n B : Nat} (h : w.there b o n) (hb : Below B w w') (hB : b < B) : w'.there b o n := by
  intro j hj
  rw [hb.cell (p := ⟨b, o + j, none⟩) hB, hb.frozen (p := ⟨b, o + j, none⟩) hB]
  exact h j hj
theorem vals_get (k : IntKind) (xs : List Nat) (i : Nat) (hi : i < xs.length) : (vals k xs).toArray[i]? = some (.int k ((xs.getD i 0 : Nat) : Int)) := by
  simp [vals, List.getElem?_eq_getElem hi]
theorem cell_set_far (w : World) (a p : Addr) (v : Value) (h : p.block ≠ a.block) : (w.setCell a v).drew.cell? p = w.cell? p :=
  World.cell?_of_block (w := w) (Below.heap_setCell w a v p.block h)
theorem or_join (a b i : Nat) (ha : a % 2 ^ i = 0) (hb : b < 2 ^ i) : a ||| b = a + b := nat_join i a b ha hb
theorem row_range {w : World} {b : Nat} {t : TypeId} {k : IntKind} {xs : List Nat} (h : Row w b t k xs) : w.rangeAt b 0 (vals k xs) := by
  intro j v hv
  obtain ⟨hj, he⟩ := List.getElem?_eq_some_iff.1 hv
  have hj2 : j < xs.length := by simpa [vals] using hj
  rw [Nat.zero_add, h.cell hj2, ← he]
  simp [vals, List.getElem?_eq_getElem hj2]
theorem setCells_block (b : Nat) : ∀ (vs : List Value) (o : Nat) (w : World), (w.setCells b o vs).heap.size = w.heap.size ∧ (w.setCells b o vs).os = w.os ∧ (w.setCells b o vs).tape = w.tape ∧ (w.setCells b o vs).output = w.output ∧ ∀ k, k ≠ b → (w.setCells b o vs).heap[k]? = w.heap[k]?
  | [], o, w => ⟨rfl, rfl, rfl, rfl, fun _ _ => rfl⟩
  | v :: vs, o, w => by
    obtain ⟨h1, h2, h3, h4, h5⟩ := setCells_block b vs (o + 1) (w.setCell ⟨b, o, none⟩ v)
    refine ⟨h1.trans (by simp [World.setCell]), h2, h3, h4, fun k hk => (h5 k hk).trans (Below.heap_setCell w ⟨b, o, none⟩ v k hk)⟩
theorem below_setCells (w : World) (B b o : Nat) (vs : List Value) (hb : B ≤ b) : Below B w (w.setCells b o vs) := by
  obtain ⟨h1, h2, h3, h4, h5⟩ := setCells_block b vs o w
  exact ⟨h2, h3, h4, by omega, fun k hk => h5 k (by omega)⟩
theorem results_cell_mid {P : Program} {fn : Func} {p : Tmp} {ty : TypeId} (h : fn.results = #[.cell p ty]) (tmps : Array Value) (w : World) (b o : Nat) (cs : List Value) (d : TypeDesc)
    (hp : tmps.getD p undef = .pointer (some ⟨b, o, none⟩)) (hc : w.rangeAt b o cs)
    (hu : P.underlying ty = some d) (hd : d.isRow = true) (hi : (P.info? ty).map (·.size) = some cs.length) :
    (results fn tmps).run P w = .ok (.agg cs.toArray) w := by
  have hp' : tmps[p]?.getD undef = .pointer (some ⟨b, o, none⟩) := by simpa using hp
  simp [results, h, hp', asAddr, run_loadVar_mid w b o ty cs d hc hu hd hi]
theorem info_u8 : (Tryd.prog.info? 5).map (fun i => (i.zero, i.size, i.bytes)) = some (some (.int .u8 0), 1, 1) := by kernel_rfl
theorem strCells_eq (l : List UInt8) : Lib.strCells ⟨l.toArray⟩ = bvals l := by simp [Lib.strCells, bvals]
theorem bvals_append (a b : List UInt8) : bvals (a ++ b) = bvals a ++ bvals b := by simp [bvals]
theorem bvals_len (a : List UInt8) : (bvals a).length = a.length := by simp [bvals]
/-- 'string(b)' of a slice of the call's own. -/
theorem conv_own {w : World} {base g cap n : Nat} {e : TypeId} {l : List UInt8} (h : w.ownsRow base e 1 (.slice (some ⟨g, 0, none⟩) n cap) n (bvals l)) (hn : l.length = n) :
    (convert 52 9 (.slice (some ⟨g, 0, none⟩) n cap)).run Tryd.prog w = .ok (.string ⟨l.toArray⟩) w := by
  subst hn
  refine run_convert_bytes_back (P := Tryd.prog) w 52 9 5 ⟨g, 0, none⟩ cap l Tryd.underlying52 Tryd.underlying5 Tryd.underlying9 (fun j hj => ?_)
  rw [Addr.add_mid, Nat.zero_add, h.cellAt j (by omega)]
  simp [bvals, List.getElem?_eq_getElem hj]
theorem own_form {w : World} {base : Nat} {e : TypeId} {v : Value} {n : Nat} {xs : List Value} (h : w.ownsRow base e 1 v n xs) (hn : 0 < n) : ∃ g cap, v = .slice (some ⟨g, 0, none⟩) n cap := by
  rcases h.2 with ⟨_, h0⟩ | ⟨g, cap, cur, hv, _⟩
  · omega
  · exact ⟨g, cap, hv⟩
theorem setCells_same (b : Nat) (t : TypeId) : ∀ (vs : List Value) (o : Nat) (w : World) (c : Array Value), w.heap[b]? = some (.cells c t (0, 0)) → ∃ c', (w.setCells b o vs).heap[b]? = some (.cells c' t (0, 0)) ∧ c'.size = c.size
  | [], o, w, c, h => ⟨c, h, rfl⟩
  | v :: vs, o, w, c, h => by
    obtain ⟨c', h1, h2⟩ := setCells_same b t vs (o + 1) (w.setCell ⟨b, o, none⟩ v) _ (set_prim h o v)
    exact ⟨c', h1, by simpa using h2⟩
theorem setCells_all (w : World) (t : TypeId) (c : Array Value) (vs : List Value) (h : c.size = vs.length) : ((w.alloc (.cells c t)).setCells w.heap.size 0 vs).heap[w.heap.size]? = some (.cells vs.toArray t (0, 0)) := by
  obtain ⟨c', h1, h2⟩ := setCells_same w.heap.size t vs 0 (w.alloc (.cells c t)) c (heap_alloc_new w _)
  have e : c' = vs.toArray := by
    apply Array.ext'
    apply List.ext_getElem?
    intro i
    have hcell : ((w.alloc (.cells c t)).setCells w.heap.size 0 vs).cell? ⟨w.heap.size, i, none⟩ = c'[i]? := cell_of_row _ _ _ _ _ _ h1
    by_cases hi : i < vs.length
    · have hin := World.cell?_setCells_in w.heap.size vs 0 (w.alloc (.cells c t)) (fun k hk => (there_new w c t k (by omega)).1) i hi
      rw [Nat.zero_add, hcell] at hin
      simp [hin, List.getElem?_eq_getElem hi]
    · simp [Array.getElem?_eq_none (by omega : c'.size ≤ i), List.getElem?_eq_none (by omega : vs.length ≤ i)]
  rw [h1, e]
theorem str_eta (s : ByteArray) : (⟨s.data.toList.toArray⟩ : ByteArray) = s := by cases s; simp
theorem map_toNat_ofNat (l : List UInt8) : (l.map UInt8.toNat).map UInt8.ofNat = l := by simp [Function.comp_def]
theorem make_u8 (n : Nat) (hn : n ≤ 1000) (w : World) : (Instr.makeSlice 52 (.int .i64 (n : Int)) (.int .i64 (n : Int))).run Tryd.prog w = .ok (.slice (some ⟨w.heap.size, 0, none⟩) n n) (w.alloc (.cells (madeCells #[.int .u8 0] n) 5)) :=
  run_make_row' (P := Tryd.prog) 52 5 (.int .u8 0) 1 Tryd.underlying52 info_u8 rfl .i64 .i64 n (by omega) (by omega) w
set_option maxRecDepth 100000 in
set_option maxHeartbeats 1000000 in
theorem noughts_any (n : Nat) (w : World) (hn : n ≤ 1000) :
    Calls Tryd.prog 28 #[.int .i64 (n : Int)] w fun e w' => e = .returned (.string ⟨(List.replicate n (0 : UInt8)).toArray⟩) ∧ Below w.heap.size w w' := by
  have hmk := make_u8 n hn
  have hcv := conv_row (cap := n) (Row.made w 5 .u8 n)
  rw [List.length_replicate, List.map_replicate] at hcv
  have hni : (n : Int) ≤ 1000 := by omega
  clear hn
  go_enter Tryd.func28, Tryd.ntmps28
  go_wp2
  go_ret
  exact ⟨rfl, (Below.refl _ _).alloc (Nat.le_refl _) _⟩
theorem xorL_take (a b : List UInt8) (n : Nat) (h : a.length ≤ n) : xorL a (b.take n) = xorL a b := by
  unfold xorL
  apply List.ext_getElem?
  intro i
  rw [List.getElem?_zipWith, List.getElem?_zipWith]
  by_cases hi : i < n
  · rw [List.getElem?_take_of_lt hi]
  · rw [List.getElem?_eq_none (by omega : a.length ≤ i)]
theorem xor_set_le (a b : List UInt8) (k n : Nat) (hn : a.length = n) (hab : n ≤ b.length) (hk : k < n) :
    ((xorL (a.take k) (b.take k)).map UInt8.toNat ++ List.replicate (n - k) 0).set k (a[k].toNat ^^^ b[k].toNat) = (xorL (a.take (k + 1)) (b.take (k + 1))).map UInt8.toNat ++ List.replicate (n - (k + 1)) 0 := by
  have h := xor_set a (b.take n) k n hn (by simp; omega) hk
  have e1 : (b.take n).take k = b.take k := by rw [List.take_take, Nat.min_eq_left (by omega)]
  have e2 : (b.take n).take (k + 1) = b.take (k + 1) := by rw [List.take_take, Nat.min_eq_left (by omega)]
  rw [e1, e2] at h
  simpa using h
set_option maxRecDepth 100000 in
set_option maxHeartbeats 1000000 in
theorem mixedLe_any (a b : ByteArray) (w : World) (hn : a.size ≤ 1000) (hab : a.size ≤ b.size) :
    Calls Tryd.prog 26 #[.string a, .string b] w fun e w' => e = .returned (.string ⟨(xorL a.data.toList b.data.toList).toArray⟩) ∧ Below w.heap.size w w' := by
  have hmk := make_u8 a.size hn
  have hni : (a.size : Int) ≤ 1000 := by omega
  have HAB := hide hab
  clear hn hab
  go_enter Tryd.func26, Tryd.ntmps26
  go_wp2
  go_loopw [6] (fun i wr => ∃ k : Nat, k ≤ a.size ∧ i = .int .i64 (k : Int) ∧ Row wr w.heap.size 5 .u8 ((xorL (a.data.toList.take k) (b.data.toList.take k)).map UInt8.toNat ++ List.replicate (a.size - k) 0) ∧ Below w.heap.size w wr) (fun i _ => a.size - (intOf i).toNat)
  case atStart => exact ⟨0, by omega, rfl, by simpa [xorL] using Row.made w _ _ a.size, (Below.refl _ _).alloc (Nat.le_refl _) _⟩
  case round =>
    obtain ⟨k, hk, rfl, hrow, hbel⟩ := hrel
    by_cases hlt : k < a.size
    · have hki : (k : Int) < (a.size : Int) := by omega
      have hltb : k < b.size := by have := HAB.out; omega
      have hl : ((xorL (a.data.toList.take k) (b.data.toList.take k)).map UInt8.toNat).length = k := by rw [List.length_map, xorL_len _ _ (by simp; have := HAB.out; omega)]; simp; omega
      have hc := hrow.cell (i := k) (by rw [List.length_append, hl]; simp; omega)
      have hf := hrow.frozen k
      have hset := hrow.set k (a[k].toNat ^^^ b[k].toNat)
      have e' : ((xorL (a.data.toList.take k) (b.data.toList.take k)).map UInt8.toNat ++ List.replicate (a.size - k) 0).set k (a[k].toNat ^^^ b[k].toNat) = (xorL (a.data.toList.take (k + 1)) (b.data.toList.take (k + 1))).map UInt8.toNat ++ List.replicate (a.size - (k + 1)) 0 :=
        xor_set_le a.data.toList b.data.toList k a.size (by simp) (by simpa using HAB.out) hlt
      rw [e'] at hset
      have hx := u8_xor_nat a[k].toNat b[k].toNat a[k].toNat_lt b[k].toNat_lt
      have hb2 : Below w.heap.size w (wr.setCell ⟨w.heap.size, k, none⟩ (.int .u8 ((a[k].toNat ^^^ b[k].toNat : Nat) : Int))) := hbel.setCell (Nat.le_refl _) _
      generalize ((xorL (a.data.toList.take k) (b.data.toList.take k)).map UInt8.toNat ++ List.replicate (a.size - k) 0).getD k 0 = y at *
      have HS := hide (And.intro hset hb2)
      clear hset hb2 e' hrow hl
      go_wp2_with fail
      go_region
      go_wp2_with fail
      go_roundw
      case rel => exact ⟨k + 1, by omega, by go_num, HS.out.1.drew, HS.out.2.drew⟩
      case measure => simp [intOf]; omega
    · have hkn : k = a.size := by omega
      subst hkn
      have hl : (xorL a.data.toList b.data.toList).length = a.size := by unfold xorL; rw [List.length_zipWith]; have := HAB.out; simp; omega
      rw [List.take_of_length_le (by simp), xorL_take a.data.toList b.data.toList a.size (by simp), Nat.sub_self, List.replicate_zero, List.append_nil] at hrow
      have hcv := conv_row (cap := a.size) hrow
      rw [List.length_map, hl, map_toNat_ofNat] at hcv
      clear hrow hl
      go_wp2
      go_ret
      exact ⟨rfl, hbel⟩
theorem mixed_any (a b : ByteArray) (w : World) (hn : a.size ≤ 1000) (hab : a.size = b.size) :
    Calls Tryd.prog 26 #[.string a, .string b] w fun e w' => e = .returned (.string ⟨(xorL a.data.toList b.data.toList).toArray⟩) ∧ Below w.heap.size w w' := mixedLe_any a b w hn (by omega)
end Go.Proofs.YtjnhlkaafnaooaaDoor
