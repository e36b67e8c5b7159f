import Derived.Test.YtjnhlkaafnaooaaDoorHashedW
import Derived.Test.YtjnhlkaafnaooaaDoorCards
import Derived.Test.YtjnhlkaafnaooaaDoorTie
import Derived.ProofKit
import Derived.OpenShut
import Derived.ShutString
import Derived.ChangeOld
import Derived.Deep.DeepHandedRow
import Derived.Lib.LaidTab
namespace Go.Proofs.YtjnhlkaafnaooaaDoor.hashed
open Go.ChangeShapes Go.WideShapes Go.ChangeAt Go.RowKit
open Go.ChangeMaps (open_string shut_string)

theorem own : ownKnob Tryd.prog.godebug = none := by kernel_rfl
theorem laidOut : laidOutB Tryd.prog = true := by kernel_rfl
theorem gStart : Tryd.prog.globalNamed "keystore/sha.startWords" = some 0 := by kernel_rfl
theorem gStep : Tryd.prog.globalNamed "keystore/sha.stepWords" = some 1 := by kernel_rfl
theorem tStart : (Tryd.prog.globals[0]?).map (·.type) = some 42 := by kernel_rfl
theorem tStep : (Tryd.prog.globals[1]?).map (·.type) = some 64 := by kernel_rfl
theorem cellsA : Tryd.prog.cellsOf 42 = 8 := by kernel_rfl
theorem cellsB : Tryd.prog.cellsOf 64 = 64 := by kernel_rfl
theorem cellsE : Tryd.prog.cellsOf 41 = 1 := by kernel_rfl

/-- The second table of a list. -/
theorem tab_second {P : Program} {W : World} {x : String × DataW Unit} {name : String} {k : IntKind} {zs : List Int} {rest : List (String × DataW Unit)} {g : Nat} {t e : TypeId} {n : Nat}
    (hg : P.globalNamed name = some g) (hty : (P.globals[g]?).map (·.type) = some t) (ht : P.underlying t = some (.array n e)) (he : P.underlying e = some (.int k)) (hce : P.cellsOf e = 1) (hct : P.cellsOf t = n)
    (h : laidMet P (x :: (name, Lib.tabData k zs) :: rest) W) : Lib.TabIs P W name k zs := by
  obtain ⟨ps, ⟨g0, t0, cs0, f0, p0, q0, _, _, _, _, ⟨g', t', cs, fuel, p, q, hg', ht', hvar, hd, _, _⟩, _⟩, _⟩ := h
  obtain rfl := Option.some.inj (hg.symm.trans hg')
  obtain rfl := Option.some.inj (hty.symm.trans ht')
  unfold Lib.TabIs
  rw [hvar, ← Lib.cells_of_tab ht he hce hct hd]
theorem cells_of_tabIs {P : Program} {W : World} {name : String} {k : IntKind} {xs : List Nat} {g : Nat} (h : Lib.TabIs P W name k (xs.map fun n : Nat => (n : Int))) (hg : P.globalNamed name = some g) (hp : 0 < xs.length) : Cells W g k xs := by
  have hc : ∀ i, i < xs.length → W.cell? ⟨g, i, none⟩ = some (.int k ((xs.getD i 0 : Nat) : Int)) := fun i hi => by
    rw [h.cell hg i (by simpa using hi)]
    simp [List.getElem?_eq_getElem hi]
  exact ⟨World.block_lt_of_cell? W ⟨g, 0, none⟩ (hc 0 hp), hc⟩
theorem start_cells {W : World} (h : laidMetH Tryd.prog Rows.hashedRow.laid W) : Cells W 0 .u32 hWords :=
  cells_of_tabIs (Lib.tabIs_of_head (k := .u32) (zs := hWords.map fun n : Nat => (n : Int)) (rest := [("keystore/sha.stepWords", Rows.laid_keystore_sha_stepWords)]) gStart tStart Tryd.underlying42 Tryd.underlying41 cellsE cellsA h) gStart (by decide)
theorem step_cells {W : World} (h : laidMetH Tryd.prog Rows.hashedRow.laid W) : Cells W 1 .u32 kWords :=
  cells_of_tabIs (tab_second (k := .u32) (zs := kWords.map fun n : Nat => (n : Int)) (rest := []) (x := ("keystore/sha.startWords", Rows.laid_keystore_sha_startWords)) gStep tStep Tryd.underlying64 Tryd.underlying41 cellsE cellsB h) gStep (by decide)

set_option maxRecDepth 100000 in
set_option maxHeartbeats 1000000 in
theorem walk_text (a0 : ByteArray) (a1 : Option Addr) (len1 cap1 : Nat) (w : World) (h : 65536 < a0.size) :
    Calls Tryd.prog 3 #[.string a0, .slice a1 len1 cap1] w fun e w' => e = .returned (.bool true) ∧ Below w.heap.size w w' := by
  have t1 : decide ((65536 : Int) < (a0.size : Int)) = true := by simp; omega
  clear h
  go_enter Tryd.func3, Tryd.ntmps3
  go_wp2_with fail
  go_ret
  exact ⟨rfl, Below.refl _ _⟩
set_option maxRecDepth 100000 in
set_option maxHeartbeats 1000000 in
theorem walk_cuts (a0 : ByteArray) (a1 : Option Addr) (len1 cap1 : Nat) (w : World) (h : a0.size ≤ 65536) (h2 : 65536 < len1) :
    Calls Tryd.prog 3 #[.string a0, .slice a1 len1 cap1] w fun e w' => e = .returned (.bool true) ∧ Below w.heap.size w w' := by
  have t1 : decide ((65536 : Int) < (a0.size : Int)) = false := by simp; omega
  have t2 : decide ((65536 : Int) < (len1 : Int)) = true := by simp; omega
  clear h h2
  go_enter Tryd.func3, Tryd.ntmps3
  go_wp2_with fail
  go_ret
  exact ⟨rfl, Below.refl _ _⟩

theorem walk (a0 : ByteArray) (a1 : Option Addr) (len1 cap1 : Nat) (z1 : List Int) (w : World) (w1 : IsRow .i64 w a1 len1 cap1 z1) (hk : Cells w 1 .u32 kWords) (h0 : Cells w 0 .u32 hWords) :
    Calls Tryd.prog 3 #[.string a0, .slice a1 len1 cap1] w fun e w' => e = .returned (.bool true) ∧ Below w.heap.size w w' := by
  by_cases hs : a0.size ≤ 65536
  · by_cases hl : len1 ≤ 65536
    · refine hashed_small a0 a1 len1 cap1 w hs hl ?_ hk h0
      intro i hi
      rcases w1 with ⟨_, h1, _, _⟩ | ⟨x, rfl, hlc, _, hz, hcell, hwf⟩
      · omega
      · obtain ⟨b, off, rfl, hc⟩ := ints_at hcell (by omega)
        have hci := hc i (by omega)
        have hm : z1.getD i 0 ∈ z1 := by
          have hi2 : i < z1.length := by omega
          simp [List.getElem?_eq_getElem hi2]
        have hb := wf_i64 (hwf _ hm)
        exact ⟨b, off, z1.getD i 0, rfl, World.block_lt_of_cell? w ⟨b, off + i, none⟩ hci, hci, hb.1, hb.2⟩
    · exact walk_cuts a0 a1 len1 cap1 w hs (by omega)
  · exact walk_text a0 a1 len1 cap1 w (by omega)

theorem contract (H : Type) (enc : TypeId × Value → H) (W : World) (base : Nat) (args : Array Value) (ds gs : List (DataW H)) (before : List MemPlace)
    (hval : ∀ (j : Nat) t v, Tryd.f3.params[j]? = some t → args[j]? = some v → Value.okWide Tryd.prog W .any base t v)
    (hW : DataW.Whole enc Tryd.prog Tryd.f3.params.toList Rows.hashedSpec.vars false W args.toList ds gs before) (hL : laidMetH Tryd.prog Rows.hashedRow.laid W) :
    Calls Tryd.prog 3 args W fun e W' => ∃ v, e = .returned v ∧ Rows.hashedSpec.post enc Tryd.prog Tryd.f3 false true false false W args v W' := by
  have hW' := hW
  obtain ⟨p, q, hA0, hV, rfl, hfz, hnd⟩ := hW
  have hA : DataW.TrodAll enc Tryd.prog W 0 (fun _ => true) true Tryd.f3.params.toList args.toList ds p := hA0
  rw [Tryd.params3] at hA hval
  obtain ⟨v0, vs0, d0, ds0, p0, q0, hargs, rfl, rfl, h0, r0⟩ := trodAll_cons hA
  obtain ⟨v1, vs1, d1, ds1, p1, q1, rfl, rfl, rfl, h1, r1⟩ := trodAll_cons r0
  obtain ⟨rfl, rfl, rfl⟩ := trodAll_nil r1
  obtain rfl : args = #[v0, v1] := by cases args; simp_all
  obtain ⟨rfl, rfl⟩ := trodVars_none hV
  obtain ⟨a0, rfl, rfl, rfl, w0⟩ := open_string Tryd.underlying9 (hval 0 9 v0 rfl rfl) h0
  obtain ⟨a1, len1, cap1, rfl⟩ := okWide_slice Tryd.underlying22 (hval 1 22 v1 rfl rfl)
  have k1 := h1
  have lt1 : ∀ x ∈ p1, x.block < W.heap.size := by obtain ⟨m, hm⟩ := k1; exact DataW.trod_lt m _ _ _ hm
  obtain ⟨z1, w1⟩ : ∃ zs, IsRow .i64 W a1 len1 cap1 zs := by
    obtain ⟨fuel, hf⟩ := h1
    rcases open_ints Tryd.underlying22 Tryd.underlying3 (by kernel_rfl) hf with ⟨hcs, _⟩ | ⟨x, l, c, zs, hcs, _, hl, hm, hz, _, hcell, hwz⟩
    · simp [Value.cells] at hcs
      obtain ⟨rfl, rfl, rfl⟩ := hcs
      exact ⟨[], .inl ⟨rfl, rfl, rfl, rfl⟩⟩
    · simp [Value.cells] at hcs
      obtain ⟨rfl, rfl, rfl⟩ := hcs
      exact ⟨zs, .inr ⟨_, rfl, hl, hm, by simpa using hz, hcell, hwz⟩⟩
  clear hA0
  refine (walk a0 a1 len1 cap1 z1 W w1 (step_cells hL) (start_cells hL)).mono fun e W' ⟨he, bel⟩ => ?_
  subst he
  exact ⟨_, rfl, _, _, _, [], _, [], hW', trodAll_mk1 (shut_bool Tryd.underlying4 _), (trodAll_cons_mk (shut_string Tryd.underlying9 w0) (trodAll_cons_mk (Below.trod laidOut (by kernel_rfl) (of_decide_eq_true (by kernel_rfl)) k1 bel lt1) trodAll_mk0)), rfl, bel.frame _, fun h => by cases h⟩

/-- A table's cells, laid. -/
def layTab (xs : List Nat) : Obj → Obj
  | .cells _ t frozen => .cells (vals .u32 xs).toArray t frozen
  | o => o
/-- For the witness: a world, the two tables holding what their initialisers lay. -/
def laying (W : World) : World :=
  { W with heap := (W.heap.modify 0 (layTab hWords)).modify 1 (layTab kWords) }
theorem laid_met (os : Os) : laidMet Tryd.prog Rows.hashedRow.laid ((laying (World.holding Tryd.prog os ⟨#[], #[], []⟩)).forCall (fun _ _ => 0) ⟨#[], #[.string ByteArray.empty, .slice none 0 0], []⟩).memory :=
  laidMet_of_run' 8 (by kernel_rfl) (by kernel_rfl)
theorem reads (os : Os) {H : Type} (enc : TypeId × Value → H) : ∃ places, DataW.whole enc Tryd.prog ((laying (World.holding Tryd.prog os ⟨#[], #[], []⟩)).forCall (fun _ _ => 0) ⟨#[], #[.string ByteArray.empty, .slice none 0 0], []⟩).memory Tryd.f3.params.toList Rows.hashedSpec.vars false #[Value.string ByteArray.empty, Value.slice none 0 0].toList 8 = some ([.lit (.string []), .nil], [], places) :=
  ⟨[], by kernel_rfl⟩

set_option maxRecDepth 100000 in
theorem lifted (os : Os) (started : os.Started) (H : Type) (enc : TypeId × Value → H) (F : Stop.Interp) :
    ReturnsInHanded {} Tryd.checked os 3 .any ((OpenSpec.ofChange Rows.hashedSpec).preRow enc Tryd.prog Tryd.f3 Rows.hashedRow.domain false Rows.hashedRow.laid) (((OpenSpec.ofChange Rows.hashedSpec).at F).post enc Tryd.prog Tryd.f3 false true false false) := by
  obtain ⟨places, hx⟩ := reads os enc
  refine returnsInHanded_of_row (C := Tryd.checked) (s := OpenSpec.ofChange Rows.hashedSpec) own started (by kernel_rfl) Tryd.func3
    (witness_row_at (enc := enc) (C := Tryd.checked) false (laying (World.holding Tryd.prog os ⟨#[], #[], []⟩)) #[.string ByteArray.empty, .slice none 0 0] rfl (by kernel_rfl) (by kernel_rfl) (by kernel_rfl)
      (OpenSpec.preRow_of_cond 8 hx (by kernel_rfl) (fun k hk => by cases hk) (by kernel_rfl) (laid_met os))) ?_
  intro W base args ds gs before hval hW _ _ _ hL _ _
  exact contract H enc W base args ds gs before hval hW hL

theorem said : Rows.HashedSaid :=
  OpenClaim.holds_of_cond 3 Tryd.f3 rfl rfl rfl rfl rfl rfl rfl ⟨rfl, rfl, rfl, rfl, rfl⟩ rfl rfl rfl rfl rfl (by kernel_rfl) Tryd.func3 (by kernel_rfl)
    (of_decide_eq_true (by kernel_rfl)) (by unfold Func.isWrapper; first | (rw [if_pos (by decide +kernel)]; kernel_rfl) | (rw [if_neg (by decide +kernel)]; exact ⟨rfl, rfl⟩))
    (fun os started H enc _ F => by rw [OpenClaim.pre_eq_preRow]; exact lifted os started H enc F)

theorem plain (f : FuncId) (fn : Func) (hf : Tryd.pinned.checked.prog.funcNamed "keystore/keystorelaw.Hashed" = some f) (hfn : Tryd.pinned.checked.prog.funcs[f]? = some fn) :
    false = Tryd.pinned.checked.prog.looks [] ∧ ∀ (j : Nat) t, fn.params[j]? = some t → Tryd.pinned.checked.prog.wantsStandIn t = false := by
  obtain rfl : f = 3 := Option.some.inj ((show Tryd.prog.funcNamed "keystore/keystorelaw.Hashed" = some 3 by kernel_rfl).symm.trans hf) |>.symm
  obtain rfl : fn = Tryd.f3 := (Option.some.inj (Tryd.func3.symm.trans hfn)).symm
  refine ⟨by kernel_rfl, fun j t ht => ?_⟩
  rw [Tryd.params3] at ht
  have hm : t ∈ [9, 22] := by simpa using Array.mem_of_getElem? ht
  have hall : ([9, 22].all fun u => !Tryd.prog.wantsStandIn u) = true := by kernel_rfl
  exact (show Tryd.prog.wantsStandIn t = false by simpa using List.all_eq_true.1 hall t hm)
end Go.Proofs.YtjnhlkaafnaooaaDoor.hashed

namespace Go.Proofs.YtjnhlkaafnaooaaDoor
/-- The tied card. -/
theorem hashed_card : Rows.HashedCardSaid :=
  Claim7.holds_tied_plain_at .later [] _ _ _ _ hashed.said (fun _ h => by cases h) (by kernel_rfl) (fun _ h => by cases h) hashed_row_tie rfl ⟨rfl, rfl⟩ (by kernel_rfl) rfl hashed.plain (by kernel_rfl)
#print axioms hashed_card
end Go.Proofs.YtjnhlkaafnaooaaDoor
