import Derived.Test.YtjnhlkaafnaooabGreatDoorPwW
import Derived.Test.YtjnhlkaafnaooabGreatDoorCards
import Derived.Test.YtjnhlkaafnaooabGreatDoorTie
import Derived.ProofKit
import Derived.OpenShut
import Derived.ShutString
import Derived.ChangeOld
import Derived.Deep.DeepHandedRow
import Derived.Lib.LaidTab
namespace Go.Proofs.YtjnhlkaafnaooabGreatDoor.password
open Go.ChangeShapes Go.WideShapes Go.ChangeAt Go.RowKit
open Go.ChangeMaps (open_string shut_string)

theorem own : ownKnob Tryz.prog.godebug = none := by kernel_rfl
theorem laidOut : laidOutB Tryz.prog = true := by kernel_rfl
theorem gStart : Tryz.prog.globalNamed "keystore/sha.startWords" = some 0 := by kernel_rfl
theorem gStep : Tryz.prog.globalNamed "keystore/sha.stepWords" = some 1 := by kernel_rfl
theorem tStart : (Tryz.prog.globals[0]?).map (·.type) = some 145 := by kernel_rfl
theorem tStep : (Tryz.prog.globals[1]?).map (·.type) = some 194 := by kernel_rfl
theorem cellsA : Tryz.prog.cellsOf 145 = 8 := by kernel_rfl
theorem cellsB : Tryz.prog.cellsOf 194 = 64 := by kernel_rfl
theorem cellsE : Tryz.prog.cellsOf 140 = 1 := by kernel_rfl

/-- The second table of a list. -/
theorem tab_second {P : Program} {W : World} {x : String × DataW Unit} {name : String} {k : IntKind} {zs : List Int} {rest : List (String × DataW Unit)} {g : Nat} {t e : TypeId} {n : Nat}
    (hg : P.globalNamed name = some g) (hty : (P.globals[g]?).map (·.type) = some t) (ht : P.underlying t = some (.array n e)) (he : P.underlying e = some (.int k)) (hce : P.cellsOf e = 1) (hct : P.cellsOf t = n)
    (h : laidMet P (x :: (name, Lib.tabData k zs) :: rest) W) : Lib.TabIs P W name k zs := by
  obtain ⟨ps, ⟨g0, t0, cs0, f0, p0, q0, _, _, _, _, ⟨g', t', cs, fuel, p, q, hg', ht', hvar, hd, _, _⟩, _⟩, _⟩ := h
  obtain rfl := Option.some.inj (hg.symm.trans hg')
  obtain rfl := Option.some.inj (hty.symm.trans ht')
  unfold Lib.TabIs
  rw [hvar, ← Lib.cells_of_tab ht he hce hct hd]
theorem cells_of_tabIs {P : Program} {W : World} {name : String} {k : IntKind} {xs : List Nat} {g : Nat} (h : Lib.TabIs P W name k (xs.map fun n : Nat => (n : Int))) (hg : P.globalNamed name = some g) (hp : 0 < xs.length) : Cells W g k xs := by
  have hc : ∀ i, i < xs.length → W.cell? ⟨g, i, none⟩ = some (.int k ((xs.getD i 0 : Nat) : Int)) := fun i hi => by
    rw [h.cell hg i (by simpa using hi)]
    simp [List.getElem?_eq_getElem hi]
  exact ⟨World.block_lt_of_cell? W ⟨g, 0, none⟩ (hc 0 hp), hc⟩
theorem start_cells {W : World} (h : laidMetH Tryz.prog Rows.passwordRow.laid W) : Cells W 0 .u32 hWords :=
  cells_of_tabIs (Lib.tabIs_of_head (k := .u32) (zs := hWords.map fun n : Nat => (n : Int)) (rest := [("keystore/sha.stepWords", Rows.laid_keystore_sha_stepWords)]) gStart tStart Tryz.underlying145 Tryz.underlying140 cellsE cellsA h) gStart (by decide)
theorem step_cells {W : World} (h : laidMetH Tryz.prog Rows.passwordRow.laid W) : Cells W 1 .u32 kWords :=
  cells_of_tabIs (tab_second (k := .u32) (zs := kWords.map fun n : Nat => (n : Int)) (rest := []) (x := ("keystore/sha.startWords", Rows.laid_keystore_sha_startWords)) gStep tStep Tryz.underlying194 Tryz.underlying140 cellsE cellsB h) gStep (by decide)

theorem passwordWalk (p o k s : ByteArray) (w : World) (hk : Cells w 1 .u32 kWords) (h0 : Cells w 0 .u32 hWords) :
    Calls Tryz.prog 6 #[.string p, .string o, .string k, .string s] w fun e w' => e = .returned (.bool true) ∧ Below w.heap.size w w' := by
  rw [← str_eta p, ← str_eta o, ← str_eta k, ← str_eta s]
  by_cases h : p.data.toList.length ≤ 40 ∧ o.data.toList.length ≤ 40 ∧ p.data.toList ≠ o.data.toList ∧ 1 ≤ k.data.toList.length ∧ k.data.toList.length ≤ 8 ∧ s.data.toList.length ≤ 16
  · exact password_law _ _ _ _ w h.1 h.2.1 h.2.2.1 h.2.2.2.1 h.2.2.2.2.1 h.2.2.2.2.2 hk h0
  · refine password_short _ _ _ _ w ?_
    by_cases g : p.data.toList = o.data.toList
    · exact .inr (.inr (.inl g))
    · rcases Nat.lt_or_ge 40 p.data.toList.length with g1 | g1
      · exact .inl g1
      · rcases Nat.lt_or_ge 40 o.data.toList.length with g2 | g2
        · exact .inr (.inl g2)
        · refine .inr (.inr (.inr ?_))
          rcases Nat.lt_or_ge 8 k.data.toList.length with g3 | g3
          · exact .inr (.inl g3)
          · rcases Nat.lt_or_ge 16 s.data.toList.length with g4 | g4
            · exact .inr (.inr g4)
            · rcases Nat.eq_zero_or_pos k.data.toList.length with g5 | g5
              · exact .inl g5
              · exact absurd ⟨g1, g2, g, g5, g3, g4⟩ h

set_option maxRecDepth 100000 in
theorem contract (H : Type) (enc : TypeId × Value → H) (W : World) (base : Nat) (args : Array Value) (ds gs : List (DataW H)) (before : List MemPlace)
    (hval : ∀ (j : Nat) t v, Tryz.f6.params[j]? = some t → args[j]? = some v → Value.okWide Tryz.prog W .any base t v)
    (hW : DataW.Whole enc Tryz.prog Tryz.f6.params.toList Rows.passwordSpec.vars false W args.toList ds gs before) (hL : laidMetH Tryz.prog Rows.passwordRow.laid W) :
    Calls Tryz.prog 6 args W fun e W' => ∃ v, e = .returned v ∧ Rows.passwordSpec.post enc Tryz.prog Tryz.f6 false true false false W args v W' := by
  have hW' := hW
  obtain ⟨p, q, hA0, hV, rfl, hfz, hnd⟩ := hW
  have hA : DataW.TrodAll enc Tryz.prog W 0 (fun _ => true) true Tryz.f6.params.toList args.toList ds p := hA0
  rw [Tryz.params6] at hA hval
  obtain ⟨v0, vs0, d0, ds0, p0, q0, hargs, rfl, rfl, h0, r0⟩ := trodAll_cons hA
  obtain ⟨v1, vs1, d1, ds1, p1, q1, rfl, rfl, rfl, h1, r1⟩ := trodAll_cons r0
  obtain ⟨v2, vs2, d2, ds2, p2, q2, rfl, rfl, rfl, h2, r2⟩ := trodAll_cons r1
  obtain ⟨v3, vs3, d3, ds3, p3, q3, rfl, rfl, rfl, h3, r3⟩ := trodAll_cons r2
  obtain ⟨rfl, rfl, rfl⟩ := trodAll_nil r3
  obtain rfl : args = #[v0, v1, v2, v3] := by cases args; simp_all
  obtain ⟨rfl, rfl⟩ := trodVars_none hV
  obtain ⟨a0, rfl, rfl, rfl, w0⟩ := open_string Tryz.underlying9 (hval 0 9 v0 rfl rfl) h0
  obtain ⟨a1, rfl, rfl, rfl, w1⟩ := open_string Tryz.underlying9 (hval 1 9 v1 rfl rfl) h1
  obtain ⟨a2, rfl, rfl, rfl, w2⟩ := open_string Tryz.underlying9 (hval 2 9 v2 rfl rfl) h2
  obtain ⟨a3, rfl, rfl, rfl, w3⟩ := open_string Tryz.underlying9 (hval 3 9 v3 rfl rfl) h3
  clear hA0
  refine (passwordWalk a0 a1 a2 a3 W (step_cells hL) (start_cells hL)).mono fun e W' ⟨he, bel⟩ => ?_
  subst he
  exact ⟨_, rfl, _, _, _, [], _, [], hW', trodAll_mk1 (shut_bool Tryz.underlying4 _), (trodAll_cons_mk (shut_string Tryz.underlying9 w0) (trodAll_cons_mk (shut_string Tryz.underlying9 w1) (trodAll_cons_mk (shut_string Tryz.underlying9 w2) (trodAll_cons_mk (shut_string Tryz.underlying9 w3) trodAll_mk0)))), rfl, bel.frame _, fun h => by cases h⟩

/-- A table's cells, laid. -/
def layTab (xs : List Nat) : Obj → Obj
  | .cells _ t frozen => .cells (vals .u32 xs).toArray t frozen
  | o => o
/-- For the witness: a world, the two tables holding what their initialisers lay. -/
def laying (W : World) : World :=
  { W with heap := (W.heap.modify 0 (layTab hWords)).modify 1 (layTab kWords) }
theorem laid_met (os : Os) : laidMet Tryz.prog Rows.passwordRow.laid ((laying (World.holding Tryz.prog os ⟨#[], #[], []⟩)).forCall (fun _ _ => 0) ⟨#[], #[.string ByteArray.empty, .string ByteArray.empty, .string ByteArray.empty, .string ByteArray.empty], []⟩).memory :=
  laidMet_of_run' 8 (by kernel_rfl) (by kernel_rfl)
theorem reads (os : Os) {H : Type} (enc : TypeId × Value → H) : ∃ places, DataW.whole enc Tryz.prog ((laying (World.holding Tryz.prog os ⟨#[], #[], []⟩)).forCall (fun _ _ => 0) ⟨#[], #[.string ByteArray.empty, .string ByteArray.empty, .string ByteArray.empty, .string ByteArray.empty], []⟩).memory Tryz.f6.params.toList Rows.passwordSpec.vars false #[Value.string ByteArray.empty, Value.string ByteArray.empty, Value.string ByteArray.empty, Value.string ByteArray.empty].toList 8 = some ([.lit (.string []), .lit (.string []), .lit (.string []), .lit (.string [])], [], places) :=
  ⟨[], by kernel_rfl⟩

set_option maxRecDepth 100000 in
theorem lifted (os : Os) (started : os.Started) (H : Type) (enc : TypeId × Value → H) (F : Stop.Interp) :
    ReturnsInHanded {} Tryz.checked os 6 .any ((OpenSpec.ofChange Rows.passwordSpec).preRow enc Tryz.prog Tryz.f6 Rows.passwordRow.domain false Rows.passwordRow.laid) (((OpenSpec.ofChange Rows.passwordSpec).at F).post enc Tryz.prog Tryz.f6 false true false false) := by
  obtain ⟨places, hx⟩ := reads os enc
  refine returnsInHanded_of_row (C := Tryz.checked) (s := OpenSpec.ofChange Rows.passwordSpec) own started (by kernel_rfl) Tryz.func6
    (witness_row_at (enc := enc) (C := Tryz.checked) false (laying (World.holding Tryz.prog os ⟨#[], #[], []⟩)) #[.string ByteArray.empty, .string ByteArray.empty, .string ByteArray.empty, .string ByteArray.empty] rfl (by kernel_rfl) (by kernel_rfl) (by kernel_rfl)
      (OpenSpec.preRow_of_cond 8 hx (by kernel_rfl) (fun k hk => by cases hk) (by kernel_rfl) (laid_met os))) ?_
  intro W base args ds gs before hval hW _ _ _ hL _ _
  exact contract H enc W base args ds gs before hval hW hL

theorem said : Rows.PasswordSaid :=
  OpenClaim.holds_of_cond 6 Tryz.f6 rfl rfl rfl rfl rfl rfl rfl ⟨rfl, rfl, rfl, rfl, rfl⟩ rfl rfl rfl rfl rfl (by kernel_rfl) Tryz.func6 (by kernel_rfl)
    (of_decide_eq_true (by kernel_rfl)) (by unfold Func.isWrapper; first | (rw [if_pos (by decide +kernel)]; kernel_rfl) | (rw [if_neg (by decide +kernel)]; exact ⟨rfl, rfl⟩))
    (fun os started H enc _ F => by rw [OpenClaim.pre_eq_preRow]; exact lifted os started H enc F)

theorem plain (f : FuncId) (fn : Func) (hf : Tryz.pinned.checked.prog.funcNamed "keystore/keystorekeep.Password" = some f) (hfn : Tryz.pinned.checked.prog.funcs[f]? = some fn) :
    false = Tryz.pinned.checked.prog.looks [] ∧ ∀ (j : Nat) t, fn.params[j]? = some t → Tryz.pinned.checked.prog.wantsStandIn t = false := by
  obtain rfl : f = 6 := Option.some.inj ((show Tryz.prog.funcNamed "keystore/keystorekeep.Password" = some 6 by kernel_rfl).symm.trans hf) |>.symm
  obtain rfl : fn = Tryz.f6 := (Option.some.inj (Tryz.func6.symm.trans hfn)).symm
  refine ⟨by kernel_rfl, fun j t ht => ?_⟩
  rw [Tryz.params6] at ht
  have hm : t ∈ [9, 9, 9, 9] := by simpa using Array.mem_of_getElem? ht
  have hall : ([9, 9, 9, 9].all fun u => !Tryz.prog.wantsStandIn u) = true := by kernel_rfl
  exact (show Tryz.prog.wantsStandIn t = false by simpa using List.all_eq_true.1 hall t hm)
end Go.Proofs.YtjnhlkaafnaooabGreatDoor.password

namespace Go.Proofs.YtjnhlkaafnaooabGreatDoor
/-- The tied card. -/
theorem password_card : Rows.PasswordCardSaid :=
  Claim7.holds_tied_plain_at .later [] _ _ _ _ password.said (fun _ h => by cases h) (by kernel_rfl) (fun _ h => by cases h) password_row_tie rfl ⟨rfl, rfl⟩ (by kernel_rfl) rfl password.plain (by kernel_rfl)
#print axioms password_card
end Go.Proofs.YtjnhlkaafnaooabGreatDoor
