import Derived.Test.YtjnhlkaafnaooabGreatDoorRmC
import Derived.OrdersHeld
namespace Go.Proofs.YtjnhlkaafnaooabGreatDoor
open Go.RowKit
section
variable {P : Program} {md : Region.Mode} {ops : Array Oper} {Q : Exit → Act → World → Prop} {S : World → Prop}
/-- In every world that meets S this gives v, and a world that meets S. -/
def Gives (P : Program) (S : World → Prop) (m : Sem Next) (v : Value) : Prop :=
  ∀ w, S w → (∃ w', m.run P w = .ok (.value v) w' ∧ S w') ∨ (∃ f args, m.run P w = .ok (.enter f args) w ∧ Calls P f args w fun e w' => e = .returned v ∧ S w')
def YieldsC (P : Program) (ops : Array Oper) (S : World → Prop) (o : Oper) (v : Value) (a : Act) : Prop :=
  (Region.wanted o (yielded ops a.tmps) = true ∧ Gives P S (execOp a.eval o) v) ∨ (Region.wanted o (yielded ops a.tmps) = false ∧ v = undef)
theorem YieldsC.of_same {o : Oper} {v : Value} {a a' : Act} (hy : YieldsC P ops S o v a) (he : execOp a'.eval o = execOp a.eval o)
    (hw : Region.wanted o (yielded ops a'.tmps) = Region.wanted o (yielded ops a.tmps)) : YieldsC P ops S o v a' := by
  unfold YieldsC at *
  rw [he, hw]
  exact hy
theorem YieldsC.wpOp {i : Nat} {o : Oper} {v : Value} {a : Act} (hi : ops[i]? = some o) (hy : YieldsC P ops S o v a)
    {K : Act → World → Prop} {w : World} (hS : S w) (h : ∀ w', S w' → K (a.put o.dst v) w') : wpOp P ops Q i K a w := by
  unfold Go.wpOp
  simp only [hi]
  rcases hy with ⟨hw, hv⟩ | ⟨hw, rfl⟩
  · simp only [hw, if_true]
    refine .inl ?_
    unfold Oper.wp
    rcases hv w hS with ⟨w', hr, hS'⟩ | ⟨f, args, hr, hc⟩
    · rw [hr, Oper.upon_value]; exact h w' hS'
    · rw [hr, Oper.upon_enter]
      refine hc.mono ?_
      rintro e w' ⟨rfl, hS'⟩
      exact h w' hS'
  · simp only [hw, Bool.false_eq_true, if_false]; exact h w hS
/-- One order, told once, in which each operation gives its value whatever world it meets. -/
def OneWalk (P : Program) (md : Region.Mode) (ops : Array Oper) (Q : Exit → Act → World → Prop) (S : World → Prop) : Nat → Array Bool → Act → Prop
  | 0, listed, a => Region.ready md ops listed = [] ∧ ∀ w, S w → Q .normal a w
  | fuel + 1, listed, a => (Region.ready md ops listed = [] ∧ ∀ w, S w → Q .normal a w) ∨
      ∃ i oi v, ops[i]? = some oi ∧
        (∀ j oj, ops[j]? = some oj → j ≠ i → listed.getD j true = false → (∀ e ∈ oj.after, Region.binds md e = true → e.on ≠ i) → oi.apart ops oj = true) ∧
        i ∈ Region.ready md ops listed ∧ YieldsC P ops S oi v a ∧ OneWalk P md ops Q S fuel (listed.setIfInBounds i true) (a.put oi.dst v)
theorem OneWalk.done {fuel : Nat} {listed : Array Bool} {a : Act} (hr : Region.ready md ops listed = []) (h : ∀ w, S w → Q .normal a w) : OneWalk P md ops Q S fuel listed a := by
  cases fuel with
  | zero => exact ⟨hr, h⟩
  | succ fuel => exact .inl ⟨hr, h⟩
theorem OneWalk.take {fuel : Nat} {listed : Array Bool} {a : Act} (i : Nat) (oi : Oper) (v : Value) (hi : ops[i]? = some oi)
    (hfree : ∀ j oj, ops[j]? = some oj → j ≠ i → listed.getD j true = false → (∀ e ∈ oj.after, Region.binds md e = true → e.on ≠ i) → oi.apart ops oj = true)
    (hr : i ∈ Region.ready md ops listed) (hy : YieldsC P ops S oi v a) (h : OneWalk P md ops Q S fuel (listed.setIfInBounds i true) (a.put oi.dst v)) : OneWalk P md ops Q S (fuel + 1) listed a :=
  .inr ⟨i, oi, v, hi, hfree, hr, hy, h⟩
theorem OneWalk.swap (hsel : ∀ (j : Nat) (o : Oper) cs b, ops[j]? = some o → o.op ≠ .select cs b) :
    ∀ (fuel : Nat) (listed : Array Bool) (a : Act), OneWalk P md ops Q S fuel listed a → ∀ j, j ∈ Region.ready md ops listed → ∃ fuel' oj v, fuel = fuel' + 1 ∧ ops[j]? = some oj ∧ YieldsC P ops S oj v a ∧ OneWalk P md ops Q S fuel' (listed.setIfInBounds j true) (a.put oj.dst v) := by
  intro fuel
  induction fuel with
  | zero =>
    intro listed a W j hj
    rw [W.1] at hj; cases hj
  | succ fuel ih =>
    intro listed a W j hj
    rcases W with ⟨hr, _⟩ | ⟨i, oi, v, hi, hfree, hr, hy, h⟩
    · rw [hr] at hj; cases hj
    · by_cases hji : j = i
      · subst hji; exact ⟨fuel, oi, v, rfl, hi, hy, h⟩
      · obtain ⟨fuel', oj, u, hf, hoj, hyj, W'⟩ := ih _ _ h j (ready_mono hj hji)
        obtain ⟨hjun, oj', hoj', hall⟩ := mem_ready.1 hj
        rw [hoj] at hoj'
        cases hoj'
        have hnot : ∀ e ∈ oj.after, Region.binds md e = true → e.on ≠ i := fun e he hb heq => by
          have h1 := hall e he hb
          have h0 := (mem_ready.1 hr).1
          rw [heq] at h1
          rcases Nat.lt_or_ge i listed.size with h' | h'
          · simp [h'] at h0 h1; rw [h0] at h1; cases h1
          · simp [Array.getElem?_eq_none h'] at h1
        have hap := hfree j oj hoj hji hjun hnot
        obtain ⟨h1, h2, h3⟩ := Oper.apart_spec hap
        have hyj' : YieldsC P ops S oj u a := hyj.of_same (execOp_put oj (fun cs b => hsel j oj cs b hoj) a oi.dst v h1).symm (wanted_put oj a oi.dst v h1).symm
        have hyi' : YieldsC P ops S oi v (a.put oj.dst u) := hy.of_same (execOp_put oi (fun cs b => hsel i oi cs b hi) a oj.dst u h3) (wanted_put oi a oj.dst u h3)
        have hfree' : ∀ k ok, ops[k]? = some ok → k ≠ i → (listed.setIfInBounds j true).getD k true = false →
            (∀ e ∈ ok.after, Region.binds md e = true → e.on ≠ i) → oi.apart ops ok = true := fun k ok hk hki hun hno => by
          refine hfree k ok hk hki ?_ hno
          by_cases hjk : j = k
          · subst hjk; exact hjun
          · rw [getD_set_ne true hjk] at hun; exact hun
        subst hf
        refine ⟨fuel' + 1, oj, u, rfl, hoj, hyj', OneWalk.take i oi v hi hfree' (ready_mono hr (Ne.symm hji)) hyi' ?_⟩
        rw [Array.setIfInBounds_comm _ _ hji, ← Act.put_comm a v u h2]
        exact W'
theorem OneWalk.any (hsel : ∀ (j : Nat) (o : Oper) cs b, ops[j]? = some o → o.op ≠ .select cs b) :
    ∀ (fuel : Nat) (listed : Array Bool) (a : Act), OneWalk P md ops Q S fuel listed a → ∀ w, S w → wpAny P md ops Q fuel listed a w := by
  intro fuel
  induction fuel with
  | zero =>
    intro listed a W w hS
    exact ⟨W.1, W.2 w hS⟩
  | succ fuel ih =>
    intro listed a W w hS
    refine ⟨fun hr => ?_, fun j hj => ?_⟩
    · rcases W with ⟨_, h⟩ | ⟨i, oi, v, hi, hfree, hr', hy, h⟩
      · exact h w hS
      · rw [hr] at hr'; cases hr'
    · obtain ⟨fuel', oj, u, hf, hoj, hyj, W'⟩ := OneWalk.swap hsel _ _ _ W j hj
      cases hf
      exact hyj.wpOp hoj hS (fun w' hS' => ih _ _ W' w' hS')
/-- A region that draws its order, by one walk. -/
theorem wp_region_one {id : Nat} {a : Act} {w : World} (S : World → Prop) (hm : P.follows .mixedOrders = true) (hs : Region.noSelect ops = true) (hS : S w.drew)
    (h : OneWalk P .any ops Q S ops.size (Array.replicate ops.size false) a) : (Code.region id ops true).wp P Q a w :=
  wp_region_any hm (OneWalk.any (Region.noSelect_spec hs) _ _ _ h _ hS)
theorem one_take {fuel : Nat} {listed : Array Bool} {a : Act} (i : Nat) {oi : Oper} {d : Tmp} (v : Value) (hi : ops[i]? = some oi) (hf : Region.free md ops listed i = true) (hr : (Region.ready md ops listed).contains i = true)
    (hw : Region.wanted oi (yielded ops a.tmps) = true) (hd : oi.dst = some d) (hy : Gives P S (execOp a.eval oi) v) (h : OneWalk P md ops Q S fuel (listed.setIfInBounds i true) (a.put (some d) v)) : OneWalk P md ops Q S (fuel + 1) listed a :=
  OneWalk.take i oi v hi (Region.free_spec hi hf) (by simpa using hr) (.inl ⟨hw, hy⟩) (hd ▸ h)
theorem gives_pure {m : Sem Next} {v : Value} (h : ∀ w, m.run P w = .ok (.value v) w) : Gives P S m v := fun w hS => .inl ⟨w, h w, hS⟩
theorem gives_read {m : Sem Next} {v : Value} (h : ∀ w, S w → m.run P w = .ok (.value v) w) : Gives P S m v := fun w hS => .inl ⟨w, h w hS, hS⟩
theorem gives_call {m : Sem Next} {v : Value} (f : FuncId) (args : Array Value) (hr : ∀ w, m.run P w = .ok (.enter f args) w) (hc : ∀ w, S w → Calls P f args w fun e w' => e = .returned v ∧ S w') : Gives P S m v := fun w hS => .inr ⟨f, args, hr w, hc w hS⟩
end
theorem run_add (oi : Oper) (a : Act) (x y : Operand) (U : TypeId) (X Y : List UInt8) (ho : oi.op = .binOp .add 9 x y U) (hx : a.eval x = .string ⟨X.toArray⟩) (hy : a.eval y = .string ⟨Y.toArray⟩) (hl : X.length + Y.length ≤ 9223372036854775807) (w : World) :
    (execOp a.eval oi).run Tryz.prog w = .ok (.value (.string ⟨(X ++ Y).toArray⟩)) w := by
  have hadd := add_str X Y hl w
  unfold execOp
  simp only [ho, hx, hy]
  clear hx hy ho
  go_simp
theorem run_load_str (oi : Oper) (a : Act) (x : Operand) (b o : Nat) (v : Value) (ho : oi.op = .load 9 x) (hx : a.eval x = .pointer (some ⟨b, o, none⟩)) (w : World) (hc : w.cell? ⟨b, o, none⟩ = some v) :
    (execOp a.eval oi).run Tryz.prog w = .ok (.value v) w := by
  unfold execOp
  simp only [ho, hx]
  clear hx ho
  go_simp
theorem run_load_int (oi : Oper) (a : Act) (x : Operand) (b o : Nat) (v : Value) (ho : oi.op = .load 3 x) (hx : a.eval x = .pointer (some ⟨b, o, none⟩)) (w : World) (hc : w.cell? ⟨b, o, none⟩ = some v) :
    (execOp a.eval oi).run Tryz.prog w = .ok (.value v) w := by
  unfold execOp
  simp only [ho, hx]
  clear hx ho
  go_simp
theorem run_load_mac (oi : Oper) (a : Act) (x : Operand) (b o : Nat) (v : Value) (ho : oi.op = .load 62 x) (hx : a.eval x = .pointer (some ⟨b, o, none⟩)) (w : World) (hc : w.cell? ⟨b, o, none⟩ = some v) :
    (execOp a.eval oi).run Tryz.prog w = .ok (.value v) w := by
  unfold execOp
  simp only [ho, hx]
  clear hx ho
  go_simp
theorem run_load_key (oi : Oper) (a : Act) (x : Operand) (b o : Nat) (v : Value) (ho : oi.op = .load 63 x) (hx : a.eval x = .pointer (some ⟨b, o, none⟩)) (w : World) (hc : w.cell? ⟨b, o, none⟩ = some v) :
    (execOp a.eval oi).run Tryz.prog w = .ok (.value v) w := by
  unfold execOp
  simp only [ho, hx]
  clear hx ho
  go_simp
theorem run_lss (oi : Oper) (a : Act) (x y : Operand) (U : TypeId) (i j : Int) (r : Bool) (ho : oi.op = .binOp .lss 3 x y U) (hx : a.eval x = .int .i64 i) (hy : a.eval y = .int .i64 j) (hr : decide (i < j) = r) (w : World) :
    (execOp a.eval oi).run Tryz.prog w = .ok (.value (.bool r)) w := by
  subst hr
  unfold execOp
  simp only [ho, hx, hy]
  clear hx hy ho
  go_simp
theorem run_geq (oi : Oper) (a : Act) (x y : Operand) (U : TypeId) (i j : Int) (r : Bool) (ho : oi.op = .binOp .geq 3 x y U) (hx : a.eval x = .int .i64 i) (hy : a.eval y = .int .i64 j) (hr : decide (j ≤ i) = r) (w : World) :
    (execOp a.eval oi).run Tryz.prog w = .ok (.value (.bool r)) w := by
  subst hr
  unfold execOp
  simp only [ho, hx, hy]
  clear hx hy ho
  go_simp
theorem run_gtr (oi : Oper) (a : Act) (x y : Operand) (U : TypeId) (i j : Int) (r : Bool) (ho : oi.op = .binOp .gtr 3 x y U) (hx : a.eval x = .int .i64 i) (hy : a.eval y = .int .i64 j) (hr : decide (j < i) = r) (w : World) :
    (execOp a.eval oi).run Tryz.prog w = .ok (.value (.bool r)) w := by
  subst hr
  unfold execOp
  simp only [ho, hx, hy]
  clear hx hy ho
  go_simp
theorem run_leq (oi : Oper) (a : Act) (x y : Operand) (U : TypeId) (i j : Int) (r : Bool) (ho : oi.op = .binOp .leq 3 x y U) (hx : a.eval x = .int .i64 i) (hy : a.eval y = .int .i64 j) (hr : decide (i ≤ j) = r) (w : World) :
    (execOp a.eval oi).run Tryz.prog w = .ok (.value (.bool r)) w := by
  subst hr
  unfold execOp
  simp only [ho, hx, hy]
  clear hx hy ho
  go_simp
theorem run_load_vault (oi : Oper) (a : Act) (x : Operand) (b o : Nat) (v : Value) (ho : oi.op = .load 30 x) (hx : a.eval x = .pointer (some ⟨b, o, none⟩)) (w : World) (hc : w.cell? ⟨b, o, none⟩ = some v) :
    (execOp a.eval oi).run Tryz.prog w = .ok (.value v) w := by
  unfold execOp
  simp only [ho, hx]
  clear hx ho
  go_simp
theorem run_load_disk (oi : Oper) (a : Act) (x : Operand) (b o : Nat) (v : Value) (ho : oi.op = .load 29 x) (hx : a.eval x = .pointer (some ⟨b, o, none⟩)) (w : World) (hc : w.cell? ⟨b, o, none⟩ = some v) :
    (execOp a.eval oi).run Tryz.prog w = .ok (.value v) w := by
  unfold execOp
  simp only [ho, hx]
  clear hx ho
  go_simp
theorem run_to (oi : Oper) (a : Act) (x : Operand) (n : Nat) (X : List UInt8) (ho : oi.op = .slice 9 x none (some (.const (.int .i64 n))) none) (hx : a.eval x = .string ⟨X.toArray⟩) (hn : n ≤ X.length) (hl : X.length ≤ 100000) (w : World) :
    (execOp a.eval oi).run Tryz.prog w = .ok (.value (.string ⟨(X.take n).toArray⟩)) w := by
  have hs : (ByteArray.mk X.toArray).size = X.length := rfl
  have he : (ByteArray.mk X.toArray).extract 0 n = ⟨(X.take n).toArray⟩ := by rw [ByteArray.extract_mk]; simp
  have hni : (n : Int) ≤ (X.length : Int) := by omega
  have hli : (X.length : Int) ≤ 100000 := by omega
  generalize X.length = L at *
  unfold execOp
  simp only [ho, hx]
  clear hx ho
  go_simp
theorem run_from (oi : Oper) (a : Act) (x : Operand) (n : Nat) (X : List UInt8) (ho : oi.op = .slice 9 x (some (.const (.int .i64 n))) none none) (hx : a.eval x = .string ⟨X.toArray⟩) (hn : n ≤ X.length) (hl : X.length ≤ 100000) (w : World) :
    (execOp a.eval oi).run Tryz.prog w = .ok (.value (.string ⟨(X.drop n).toArray⟩)) w := by
  have hs : (ByteArray.mk X.toArray).size = X.length := rfl
  have he : (ByteArray.mk X.toArray).extract n X.length = ⟨(X.drop n).toArray⟩ := by rw [ByteArray.extract_mk, List.take_of_length_le (by simp)]
  have hni : (n : Int) ≤ (X.length : Int) := by omega
  have hli : (X.length : Int) ≤ 100000 := by omega
  generalize X.length = L at *
  unfold execOp
  simp only [ho, hx]
  clear hx ho
  go_simp
end Go.Proofs.YtjnhlkaafnaooabGreatDoor
