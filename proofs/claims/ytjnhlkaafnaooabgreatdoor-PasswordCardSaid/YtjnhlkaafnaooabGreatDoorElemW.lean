import Derived.Test.YtjnhlkaafnaooabGreatDoorRmA
import Derived.Test.YtjnhlkaafnaooabGreatDoorRmB
namespace Go.Proofs.YtjnhlkaafnaooabGreatDoor
open Go.RowKit
/-- An element as the program has it. -/
def elA (e : Nat) : Array Value := #[.int .u64 ((e / 2 ^ 64 : Nat) : Int), .int .u64 ((e % 2 ^ 64 : Nat) : Int)]
theorem range_block {w : World} {b : Nat} {t : TypeId} {fr : Nat × Nat} {c : Array Value} (h : w.heap[b]? = some (.cells c t fr)) : w.rangeAt b 0 c.toList := by
  intro j v hv
  rw [Nat.zero_add, cell_of_row _ _ _ _ _ _ h]
  simpa using hv
theorem infoEl (x y : Value) : (Tryz.prog.info? 204).map (·.size) = some [x, y].length := by kernel_rfl
/-- The answer of a function whose answer is an element. -/
theorem results_el {fn : Func} {p : Tmp} (h : fn.results = #[.cell p 204]) (tmps : Array Value) (w : World) (b : Nat) (x y : Value) {t : TypeId} {fr : Nat × Nat}
    (hp : tmps.getD p undef = .pointer (some ⟨b, 0, none⟩)) (hc : w.heap[b]? = some (.cells #[x, y] t fr)) : (results fn tmps).run Tryz.prog w = .ok (.agg #[x, y]) w :=
  results_cell_mid h tmps w b 0 [x, y] _ hp (range_block hc) Tryz.underlying204 rfl (infoEl x y)
theorem heap_new1 (w : World) (o p : Obj) : ((w.alloc o).alloc p).heap[w.heap.size + 1]? = some p := by
  have := heap_alloc_new (w.alloc o) p
  simpa using this
theorem heap_new2 (w : World) (o p q : Obj) : (((w.alloc o).alloc p).alloc q).heap[w.heap.size + 1 + 1]? = some q := by
  have := heap_alloc_new ((w.alloc o).alloc p) q
  simpa using this
theorem heap_old1 (w : World) (o p q : Obj) : (((w.alloc o).alloc p).alloc q).heap[w.heap.size + 1]? = some p := by
  rw [Below.heap_alloc _ _ _ (by simp)]; exact heap_new1 w o p
theorem below3 (w : World) (o p q : Obj) : Below w.heap.size w (((w.alloc o).alloc p).alloc q) := (((Below.refl _ _).alloc (Nat.le_refl _) _).alloc (by simp) _).alloc (by simp; omega) _
theorem wrap_u64_mod (n : Nat) : IntKind.u64.wrap (n : Int) = ((n % 18446744073709551616 : Nat) : Int) := by
  simp [IntKind.wrap, IntKind.bits, IntKind.signed]
set_option maxRecDepth 100000 in
set_option maxHeartbeats 1000000 in
theorem plus_any (a b : Nat) (w : World) (ha : a < 2 ^ 128) (hb : b < 2 ^ 128) :
    Calls Tryz.prog 153 #[.agg (elA a), .agg (elA b)] w fun e w' => e = .returned (.agg (elA (a ^^^ b))) ∧ Below w.heap.size w w' := by
  unfold elA
  have h1 : a / 2 ^ 64 < 18446744073709551616 := by omega
  have h2 : b / 2 ^ 64 < 18446744073709551616 := by omega
  have h3 : a % 2 ^ 64 < 18446744073709551616 := Nat.mod_lt _ (by decide)
  have h4 : b % 2 ^ 64 < 18446744073709551616 := Nat.mod_lt _ (by decide)
  have x1 := u64_xor_nat _ _ h1 h2
  have x2 := u64_xor_nat _ _ h3 h4
  rw [xor_hi, xor_lo]
  generalize a / 2 ^ 64 = ah at *
  generalize b / 2 ^ 64 = bh at *
  generalize a % 2 ^ 64 = al at *
  generalize b % 2 ^ 64 = bl at *
  clear h1 h2 h3 h4
  go_enter Tryz.func153, Tryz.ntmps153
  go_wp2_with fail
  exact bodyPost_ret (results_el Tryz.results153 _ _ _ _ _ rfl (heap_new2 w _ _ _)) rfl ⟨rfl, below3 w _ _ _⟩
set_option maxRecDepth 100000 in
set_option maxHeartbeats 1000000 in
theorem gshifted_any (a : Nat) (w : World) (ha : a < 2 ^ 128) :
    Calls Tryz.prog 160 #[.agg (elA a)] w fun e w' => e = .returned (.agg (elA (sh a))) ∧ Below w.heap.size w w' := by
  unfold elA
  have h1 : a / 2 ^ 64 < 18446744073709551616 := by omega
  have h3 : a % 2 ^ 64 < 18446744073709551616 := Nat.mod_lt _ (by decide)
  rw [sh_hi, sh_lo]
  generalize a / 2 ^ 64 = ah at *
  generalize a % 2 ^ 64 = al at *
  clear ha
  have hm : ah % 2 * 9223372036854775808 < 18446744073709551616 := by omega
  have hw : IntKind.u64.wrap ((ah : Int) * 9223372036854775808) = ((ah % 2 * 9223372036854775808 : Nat) : Int) := by
    rw [show (ah : Int) * 9223372036854775808 = ((ah * 9223372036854775808 : Nat) : Int) by simp, wrap_u64_mod]
    congr 1; omega
  have hor : bits .or .u64 ((ah % 2 * 9223372036854775808 : Nat) : Int) ((al : Int) / 2) = ((ah % 2 * 9223372036854775808 ||| al / 2 : Nat) : Int) := by
    rw [show (al : Int) / 2 = ((al / 2 : Nat) : Int) by omega]
    exact u64_or_nat _ _ hm (by omega)
  have hand : bits .and .u64 (al : Int) 1 = ((al % 2 : Nat) : Int) := by
    have := u64_and_nat al 1 h3 (by decide)
    rw [Nat.and_one_is_mod] at this
    exact this
  have hxor : bits .xor .u64 ((ah : Int) / 2) 16212958658533785600 = ((ah / 2 ^^^ 16212958658533785600 : Nat) : Int) := by
    rw [show (ah : Int) / 2 = ((ah / 2 : Nat) : Int) by omega]
    exact u64_xor_nat _ 16212958658533785600 (by omega) (by decide)
  have hp : (2 : Nat) ^ 63 = 9223372036854775808 := rfl
  have hq : 225 * (2 : Nat) ^ 56 = 16212958658533785600 := rfl
  rw [hp, hq]
  clear h1 h3 hm hp hq
  generalize ah % 2 * 9223372036854775808 ||| al / 2 = lo at *
  generalize ah % 2 * 9223372036854775808 = mm at *
  by_cases ht : al % 2 = 1
  · rw [if_pos ht]
    rw [ht] at hand
    have hand' : bits .and .u64 (al : Int) 1 = 1 := hand
    clear hand ht
    generalize ah / 2 ^^^ 16212958658533785600 = hi at *
    go_enter Tryz.func160, Tryz.ntmps160
    go_wp2_with fail
    exact bodyPost_ret (results_el Tryz.results160 _ _ _ _ _ rfl (heap_old1 w _ _ _)) rfl ⟨rfl, below3 w _ _ _⟩
  · rw [if_neg ht]
    have h0 : al % 2 = 0 := by omega
    rw [h0] at hand
    have hand' : bits .and .u64 (al : Int) 1 = 0 := hand
    clear hand ht h0 hxor
    go_enter Tryz.func160, Tryz.ntmps160
    go_wp2_with fail
    exact bodyPost_ret (results_el Tryz.results160 _ _ _ _ _ rfl (heap_old1 w _ _ _)) rfl ⟨rfl, below3 w _ _ _⟩
/-- A block that holds an element. -/
def El (w : World) (b e : Nat) : Prop := w.heap[b]? = some (.cells (elA e) 204 (0, 0))
theorem El.lt {w : World} {b e : Nat} (h : El w b e) : b < w.heap.size := lt_of_block h
theorem El.hi {w : World} {b e : Nat} (h : El w b e) : w.cell? ⟨b, 0, none⟩ = some (.int .u64 ((e / 2 ^ 64 : Nat) : Int)) := cell_of_row _ _ _ _ _ _ h
theorem El.lo {w : World} {b e : Nat} (h : El w b e) : w.cell? ⟨b, 1, none⟩ = some (.int .u64 ((e % 2 ^ 64 : Nat) : Int)) := cell_of_row _ _ _ _ _ _ h
theorem El.frozen {w : World} {b e : Nat} (h : El w b e) (i : Nat) : w.frozen? ⟨b, i, none⟩ = false := by
  have : w.rowIs b 204 2 (fun i => (elA e).getD i undef) := ⟨elA e, h, rfl, fun i hi => by
    match i, hi with
    | 0, _ => rfl
    | 1, _ => rfl⟩
  exact World.rowIs.frozen this i
theorem El.range {w : World} {b e : Nat} (h : El w b e) : w.rangeAt b 0 (elA e).toList := range_block h
theorem El.there {w : World} {b e : Nat} (h : El w b e) : w.there b 0 2 := by
  intro j hj
  refine ⟨?_, h.frozen _⟩
  match j, hj with
  | 0, _ => rw [h.hi]; rfl
  | 1, _ => rw [h.lo]; rfl
theorem El.of_block {w w' : World} {b e : Nat} (h : El w b e) (hb : w'.heap[b]? = w.heap[b]?) : El w' b e := hb.trans h
theorem El.below {w w' : World} {b e B : Nat} (h : El w b e) (hb : Below B w w') (hB : b < B) : El w' b e := h.of_block (hb.block b hB)
theorem setCells_full {w : World} {b : Nat} {t : TypeId} {c : Array Value} (h : w.heap[b]? = some (.cells c t (0, 0))) (vs : List Value) (hl : c.size = vs.length) : (w.setCells b 0 vs).heap[b]? = some (.cells vs.toArray t (0, 0)) := by
  obtain ⟨c', h1, h2⟩ := setCells_same b t vs 0 w c h
  have e : c' = vs.toArray := by
    apply Array.ext'
    apply List.ext_getElem?
    intro i
    have hcell : (w.setCells b 0 vs).cell? ⟨b, i, none⟩ = c'[i]? := cell_of_row _ _ _ _ _ _ h1
    by_cases hi : i < vs.length
    · have hin := World.cell?_setCells_in b vs 0 w (fun k hk => by rw [Nat.zero_add, cell_of_row _ _ _ _ _ _ h]; simp [hl, hk]) i hi
      rw [Nat.zero_add, hcell] at hin
      simp [hin, List.getElem?_eq_getElem hi]
    · simp [Array.getElem?_eq_none (by omega : c'.size ≤ i), List.getElem?_eq_none (by omega : vs.length ≤ i)]
  rw [h1, e]
theorem El.store {w : World} {b e : Nat} (h : El w b e) (e' : Nat) : El (w.setCells b 0 (elA e').toList) b e' := setCells_full h (elA e').toList rfl
theorem El.other {w : World} {b c e : Nat} (h : El w b e) (vs : List Value) (hc : b ≠ c) : El (w.setCells c 0 vs) b e := h.of_block ((setCells_block c vs 0 w).2.2.2.2 b hc)
theorem infoElA (e : Nat) : (Tryz.prog.info? 204).map (·.size) = some (elA e).toList.length := by kernel_rfl
theorem infoElA' (e : Nat) : (Tryz.prog.info? 204).map (·.size) = some (elA e).size := by kernel_rfl
theorem elA_one (e : Nat) : (elA e).all (·.oneCell') = true := all_oneCell_toArray (cs := (elA e).toList) (by intro v hv; simp [elA] at hv; rcases hv with rfl | rfl <;> rfl)
theorem elA_list (e : Nat) : (elA e).toList.toArray = elA e := rfl
/-- In mid-product. -/
structure TM (w : World) (a b z : Nat) (wr : World) : Prop where
  ha : El wr w.heap.size a
  hb : El wr (w.heap.size + 1) b
  hr : ∃ e, El wr (w.heap.size + 1 + 1) e
  hz : El wr (w.heap.size + 1 + 1 + 1) z
  bel : Below w.heap.size w wr
theorem TM.lt {w : World} {a b z : Nat} {wr : World} (h : TM w a b z wr) : w.heap.size + 1 + 1 + 1 < wr.heap.size := h.hz.lt
theorem TM.below {w : World} {a b z : Nat} {wr wr' : World} (h : TM w a b z wr) (hb : Below wr.heap.size wr wr') : TM w a b z wr' := by
  have hl := h.lt
  obtain ⟨e, he⟩ := h.hr
  exact ⟨h.ha.below hb (by omega), h.hb.below hb (by omega), ⟨e, he.below hb (by omega)⟩, h.hz.below hb hl, h.bel.trans (hb.mono (by omega))⟩
theorem TM.setA {w : World} {a b z : Nat} {wr : World} (h : TM w a b z wr) (x : Nat) : TM w x b z (wr.setCells w.heap.size 0 (elA x).toList) := by
  obtain ⟨e, he⟩ := h.hr
  exact ⟨h.ha.store x, h.hb.other _ (by omega), ⟨e, he.other _ (by omega)⟩, h.hz.other _ (by omega), h.bel.trans (below_setCells _ _ _ _ _ (Nat.le_refl _))⟩
theorem TM.setB {w : World} {a b z : Nat} {wr : World} (h : TM w a b z wr) (x : Nat) : TM w a x z (wr.setCells (w.heap.size + 1) 0 (elA x).toList) := by
  obtain ⟨e, he⟩ := h.hr
  exact ⟨h.ha.other _ (by omega), h.hb.store x, ⟨e, he.other _ (by omega)⟩, h.hz.other _ (by omega), h.bel.trans (below_setCells _ _ _ _ _ (by omega))⟩
theorem TM.setZ {w : World} {a b z : Nat} {wr : World} (h : TM w a b z wr) (x : Nat) : TM w a b x (wr.setCells (w.heap.size + 1 + 1 + 1) 0 (elA x).toList) := by
  obtain ⟨e, he⟩ := h.hr
  exact ⟨h.ha.other _ (by omega), h.hb.other _ (by omega), ⟨e, he.other _ (by omega)⟩, h.hz.store x, h.bel.trans (below_setCells _ _ _ _ _ (by omega))⟩
theorem heap_new3 (w : World) (o p q r : Obj) : ((((w.alloc o).alloc p).alloc q).alloc r).heap[w.heap.size + 1 + 1 + 1]? = some r := by
  have := heap_alloc_new (((w.alloc o).alloc p).alloc q) r
  have e : (((w.alloc o).alloc p).alloc q).heap.size = w.heap.size + 1 + 1 + 1 := by simp
  rwa [e] at this
theorem TM.start (w : World) (a b : Nat) : TM w a b 0 ((((w.alloc (.cells (elA a) 204)).alloc (.cells (elA b) 204)).alloc (.cells #[.int .u64 0, .int .u64 0] 204)).alloc (.cells #[.int .u64 0, .int .u64 0] 204)) := by
  refine ⟨?_, ?_, ⟨0, ?_⟩, ?_, ((((Below.refl _ _).alloc (Nat.le_refl _) _).alloc (by simp) _).alloc (by simp; omega) _).alloc (by simp; omega) _⟩
  · unfold El
    rw [Below.heap_alloc _ _ _ (by simp; omega), Below.heap_alloc _ _ _ (by simp; omega), Below.heap_alloc _ _ _ (by simp)]
    exact heap_alloc_new w _
  · unfold El
    rw [Below.heap_alloc _ _ _ (by simp)]
    exact heap_old1 w _ _ _
  · unfold El
    rw [Below.heap_alloc _ _ _ (by simp)]
    exact heap_new2 w _ _ _
  · exact heap_new3 w _ _ _ _
/-- A store of a whole struct; the world behind it under a name of its own. -/
theorem wpList_store_el {P : Program} {ops : Array Oper} {rest : List Oper} {op : Oper} {a : Act} {w : World} {Q : Exit → Act → World → Prop} (hgd : op.guard = none) (ty : TypeId) (x y : Operand) (ho : op.op = .store ty x y)
    (b o : Nat) (cells : Array Value) (hx : a.eval x = .pointer (some ⟨b, o, none⟩)) (hy : a.eval y = .agg cells)
    (ht : w.there b o cells.size) (hi : (P.info? ty).map (·.size) = some cells.size) (h1 : cells.all (·.oneCell') = true)
    (h : ∀ w', Hid (w' = w.setCells b o cells.toList) → wpList P ops Q rest (a.put op.dst undef) w') : wpList P ops Q (op :: rest) a w :=
  wpList_store_mid hgd ty x y ho b o cells hx hy ht hi h1 (h _ rfl)
theorem top_bit (a k : Nat) (hk : k < 128) : leftN a k / 2 ^ 64 / 9223372036854775808 = if a.testBit (127 - k) then 1 else 0 := by
  rw [← left_bit a k hk]
  have := left_lt a k
  omega
set_option maxRecDepth 100000 in
set_option maxHeartbeats 400000 in
theorem gtimes_any (a b : Nat) (w : World) (ha : a < 2 ^ 128) (hb : b < 2 ^ 128) :
    Calls Tryz.prog 152 #[.agg (elA a), .agg (elA b)] w fun e w' => e = .returned (.agg (elA (dotN a b))) ∧ Below w.heap.size w w' := by
  have HAB := hide (And.intro ha hb)
  have hsa : (elA a).size = 2 := rfl
  have hsb : (elA b).size = 2 := rfl
  have hst := TM.start w a b
  clear ha hb
  generalize hA : elA a = A at *
  generalize hB : elA b = B at *
  have HST := hide hst
  clear hst hA hB
  go_enter Tryz.func152, Tryz.ntmps152
  go_wp2_with fail
  go_loopw [6] (fun i wr => ∃ k : Nat, k ≤ 128 ∧ i = .int .i64 (k : Int) ∧ TM w (leftN a k) (shN b k) (dotTo a b k) wr) (fun i _ => (129 - intOf i).toNat)
  case atStart => exact ⟨0, by omega, rfl, by rw [left_zero a HAB.out.1]; exact HST.out⟩
  case round =>
    clear HST hsa hsb
    obtain ⟨k, hk, rfl, hr⟩ := hrel
    by_cases hlt : k < 128
    · have hki : (k : Int) < 128 := by omega
      have htb := top_bit a k hlt
      have ht : ((leftN a k / 2 ^ 64 : Nat) : Int) / 9223372036854775808 = ((leftN a k / 2 ^ 64 / 9223372036854775808 : Nat) : Int) := by omega
      rw [htb] at ht
      have chi := hr.ha.hi
      have hs1 := left_hi (leftN a k) (left_lt a k)
      have hs2 := left_lo (leftN a k)
      have hl1 : leftN a k / 2 ^ 64 < 18446744073709551616 := by have := left_lt a k; omega
      have hl2 : leftN a k % 2 ^ 64 < 18446744073709551616 := by have := Nat.mod_lt (leftN a k) (show 0 < 2 ^ 64 by decide); omega
      obtain ⟨hi, hhi⟩ : ∃ x, leftN a k / 2 ^ 64 = x := ⟨_, rfl⟩
      obtain ⟨lo, hlo⟩ : ∃ x, leftN a k % 2 ^ 64 = x := ⟨_, rfl⟩
      rw [← left_succ, hhi, hlo] at hs1
      rw [← left_succ, hlo] at hs2
      rw [hhi] at ht chi hl1
      rw [hlo] at hl2
      have w1 : IntKind.u64.wrap ((hi : Int) * 2) = ((hi * 2 % 2 ^ 64 : Nat) : Int) := by
        rw [show (hi : Int) * 2 = ((hi * 2 : Nat) : Int) by simp, wrap_u64_mod]
      have w2 : IntKind.u64.wrap ((lo : Int) * 2) = ((lo * 2 % 2 ^ 64 : Nat) : Int) := by
        rw [show (lo : Int) * 2 = ((lo * 2 : Nat) : Int) by simp, wrap_u64_mod]
      have o1 : bits .or .u64 ((hi * 2 % 2 ^ 64 : Nat) : Int) ((lo : Int) / 9223372036854775808) = ((hi * 2 % 2 ^ 64 ||| lo / 2 ^ 63 : Nat) : Int) := by
        rw [show (lo : Int) / 9223372036854775808 = ((lo / 2 ^ 63 : Nat) : Int) by simp]
        exact u64_or_nat _ _ (Nat.mod_lt _ (by decide)) (by omega)
      rw [← hs1] at o1
      rw [← hs2] at w2
      have HEL := hide (show elA (leftN a (k + 1)) = #[.int .u64 ((leftN a (k + 1) / 2 ^ 64 : Nat) : Int), .int .u64 ((leftN a (k + 1) % 2 ^ 64 : Nat) : Int)] from rfl)
      obtain ⟨hi', hhi'⟩ : ∃ x, leftN a (k + 1) / 2 ^ 64 = x := ⟨_, rfl⟩
      obtain ⟨lo', hlo'⟩ : ∃ x, leftN a (k + 1) % 2 ^ 64 = x := ⟨_, rfl⟩
      rw [hhi'] at o1 HEL
      rw [hlo'] at w2 HEL
      generalize hi * 2 % 2 ^ 64 = m at *
      have HIA : (Tryz.prog.info? 204).map (·.size) = some (#[Value.int .u64 (hi' : Int), .int .u64 (lo' : Int)] : Array Value).size := by kernel_rfl
      have HON : (#[Value.int .u64 (hi' : Int), .int .u64 (lo' : Int)] : Array Value).all (·.oneCell') = true := by rw [← HEL.out]; exact elA_one _
      have HIAh := hide HIA
      have HONh := hide HON
      have HSL := hide (show (elA (leftN a (k + 1))).toList = [.int .u64 (hi' : Int), .int .u64 (lo' : Int)] by rw [HEL.out])
      have HK := hide hlt
      have HHL := hide (And.intro hhi hlo)
      clear hhi hlo htb hlt hk hs1 hs2 hl1 hl2 HIA HON HEL hhi' hlo'
      by_cases hbit : a.testBit (127 - k) = true
      · rw [if_pos hbit] at ht
        have ht' : ((hi : Int) / 9223372036854775808 == 1) = true := by rw [ht]; rfl
        have hzz : dotTo a b (k + 1) = dotTo a b k ^^^ shN b k := by rw [dotTo, if_pos hbit]
        have HRZ := hide hr.hz.range
        have HRB := hide hr.hb.range
        have HR := hide hr
        clear ht hr hbit
        go_wp2_with (first | refine wpList_load_mid rfl 204 _ rfl (w.heap.size + 1 + 1 + 1) 0 rfl (elA (dotTo a b k)).toList _ HRZ.out Tryz.underlying204 rfl (infoElA _) ?_ | refine wpList_load_mid rfl 204 _ rfl (w.heap.size + 1) 0 rfl (elA (shN b k)).toList _ HRB.out Tryz.underlying204 rfl (infoElA _) ?_)
        refine (plus_any (dotTo a b k) (shN b k) _ (dotTo_lt a b k HAB.out.2) (shN_lt b k HAB.out.2)).mono ?_
        rintro e w2 ⟨rfl, hb2⟩
        rw [← hzz]
        have t2 := HR.out.below hb2
        have t3 := t2.setZ (dotTo a b (k + 1))
        have HTZ := hide t2.hz.there
        have HT3 := hide t3
        clear hb2 t2 t3 HR HRZ HRB chi hzz
        go_wp2_with (refine wpList_store_el rfl 204 _ _ rfl (w.heap.size + 1 + 1 + 1) 0 (elA (dotTo a b (k + 1))) rfl rfl HTZ.out (infoElA' _) (elA_one _) ?_)
        intro wz hwz
        have HTM := HT3
        rw [← hwz.out] at HTM
        clear HT3 HTZ hwz
        have ch := HTM.out.ha.hi
        have cl := HTM.out.ha.lo
        rw [HHL.out.1] at ch
        rw [HHL.out.2] at cl
        have HTA := hide HTM.out.ha.there
        go_wp2_with (refine wpList_store_el rfl 204 _ _ rfl w.heap.size 0 #[.int .u64 (hi' : Int), .int .u64 (lo' : Int)] rfl rfl HTA.out HIAh.out HONh.out ?_)
        intro wy hwy
        have hst := HTM.out.setA (leftN a (k + 1))
        rw [HSL.out] at hst
        have hwy' : wy = wz.setCells w.heap.size 0 [.int .u64 (hi' : Int), .int .u64 (lo' : Int)] := hwy.out
        rw [← hwy'] at hst
        have HRB := hide hst.hb.range
        have HST := hide hst
        clear HTM hst hwy hwy' ch cl HTA w1 w2 o1 ht'
        go_wp2_with (refine wpList_load_mid rfl 204 _ rfl (w.heap.size + 1) 0 rfl (elA (shN b k)).toList _ HRB.out Tryz.underlying204 rfl (infoElA _) ?_)
        refine (gshifted_any (shN b k) _ (shN_lt b k HAB.out.2)).mono ?_
        rintro e w3 ⟨rfl, hb3⟩
        have t3 := HST.out.below hb3
        have t4 := t3.setB (sh (shN b k))
        have HTB3 := hide t3.hb.there
        have HT4 := hide t4
        have eS : sh (shN b k) = shN b (k + 1) := rfl
        rw [eS] at HT4 ⊢
        clear hb3 t3 t4 HST HRB eS
        go_wp2_with (refine wpList_store_mid rfl 204 _ _ rfl (w.heap.size + 1) 0 (elA (shN b (k + 1))) rfl rfl HTB3.out (infoElA' _) (elA_one _) ?_)
        go_roundw
        case rel => exact ⟨k + 1, by have := HK.out; omega, by go_num, HT4.out⟩
        case measure => have := HK.out; simp [intOf]; omega
      · rw [if_neg hbit] at ht
        have ht' : ((hi : Int) / 9223372036854775808 == 1) = false := by rw [ht]; rfl
        have hzz : dotTo a b (k + 1) = dotTo a b k := by rw [dotTo, if_neg hbit]
        have HZ := hide hzz
        have HTM := hide hr
        clear ht hr hbit hzz chi
        have ch := HTM.out.ha.hi
        have cl := HTM.out.ha.lo
        rw [HHL.out.1] at ch
        rw [HHL.out.2] at cl
        have HTA := hide HTM.out.ha.there
        go_wp2_with (refine wpList_store_el rfl 204 _ _ rfl w.heap.size 0 #[.int .u64 (hi' : Int), .int .u64 (lo' : Int)] rfl rfl HTA.out HIAh.out HONh.out ?_)
        intro wy hwy
        have hst := HTM.out.setA (leftN a (k + 1))
        rw [HSL.out] at hst
        have hwy' : wy = wr.setCells w.heap.size 0 [.int .u64 (hi' : Int), .int .u64 (lo' : Int)] := hwy.out
        rw [← hwy'] at hst
        have HRB := hide hst.hb.range
        have HST := hide hst
        clear HTM hst hwy hwy' ch cl HTA w1 w2 o1 ht'
        go_wp2_with (refine wpList_load_mid rfl 204 _ rfl (w.heap.size + 1) 0 rfl (elA (shN b k)).toList _ HRB.out Tryz.underlying204 rfl (infoElA _) ?_)
        refine (gshifted_any (shN b k) _ (shN_lt b k HAB.out.2)).mono ?_
        rintro e w3 ⟨rfl, hb3⟩
        have t3 := HST.out.below hb3
        have t4 := t3.setB (sh (shN b k))
        have HTB3 := hide t3.hb.there
        have HT4 := hide t4
        have eS : sh (shN b k) = shN b (k + 1) := rfl
        rw [eS] at HT4 ⊢
        clear hb3 t3 t4 HST HRB eS
        go_wp2_with (refine wpList_store_mid rfl 204 _ _ rfl (w.heap.size + 1) 0 (elA (shN b (k + 1))) rfl rfl HTB3.out (infoElA' _) (elA_one _) ?_)
        go_roundw
        case rel => exact ⟨k + 1, by have := HK.out; omega, by go_num, by rw [HZ.out]; exact HT4.out⟩
        case measure => have := HK.out; simp [intOf]; omega
    · have hk8 : k = 128 := by omega
      subst hk8
      obtain ⟨e, her⟩ := hr.hr
      have HRZ := hide hr.hz.range
      have HTR := hide her.there
      have hb1 : Below w.heap.size w (wr.setCells (w.heap.size + 1 + 1) 0 (elA (dotTo a b 128)).toList) := hr.bel.trans (below_setCells _ _ _ _ _ (by omega))
      have hfin := her.store (dotTo a b 128)
      have hdd : dotTo a b 128 = dotN a b := rfl
      rw [hdd] at HRZ hb1 hfin
      clear hr her hlt hk hdd
      go_wp2_with (first | refine wpList_load_mid rfl 204 _ rfl (w.heap.size + 1 + 1 + 1) 0 rfl (elA (dotN a b)).toList _ HRZ.out Tryz.underlying204 rfl (infoElA _) ?_ | refine wpList_store_mid rfl 204 _ _ rfl (w.heap.size + 1 + 1) 0 (elA (dotN a b)) rfl rfl HTR.out (infoElA' _) (elA_one _) ?_)
      exact bodyPost_ret (results_el Tryz.results152 _ _ _ _ _ rfl hfin) rfl ⟨rfl, hb1⟩
end Go.Proofs.YtjnhlkaafnaooabGreatDoor
