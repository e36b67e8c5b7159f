import Derived.Test.YtjnhlkaafnaooaaDoorArrW
import Derived.Test.YtjnhlkaafnaooaaDoorConstsW
import Derived.Test.YtjnhlkaafnaooaaDoorWordsW
import Derived.Test.YtjnhlkaafnaooaaDoorSha
import Derived.Deep.RegionLaw
import Derived.Deep.RegionHeld
import Derived.Lib.Strings
namespace Go.Proofs.YtjnhlkaafnaooaaDoor
open Go.RowKit

theorem Row.cells {w : World} {g : Nat} {t : TypeId} {k : IntKind} {xs : List Nat} (h : Row w g t k xs) : Cells w g k xs := ⟨h.lt, fun _ hi => h.cell hi⟩

/-- What Constants has laid. -/
structure PrimIn (w : World) (pb gh ch gk ck gs cs : Nat) : Prop where
  lt : pb < w.heap.size
  c0 : w.cell? ⟨pb, 0, none⟩ = some (.slice (some ⟨gh, 0, none⟩) 8 ch)
  c1 : w.cell? ⟨pb, 1, none⟩ = some (.slice (some ⟨gk, 0, none⟩) 64 ck)
  c2 : w.cell? ⟨pb, 2, none⟩ = some (.slice (some ⟨gs, 0, none⟩) 256 cs)
  h : Cells w gh .i64 hWords
  k : Cells w gk .i64 kWords
  s : Cells w gs .i64 (sList 256)
theorem PrimIn.below {w w' : World} {pb gh ch gk ck gs cs : Nat} (p : PrimIn w pb gh ch gk ck gs cs) (hb : Below w.heap.size w w') : PrimIn w' pb gh ch gk ck gs cs :=
  ⟨Nat.lt_of_lt_of_le p.lt hb.size, (hb.cell (p := ⟨pb, 0, none⟩) p.lt).trans p.c0, (hb.cell (p := ⟨pb, 1, none⟩) p.lt).trans p.c1, (hb.cell (p := ⟨pb, 2, none⟩) p.lt).trans p.c2,
    p.h.below hb p.h.lt, p.k.below hb p.k.lt, p.s.below hb p.s.lt⟩
theorem CI.prim {w w' : World} {gh ch gk ck gs cs : Nat} (h : CI w hWords kWords (sList 256) (some ⟨gh, 0, none⟩) 8 ch (some ⟨gk, 0, none⟩) 64 ck (some ⟨gs, 0, none⟩) 256 cs w') : PrimIn w' w.heap.size gh ch gk ck gs cs :=
  ⟨h.lt, h.c0, h.c1, h.c2, Cells.of_own h.oh, Cells.of_own h.ok, Cells.of_own (by rw [sList_len]; exact h.os)⟩

/-- A slice of the call's own. -/
structure Mine (w : World) (n k : Nat) (ao : Option Addr) (cap : Nat) (xs : List Nat) (wr : World) : Prop where
  own : wr.ownsRow w.heap.size 3 1 (.slice ao k cap) k (vals .i64 xs)
  len : k = n
  bel : Below w.heap.size w wr

theorem extract_list (s : ByteArray) (a b : Nat) : (s.extract a b).data.toList = (s.data.toList.drop a).take (b - a) := Lib.extract_data s a b

theorem turns_s0 (x : Nat) (w : World) (hx : x < 4294967296) : Calls Tryd.prog 38 #[.int .i64 x, .int .i64 7, .int .i64 18, .int .i64 (-1)] w fun e w' => e = .returned (.int .i64 (rotr x 7 ^^^ rotr x 18 : Nat)) ∧ ∃ n, w' = w.drewN n :=
  turns2_any x 7 18 w hx (by decide) (by decide) (by decide) (by decide)
theorem turns_s1 (x : Nat) (w : World) (hx : x < 4294967296) : Calls Tryd.prog 38 #[.int .i64 x, .int .i64 17, .int .i64 19, .int .i64 (-1)] w fun e w' => e = .returned (.int .i64 (rotr x 17 ^^^ rotr x 19 : Nat)) ∧ ∃ n, w' = w.drewN n :=
  turns2_any x 17 19 w hx (by decide) (by decide) (by decide) (by decide)
theorem turns_be (x : Nat) (w : World) (hx : x < 4294967296) : Calls Tryd.prog 38 #[.int .i64 x, .int .i64 6, .int .i64 11, .int .i64 25] w fun e w' => e = .returned (.int .i64 (bigE x : Nat)) ∧ ∃ n, w' = w.drewN n :=
  turns3_any x 6 11 25 w hx (by decide) (by decide) (by decide) (by decide) (by decide) (by decide)
theorem turns_ba (x : Nat) (w : World) (hx : x < 4294967296) : Calls Tryd.prog 38 #[.int .i64 x, .int .i64 2, .int .i64 13, .int .i64 22] w fun e w' => e = .returned (.int .i64 (bigA x : Nat)) ∧ ∃ n, w' = w.drewN n :=
  turns3_any x 2 13 22 w hx (by decide) (by decide) (by decide) (by decide) (by decide) (by decide)
theorem sig0_int (x : Nat) (hx : x < 4294967296) : bits .xor .i64 ((rotr x 7 ^^^ rotr x 18 : Nat) : Int) ((x : Int) / 8) = ((sig0 x : Nat) : Int) := by
  have h1 := xor32 (rotr_lt x 7 hx (by decide) (by decide)) (rotr_lt x 18 hx (by decide) (by decide))
  rw [show (x : Int) / 8 = ((x / 8 : Nat) : Int) from by simp, i64_xor_nat _ _ (by omega) (by omega)]
  rfl
theorem sig1_int (x : Nat) (hx : x < 4294967296) : bits .xor .i64 ((rotr x 17 ^^^ rotr x 19 : Nat) : Int) ((x : Int) / 1024) = ((sig1 x : Nat) : Int) := by
  have h1 := xor32 (rotr_lt x 17 hx (by decide) (by decide)) (rotr_lt x 19 hx (by decide) (by decide))
  rw [show (x : Int) / 1024 = ((x / 1024 : Nat) : Int) from by simp, i64_xor_nat _ _ (by omega) (by omega)]
  rfl

theorem Cells.st {w : World} {g : Nat} {k : IntKind} {s : St} (h : Cells w g k s.list) : w.cell? ⟨g, 0, none⟩ = some (.int k (s.a : Int)) ∧ w.cell? ⟨g, 1, none⟩ = some (.int k (s.b : Int)) ∧ w.cell? ⟨g, 2, none⟩ = some (.int k (s.c : Int)) ∧ w.cell? ⟨g, 3, none⟩ = some (.int k (s.d : Int)) ∧ w.cell? ⟨g, 4, none⟩ = some (.int k (s.e : Int)) ∧ w.cell? ⟨g, 5, none⟩ = some (.int k (s.f : Int)) ∧ w.cell? ⟨g, 6, none⟩ = some (.int k (s.g : Int)) ∧ w.cell? ⟨g, 7, none⟩ = some (.int k (s.h : Int)) :=
  ⟨h.at_ 0 (by simp [St.list]), h.at_ 1 (by simp [St.list]), h.at_ 2 (by simp [St.list]), h.at_ 3 (by simp [St.list]), h.at_ 4 (by simp [St.list]), h.at_ 5 (by simp [St.list]), h.at_ 6 (by simp [St.list]), h.at_ 7 (by simp [St.list])⟩
theorem ch_int (e f g : Nat) (he : e < 4294967296) (hf : f < 4294967296) (hg : g < 4294967296) : bits .or .i64 (bits .and .i64 (e : Int) (f : Int)) (bits .and .i64 (4294967295 - (e : Int)) (g : Int)) = ((chN e f g : Nat) : Int) := by
  have h1 : e &&& f < 4294967296 := and32 he
  have h2 : (4294967295 - e) &&& g < 4294967296 := and32 (by omega)
  rw [show (4294967295 : Int) - (e : Int) = ((4294967295 - e : Nat) : Int) from by omega, i64_and_nat _ _ (by omega) (by omega), i64_and_nat _ _ (by omega) (by omega), i64_or_nat _ _ (by omega) (by omega)]
  rfl
theorem maj_int (a b c : Nat) (ha : a < 4294967296) (hb : b < 4294967296) (hc : c < 4294967296) : bits .or .i64 (bits .or .i64 (bits .and .i64 (a : Int) (b : Int)) (bits .and .i64 (a : Int) (c : Int))) (bits .and .i64 (b : Int) (c : Int)) = ((majN a b c : Nat) : Int) := by
  have h1 : a &&& b < 4294967296 := and32 ha
  have h2 : a &&& c < 4294967296 := and32 ha
  have h3 : b &&& c < 4294967296 := and32 hb
  have h4 : (a &&& b) ||| (a &&& c) < 4294967296 := or32 h1 h2
  rw [i64_and_nat _ _ (by omega) (by omega), i64_and_nat _ _ (by omega) (by omega), i64_and_nat _ _ (by omega) (by omega), i64_or_nat _ _ (by omega) (by omega), i64_or_nat _ _ (by omega) (by omega)]
  rfl
/-- The first k words added, the others not yet. -/
def partSt (R st : St) (k : Nat) : List Nat := (addSt R st).list.take k ++ R.list.drop k
theorem partSt_zero (R st : St) : partSt R st 0 = R.list := rfl
theorem partSt_end (R st : St) : partSt R st 8 = (addSt R st).list := rfl
theorem partSt_len (R st : St) (k : Nat) (hk : k ≤ 8) : (partSt R st k).length = 8 := by
  simp [partSt, St.list]; omega
theorem partSt_at (R st : St) (k : Nat) (hk : k < 8) (hR : R.ok) : (partSt R st k).getD k 0 = R.list.getD k 0 ∧ R.list.getD k 0 < 4294967296 := by
  obtain ⟨ba, bb, bc, bd, be, bf, bg, bh⟩ := hR
  match k, hk with
  | 0, _ => exact ⟨rfl, ba⟩
  | 1, _ => exact ⟨rfl, bb⟩
  | 2, _ => exact ⟨rfl, bc⟩
  | 3, _ => exact ⟨rfl, bd⟩
  | 4, _ => exact ⟨rfl, be⟩
  | 5, _ => exact ⟨rfl, bf⟩
  | 6, _ => exact ⟨rfl, bg⟩
  | 7, _ => exact ⟨rfl, bh⟩
theorem list_lt (st : St) (h : st.ok) (k : Nat) (hk : k < 8) : st.list.getD k 0 < 4294967296 := (partSt_at st st k hk h).2
theorem partSt_set (R st : St) (k : Nat) (hk : k < 8) : partSt R st (k + 1) = (partSt R st k).set k ((R.list.getD k 0 + st.list.getD k 0) % 4294967296) := by
  match k, hk with
  | 0, _ => rfl
  | 1, _ => rfl
  | 2, _ => rfl
  | 3, _ => rfl
  | 4, _ => rfl
  | 5, _ => rfl
  | 6, _ => rfl
  | 7, _ => rfl
theorem kWords_lt : ∀ x ∈ kWords, x < 4294967296 := by decide +kernel
theorem news_cells {w : World} {g : Nat} {k : IntKind} {xs : List Nat} (h : Cells w g k xs) : ∀ j u, (vals k xs)[j]? = some u → w.cell? ((⟨g, 0, none⟩ : Addr).add j) = some u := by
  intro j u hu
  have hadd : (⟨g, 0, none⟩ : Addr).add j = ⟨g, j, none⟩ := by unfold Addr.add; split <;> simp_all
  obtain ⟨hj, he⟩ := List.getElem?_eq_some_iff.1 hu
  have hj2 : j < xs.length := by simpa [vals] using hj
  rw [hadd, h.at_ j hj2, ← he]
  simp [vals, List.getElem?_eq_getElem hj2]
set_option maxRecDepth 100000 in
set_option maxHeartbeats 4000000 in
theorem step_any (pb gh0 ch0 gk ck gs cs gh ch : Nat) (st : St) (s : ByteArray) (w : World) (hp : PrimIn w pb gh0 ch0 gk ck gs cs) (hh : Cells w gh .i64 st.list) (hok : st.ok) (hs : s.size = 64) :
    Calls Tryd.prog 24 #[.pointer (some ⟨pb, 0, none⟩), .slice (some ⟨gh, 0, none⟩) 8 ch, .string s] w fun e w' =>
      ∃ g cap, e = .returned (.slice (some ⟨g, 0, none⟩) 8 cap) ∧ Cells w' g .i64 (comp st s.data.toList).list ∧ Below w.heap.size w w' := by
  obtain ⟨i0, hi, hz0, hz1, hz2⟩ := info_parts info_int
  have HS := hide hs
  have hs1 : (s.size : Int) = 64 := by omega
  have hs2 : 64 ≤ s.size := by omega
  clear hs
  go_enter Tryd.func24, Tryd.ntmps24
  go_wp2
  go_loopw [7, 8, 9] (fun v i _ wr => ∃ (k : Nat) (ao : Option Addr) (cap : Nat), k ≤ 16 ∧ i = .int .i64 (k : Int) ∧ v = .slice ao k cap ∧ wr.ownsRow w.heap.size 3 1 (.slice ao k cap) k (vals .i64 (wordsTo s.data.toList k)) ∧ Below w.heap.size w wr) (fun _ i _ _ => (17 - intOf i).toNat)
  case atStart => exact ⟨0, none, 0, by omega, rfl, rfl, World.ownsRow_nil _ _ _ _, Below.refl _ _⟩
  case round =>
    obtain ⟨k, ao, cap, hk, rfl, rfl, hown, hbel⟩ := hrel
    by_cases hlt : k < 16
    · --<A>
      have hnum : numL (s.extract (4 * k) (4 * k + 4)).data.toList = wordAt s.data.toList k := by
        rw [extract_list, show 4 * k + 4 - 4 * k = 4 from by omega]; rfl
      have hsz : (s.extract (4 * k) (4 * k + 4)).size ≤ 4 := by rw [ByteArray.size_extract]; omega
      go_wp2_with fail
      refine (number_any _ _ hsz).mono ?_
      rintro e w1 ⟨rfl, rfl⟩
      rw [hnum]
      obtain ⟨x, hx⟩ : ∃ x, wordAt s.data.toList k = x := ⟨_, rfl⟩
      rw [hx]
      have HX := hide hx
      have hszw := hbel.size
      clear hx hnum hsz
      go_wp2_with (at_builtin; refine wpList_append_lies _ rfl _ _ 22 rfl w.heap.size 3 i0 (.int .i64 0) 1 8 Tryd.underlying22 hi hz0 hz1 hz2 rfl (by decide) _ _ _ rfl (hown.alloc _) ⟨w1.heap.size, 0, none⟩ 1 1 [.int .i64 x] rfl rfl ?c1 ?c2 (by decide) ?c3 ?c4 ?c5 _ rfl ?_)
      case c1 =>
        intro j u hj
        match j, hj with
        | 0, hj => simp at hj; subst hj; simp [Addr.add]
      case c2 => intro u hu; simp at hu; subst hu; rfl
      case c3 => unfold maxLen; omega
      case c4 => omega
      case c5 => simp; omega
      intro g cap2 w2 hown2 hgrow hlie hg2
      have hbel2 : Below w.heap.size w w2 := Below.grown (hbel.alloc hszw _) hgrow (by simp; omega) (fun k hk => (hown.lt k hk).1)
      have hown3 : w2.ownsRow w.heap.size 3 1 (.slice (some ⟨g, 0, none⟩) (k + 1) cap2) (k + 1) (vals .i64 (wordsTo s.data.toList (k + 1))) := by
        rw [wordsTo, vals_snoc, HX.out]; exact hown2
      clear hown2 hgrow hlie hown hbel
      go_wp2_with fail
      go_roundw
      case rel => first
        | exact ⟨k + 1, _, _, by omega, by go_num, rfl, hown3, hbel2⟩
        | ((repeat apply Exists.intro); exact ⟨⟨k + 1, _, _, by omega, by go_num, rfl, hown3, hbel2⟩, rfl⟩)
      case measure => simp [intOf]; omega
      --</A>
    · have hk16 : k = 16 := by omega
      subst hk16
      go_wp2_with fail
      clear hlt hk
      obtain ⟨g0, hg0⟩ := own_some hown (by omega)
      subst hg0
      go_loopw [7, 10, 11, 12, 13, 14] (fun v i _ _ _ _ wr => ∃ (k n g : Nat) (cap : Nat), 16 ≤ k ∧ k ≤ 64 ∧ i = .int .i64 (k : Int) ∧ v = .slice (some ⟨g, 0, none⟩) k cap ∧ Hid (n + 16 = k) ∧ wr.ownsRow w.heap.size 3 1 (.slice (some ⟨g, 0, none⟩) k cap) k (vals .i64 (schedTo s.data.toList n)) ∧ Below w.heap.size w wr) (fun _ i _ _ _ _ _ => (65 - intOf i).toNat)
      case atStart => exact ⟨16, 0, g0, cap, by omega, by omega, rfl, rfl, rfl, hown, hbel⟩
      case round =>
        clear hown hbel
        obtain ⟨k, n, g, cap, hk16, hk, rfl, rfl, hn, hown, hbel⟩ := hrel
        have hln : (schedTo s.data.toList n).length = k := by rw [schedTo_len, hn.out]
        have hall := schedTo_lt s.data.toList n
        by_cases hlt : k < 64
        · --<B>
          have hc := Cells.of_own (w := wr) (xs := schedTo s.data.toList n) (by rw [hln]; exact hown)
          have c15 := hc.at_ (k - 15) (by omega)
          have c2 := hc.at_ (k - 2) (by omega)
          have c7 := hc.at_ (k - 7) (by omega)
          have c16 := hc.at_ (k - 16) (by omega)
          have hnx : nextW (schedTo s.data.toList n) (n + 16) = nextW (schedTo s.data.toList n) k := by rw [hn.out]
          have b15 := getD_lt (i := k - 15) hall
          have b2 := getD_lt (i := k - 2) hall
          have b7 := getD_lt (i := k - 7) hall
          have b16 := getD_lt (i := k - 16) hall
          unfold nextW at hnx
          generalize (schedTo s.data.toList n).getD (k - 15) 0 = x15 at *
          generalize (schedTo s.data.toList n).getD (k - 2) 0 = x2 at *
          generalize (schedTo s.data.toList n).getD (k - 7) 0 = x7 at *
          generalize (schedTo s.data.toList n).getD (k - 16) 0 = x16 at *
          have ha := sig0_int x15 b15
          have hb := sig1_int x2 b2
          have hal := sig0_lt x15 b15
          have hbl := sig1_lt x2 b2
          have t15 := fun w => turns_s0 x15 w b15
          have t2 := fun w => turns_s1 x2 w b2
          generalize sig0 x15 = A at *
          generalize sig1 x2 = D at *
          generalize rotr x15 7 ^^^ rotr x15 18 = r15 at *
          generalize rotr x2 17 ^^^ rotr x2 19 = r2 at *
          have HNX := hide hnx
          have T15 := hide t15
          have T2 := hide t2
          have HB := hide (And.intro hal (And.intro hbl (And.intro b7 b16)))
          have hszw := hbel.size
          clear hnx t15 t2 hal hbl b15 b2 b7 b16 hall hln hc
          have hki : (k : Int) < 64 := by omega
          go_wp2_with fail
          refine (T15.out _).mono ?_
          rintro e w1 ⟨rfl, q1, rfl⟩
          go_wp2_with fail
          refine (T2.out _).mono ?_
          rintro e w1 ⟨rfl, q2, rfl⟩
          go_wp2_with fail
          obtain ⟨hA', hD', h7', h16'⟩ := HB.out
          have hAi : (A : Int) < 4294967296 := by omega
          have hDi : (D : Int) < 4294967296 := by omega
          have h7i : (x7 : Int) < 4294967296 := by omega
          have h16i : (x16 : Int) < 4294967296 := by omega
          clear hA' hD' h7' h16' ha hb c15 c2
          have b1 := hide (show k + 1 ≤ maxLen from by unfold maxLen; omega)
          have b2 := hide (show (k + 1) * 8 ≤ 140737488355328 from by omega)
          obtain ⟨m7, hm7⟩ : ∃ m, k - 7 = m := ⟨_, rfl⟩
          obtain ⟨m16, hm16⟩ : ∃ m, k - 16 = m := ⟨_, rfl⟩
          rw [hm7] at c7
          rw [hm16] at c16
          have w7 : IntKind.i64.wrap ((k : Int) - 7) = (m7 : Int) := by rw [show (k : Int) - 7 = (m7 : Int) from by omega]; exact wrap_i64_nat _ (by omega)
          have w16 : IntKind.i64.wrap ((k : Int) - 16) = (m16 : Int) := by rw [show (k : Int) - 16 = (m16 : Int) from by omega]; exact wrap_i64_nat _ (by omega)
          have l7 : (m7 : Int) < (k : Int) := by omega
          have l16 : (m16 : Int) < (k : Int) := by omega
          have y1 : IntKind.i64.wrap ((D : Int) + (x7 : Int)) = (D : Int) + x7 := wrap_i64_nat (D + x7) (by omega)
          have y2 : IntKind.i64.wrap ((D : Int) + (x7 : Int) + (A : Int)) = (D : Int) + x7 + A := wrap_i64_nat (D + x7 + A) (by omega)
          have y3 : IntKind.i64.wrap ((D : Int) + (x7 : Int) + (A : Int) + (x16 : Int)) = (D : Int) + x7 + A + x16 := wrap_i64_nat (D + x7 + A + x16) (by omega)
          obtain ⟨nw, hnw⟩ : ∃ m, (D + x7 + A + x16) % 4294967296 = m := ⟨_, rfl⟩
          have y4 : ((D : Int) + (x7 : Int) + (A : Int) + (x16 : Int)).tmod 4294967296 = (nw : Int) := by rw [Int.tmod_eq_emod_of_nonneg (by omega)]; omega
          have hsn : schedTo s.data.toList (n + 1) = schedTo s.data.toList n ++ [nw] := by
            show schedTo s.data.toList n ++ [nextW (schedTo s.data.toList n) (n + 16)] = _
            unfold nextW
            rw [HNX.out, hnw]
          have HSN := hide hsn
          clear hm7 hm16 hnw hsn
          go_region_law (refine step_append_lies _ rfl (.tmp 65) (.tmp 82) 22 rfl w.heap.size 3 i0 (.int .i64 0) 1 8 Tryd.underlying22 hi hz0 hz1 hz2 rfl (by decide) (.slice (some ⟨g, 0, none⟩) k cap) k _ (by simp [Act.eval]) (by exact hown.alloc _) ⟨wr.heap.size, 0, none⟩ 1 1 [.int .i64 (nw : Int)] (by simp [Act.eval]) rfl (by exact World.news_of_block (cs := #[.int .i64 (nw : Int)]) (heap_alloc_new (wr.drewN _) _)) (by intro u hu; simp at hu; subst hu; rfl) (by decide) b1.out b2.out (by simp; omega) _ rfl ?_; intro g3 cap3 w3 hown3 hgrow3 hlie3 hg3)
          all_goals
            have hbel3 : Below w.heap.size w w3 := Below.grown (a := w) (h := Below.alloc (below_drewN hbel _) (by exact hszw) _) hgrow3 (by simp; omega) (fun k hk => (hown.lt k hk).1)
            have hown4 : w3.ownsRow w.heap.size 3 1 (.slice (some ⟨g3, 0, none⟩) (k + 1) cap3) (k + 1) (vals .i64 (schedTo s.data.toList (n + 1))) := by
              rw [HSN.out, vals_snoc]; exact hown3
            clear hown3 hgrow3 hlie3 hown hbel y1 y2 y3 y4 w7 w16 c7 c16 hAi hDi h7i h16i
            go_wp2_with fail
            go_roundw
            case rel => first
              | exact ⟨k + 1, n + 1, g3, cap3, by omega, by omega, by go_num, rfl, by have := hn.out; show _ = _; omega, hown4, hbel3⟩
              | ((repeat apply Exists.intro); exact ⟨⟨k + 1, n + 1, g3, cap3, by omega, by omega, by go_num, rfl, by have := hn.out; show _ = _; omega, hown4, hbel3⟩, rfl⟩)
            case measure => simp [intOf]; omega
          --</B>
        · have hk64 : k = 64 := by omega
          subst hk64
          have hn48 : n = 48 := by have := hn.out; omega
          subst hn48
          have hcw := Cells.of_own (w := wr) (xs := sched s.data.toList) (by rw [show (sched s.data.toList).length = 64 from hln]; exact hown)
          have hszw := hbel.size
          have hwl : (sched s.data.toList).length = 64 := hln
          have hwa : ∀ x ∈ sched s.data.toList, x < 4294967296 := hall
          generalize hW : sched s.data.toList = W at hcw hwl hwa
          have HW := hide hW
          clear hW
          have HWL := hide hwl
          clear hln hall hk16 hk hlt hn hwl
          have hh1 := hh.below hbel hh.lt
          go_wp2_with (at_builtin; refine wpList_append_lies _ rfl _ _ 22 rfl w.heap.size 3 i0 (.int .i64 0) 1 8 Tryd.underlying22 hi hz0 hz1 hz2 rfl (by decide) _ 0 [] rfl (World.ownsRow_nil _ _ _ _) ⟨gh, 0, none⟩ 8 ch (vals .i64 st.list) rfl rfl ?d1 ?d2 (by decide) ?d3 ?d4 ?d5 _ rfl ?_)
          case d1 => exact news_cells hh1
          case d2 => exact vals_one _ _
          case d3 => unfold maxLen; omega
          case d4 => omega
          case d5 => omega
          intro gv cv w1 hown1 hgrow1 hlie1 hg1
          have hbel1 : Below w.heap.size w w1 := hbel.grown hgrow1 hszw (fun k hk => by simp [Value.ownBlock] at hk)
          have hcw1 : Cells w1 g .i64 W := hcw.grown hgrow1
          have hown2 : w1.ownsRow w.heap.size 3 1 (.slice (some ⟨gv, 0, none⟩) 8 cv) 8 (vals .i64 st.list) := hown1
          clear hgrow1 hlie1 hcw hbel hown hh1 hown1
          go_wp2_with fail
          go_loopw [15, 16, 17, 18, 19, 20, 21, 22, 23] (fun v i _ _ _ _ _ _ _ wr => ∃ k gv cv : Nat, k ≤ 64 ∧ i = .int .i64 (k : Int) ∧ v = .slice (some ⟨gv, 0, none⟩) 8 cv ∧ wr.ownsRow w.heap.size 3 1 (.slice (some ⟨gv, 0, none⟩) 8 cv) 8 (vals .i64 (rnds W st k).list) ∧ Cells wr g .i64 W ∧ Below w.heap.size w wr) (fun _ i _ _ _ _ _ _ _ _ => (65 - intOf i).toNat)
          case atStart => exact ⟨0, gv, cv, by omega, rfl, rfl, hown2, hcw1, hbel1⟩
          case round =>
            clear hown2 hcw1 hbel1 hg1 hszw
            obtain ⟨k, gv, cv, hk, rfl, rfl, hown, hcw, hbel⟩ := hrel
            have hszw := hbel.size
            have hcv := Cells.of_own (w := wr) (xs := (rnds W st k).list) hown
            have hRok := rnds_ok W hok k
            have hR1 : rnds W st (k + 1) = rnd (kWords.getD k 0) (W.getD k 0) (rnds W st k) := rfl
            by_cases hlt : k < 64
            · --<C>
              have hki : (k : Int) < 64 := by omega
              have hp1 := hp.below hbel
              have cp1 := hp1.c1
              have ckk := hp1.k.at_ k (by exact hlt)
              have cww := hcw.at_ k (by rw [HWL.out]; exact hlt)
              have bkk : kWords.getD k 0 < 4294967296 := getD_lt kWords_lt
              have bww : W.getD k 0 < 4294967296 := getD_lt hwa
              obtain ⟨c0, c1, c2, c3, c4, c5, c6, c7⟩ := hcv.st
              generalize kWords.getD k 0 = kk at *
              generalize W.getD k 0 = ww at *
              generalize rnds W st k = R at *
              obtain ⟨Ra, Rb, Rc, Rd, Re, Rf, Rg, Rh⟩ := R
              obtain ⟨ba, bb, bc, bd, be, bf, bg, bh⟩ := hRok
              simp only at c0 c1 c2 c3 c4 c5 c6 c7 ba bb bc bd be bf bg bh
              have hch := ch_int Re Rf Rg be bf bg
              have hmj := maj_int Ra Rb Rc ba bb bc
              have tE := fun w => turns_be Re w be
              have tA := fun w => turns_ba Ra w ba
              have lE := bigE_lt Re be
              have lA := bigA_lt Ra ba
              have lC := chN_lt Re Rf Rg be
              have lM := majN_lt Ra Rb Rc ba bb
              have hrn : rnd kk ww ⟨Ra, Rb, Rc, Rd, Re, Rf, Rg, Rh⟩ = ⟨(Rh + bigE Re + chN Re Rf Rg + kk + ww + (bigA Ra + majN Ra Rb Rc)) % 4294967296, Ra, Rb, Rc, (Rd + (Rh + bigE Re + chN Re Rf Rg + kk + ww)) % 4294967296, Re, Rf, Rg⟩ := rfl
              rw [hrn] at hR1
              generalize bigE Re = E at *
              generalize bigA Ra = A at *
              generalize chN Re Rf Rg = C at *
              generalize majN Ra Rb Rc = M at *
              have HR1 := hide hR1
              have TE := hide tE
              have TA := hide tA
              have bei : (Re : Int) ≤ 4294967295 := by omega
              have HB := hide (And.intro bh (And.intro lE (And.intro lC (And.intro bkk (And.intro bww (And.intro lA (And.intro lM bd)))))))
              clear hR1 hcv hrn tE tA ba bb bc bd be bf bg bh lE lA lC lM bkk bww hp1
              go_wp2_with fail
              refine (TE.out _).mono ?_
              rintro e w2 ⟨rfl, q1, rfl⟩
              go_wp2_with fail
              go_quiet (fail)
              go_wp2_with fail
              obtain ⟨bh, lE, lC, bkk, bww, lA, lM, bd⟩ := HB.out
              have ih : (Rh : Int) < 4294967296 := by omega
              have iE : (E : Int) < 4294967296 := by omega
              have iC : (C : Int) < 4294967296 := by omega
              have ikk : (kk : Int) < 4294967296 := by omega
              have iww : (ww : Int) < 4294967296 := by omega
              clear bh lE lC bkk bww lA lM bd
              go_quiet (fail)
              go_wp2_with fail
              refine (TA.out _).mono ?_
              rintro e w2 ⟨rfl, q2, rfl⟩
              go_wp2_with fail
              go_quiet (fail)
              obtain ⟨_, _, _, _, _, lA, lM, bd⟩ := HB.out
              have iA : (A : Int) < 4294967296 := by omega
              have iM : (M : Int) < 4294967296 := by omega
              have id : (Rd : Int) < 4294967296 := by omega
              clear lA lM bd
              go_wp2_with fail
              go_region_held (fun w' => w'.cell? ⟨gv, 0, none⟩ = some (.int .i64 (Ra : Int)) ∧ w'.cell? ⟨gv, 1, none⟩ = some (.int .i64 (Rb : Int)) ∧ w'.cell? ⟨gv, 2, none⟩ = some (.int .i64 (Rc : Int)) ∧ w'.cell? ⟨gv, 3, none⟩ = some (.int .i64 (Rd : Int)) ∧ w'.cell? ⟨gv, 4, none⟩ = some (.int .i64 (Re : Int)) ∧ w'.cell? ⟨gv, 5, none⟩ = some (.int .i64 (Rf : Int)) ∧ w'.cell? ⟨gv, 6, none⟩ = some (.int .i64 (Rg : Int))) (go_keep) (fail)
              go_wp2_with fail
              go_roundw
              case rel =>
                refine ⟨k + 1, wr.heap.size, 8, by omega, by go_num, rfl, ?_, ?_, ?_⟩
                · rw [HR1.out]
                  exact World.ownsRow_lit (e := 3) (size := 1) (base := w.heap.size) (wr.drewN _) #[.int .i64 (((Rh + E + C + kk + ww + (A + M)) % 4294967296 : Nat) : Int), .int .i64 (Ra : Int), .int .i64 (Rb : Int), .int .i64 (Rc : Int), .int .i64 (((Rd + (Rh + E + C + kk + ww)) % 4294967296 : Nat) : Int), .int .i64 (Re : Int), .int .i64 (Rf : Int), .int .i64 (Rg : Int)] 8 hszw (by decide) rfl
                · exact Cells.below hcw (Below.alloc (below_drewN (Below.refl _ _) _) (Nat.le_refl _) _) hcw.lt
                · exact Below.alloc (below_drewN hbel _) hszw _
              case measure => simp [intOf]; omega
              --</C>
            · have hk64 : k = 64 := by omega
              subst hk64
              have hcmp : comp st s.data.toList = addSt (rnds W st 64) st := by rw [comp, HW.out]
              have HC := hide hcmp
              generalize rnds W st 64 = R at *
              clear hcmp hR1 hk hlt hcw hcv hwa HWL HW
              go_wp2_with fail
              go_loopw [24] (fun i wr => ∃ k : Nat, k ≤ 8 ∧ i = .int .i64 (k : Int) ∧ wr.ownsRow w.heap.size 3 1 (.slice (some ⟨gv, 0, none⟩) 8 cv) 8 (vals .i64 (partSt R st k)) ∧ Below w.heap.size w wr) (fun i _ => (9 - intOf i).toNat)
              case atStart => exact ⟨0, by omega, rfl, by rw [partSt_zero]; exact hown, hbel⟩
              case round =>
                clear hown hbel hszw
                obtain ⟨k, hk, rfl, hown, hbel⟩ := hrel
                by_cases hlt : k < 8
                · have hki : (k : Int) < 8 := by omega
                  have hgv := (hown.lt gv rfl).1
                  have hpl := partSt_len R st k hk
                  have hcv := Cells.of_own (w := wr) (xs := partSt R st k) (by rw [hpl]; exact hown)
                  have hch := hh.below hbel hh.lt
                  have c1 := hcv.at_ k (by rw [hpl]; exact hlt)
                  have c2 := hch.at_ k (by simpa [St.list] using hlt)
                  have cf := hown.frozenAt k
                  obtain ⟨hx, hxl⟩ := partSt_at R st k hlt hRok
                  have hyl := list_lt st hok k hlt
                  have hset := partSt_set R st k hlt
                  rw [hx] at c1
                  generalize (R.list.getD k 0) = x at *
                  generalize (st.list.getD k 0) = y at *
                  have hst := (hown.stored k (.int .i64 (((x + y) % 4294967296 : Nat) : Int))).1
                  have hbs := hbel.setCell (p := ⟨gv, k, none⟩) hgv (.int .i64 (((x + y) % 4294967296 : Nat) : Int))
                  have e1 : (((x + y) % 4294967296 : Nat) : Int) = ((x : Int) + (y : Int)) % 4294967296 := by omega
                  have hown2 : (wr.setCell ⟨gv, k, none⟩ (.int .i64 (((x + y) % 4294967296 : Nat) : Int))).ownsRow w.heap.size 3 1 (.slice (some ⟨gv, 0, none⟩) 8 cv) 8 (vals .i64 (partSt R st (k + 1))) := by
                    rw [hset]; rw [vals_set]; exact hst
                  rw [e1] at hown2 hbs
                  have HO := hide hown2
                  have HBS := hide hbs
                  have ix : (x : Int) < 4294967296 := by omega
                  have iy : (y : Int) < 4294967296 := by omega
                  have lgv := (hown.lt gv rfl).2
                  clear hown2 hbs e1 hset hst hx hxl hyl hcv hch hpl hown hbel
                  go_wp2_with fail
                  go_region
                  go_wp2_with fail
                  go_roundw
                  case rel => exact ⟨k + 1, by omega, by go_num, HO.out, HBS.out.drew⟩
                  case measure => simp [intOf]; omega
                · have hk8 : k = 8 := by omega
                  subst hk8
                  go_wp2_with fail
                  go_ret
                  refine ⟨gv, cv, rfl, ?_, hbel⟩
                  rw [HC.out, ← partSt_end]
                  exact Cells.of_own (w := wr) (xs := partSt R st 8) (by rw [partSt_len R st 8 (by omega)]; exact hown)
end Go.Proofs.YtjnhlkaafnaooaaDoor
