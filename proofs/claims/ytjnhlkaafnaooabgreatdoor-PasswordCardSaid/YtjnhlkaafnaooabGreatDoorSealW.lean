import Derived.Test.YtjnhlkaafnaooabGreatDoorTurnW
namespace Go.Proofs.YtjnhlkaafnaooabGreatDoor
open Go.RowKit
def sealL (rk nonce a t : List UInt8) : List UInt8 := ctrL rk nonce 2 t ++ tagL rk nonce a (ctrL rk nonce 2 t)
set_option maxRecDepth 100000 in
set_option maxHeartbeats 400000 in
theorem seal_any (kb : Nat) (rk nonce a t : List UInt8) (w : World) (hk : KeyAt w kb rk) (ha : a.length ≤ 4096) (ht : t.length ≤ 4096) :
    Calls Tryz.prog 144 #[.pointer (some ⟨kb, 0, none⟩), .string ⟨nonce.toArray⟩, .string ⟨a.toArray⟩, .string ⟨t.toArray⟩] w fun x w' => x = .returned (.string ⟨(sealL rk (fillL nonce 12) a t).toArray⟩) ∧ Below w.heap.size w w' := by
  have hcl := ctrL_len rk (fillL nonce 12) hk.len (fillL_len nonce 12) 2 t
  have htu := turned_any kb rk nonce t w hk ht
  have hS : sealL rk (fillL nonce 12) a t = ctrL rk (fillL nonce 12) 2 t ++ tagL rk (fillL nonce 12) a (ctrL rk (fillL nonce 12) 2 t) := rfl
  rw [hS]
  generalize ctrL rk (fillL nonce 12) 2 t = C at *
  have htl := tagL_len rk (fillL nonce 12) a C
  have htg := fun w hk => tag_any kb rk nonce a C w hk ha (by omega)
  have hadd := fun w => add_str C (tagL rk (fillL nonce 12) a C) (by omega) w
  generalize tagL rk (fillL nonce 12) a C = T at *
  have HTU := hide htu
  have HTG := hide htg
  clear hS htu htg
  generalize hCT : C ++ T = CT at *
  clear hCT
  go_enter Tryz.func144, Tryz.ntmps144
  go_wp2_with fail
  refine HTU.out.mono ?_
  rintro e w1 ⟨rfl, hb1⟩
  have hk1 := hk.below hb1 hk.lt
  go_wp2_with fail
  refine (HTG.out w1 hk1).mono ?_
  rintro e w2 ⟨rfl, hb2⟩
  go_wp2_with fail
  go_ret
  exact ⟨rfl, hb1.trans (hb2.mono hb1.size)⟩
set_option maxRecDepth 100000 in
set_option maxHeartbeats 400000 in
theorem open_short (kb : Nat) (nonce a t : List UInt8) (w : World) (ht : t.length < 16) :
    Calls Tryz.prog 139 #[.pointer (some ⟨kb, 0, none⟩), .string ⟨nonce.toArray⟩, .string ⟨a.toArray⟩, .string ⟨t.toArray⟩] w fun x w' => x = .returned (.tuple #[.string ⟨#[]⟩, .bool false]) ∧ Below w.heap.size w w' := by
  obtain ⟨n, hn⟩ : ∃ n, t.length = n := ⟨_, rfl⟩
  have hs : (ByteArray.mk t.toArray).size = n := by simp [ByteArray.size, hn]
  have hni : (n : Int) < 16 := by omega
  clear hn ht
  go_enter Tryz.func139, Tryz.ntmps139
  go_wp2_with fail
  go_ret2
  exact ⟨rfl, Below.refl _ _⟩
set_option maxRecDepth 100000 in
set_option maxHeartbeats 400000 in
theorem open_any (kb : Nat) (rk nonce a c g : List UInt8) (w : World) (hk : KeyAt w kb rk) (ha : a.length ≤ 4096) (hc : c.length ≤ 4096) (hg : g.length = 16) :
    Calls Tryz.prog 139 #[.pointer (some ⟨kb, 0, none⟩), .string ⟨nonce.toArray⟩, .string ⟨a.toArray⟩, .string ⟨(c ++ g).toArray⟩] w fun x w' =>
      x = .returned (if tagL rk (fillL nonce 12) a c = g then .tuple #[.string ⟨(ctrL rk (fillL nonce 12) 2 c).toArray⟩, .bool true] else .tuple #[.string ⟨#[]⟩, .bool false]) ∧ Below w.heap.size w w' := by
  obtain ⟨n, hn⟩ : ∃ n, c.length = n := ⟨_, rfl⟩
  obtain ⟨m, hm⟩ : ∃ m, n + 16 = m := ⟨_, rfl⟩
  have hs : (ByteArray.mk (c ++ g).toArray).size = m := by simp [ByteArray.size, hn, hg, hm]
  have hx1 : (ByteArray.mk (c ++ g).toArray).extract 0 n = ⟨c.toArray⟩ := by
    rw [ByteArray.extract_mk, List.drop_zero, Nat.sub_zero, List.take_left' hn]
  have hx2 : (ByteArray.mk (c ++ g).toArray).extract n m = ⟨g.toArray⟩ := by
    rw [ByteArray.extract_mk, List.drop_left' hn, List.take_of_length_le (by omega)]
  have htl := tagL_len rk (fillL nonce 12) a c
  have htg := tag_any kb rk nonce a c w hk ha hc
  have htu := fun w hk => turned_any kb rk nonce c w hk hc
  generalize hT : tagL rk (fillL nonce 12) a c = T at *
  generalize hC : ctrL rk (fillL nonce 12) 2 c = C at *
  have hmi : (m : Int) ≤ 4112 := by omega
  have i0 : ¬ (m : Int) < 16 := by omega
  have i1 : (m : Int) - 16 = (n : Int) := by omega
  have i2 : (n : Int) ≤ (m : Int) := by omega
  have i3 : n ≤ m := by omega
  have HTG := hide htg
  have HTU := hide htu
  have HSA := hide (fun w => same_any T g w htl hg)
  generalize c ++ g = D at *
  clear hT hC htg htu hn hm
  go_enter Tryz.func139, Tryz.ntmps139
  go_wp2_with fail
  refine HTG.out.mono ?_
  rintro e w1 ⟨rfl, hb1⟩
  have hk1 := hk.below hb1 hk.lt
  go_wp2_with fail
  refine (HSA.out w1).mono ?_
  rintro e w2 ⟨rfl, nn, rfl⟩
  have hk2 : KeyAt (w1.drewN nn) kb rk := ⟨⟨hk1.cells.lt, hk1.cells.at_⟩, hk1.len⟩
  have hbel2 := below_drewN hb1 nn
  generalize w1.drewN nn = w3 at *
  by_cases hTg : T = g
  · subst hTg
    have hdec : decide (T = T) = true := by simp
    rw [hdec]
    clear hdec hb1
    go_wp2_with fail
    refine (HTU.out w3 hk2).mono ?_
    rintro e w4 ⟨rfl, hb4⟩
    go_wp2_with fail
    go_ret2
    exact ⟨by first | rfl | (rw [if_pos rfl]; rfl), hbel2.trans (hb4.mono hbel2.size)⟩
  · have hdec : decide (T = g) = false := by simp [hTg]
    rw [hdec]
    have HTg := hide hTg
    clear hdec hTg hb1
    go_wp2_with fail
    go_ret2
    exact ⟨by first | rfl | (rw [if_neg HTg.out]; rfl) | (simp [HTg.out]), hbel2⟩
end Go.Proofs.YtjnhlkaafnaooabGreatDoor
