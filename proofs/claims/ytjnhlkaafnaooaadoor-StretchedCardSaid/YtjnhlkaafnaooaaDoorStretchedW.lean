import Derived.Test.YtjnhlkaafnaooaaDoorStretch2W
import Derived.Test.YtjnhlkaafnaooaaDoorKeyW
import Derived.Test.YtjnhlkaafnaooaaDoorHashedW
namespace Go.Proofs.YtjnhlkaafnaooaaDoor
open Go.RowKit

theorem keyL_zero (pass salt : List UInt8) (rounds : Int) : keyL pass salt rounds 0 = [] := rfl

set_option maxRecDepth 100000 in
set_option maxHeartbeats 4000000 in
theorem stretched_small (pass salt : List UInt8) (c d : Int) (w : World) (hs : pass.length ≤ 65536) (hl : salt.length ≤ 65536)
    (hc : -9223372036854775808 ≤ c ∧ c ≤ 9223372036854775807) (hd : -9223372036854775808 ≤ d ∧ d ≤ 9223372036854775807)
    (hk : Cells w 1 .u32 kWords) (h0 : Cells w 0 .u32 hWords) :
    Calls Tryd.prog 4 #[.string ⟨pass.toArray⟩, .string ⟨salt.toArray⟩, .int .i64 c, .int .i64 d] w fun e w' => e = .returned (.bool true) ∧ Below w.heap.size w w' := by
  obtain ⟨l1, hl1⟩ : ∃ l1, (ByteArray.mk pass.toArray).size = l1 := ⟨_, rfl⟩
  obtain ⟨l2, hl2⟩ : ∃ l2, (ByteArray.mk salt.toArray).size = l2 := ⟨_, rfl⟩
  have hl1' : l1 ≤ 65536 := by rw [← hl1]; simpa [ByteArray.size] using hs
  have hl2' : l2 ≤ 65536 := by rw [← hl2]; simpa [ByteArray.size] using hl
  have t1 : decide ((65536 : Int) < (l1 : Int)) = false := by simp; omega
  have t2 : decide ((65536 : Int) < (l2 : Int)) = false := by simp; omega
  have hkl := hk.lt
  have HS := hide hs
  have HL := hide hl
  have HC := hide (pick_any c 10 · hc (by decide) (by decide))
  have HD := hide (pick_any d 203 · hd (by decide) (by decide))
  clear hs hl hc hd hl1' hl2'
  go_enter Tryd.func4, Tryd.ntmps4
  go_wp2_with fail
  refine (constants_any _).mono ?_
  rintro e w1 ⟨rfl, gh, ch, gk, ck, gs, cs, hci⟩
  have hp1 := hci.prim
  have hbel1 := hci.bel
  have hz1 := hci.lt
  have hk1 := hk.below hbel1 hk.lt
  have h01 := h0.below hbel1 h0.lt
  clear hci t1 t2 hl1 hl2
  go_wp2_with fail
  refine (HC.out w1).mono ?_
  rintro e w2 ⟨x, hx, rfl, rfl⟩
  have hxi : (x : Int) < 10 := by omega
  go_wp2_with fail
  refine (HD.out w2).mono ?_
  rintro e w3 ⟨y, hy, rfl, rfl⟩
  have hyi : (y : Int) < 203 := by omega
  obtain ⟨r, hr⟩ : ∃ r : Int, (x : Int) - 1 = r := ⟨_, rfl⟩
  obtain ⟨n, hn⟩ : ∃ n : Int, (y : Int) - 2 = n := ⟨_, rfl⟩
  have hrr : -1 ≤ r ∧ r ≤ 8 := by omega
  have hnn : -2 ≤ n ∧ n ≤ 200 := by omega
  have HST := hide (stretch_any pass salt r n w3 hk1 h01 HS.out HL.out hrr hnn)
  clear HC HD
  go_wp2_with fail
  refine HST.out.mono ?_
  rintro e w4 ⟨rfl, hb4⟩
  clear HST hr hn
  have hp4 := hp1.below hb4
  have hk4 := hk1.below hb4 hk1.lt
  have h04 := h01.below hb4 h01.lt
  have hbel4 : Below w.heap.size w w4 := hbel1.trans (hb4.mono (by omega))
  have hz4 := hb4.size
  clear hp1 hk1 h01 hbel1 hb4
  by_cases hpos : 0 < n
  case' pos =>
    have hd0 : decide (0 < n) = true := by simpa using hpos
    obtain ⟨q, hq⟩ : ∃ q : Nat, n = (q : Int) := ⟨n.toNat, by omega⟩
    subst hq
    have HKEY := hide (refKey_any w.heap.size gh ch gk ck gs cs pass salt r q w4 hp4 HS.out HL.out hrr (by omega))
    have e0 : ((q : Int)).toNat = q := by omega
    rw [e0]
    clear e0
    obtain ⟨KL, hKL⟩ : ∃ KL, keyL pass salt r q = KL := ⟨_, rfl⟩
    rw [hKL] at HKEY ⊢
    clear hKL
    go_wp2_with fail
    refine HKEY.out.mono ?_
    rintro e w5 ⟨rfl, hb5⟩
    have hp5 := hp4.below hb5
    have hk5 := hk4.below hb5 hk4.lt
    have h05 := h04.below hb5 h04.lt
    have hbel5 : Below w.heap.size w w5 := hbel4.trans (hb5.mono (by omega))
    have hz5 := hb5.size
    have hz5' : w.heap.size < w5.heap.size := by omega
    clear hp4 hk4 h04 hbel4 HKEY hb5 hd0
  case' neg =>
    have hd0 : decide (0 < n) = false := by simpa using hpos
    have e0 : n.toNat = 0 := by omega
    rw [e0, keyL_zero]
    clear e0
    have hp5 := hp4
    have hk5 := hk4
    have h05 := h04
    have hbel5 := hbel4
    have hz5' : w.heap.size < w4.heap.size := by omega
    clear hp4 hk4 h04 hbel4
  all_goals
    go_wp2_with fail
    refine (keyed_any pass _ hk5 h05 HS.out).mono ?_
    rintro e w6 ⟨b, ist, ibuf, ost, obuf, rfl, hm, hbl, hbz, hti, hto, hoki, hoko, hb6⟩
    have hk6 := hk5.below hb6 hk5.lt
    have hp6 := hp5.below hb6
    have hbel6 := hbel5.trans (hb6.mono (by omega))
    have hz6 := hb6.size
    try clear hd0
    clear hp5 hk5 h05 hbel5 hb6
    go_wp2_with fail
    refine (macSum_any b ist ost ibuf obuf pass salt w6 hm hti hto hoki hoko hk6 (by have := HL.out; omega)).mono ?_
    rintro e w7 ⟨rfl, hb7⟩
    have hp7 := hp6.below hb7
    have hbel7 := hbel6.trans (hb7.mono (by omega))
    have hz7 := hb7.size
    clear hk6 hp6 hbel6 hb7 hm hti hto
    go_wp2_with fail
    refine (refMac_any w.heap.size gh ch gk ck gs cs pass salt w7 hp7 HS.out (by have := HL.out; omega)).mono ?_
    rintro e w8 ⟨rfl, hb8⟩
    have hbel8 := hbel7.trans (hb8.mono (by omega))
    obtain ⟨D, hD⟩ : ∃ x, macL pass salt = x := ⟨_, rfl⟩
    rw [hD]
    clear hD hp7 hbel7 hb8
    go_wp2_with fail
    go_ret
    exact ⟨rfl, hbel8⟩
end Go.Proofs.YtjnhlkaafnaooaaDoor
