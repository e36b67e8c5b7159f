import Derived.Test.YtjnhlkaafnaooabGreatDoorRmO
import Derived.Test.YtjnhlkaafnaooabGreatDoorRmP
import Derived.Test.YtjnhlkaafnaooabGreatDoorRmN
namespace Go.Proofs.YtjnhlkaafnaooabGreatDoor
open Go.RowKit
/- What a slot's bytes are. -/
theorem macL_len32 (k t : List UInt8) : (macL k t).length = 32 := macL_len k t
theorem bodyL_len (salt : List UInt8) (v p : Nat) (d : List UInt8) (hs : salt.length = 16) : (bodyL salt v p d).length = 61 := by
  simp [bodyL, markL, onesL_len, fillL_len, hs]
theorem slotL_form (tk salt : List UInt8) (v p : Nat) (d : List UInt8) (hs : salt.length = 16) : slotL tk salt v p d = bodyL salt v p d ++ (macL tk (bodyL salt v p d) ++ List.replicate 163 0) := by
  unfold slotL
  rw [fillL_grow _ _ (by rw [List.length_append, bodyL_len _ _ _ _ hs, macL_len32]; decide), List.length_append, bodyL_len _ _ _ _ hs, macL_len32, List.append_assoc]
theorem slotL_body (tk salt : List UInt8) (v p : Nat) (d : List UInt8) (hs : salt.length = 16) : (slotL tk salt v p d).take 61 = bodyL salt v p d := by
  rw [slotL_form _ _ _ _ _ hs, List.take_append_of_le_length (by rw [bodyL_len _ _ _ _ hs]; omega), List.take_of_length_le (by rw [bodyL_len _ _ _ _ hs]; omega)]
theorem slotL_mac (tk salt : List UInt8) (v p : Nat) (d : List UInt8) (hs : salt.length = 16) : ((slotL tk salt v p d).drop 61).take 32 = macL tk (bodyL salt v p d) := by
  rw [slotL_form _ _ _ _ _ hs, List.drop_append_of_le_length (by rw [bodyL_len _ _ _ _ hs]; omega), List.drop_of_length_le (by rw [bodyL_len _ _ _ _ hs]; omega), List.nil_append, List.take_append_of_le_length (by rw [macL_len32]; omega), List.take_of_length_le (by rw [macL_len32]; omega)]
theorem slotL_tail (tk salt : List UInt8) (v p : Nat) (d : List UInt8) (hs : salt.length = 16) : (slotL tk salt v p d).drop 93 = List.replicate 163 0 := by
  have hl : (bodyL salt v p d ++ macL tk (bodyL salt v p d)).length = 93 := by rw [List.length_append, bodyL_len _ _ _ _ hs, macL_len32]
  rw [slotL_form _ _ _ _ _ hs, ← List.append_assoc, List.drop_append_of_le_length (by omega), List.drop_of_length_le (by omega), List.nil_append]
theorem take_drop_of_take {t u : List UInt8} {n a b : Nat} (h : t.take n = u.take n) (hab : a + b ≤ n) : (t.drop a).take b = (u.drop a).take b := by
  have e : ∀ l : List UInt8, (l.drop a).take b = (((l.take n).drop a)).take b := fun l => by
    rw [List.drop_take, List.take_take, Nat.min_eq_left (by omega)]
  rw [e t, e u, h]
theorem bodyL_salt (salt : List UInt8) (v p : Nat) (d : List UInt8) (hs : salt.length = 16) : ((bodyL salt v p d).drop 4).take 16 = salt := by
  have : bodyL salt v p d = markL ++ (salt ++ (onesL v 8 ++ onesL p 1 ++ fillL d 32)) := by simp [bodyL]
  rw [this, List.drop_append_of_le_length (by simp [markL]), List.drop_of_length_le (by simp [markL]), List.nil_append, List.take_append_of_le_length (by omega), List.take_of_length_le (by omega)]
theorem bodyL_vers (salt : List UInt8) (v p : Nat) (d : List UInt8) (hs : salt.length = 16) : ((bodyL salt v p d).drop 20).take 8 = onesL v 8 := by
  have : bodyL salt v p d = (markL ++ salt) ++ (onesL v 8 ++ (onesL p 1 ++ fillL d 32)) := by simp [bodyL]
  rw [this, List.drop_append_of_le_length (by simp [markL, hs]), List.drop_of_length_le (by simp [markL, hs]), List.nil_append, List.take_append_of_le_length (by rw [onesL_len]; omega), List.take_of_length_le (by rw [onesL_len]; omega)]
theorem bodyL_place (salt : List UInt8) (v p : Nat) (d : List UInt8) (hs : salt.length = 16) : ((bodyL salt v p d).drop 28).take 1 = onesL p 1 := by
  have : bodyL salt v p d = (markL ++ salt ++ onesL v 8) ++ (onesL p 1 ++ fillL d 32) := by simp [bodyL]
  rw [this, List.drop_append_of_le_length (by simp [markL, hs, onesL_len]), List.drop_of_length_le (by simp [markL, hs, onesL_len]), List.nil_append, List.take_append_of_le_length (by rw [onesL_len]; omega), List.take_of_length_le (by rw [onesL_len]; omega)]
theorem bodyL_dig (salt : List UInt8) (v p : Nat) (d : List UInt8) (hs : salt.length = 16) : ((bodyL salt v p d).drop 29).take 32 = fillL d 32 := by
  have : bodyL salt v p d = (markL ++ salt ++ onesL v 8 ++ onesL p 1) ++ fillL d 32 := by simp [bodyL]
  rw [this, List.drop_append_of_le_length (by simp [markL, hs, onesL_len]), List.drop_of_length_le (by simp [markL, hs, onesL_len]), List.nil_append, List.take_of_length_le (by rw [fillL_len]; omega)]
theorem slot_body_part (tk salt : List UInt8) (v p : Nat) (d : List UInt8) (hs : salt.length = 16) (a b : Nat) (h : a + b ≤ 61) : ((slotL tk salt v p d).drop a).take b = ((bodyL salt v p d).drop a).take b :=
  take_drop_of_take (n := 61) (by rw [slotL_body _ _ _ _ _ hs, List.take_of_length_le (by rw [bodyL_len _ _ _ _ hs]; omega)]) h
theorem slotSalt_slot (tk salt : List UInt8) (v p : Nat) (d : List UInt8) (hs : salt.length = 16) : slotSalt (slotL tk salt v p d) = salt := by
  unfold slotSalt; rw [slot_body_part _ _ _ _ _ hs 4 16 (by omega), bodyL_salt _ _ _ _ hs]
theorem slotDig_slot (tk salt : List UInt8) (v p : Nat) (d : List UInt8) (hs : salt.length = 16) : slotDig (slotL tk salt v p d) = fillL d 32 := by
  unfold slotDig; rw [slot_body_part _ _ _ _ _ hs 29 32 (by omega), bodyL_dig _ _ _ _ hs]
theorem getD_take1 (l : List UInt8) (a : Nat) (x : UInt8) (h : (l.drop a).take 1 = [x]) : l.getD a 0 = x := by
  have : (l.drop a)[0]? = some x := by
    have e := congrArg (fun z => z[0]?) h
    simpa using e
  rw [List.getElem?_drop] at this
  simp at this
  simp [this]
theorem slotPlace_slot (tk salt : List UInt8) (v p : Nat) (d : List UInt8) (hs : salt.length = 16) (hp : p < 256) : slotPlace (slotL tk salt v p d) = p := by
  unfold slotPlace
  have h := slot_body_part tk salt v p d hs 28 1 (by omega)
  rw [bodyL_place _ _ _ _ hs, ones1] at h
  rw [getD_take1 _ _ _ h]
  simp; omega
/-- What a slot that is taken says. -/
theorem isSlotL_iff (pass t : List UInt8) (n : Nat) (ht : t.length = 256) : isSlotL pass t n = true ↔ t.take 128 = (slotL (tagsL pass (slotSalt t)) (slotSalt t) n (slotPlace t) (slotDig t)).take 128 := by
  have hs := slotSalt_len ht
  have hS : ∀ S : List UInt8, S.length = 256 → S.drop 128 = List.replicate 128 0 → (fillL (t.take 128) 256 = S ↔ t.take 128 = S.take 128) := fun S hl hd => by
    have h1 : (t.take 128).length = 128 := by rw [List.length_take]; omega
    rw [fillL_grow _ _ (by omega), h1]
    constructor
    · intro e
      rw [← e, List.take_append_of_le_length (by omega), List.take_take, Nat.min_self]
    · intro e
      rw [e, ← hd, List.take_append_drop]
  unfold isSlotL
  rw [beq_iff_eq]
  refine hS _ (slotL_len _ _ _ _ _) ?_
  have := congrArg (List.drop 35) (slotL_tail (tagsL pass (slotSalt t)) (slotSalt t) n (slotPlace t) (slotDig t) hs)
  rw [List.drop_drop, List.drop_replicate] at this
  exact this
theorem isSlotL_mac {pass t : List UInt8} {n : Nat} (ht : t.length = 256) (h : isSlotL pass t n = true) : (macL (tagsL pass (slotSalt t)) (t.take 61) == (t.drop 61).take 32) = true := by
  have hs := slotSalt_len ht
  rw [isSlotL_iff _ _ _ ht] at h
  have h1 : t.take 61 = bodyL (slotSalt t) n (slotPlace t) (slotDig t) := by
    have := take_drop_of_take (a := 0) (b := 61) h (by omega)
    rw [List.drop_zero, List.drop_zero, slotL_body _ _ _ _ _ hs] at this
    exact this
  have h2 : (t.drop 61).take 32 = macL (tagsL pass (slotSalt t)) (bodyL (slotSalt t) n (slotPlace t) (slotDig t)) := by
    rw [take_drop_of_take (a := 61) (b := 32) h (by omega), slotL_mac _ _ _ _ _ hs]
  rw [h1, h2]
  simp
theorem isSlotL_vers {pass t : List UInt8} {n : Nat} (ht : t.length = 256) (h : isSlotL pass t n = true) : (t.drop 20).take 8 = onesL n 8 := by
  have hs := slotSalt_len ht
  rw [isSlotL_iff _ _ _ ht] at h
  rw [take_drop_of_take (a := 20) (b := 8) h (by omega), slot_body_part _ _ _ _ _ hs 20 8 (by omega), bodyL_vers _ _ _ _ hs]
/-- A slot that was written is no slot of another version. -/
theorem slot_other (pass tk salt : List UInt8) (v p : Nat) (d : List UInt8) (n : Nat) (hs : salt.length = 16) (hv : v < 256 ^ 8) (hn : n < 256 ^ 8) (hne : v ≠ n) : isSlotL pass (slotL tk salt v p d) n = false := by
  cases h : isSlotL pass (slotL tk salt v p d) n with
  | false => rfl
  | true =>
    have := isSlotL_vers (slotL_len _ _ _ _ _) h
    rw [slot_body_part _ _ _ _ _ hs 20 8 (by omega), bodyL_vers _ _ _ _ hs] at this
    exact absurd (onesL_inj 8 v n hv hn this) hne
/-- A slot under its own password. -/
theorem slot_own (pass salt : List UInt8) (v p : Nat) (d : List UInt8) (hs : salt.length = 16) (hp : p < 256) (hd : d.length = 32) : isSlotL pass (slotL (tagsL pass salt) salt v p d) v = true := by
  rw [isSlotL_iff _ _ _ (slotL_len _ _ _ _ _), slotSalt_slot _ _ _ _ _ hs, slotPlace_slot _ _ _ _ _ hs hp, slotDig_slot _ _ _ _ _ hs, fillL_self d 32 hd]
end Go.Proofs.YtjnhlkaafnaooabGreatDoor

namespace Go.Proofs.YtjnhlkaafnaooabGreatDoor
open Go.RowKit
/- A node's bytes, read again. -/
def EntM.read (leaf : Bool) (e : EntM) : Ent := if leaf then ⟨e.key, e.value, 0, []⟩ else ⟨e.key, [], e.place, e.digest⟩
structure EntM.Ok (leaf : Bool) (e : EntM) : Prop where
  k1 : 1 ≤ e.key.length
  k8 : e.key.length ≤ 8
  lv : leaf = true → e.value.length ≤ 16
  ip : leaf = false → e.place < 256
  id : leaf = false → e.digest.length = 32
theorem getD_mid (pre post : List UInt8) (x : UInt8) : (pre ++ x :: post).getD pre.length 0 = x := by simp
theorem wrdC_mid (pre w post : List UInt8) (lo hi : Nat) (r : Bool) (h1 : lo ≤ w.length) (h2 : w.length ≤ hi) (h3 : w.length < 256) :
    wrdC (pre ++ (UInt8.ofNat w.length :: (w ++ post))) pre.length lo hi r = (w, pre.length + 1 + w.length, r) := by
  have hn : numC (pre ++ (UInt8.ofNat w.length :: (w ++ post))) pre.length r = (w.length, pre.length + 1, r) := by
    unfold numC
    rw [if_pos (by simp), getD_mid]
    simp; omega
  unfold wrdC
  simp only [hn]
  rw [if_neg (by omega)]
  unfold takeC
  rw [if_pos (by simp; omega)]
  have : (pre ++ (UInt8.ofNat w.length :: (w ++ post))).drop (pre.length + 1) = w ++ post := by
    rw [← List.drop_drop]; simp
  rw [this]
  simp
theorem entC_mid (leaf : Bool) (e : EntM) (pre post : List UInt8) (r : Bool) (h : e.Ok leaf) :
    entC (pre ++ (entT leaf e ++ post)) leaf pre.length r = (e.read leaf, pre.length + (entT leaf e).length, r) := by
  cases leaf with
  | true =>
    have ht : entT true e = UInt8.ofNat e.key.length :: (e.key ++ (UInt8.ofNat e.value.length :: e.value)) := by simp [entT, ones1]
    have h1 : pre ++ (entT true e ++ post) = pre ++ (UInt8.ofNat e.key.length :: (e.key ++ (UInt8.ofNat e.value.length :: (e.value ++ post)))) := by rw [ht]; simp
    have h2 : pre ++ (entT true e ++ post) = (pre ++ (UInt8.ofNat e.key.length :: e.key)) ++ (UInt8.ofNat e.value.length :: (e.value ++ post)) := by rw [ht]; simp
    have a := wrdC_mid pre e.key (UInt8.ofNat e.value.length :: (e.value ++ post)) 1 8 r h.k1 h.k8 (by have := h.k8; omega)
    rw [← h1] at a
    have b := wrdC_mid (pre ++ (UInt8.ofNat e.key.length :: e.key)) e.value post 0 16 r (Nat.zero_le _) (h.lv rfl) (by have := h.lv rfl; omega)
    rw [← h2] at b
    have hl : (pre ++ (UInt8.ofNat e.key.length :: e.key)).length = pre.length + 1 + e.key.length := by simp; omega
    rw [hl] at b
    unfold entC
    simp only [a, b, if_true, EntM.read]
    rw [ht]
    simp; omega
  | false =>
    have ht : entT false e = UInt8.ofNat e.key.length :: (e.key ++ (UInt8.ofNat e.place :: e.digest)) := by simp [entT, ones1]
    have h1 : pre ++ (entT false e ++ post) = pre ++ (UInt8.ofNat e.key.length :: (e.key ++ (UInt8.ofNat e.place :: (e.digest ++ post)))) := by rw [ht]; simp
    have h2 : pre ++ (entT false e ++ post) = (pre ++ (UInt8.ofNat e.key.length :: e.key)) ++ (UInt8.ofNat e.place :: (e.digest ++ post)) := by rw [ht]; simp
    have h3 : pre ++ (entT false e ++ post) = (pre ++ (UInt8.ofNat e.key.length :: e.key) ++ [UInt8.ofNat e.place]) ++ (e.digest ++ post) := by rw [ht]; simp
    have a := wrdC_mid pre e.key (UInt8.ofNat e.place :: (e.digest ++ post)) 1 8 r h.k1 h.k8 (by have := h.k8; omega)
    rw [← h1] at a
    have hl : (pre ++ (UInt8.ofNat e.key.length :: e.key)).length = pre.length + 1 + e.key.length := by simp; omega
    have b : numC (pre ++ (entT false e ++ post)) (pre.length + 1 + e.key.length) r = (e.place, pre.length + 1 + e.key.length + 1, r) := by
      unfold numC
      rw [h2, ← hl, if_pos (by simp), getD_mid]
      have := h.ip rfl
      simp; omega
    have hl3 : (pre ++ (UInt8.ofNat e.key.length :: e.key) ++ [UInt8.ofNat e.place]).length = pre.length + 1 + e.key.length + 1 := by simp; omega
    have hd := h.id rfl
    have c : takeC (pre ++ (entT false e ++ post)) (pre.length + 1 + e.key.length + 1) 32 r = (e.digest, pre.length + 1 + e.key.length + 1 + 32, r) := by
      unfold takeC
      rw [h3, ← hl3, if_pos (by simp; omega), List.drop_left, List.take_append_of_le_length (by omega), List.take_of_length_le (by omega)]
    unfold entC
    simp only [a, b, c, EntM.read]
    rw [ht]
    simp [hd]; omega
/-- Keys rise. -/
def Rising : List EntM → Prop
  | [] => True
  | [_] => True
  | a :: b :: l => Op.bytesLess a.key b.key = true ∧ Rising (b :: l)
theorem read_key (leaf : Bool) (e : EntM) : (e.read leaf).key = e.key := by cases leaf <;> rfl
theorem entsC_mid (leaf : Bool) : ∀ (es : List EntM) (acc : List Ent) (pre post : List UInt8) (r : Bool), (∀ e ∈ es, e.Ok leaf) → Rising es → (acc ≠ [] → ∀ e, es.head? = some e → Op.bytesLess (lastKey acc) e.key = true) →
    entsC (pre ++ (es.flatMap (entT leaf) ++ post)) leaf es.length acc pre.length r = some (acc ++ es.map (EntM.read leaf), pre.length + (es.flatMap (entT leaf)).length, r)
  | [], acc, pre, post, r, _, _, _ => by simp [entsC]
  | e :: es, acc, pre, post, r, hok, hr, hl => by
    have he := hok e (by simp)
    have e1 : pre ++ ((e :: es).flatMap (entT leaf) ++ post) = pre ++ (entT leaf e ++ (es.flatMap (entT leaf) ++ post)) := by simp
    have e2 : pre ++ (entT leaf e ++ (es.flatMap (entT leaf) ++ post)) = (pre ++ entT leaf e) ++ (es.flatMap (entT leaf) ++ post) := by simp
    have hm := entC_mid leaf e pre (es.flatMap (entT leaf) ++ post) r he
    rw [e1, List.length_cons]
    unfold entsC
    rw [hm]
    simp only
    rw [if_neg (by
      rintro ⟨h1, h2⟩
      rw [read_key, hl h1 e rfl] at h2
      cases h2)]
    have hpl : pre.length + (entT leaf e).length = (pre ++ entT leaf e).length := by simp
    rw [e2, hpl, entsC_mid leaf es (acc ++ [e.read leaf]) (pre ++ entT leaf e) post r (fun x hx => hok x (by simp [hx])) (by
      cases es with
      | nil => trivial
      | cons b l => exact hr.2) (fun _ x hx => by
      rw [lastKey_snoc, read_key]
      cases es with
      | nil => cases hx
      | cons b l => simp at hx; subst hx; exact hr.1)]
    simp; omega
theorem nodeC_text (leaf : Bool) (es : List EntM) (hok : ∀ e ∈ es, e.Ok leaf) (hr : Rising es) (h5 : es.length ≤ 5) (h1 : (if leaf then 1 else 2) ≤ es.length) (hf : (es.flatMap (entT leaf)).length ≤ 226) :
    nodeC (nodeT leaf es) = some (leaf, es.map (EntM.read leaf)) := by
  obtain ⟨F, hF⟩ : ∃ F, es.flatMap (entT leaf) = F := ⟨_, rfl⟩
  have ht : nodeT leaf es = [UInt8.ofNat (if leaf then 1 else 2), UInt8.ofNat es.length] ++ (es.flatMap (entT leaf) ++ List.replicate (226 - (es.flatMap (entT leaf)).length) 0) := by
    unfold nodeT
    rw [hF] at hf ⊢
    rw [ones1, ones1, fillL_grow _ _ (by simp; omega)]
    simp only [List.cons_append, List.nil_append, List.length_cons, List.cons.injEq, true_and, List.append_cancel_left_eq]
    congr 1
    omega
  clear hF F
  have g0 : ((nodeT leaf es).getD 0 0).toNat = if leaf then 1 else 2 := by rw [ht]; cases leaf <;> rfl
  have g1 : ((nodeT leaf es).getD 1 0).toNat = es.length := by rw [ht]; simp; omega
  have hm := entsC_mid leaf es [] [UInt8.ofNat (if leaf then 1 else 2), UInt8.ofNat es.length] (List.replicate (226 - (es.flatMap (entT leaf)).length) 0) true hok hr (fun h => absurd rfl h)
  rw [← ht] at hm
  have hz : zerosC (nodeT leaf es) (2 + (es.flatMap (entT leaf)).length) = true := by
    unfold zerosC
    rw [ht, ← List.append_assoc, List.drop_append_of_le_length (by simp; omega), List.drop_of_length_le (by simp; omega)]
    simp
  unfold nodeC
  simp only [g0]
  cases leaf with
  | true =>
    simp only [reduceIte] at h1 ⊢
    rw [g1, if_pos ⟨.inl ⟨trivial, h1⟩, h5⟩]
    simp only [reduceIte] at hm
    have hm' : entsC (nodeT true es) (1 == 1) es.length [] 2 true = _ := hm
    rw [hm']
    simp only [List.length_cons, List.length_nil, Nat.zero_add, List.nil_append]
    have hz' : zerosC (nodeT true es) (1 + 1 + (es.flatMap (entT true)).length) = true := hz
    rw [hz']
    rfl
  | false =>
    simp only [reduceIte, Bool.false_eq_true] at h1 ⊢
    rw [g1, if_pos ⟨.inr ⟨trivial, h1⟩, h5⟩]
    simp only [reduceIte, Bool.false_eq_true] at hm
    have hm' : entsC (nodeT false es) (2 == 1) es.length [] 2 true = _ := hm
    rw [hm']
    simp only [List.length_cons, List.length_nil, Nat.zero_add, List.nil_append]
    have hz' : zerosC (nodeT false es) (1 + 1 + (es.flatMap (entT false)).length) = true := hz
    rw [hz']
    rfl
end Go.Proofs.YtjnhlkaafnaooabGreatDoor

namespace Go.Proofs.YtjnhlkaafnaooabGreatDoor
open Go.RowKit
/- What lies on the disk behind Format, Put and Commit. -/
def pwM0 : DM := ⟨List.replicate 3 zeroBlock, List.replicate 3 [], 0, 20, []⟩
def pwM (tk rk : List UInt8) (v : VM) (key val : List UInt8) : DM := saveM tk rk (pwM0.begin tk salt0 0 []) v 2 key val
structure PwM (m : DM) (tk P : List UInt8) : Prop where
  ct : m.count = 3
  ce : m.ceiling = 20
  bl : m.blocks.length = 3
  wr : m.wrote = [(1, slotL tk salt0 1 0 []), (0, slotL tk salt0 2 0 []), (2, P), (1, slotL tk salt0 3 2 (shaL P))]
  l0 : m.look 0 = slotL tk salt0 2 0 []
  l1 : m.look 1 = slotL tk salt0 3 2 (shaL P)
  l2 : m.look 2 = P
theorem salt0_len : salt0.length = 16 := by simp [salt0]
theorem slotL_ne (tk salt : List UInt8) (v p : Nat) (d : List UInt8) : slotL tk salt v p d ≠ [] := fun e => by have := slotL_len tk salt v p d; rw [e] at this; cases this
theorem pw_state (tk rk key val : List UInt8) (v : VM) (h3 : v.version = 2) (h4 : v.salt = salt0) (hr : rk.length = 240) : PwM (pwM tk rk v key val) tk (newTree rk v 2 key val) := by
  have hT : newTree rk v 2 key val ≠ [] := by
    intro e
    have := leafPage_len rk key val v.session (v.done + 1) 2 hr
    unfold newTree at e
    rw [e] at this
    cases this
  have hb0 : (pwM0.begin tk salt0 0 []).look 0 = slotL tk salt0 2 0 [] := by
    unfold DM.begin
    show (DM.advance _ 2 (slotL tk salt0 2 0 [])).look 0 = _
    unfold DM.advance
    rw [DM.look_settle _ _ (by simp [pwM0, DM.write, DM.settle, DM.flush]), DM.look_write_same _ _ _ (by simp [pwM0, DM.write, DM.settle, DM.flush]) (slotL_ne _ _ _ _ _)]
  have hbl : (pwM0.begin tk salt0 0 []).blocks.length = 3 := by simp [pwM0, DM.begin, DM.advance, DM.settle, DM.flush, DM.write]
  have hcl : (pwM0.begin tk salt0 0 []).cache.length = 3 := by simp [pwM0, DM.begin, DM.advance, DM.settle, DM.flush, DM.write]
  refine ⟨rfl, rfl, by rw [pwM, saveM_len]; exact hbl, ?_, ?_, ?_, ?_⟩
  · simp [pwM, saveM, DM.begin, DM.advance, DM.settle, DM.flush, DM.write, pwM0, h3, h4]
  · unfold pwM saveM DM.advance
    rw [DM.look_settle _ _ (by simp [DM.write, DM.flush, hbl]), DM.look_write_ne _ _ _ _ (by rw [h3]; decide), DM.look_flush _ _ (by simp [DM.write, hbl]), DM.look_write_ne _ _ _ _ (by decide), hb0]
  · unfold pwM saveM DM.advance
    rw [DM.look_settle _ _ (by simp [DM.write, DM.flush, hbl])]
    rw [h3, h4]
    exact DM.look_write_same _ _ _ (by simp [DM.write, DM.flush, hbl]) (slotL_ne _ _ _ _ _)
  · exact saveM_look tk rk _ v 2 key val (by decide) (by rw [hbl]; decide) (by rw [hbl, hcl]) hr
theorem pw_bl (tk : List UInt8) : (pwM0.begin tk salt0 0 []).blocks.length = 3 := by simp [pwM0, DM.begin, DM.advance, DM.settle, DM.flush, DM.write]
theorem pw_free : freeTo (List.replicate 48 false) 3 = [2] := by decide
theorem pw_room (tk : List UInt8) (v : VM) (h1 : v.version = 2) (h2 : v.done = 0) (h3 : v.used = List.replicate 48 false) : roomL (pwM0.begin tk salt0 0 []) v 1 = 0 := by
  unfold roomL
  rw [h1, h2, h3, pw_bl, pw_free]
  rfl
theorem begin_len (m : DM) (tk salt : List UInt8) (p : Nat) (d : List UInt8) : (m.begin tk salt p d).blocks.length = m.blocks.length := by simp [DM.begin, DM.advance, DM.settle, DM.flush, DM.write]
theorem advance_look (m : DM) (n : Nat) (t : List UInt8) (k : Nat) (h2 : 2 ≤ k) (hk : k < m.blocks.length) : (m.advance n t).look k = m.look k := by
  unfold DM.advance
  rw [DM.look_settle _ _ (by simpa [DM.write] using hk), DM.look_write_ne _ _ _ _ (by omega)]
theorem begin_look (m : DM) (tk salt : List UInt8) (p : Nat) (d : List UInt8) (k : Nat) (h2 : 2 ≤ k) (hk : k < m.blocks.length) : (m.begin tk salt p d).look k = m.look k := by
  unfold DM.begin
  rw [advance_look _ _ _ _ h2 (by simpa [DM.advance, DM.settle, DM.flush, DM.write] using hk), advance_look _ _ _ _ h2 hk]
theorem PwM.sl3 {m : DM} {tk P : List UInt8} (h : PwM m tk P) : slotSalt (m.look 1) = salt0 ∧ slotPlace (m.look 1) = 2 ∧ slotDig (m.look 1) = shaL P := by
  rw [h.l1]
  exact ⟨slotSalt_slot _ _ _ _ _ salt0_len, slotPlace_slot _ _ _ _ _ salt0_len (by decide), by rw [slotDig_slot _ _ _ _ _ salt0_len, fillL_self _ _ (shaL_len P)]⟩
theorem PwM.no4 {m : DM} {tk P : List UInt8} (h : PwM m tk P) (pass : List UInt8) : isSlotL pass (m.look 0) 4 = false := by
  rw [h.l0]
  exact slot_other _ _ _ _ _ _ _ salt0_len (by decide) (by decide) (by decide)
theorem PwM.w256 {m : DM} {tk P : List UInt8} (h : PwM m tk P) (hP : P.length = 256) : ∀ e ∈ m.wrote, e.2.length = 256 := by
  rw [h.wr]
  intro e he
  simp only [List.mem_cons, List.not_mem_nil, or_false] at he
  rcases he with rfl | rfl | rfl | rfl
  · exact slotL_len _ _ _ _ _
  · exact slotL_len _ _ _ _ _
  · exact hP
  · exact slotL_len _ _ _ _ _
theorem leaf_survey (k s : List UInt8) (h1 : 1 ≤ k.length) (h8 : k.length ≤ 8) (h16 : s.length ≤ 16) : surveyC (nodeC (leafOne k s)) = true := by
  unfold leafOne
  rw [nodeC_text true [⟨k, s, 0, []⟩] (fun e he => by
    simp at he
    subst he
    exact ⟨h1, h8, fun _ => h16, (fun h => by cases h), (fun h => by cases h)⟩) trivial (by simp) (by simp) (by simp [entT, onesL_len]; omega)]
  cases k with
  | nil => simp at h1
  | cons a k => simp [surveyC, EntM.read, ascC, Op.bytesLess]
end Go.Proofs.YtjnhlkaafnaooabGreatDoor
