import Derived.Test.YtjnhlkaafnaooaaDoorWords
import Derived.Test.YtjnhlkaafnaooaaDoorConsts
namespace Go.Proofs.YtjnhlkaafnaooaaDoor
/-- The eight words. -/
structure St where
  a : Nat
  b : Nat
  c : Nat
  d : Nat
  e : Nat
  f : Nat
  g : Nat
  h : Nat
def St.list (s : St) : List Nat := [s.a, s.b, s.c, s.d, s.e, s.f, s.g, s.h]
structure St.ok (s : St) : Prop where
  a : s.a < 4294967296
  b : s.b < 4294967296
  c : s.c < 4294967296
  d : s.d < 4294967296
  e : s.e < 4294967296
  f : s.f < 4294967296
  g : s.g < 4294967296
  h : s.h < 4294967296
def sig0 (x : Nat) : Nat := rotr x 7 ^^^ rotr x 18 ^^^ x / 8
def sig1 (x : Nat) : Nat := rotr x 17 ^^^ rotr x 19 ^^^ x / 1024
def bigE (x : Nat) : Nat := rotr x 6 ^^^ rotr x 11 ^^^ rotr x 25
def bigA (x : Nat) : Nat := rotr x 2 ^^^ rotr x 13 ^^^ rotr x 22
def chN (e f g : Nat) : Nat := (e &&& f) ||| ((4294967295 - e) &&& g)
def majN (a b c : Nat) : Nat := (a &&& b) ||| (a &&& c) ||| (b &&& c)
theorem xor32 {a b : Nat} (ha : a < 4294967296) (hb : b < 4294967296) : a ^^^ b < 4294967296 := Nat.xor_lt_two_pow (n := 32) ha hb
theorem or32 {a b : Nat} (ha : a < 4294967296) (hb : b < 4294967296) : a ||| b < 4294967296 := Nat.or_lt_two_pow (n := 32) ha hb
theorem and32 {a b : Nat} (ha : a < 4294967296) : a &&& b < 4294967296 := Nat.lt_of_le_of_lt Nat.and_le_left ha
theorem sig0_lt (x : Nat) (h : x < 4294967296) : sig0 x < 4294967296 := xor32 (xor32 (rotr_lt x 7 h (by decide) (by decide)) (rotr_lt x 18 h (by decide) (by decide))) (by omega)
theorem sig1_lt (x : Nat) (h : x < 4294967296) : sig1 x < 4294967296 := xor32 (xor32 (rotr_lt x 17 h (by decide) (by decide)) (rotr_lt x 19 h (by decide) (by decide))) (by omega)
theorem bigE_lt (x : Nat) (h : x < 4294967296) : bigE x < 4294967296 := xor32 (xor32 (rotr_lt x 6 h (by decide) (by decide)) (rotr_lt x 11 h (by decide) (by decide))) (rotr_lt x 25 h (by decide) (by decide))
theorem bigA_lt (x : Nat) (h : x < 4294967296) : bigA x < 4294967296 := xor32 (xor32 (rotr_lt x 2 h (by decide) (by decide)) (rotr_lt x 13 h (by decide) (by decide))) (rotr_lt x 22 h (by decide) (by decide))
theorem chN_lt (e f g : Nat) (he : e < 4294967296) : chN e f g < 4294967296 := or32 (and32 he) (and32 (by omega))
theorem majN_lt (a b c : Nat) (ha : a < 4294967296) (hb : b < 4294967296) : majN a b c < 4294967296 := or32 (or32 (and32 ha) (and32 ha)) (and32 hb)

/-- The i-th word of a block. -/
def wordAt (t : List UInt8) (i : Nat) : Nat := numL ((t.drop (4 * i)).take 4)
def wordsTo (t : List UInt8) : Nat → List Nat
  | 0 => []
  | n + 1 => wordsTo t n ++ [wordAt t n]
def nextW (w : List Nat) (i : Nat) : Nat := (sig1 (w.getD (i - 2) 0) + w.getD (i - 7) 0 + sig0 (w.getD (i - 15) 0) + w.getD (i - 16) 0) % 4294967296
def schedTo (t : List UInt8) : Nat → List Nat
  | 0 => wordsTo t 16
  | n + 1 => schedTo t n ++ [nextW (schedTo t n) (n + 16)]
def sched (t : List UInt8) : List Nat := schedTo t 48
theorem wordsTo_len (t : List UInt8) : ∀ n, (wordsTo t n).length = n
  | 0 => rfl
  | n + 1 => by simp [wordsTo, wordsTo_len t n]
theorem schedTo_len (t : List UInt8) : ∀ n, (schedTo t n).length = n + 16
  | 0 => wordsTo_len t 16
  | n + 1 => by simp [schedTo, schedTo_len t n]
theorem wordAt_lt (t : List UInt8) (i : Nat) : wordAt t i < 4294967296 := by
  have h := numL_lt ((t.drop (4 * i)).take 4)
  have hl : ((t.drop (4 * i)).take 4).length ≤ 4 := by rw [List.length_take]; omega
  have hp : 256 ^ ((t.drop (4 * i)).take 4).length ≤ 256 ^ 4 := Nat.pow_le_pow_right (by decide) hl
  unfold wordAt
  omega
theorem wordsTo_lt (t : List UInt8) : ∀ n, ∀ x ∈ wordsTo t n, x < 4294967296
  | 0, x, hx => by simp [wordsTo] at hx
  | n + 1, x, hx => by
    rw [wordsTo, List.mem_append] at hx
    rcases hx with hx | hx
    · exact wordsTo_lt t n x hx
    · simp at hx; rw [hx]; exact wordAt_lt t n
theorem schedTo_lt (t : List UInt8) : ∀ n, ∀ x ∈ schedTo t n, x < 4294967296
  | 0, x, hx => wordsTo_lt t 16 x hx
  | n + 1, x, hx => by
    rw [schedTo, List.mem_append] at hx
    rcases hx with hx | hx
    · exact schedTo_lt t n x hx
    · simp at hx; rw [hx]; exact Nat.mod_lt _ (by decide)
theorem getD_lt {l : List Nat} {i : Nat} (h : ∀ x ∈ l, x < 4294967296) : l.getD i 0 < 4294967296 := by
  by_cases hn : i < l.length
  · have := h l[i] (List.getElem_mem hn); simpa [List.getElem?_eq_getElem hn] using this
  · simp [List.getElem?_eq_none (by omega : l.length ≤ i)]

/-- One round. -/
def rnd (k w : Nat) (s : St) : St :=
  { a := (s.h + bigE s.e + chN s.e s.f s.g + k + w + (bigA s.a + majN s.a s.b s.c)) % 4294967296, b := s.a, c := s.b, d := s.c,
    e := (s.d + (s.h + bigE s.e + chN s.e s.f s.g + k + w)) % 4294967296, f := s.e, g := s.f, h := s.g }
def rnds (w : List Nat) (s : St) : Nat → St
  | 0 => s
  | n + 1 => rnd (kWords.getD n 0) (w.getD n 0) (rnds w s n)
def addSt (x y : St) : St :=
  { a := (x.a + y.a) % 4294967296, b := (x.b + y.b) % 4294967296, c := (x.c + y.c) % 4294967296, d := (x.d + y.d) % 4294967296,
    e := (x.e + y.e) % 4294967296, f := (x.f + y.f) % 4294967296, g := (x.g + y.g) % 4294967296, h := (x.h + y.h) % 4294967296 }
def comp (s : St) (t : List UInt8) : St := addSt (rnds (sched t) s 64) s
theorem rnd_ok (k w : Nat) {s : St} (h : s.ok) : (rnd k w s).ok := ⟨Nat.mod_lt _ (by decide), h.a, h.b, h.c, Nat.mod_lt _ (by decide), h.e, h.f, h.g⟩
theorem rnds_ok (w : List Nat) {s : St} (h : s.ok) : ∀ n, (rnds w s n).ok
  | 0 => h
  | n + 1 => rnd_ok _ _ (rnds_ok w h n)
theorem addSt_ok (x y : St) : (addSt x y).ok := ⟨Nat.mod_lt _ (by decide), Nat.mod_lt _ (by decide), Nat.mod_lt _ (by decide), Nat.mod_lt _ (by decide), Nat.mod_lt _ (by decide), Nat.mod_lt _ (by decide), Nat.mod_lt _ (by decide), Nat.mod_lt _ (by decide)⟩
theorem comp_ok (s : St) (t : List UInt8) : (comp s t).ok := addSt_ok _ _
def startSt : St := ⟨1779033703, 3144134277, 1013904242, 2773480762, 1359893119, 2600822924, 528734635, 1541459225⟩
theorem startSt_list : startSt.list = hWords := rfl
theorem startSt_ok : startSt.ok := by constructor <;> decide
/-- All whole blocks of a text taken in. -/
def takeIn (s : St) (t : List UInt8) : Nat → St
  | 0 => s
  | n + 1 => comp (takeIn s t n) ((t.drop (64 * n)).take 64)
/-- What is added behind a text of n bytes. -/
def padL (n : Nat) : List UInt8 := 128 :: List.replicate ((119 - n % 64) % 64) 0 ++ onesL (8 * n) 8
def digest (s : St) : List UInt8 := s.list.flatMap fun x => onesL x 4
def shaL (t : List UInt8) : List UInt8 := digest (takeIn startSt (t ++ padL t.length) ((t.length + 72) / 64))
def padZ (n : Nat) : Nat := (119 - n % 64) % 64
theorem padL_eq (n : Nat) : padL n = (128 :: List.replicate (padZ n) 0) ++ onesL (8 * n) 8 := rfl
theorem padL_len (n : Nat) : (padL n).length = padZ n + 9 := by simp [padL_eq, onesL_len]
theorem padZ_lt (n : Nat) : padZ n < 64 := Nat.mod_lt _ (by decide)
theorem padZ_hit (n : Nat) : (n + 1 + padZ n) % 64 = 56 := by unfold padZ; omega
theorem padZ_miss (n j : Nat) (h : j < padZ n) : (n + 1 + j) % 64 ≠ 56 := by unfold padZ at h; omega
theorem blocks_eq (n : Nat) : n + (padZ n + 9) = 64 * ((n + 72) / 64) := by unfold padZ; omega
theorem takeIn_ok (t : List UInt8) (s : St) (h : s.ok) : ∀ n, (takeIn s t n).ok
  | 0 => h
  | _ + 1 => comp_ok _ _
def digTo (s : St) (k : Nat) : List UInt8 := (s.list.take k).flatMap fun x => onesL x 4
theorem digTo_end (s : St) : digTo s 8 = digest s := rfl
theorem digTo_succ (s : St) (k : Nat) (hk : k < 8) : digTo s (k + 1) = digTo s k ++ onesL (s.list.getD k 0) 4 := by
  have hl : k < s.list.length := by simpa [St.list] using hk
  unfold digTo
  rw [List.take_succ_eq_append_getElem hl, List.flatMap_append]
  simp [List.getElem?_eq_getElem hl]
theorem digTo_len (s : St) (k : Nat) (hk : k ≤ 8) : (digTo s k).length = 4 * k := by
  induction k with
  | zero => rfl
  | succ k ih => rw [digTo_succ s k (by omega), List.length_append, ih (by omega), onesL_len]; omega
theorem digest_len (s : St) : (digest s).length = 32 := digTo_len s 8 (by omega)
theorem shaL_len (t : List UInt8) : (shaL t).length = 32 := digest_len _
end Go.Proofs.YtjnhlkaafnaooaaDoor
