package gcm

import (
	"crypto/aes"
	"crypto/cipher"
	"encoding/hex"
	"fmt"
	"strings"
	"testing"
)

// most: no text that is handed in has more bytes (P2).
const most = 1 << 16

// filled: n bytes that do not repeat soon.
func filled(n int, seed int) string {
	b := make([]byte, n)
	x := uint32(seed)*2654435761 + 1
	for i := range b {
		x = x*1664525 + 1013904223
		b[i] = byte(x >> 24)
	}
	return string(b)
}

func unhex(t *testing.T, s string) string {
	b, err := hex.DecodeString(s)
	if err != nil {
		t.Fatal(err)
	}
	return string(b)
}

// fit: a text cut or filled up with noughts.
func fit(s string, n int) []byte {
	b := make([]byte, n)
	copy(b, s)
	return b
}

// want: what the library of Go seals.
func want(t *testing.T, key string, nonce string, with string, text string) string {
	block, err := aes.NewCipher(fit(key, 32))
	if err != nil {
		t.Fatal(err)
	}
	sealer, err := cipher.NewGCM(block)
	if err != nil {
		t.Fatal(err)
	}
	return string(sealer.Seal(nil, fit(nonce, 12), []byte(text), []byte(with)))
}

// check: Seal is right, and Open finds the text again.
func check(t *testing.T, key string, nonce string, with string, text string) {
	t.Helper()
	k := Keyed(key)
	sealed := k.Seal(nonce, with, text)
	if sealed != want(t, key, nonce, with, text) {
		t.Errorf("key of %d, nonce of %d, %d bytes with %d: %x", len(key), len(nonce), len(text), len(with), sealed)
	}
	back, ok := k.Open(nonce, with, sealed)
	if !ok || back != text {
		t.Errorf("key of %d, nonce of %d, %d bytes with %d: opened %v", len(key), len(nonce), len(text), len(with), ok)
	}
}

// refuse: there is no text of which this is Seal.
func refuse(t *testing.T, k *Key, nonce string, with string, sealed string, what string) {
	t.Helper()
	back, ok := k.Open(nonce, with, sealed)
	if ok || back != "" {
		t.Errorf("%s: %v, %d bytes", what, ok, len(back))
	}
}

// turnBit: a text of which bit i is turned.
func turnBit(s string, i int) string {
	b := []byte(s)
	b[i/8] ^= 1 << (i % 8)
	return string(b)
}

// P5: the block cipher under keys of 32 bytes: FIPS 197, C.3.
func TestCipherKnown(t *testing.T) {
	k := Keyed(unhex(t, "000102030405060708090a0b0c0d0e0f101112131415161718191a1b1c1d1e1f"))
	var b [blockSize]byte
	copy(b[:], unhex(t, "00112233445566778899aabbccddeeff"))
	if got := fmt.Sprintf("%x", k.encrypt(b)); got != "8ea2b7ca516745bfeafc49904b496089" {
		t.Errorf("the block: %s", got)
	}
}

// P5: sealed texts that are known: the cases 13 to 16 of GCM's proposal.
func TestSealKnown(t *testing.T) {
	key := "feffe9928665731c6d6a8f9467308308feffe9928665731c6d6a8f9467308308"
	text := "d9313225f88406e5a55909c5aff5269a86a7a9531534f7da2e4c303d8a318a721c3c0c95956809532fcf0e2449a6b525b16aedf5aa0de657ba637b391aafd255"
	sealed := "522dc1f099567d07f47f37a32a84427d643a8cdcbfe5c0c97598a2bd2555d1aa8cb08e48590dbb3da7b08b1056828838c5f61e6393ba7a0abcc9f662898015ad"
	noughts := strings.Repeat("00", 32)
	for i, c := range []struct{ key, nonce, with, text, want string }{
		{noughts, noughts[:24], "", "", "530f8afbc74536b9a963b4f1c4cb738b"},
		{noughts, noughts[:24], "", noughts[:32], "cea7403d4d606b6e074ec5d3baf39d18d0d1c8a799996bf0265b98b5d48ab919"},
		{key, "cafebabefacedbaddecaf888", "", text, sealed + "b094dac5d93471bdec1a502270e3cc6c"},
		{key, "cafebabefacedbaddecaf888", "feedfacedeadbeeffeedfacedeadbeefabaddad2", text[:120], sealed[:120] + "76fc6ece0f4e1768cddf8853bb2d551b"},
	} {
		k := Keyed(unhex(t, c.key))
		got := k.Seal(unhex(t, c.nonce), unhex(t, c.with), unhex(t, c.text))
		if fmt.Sprintf("%x", got) != c.want {
			t.Errorf("case %d: %x, want %s", i+13, got, c.want)
		}
		back, ok := k.Open(unhex(t, c.nonce), unhex(t, c.with), got)
		if !ok || back != unhex(t, c.text) {
			t.Errorf("case %d: opened %v, %x", i+13, ok, back)
		}
	}
}

// P5: texts, and what goes with them, of all lengths around whole blocks.
func TestSealLengths(t *testing.T) {
	for n := 0; n <= 80; n++ {
		for w := 0; w <= 49; w++ {
			check(t, filled(32, n), filled(12, w), filled(w, 1), filled(n, 2))
		}
	}
	for _, n := range []int{128, 228, 255, 256, 1000, 4096, 4097} {
		check(t, filled(32, n), filled(12, n), "", filled(n, n))
		check(t, filled(32, n), filled(12, n), filled(n, 1), "")
		check(t, filled(32, n), filled(12, n), "\x02", filled(n, n))
	}
}

// P5: a key that has not 32 bytes, a nonce that has not twelve is cut or filled up with noughts.
func TestKeysAndNoncesFit(t *testing.T) {
	for n := 0; n <= 70; n++ {
		check(t, filled(n, 3), filled(12, 4), "with", "a text of some bytes")
		check(t, filled(32, 3), filled(n, 4), "with", "a text of some bytes")
		check(t, filled(n, 5), filled(n, 6), "", "")
	}
	key, nonce := filled(32, 7), filled(12, 8)
	right := Keyed(key).Seal(nonce, "w", "text")
	if Keyed(key+"more").Seal(nonce+"more", "w", "text") != right {
		t.Error("what is cut away counts")
	}
	if Keyed("k").Seal("n", "w", "text") != Keyed("k"+strings.Repeat("\x00", 31)).Seal("n"+strings.Repeat("\x00", 11), "w", "text") {
		t.Error("what is filled up is not noughts")
	}
	back, ok := Keyed(key+"x").Open(nonce+"y", "w", right)
	if !ok || back != "text" {
		t.Error("a key and a nonce that are cut do not open")
	}
}

// P5: wrong inputs: any one bit turned of the sealed text, the tag, the nonce, the key, `with`.
func TestTurnedBits(t *testing.T) {
	for _, n := range []int{0, 1, 15, 16, 17, 40, 228} {
		for _, w := range []int{0, 1, 16, 20} {
			key, nonce, with := filled(32, n), filled(12, w), filled(w, 9)
			k := Keyed(key)
			sealed := k.Seal(nonce, with, filled(n, 10))
			for i := 0; i < 8*len(sealed); i++ {
				refuse(t, k, nonce, with, turnBit(sealed, i), fmt.Sprintf("%d bytes with %d, bit %d", n, w, i))
			}
			for i := 0; i < 8*len(nonce); i++ {
				refuse(t, k, turnBit(nonce, i), with, sealed, fmt.Sprintf("%d bytes with %d, the nonce's bit %d", n, w, i))
			}
			for i := 0; i < 8*len(with); i++ {
				refuse(t, k, nonce, turnBit(with, i), sealed, fmt.Sprintf("%d bytes with %d, its bit %d", n, w, i))
			}
			for i := 0; i < 8*len(key); i += 7 {
				refuse(t, Keyed(turnBit(key, i)), nonce, with, sealed, fmt.Sprintf("%d bytes with %d, the key's bit %d", n, w, i))
			}
		}
	}
}

// P1, P5: wrong inputs: texts shorter than a tag, cut or longer ones, bytes that were moved.
func TestNotSealed(t *testing.T) {
	k := Keyed("key")
	empty := k.Seal("n", "", "")
	back, ok := k.Open("n", "", empty)
	if !ok || back != "" || len(empty) != 16 {
		t.Errorf("the empty text: %v, %q, sealed as %d bytes", ok, back, len(empty))
	}
	for n := 0; n < 16; n++ {
		refuse(t, k, "n", "", empty[:n], fmt.Sprintf("the first %d bytes of a tag", n))
		refuse(t, k, "n", "", empty[16-n:], fmt.Sprintf("the last %d bytes of a tag", n))
		refuse(t, k, "", "", strings.Repeat("\x00", n), fmt.Sprintf("%d noughts", n))
	}
	sealed := k.Seal("n", "with", filled(40, 1))
	for n := 0; n < len(sealed); n++ {
		refuse(t, k, "n", "with", sealed[:n], fmt.Sprintf("cut at %d", n))
		refuse(t, k, "n", "with", sealed[len(sealed)-n:], fmt.Sprintf("the last %d", n))
	}
	refuse(t, k, "n", "with", sealed+"\x00", "a byte more")
	refuse(t, k, "n", "with", "\x00"+sealed, "a byte ahead")
	refuse(t, k, "n", "with", filled(40, 1)+sealed[40:], "the text, not sealed, with its tag")
	refuse(t, k, "n", "with\x00", sealed, "a nought behind what goes with it")
	refuse(t, k, "n", "", sealed, "without what goes with it")
	refuse(t, k, "n", "", "with"+sealed, "what goes with it is moved into the text")
	refuse(t, k, "n\x01", "with", sealed, "another nonce")
	refuse(t, Keyed("kez"), "n", "with", sealed, "another key")
}

// P1, P2: texts of the greatest size.
func TestGreatTexts(t *testing.T) {
	check(t, filled(most, 1), filled(most, 2), filled(most, 3), filled(most-16, 4))
	k := Keyed("k")
	if k.Seal("n", "", filled(most, 5)) != want(t, "k", "n", "", filled(most, 5)) {
		t.Errorf("a text of %d bytes", most)
	}
	refuse(t, k, "n", filled(most, 6), filled(most, 7), "any bytes")
}

// P1: whatever bytes are handed in, Open ends and tells nothing.
func TestAnyBytes(t *testing.T) {
	for i := 0; i < 3000; i++ {
		k := Keyed(filled(i%50, i))
		refuse(t, k, filled(i%17, i+1), filled(i%23, i+2), filled(i%67, i+3), fmt.Sprintf("any bytes, %d", i))
	}
}

// P1, P2: a key may be used again and again; two keys have nothing to do with one another.
func TestKeysApart(t *testing.T) {
	a, b := Keyed("a"), Keyed("b")
	for i := 0; i < 50; i++ {
		text := filled(i, i)
		sealedA, sealedB := a.Seal("n", "w", text), b.Seal("n", "w", text)
		if sealedA != want(t, "a", "n", "w", text) || sealedB != want(t, "b", "n", "w", text) {
			t.Fatalf("sealed at %d", i)
		}
		refuse(t, a, "n", "w", sealedB, "what another key sealed")
		back, ok := a.Open("n", "w", sealedA)
		if !ok || back != text {
			t.Fatalf("opened at %d: %v", i, ok)
		}
	}
}
