package sha

import (
	"crypto/hmac"
	"crypto/pbkdf2"
	"crypto/sha256"
	"fmt"
	"math"
	"strings"
	"testing"
)

func wantTag(key string, text string) string {
	h := hmac.New(sha256.New, []byte(key))
	h.Write([]byte(text))
	return string(h.Sum(nil))
}

func wantKey(t *testing.T, pass string, salt string, rounds int, size int) string {
	k, err := pbkdf2.Key(sha256.New, pass, []byte(salt), rounds, size)
	if err != nil {
		t.Fatal(err)
	}
	return string(k)
}

// P4: the tags of RFC 4231.
func TestTagKnown(t *testing.T) {
	counted := ""
	for i := 1; i <= 25; i++ {
		counted += string([]byte{byte(i)})
	}
	for _, c := range []struct{ key, text, want string }{
		{strings.Repeat("\x0b", 20), "Hi There", "b0344c61d8db38535ca8afceaf0bf12b881dc200c9833da726e9376c2e32cff7"},
		{"Jefe", "what do ya want for nothing?", "5bdcc146bf60754e6a042426089575c75a003f089d2739839dec58b964ec3843"},
		{strings.Repeat("\xaa", 20), strings.Repeat("\xdd", 50), "773ea91e36800e46854db8ebd09181a72959098b3ef8c122d9635514ced565fe"},
		{counted, strings.Repeat("\xcd", 50), "82558a389a443c0ea4cc819899f2083a85f0faa3e578f8077a2e3ff46729665b"},
		{strings.Repeat("\xaa", 131), "Test Using Larger Than Block-Size Key - Hash Key First", "60e431591ee0b67f0d8a26aacbf5b77f8e0bc6213728c5140546040f0ee37f54"},
	} {
		if got := fmt.Sprintf("%x", Keyed(c.key).Sum(c.text)); got != c.want {
			t.Errorf("%q: %s, want %s", c.text, got, c.want)
		}
	}
}

// P4: keys and texts of all lengths around 64, and the greatest; each key is asked again and again.
func TestTagLengths(t *testing.T) {
	keys := []int{0, 1, 20, 31, 32, 33, 62, 63, 64, 65, 66, 127, 128, 129, 200, most - 1, most}
	texts := []int{0, 1, 31, 54, 55, 56, 57, 63, 64, 65, 119, 120, 128, 1000, most}
	for _, k := range keys {
		key := filled(k, k+1)
		m := Keyed(key)
		for round := 0; round < 2; round++ {
			for _, n := range texts {
				text := filled(n, n)
				if got := m.Sum(text); got != wantTag(key, text) {
					t.Errorf("a key of %d, a text of %d, round %d: %x", k, n, round, got)
				}
			}
		}
	}
}

// P4: noughts behind a key change nothing up to 64 bytes; a longer key is its digest.
func TestKeyIsFilledUp(t *testing.T) {
	for n := 0; n <= 64; n++ {
		key := filled(n, 3)
		if Keyed(key).Sum("text") != Keyed(key+strings.Repeat("\x00", 64-n)).Sum("text") {
			t.Errorf("a key of %d bytes and noughts", n)
		}
		if Keyed(key).Sum("text") == Keyed(key+strings.Repeat("\x00", 65-n)).Sum("text") {
			t.Errorf("a key of %d bytes and noughts up to 65", n)
		}
	}
	for _, n := range []int{65, 66, 100, 128, 1000} {
		key := filled(n, 4)
		if Keyed(key).Sum("text") != Keyed(Of(key)).Sum("text") {
			t.Errorf("a key of %d bytes and its digest", n)
		}
	}
}

// P4: a tag hangs on each bit of its key and of its text.
func TestTagBits(t *testing.T) {
	for _, n := range []int{1, 40, 64, 70} {
		key, text := filled(n, 5), filled(n, 6)
		right := Keyed(key).Sum(text)
		for i := 0; i < 8*n; i++ {
			k, s := []byte(key), []byte(text)
			k[i/8] ^= 1 << (i % 8)
			s[i/8] ^= 1 << (i % 8)
			if Keyed(string(k)).Sum(text) == right || Keyed(key).Sum(string(s)) == right {
				t.Errorf("%d bytes, bit %d", n, i)
			}
		}
	}
}

// P1, P2: two keys have nothing to do with one another.
func TestMACsApart(t *testing.T) {
	a, b := Keyed("a"), Keyed("b")
	for i := 0; i < 100; i++ {
		text := filled(i, i)
		if a.Sum(text) != wantTag("a", text) || b.Sum(text+"x") != wantTag("b", text+"x") {
			t.Fatalf("the tags at %d", i)
		}
	}
}

// P4: keys that are known: RFC 7914, 11, and the inputs of RFC 6070 with this digest.
func TestStretchKnown(t *testing.T) {
	for _, c := range []struct {
		pass, salt   string
		rounds, size int
		want         string
	}{
		{"passwd", "salt", 1, 64, "55ac046e56e3089fec1691c22544b605f94185216dde0465e68b9d57c20dacbc49ca9cccf179b645991664b39d77ef317c71b845b1e30bd509112041d3a19783"},
		{"password", "salt", 1, 32, "120fb6cffcf8b32c43e7225256c4f837a86548c92ccc35480805987cb70be17b"},
		{"password", "salt", 2, 32, "ae4d0c95af6b46d32d0adff928f06dd02a303f8ef3c251dfd6e2d85a95474c43"},
		{"password", "salt", 4096, 32, "c5e478d59288c841aa530db6845c4c8d962893a001ce4e11a4963873aa98134a"},
		{"passwordPASSWORDpassword", "saltSALTsaltSALTsaltSALTsaltSALTsalt", 4096, 40, "348c89dbcbd32b2f32d814b8116e84cf2b17347ebc1800181c4e2a1fb8dd53e1c635518c7dac47e9"},
		{"pass\x00word", "sa\x00lt", 4096, 16, "89b69d0516f829893c696226650a8687"},
	} {
		if got := fmt.Sprintf("%x", Stretch(c.pass, c.salt, c.rounds, c.size)); got != c.want {
			t.Errorf("%q, %d rounds, %d bytes: %s, want %s", c.pass, c.rounds, c.size, got, c.want)
		}
	}
}

// P4: passwords and salts of all lengths, sizes around whole digests.
func TestStretchLengths(t *testing.T) {
	for _, n := range []int{0, 1, 41, 63, 64, 65, 130, most} {
		pass := filled(n, 7)
		for _, s := range []int{0, 1, 16, 51, 52, 60, 64, most} {
			salt := filled(s, 8)
			for _, size := range []int{1, 31, 32, 33, 64, 65} {
				if got := Stretch(pass, salt, 3, size); got != wantKey(t, pass, salt, 3, size) {
					t.Errorf("a password of %d, a salt of %d, %d bytes: %x", n, s, size, got)
				}
			}
		}
	}
}

// P1, P4: rounds below 1 are 1; of a size below 0 there is nothing.
func TestStretchEdges(t *testing.T) {
	one := wantKey(t, "pw", "salt", 1, 100)
	for _, rounds := range []int{1, 0, -1, -1000, math.MinInt} {
		for size := 0; size <= 100; size++ {
			if got := Stretch("pw", "salt", rounds, size); got != one[:size] {
				t.Errorf("%d rounds, %d bytes: %x", rounds, size, got)
			}
		}
	}
	for _, rounds := range []int{math.MinInt, -1, 0, 1, 2, 3, most} {
		for _, size := range []int{0, -1, -32, math.MinInt} {
			if got := Stretch("pw", "salt", rounds, size); got != "" {
				t.Errorf("%d rounds, %d bytes: %x", rounds, size, got)
			}
		}
	}
	for rounds := 2; rounds <= 6; rounds++ {
		if got := Stretch("pw", "salt", rounds, 33); got != wantKey(t, "pw", "salt", rounds, 33) {
			t.Errorf("%d rounds: %x", rounds, got)
		}
	}
}

// P2, P4: the greatest numbers of rounds and of bytes; the parts are numbered beyond one byte.
func TestStretchGreat(t *testing.T) {
	if got := Stretch("pw", "salt", most, 1); got != wantKey(t, "pw", "salt", most, 1) {
		t.Errorf("%d rounds: %x", most, got)
	}
	if Stretch("pw", "salt", 1, most) != wantKey(t, "pw", "salt", 1, most) {
		t.Errorf("%d bytes", most)
	}
}
