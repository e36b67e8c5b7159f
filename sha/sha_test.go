package sha

import (
	"crypto/sha256"
	"fmt"
	"strings"
	"testing"
)

// most: no text that is handed in has more bytes, and no number is above it (P2).
const most = 1 << 16

// filled: n bytes that do not repeat soon.
func filled(n int, seed int) string {
	b := make([]byte, n)
	x := uint32(seed)*2654435761 + 1
	for i := range b {
		x = x*1664525 + 1013904223
		b[i] = byte(x >> 24)
	}
	return string(b)
}

func want(t string) string {
	d := sha256.Sum256([]byte(t))
	return string(d[:])
}

// P3: the digests that are known.
func TestDigestKnown(t *testing.T) {
	for _, c := range []struct{ text, want string }{
		{"", "e3b0c44298fc1c149afbf4c8996fb92427ae41e4649b934ca495991b7852b855"},
		{"abc", "ba7816bf8f01cfea414140de5dae2223b00361a396177a9cb410ff61f20015ad"},
		{"abcdbcdecdefdefgefghfghighijhijkijkljklmklmnlmnomnopnopq", "248d6a61d20638b8e5c026930c3e6039a33ce45964ff2167f6ecedd419db06c1"},
		{"abcdefghbcdefghicdefghijdefghijkefghijklfghijklmghijklmnhijklmnoijklmnopjklmnopqklmnopqrlmnopqrsmnopqrstnopqrstu", "cf5b16a778af8380036ce59e7b0492370b249b11e8f07a51afac45037afee9d1"},
	} {
		if got := fmt.Sprintf("%x", Of(c.text)); got != c.want {
			t.Errorf("%q: %s, want %s", c.text, got, c.want)
		}
	}
	h := Start()
	for i := 0; i < 1000; i++ {
		h.Write(strings.Repeat("a", 1000))
	}
	if got := fmt.Sprintf("%x", h.Sum()); got != "cdc76e5c9914fb9281a1c7e284d73e67f1809a48a497200e046d39ccc7112cd0" {
		t.Errorf("a million of a: %s", got)
	}
}

// P3: all lengths around the edges of the last block (55, 56, 63, 64 and their like), and the greatest ones.
func TestDigestLengths(t *testing.T) {
	lengths := []int{1000, 4096, most - 64, most - 9, most - 8, most - 1, most}
	for n := 0; n <= 330; n++ {
		lengths = append(lengths, n)
	}
	for _, n := range lengths {
		for _, text := range []string{filled(n, n), strings.Repeat("\x00", n), strings.Repeat("\xff", n)} {
			if got := Of(text); got != want(text) {
				t.Errorf("%d bytes: %x, want %x", n, got, want(text))
			}
		}
	}
	if len(Of("x")) != Size || Size != 32 {
		t.Errorf("a digest of %d bytes, Size %d", len(Of("x")), Size)
	}
}

// P3: a text in two pieces, cut anywhere, with Sum on the way: Sum changes nothing.
func TestTwoPieces(t *testing.T) {
	for n := 0; n <= 200; n++ {
		text := filled(n, n)
		for cut := 0; cut <= n; cut++ {
			h := Start()
			h.Write(text[:cut])
			for i := 0; i < 2; i++ {
				if h.Sum() != want(text[:cut]) {
					t.Fatalf("%d bytes of %d, Sum %d", cut, n, i)
				}
			}
			h.Write(text[cut:])
			h.Write("")
			for i := 0; i < 2; i++ {
				if h.Sum() != want(text) {
					t.Fatalf("%d bytes, cut at %d, Sum %d", n, cut, i)
				}
			}
		}
	}
}

// P3: many pieces of all sizes, with Sum behind each.
func TestManyPieces(t *testing.T) {
	for size := 0; size <= 130; size++ {
		h := Start()
		all := ""
		for i := 0; i < 12; i++ {
			piece := filled(size, i)
			h.Write(piece)
			all += piece
			if h.Sum() != want(all) {
				t.Fatalf("%d pieces of %d bytes", i+1, size)
			}
		}
	}
}

// P2, P3: pieces of the greatest size: what is taken in may be more than one text has.
func TestGreatPieces(t *testing.T) {
	h := Start()
	r := sha256.New()
	for i := 0; i < 5; i++ {
		piece := filled(most, i)
		h.Write(piece)
		r.Write([]byte(piece))
		if got := h.Sum(); got != string(r.Sum(nil)) {
			t.Errorf("%d great pieces: %x", i+1, got)
		}
	}
}

// P3: the number of bits has eight bytes, also where four would do no more.
func TestLengthInBits(t *testing.T) {
	for _, c := range []struct {
		size uint64
		want string
	}{
		{0, "0000000000000000"}, {1, "0000000000000008"}, {55, "00000000000001b8"}, {56, "00000000000001c0"},
		{1<<29 - 1, "00000000fffffff8"}, {1 << 29, "0000000100000000"}, {1<<40 + 64, "0000080000000200"},
	} {
		p := padding(c.size)
		if got := fmt.Sprintf("%x", p[len(p)-8:]); got != c.want || p[0] != 128 {
			t.Errorf("%d bytes: %s behind %d, want %s behind 128", c.size, got, p[0], c.want)
		}
		if all := c.size + uint64(len(p)); all%64 != 0 || len(p) > 72 {
			t.Errorf("%d bytes and %d behind them", c.size, len(p))
		}
	}
}

// P1, P2: two texts that are taken in side by side have nothing to do with one another.
func TestHashesApart(t *testing.T) {
	a, b := Start(), Start()
	textA, textB := "", ""
	for i := 0; i < 40; i++ {
		a.Write(filled(i, 1))
		textA += filled(i, 1)
		b.Write(filled(3*i, 2))
		textB += filled(3*i, 2)
		if a.Sum() != want(textA) || b.Sum() != want(textB) {
			t.Fatalf("behind %d pieces", i+1)
		}
	}
	if Start().Sum() != want("") {
		t.Error("a new one has taken in something")
	}
}
