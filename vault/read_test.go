package vault

import (
	"strings"
	"testing"

	"keystore/api"
	"keystore/disk"
)

const (
	firstTwelve = "a=1 b=1 c=1 d=1 e=1 f=1 g=1 h=1 i=1 j=1 k=1 l=1"
	otherTwelve = "m=1 n=1 o=1 p=1 q=1 r=1 s=1 t=1 u=1 v=1 w=1 x=1"
	threeLevels = "(((a b c) (d e f) (g h i)) ((j k l) (m n o) (p q r) (s t u) (v w x)))"
)

// deep: a vault whose tree has three levels, with the keys a to x.
func deep(t *testing.T) (*disk.Disk, *Vault) {
	t.Helper()
	d, v := formatted(t, 48, 500)
	done(t, v, firstTwelve)
	done(t, v, otherTwelve)
	if got := tree(t, d, pass).shape(); got != threeLevels {
		t.Fatalf("the tree is %s", got)
	}
	return d, v
}

// P10: Get out of the tree and out of the transaction; what it reads.
func TestGet(t *testing.T) {
	d, v := deep(t)
	for k := byte('a'); k <= 'x'; k++ {
		checkGet(t, v, string(k), "1", api.OK)
		checkGet(t, v, string(k)+"x", "", api.ErrNone)
	}
	for _, k := range []string{"\x00", "0", "`", "y", "\xff\xff\xff\xff\xff\xff\xff\xff"} {
		if n := spent(d, func() { checkGet(t, v, k, "", api.ErrNone) }); n != 3 {
			t.Errorf("Get(%q) did %d operations, want 3", k, n)
		}
	}
	ask(t, v, "a=2 -b zz=3 c=")
	n := spent(d, func() {
		checkGet(t, v, "a", "2", api.OK)
		checkGet(t, v, "b", "", api.ErrNone)
		checkGet(t, v, "c", "", api.OK)
		checkGet(t, v, "zz", "3", api.OK)
	})
	if n != 0 {
		t.Errorf("keys of the transaction: %d operations", n)
	}
	for _, k := range []string{"d", "x", "dd"} {
		if n := spent(d, func() { v.Get(k) }); n != 3 {
			t.Errorf("Get(%q) did %d operations, want 3", k, n)
		}
	}
}

// P10: the key's length; where there is no tree, nothing is read.
func TestGetEdges(t *testing.T) {
	d, v := formatted(t, 5, 50)
	n := spent(d, func() {
		checkGet(t, v, "", "", api.ErrKey)
		checkGet(t, v, "123456789", "", api.ErrKey)
		checkGet(t, v, strings.Repeat("k", 1<<16), "", api.ErrKey)
		checkGet(t, v, "1", "", api.ErrNone)
		checkGet(t, v, "12345678", "", api.ErrNone)
		checkScan(t, v, "", "\xff", "")
	})
	if n != 0 {
		t.Errorf("%d operations", n)
	}
	done(t, v, "12345678=0123456789abcdef")
	checkGet(t, v, "12345678", "0123456789abcdef", api.OK)
	checkGet(t, v, "1234567", "", api.ErrNone)
}

// P10: what a Scan looks at: only children that may have keys from lo to hi.
func TestScanReads(t *testing.T) {
	d, v := deep(t)
	all := words(tree(t, d, pass).pairs())
	for _, c := range []struct {
		lo, hi, found string
		reads         int
	}{
		{"", "\xff", all, 11},
		{"a", "x", all, 11},
		{"aa", "wz", strings.TrimSuffix(strings.TrimPrefix(all, "a=1 "), " x=1"), 11},
		{"b", "a", "", 0},
		{"\xff", "", "", 0},
		{"a", "", "", 0},
		{"", "", "", 1},
		{"0", "5", "", 1},
		{"0", "a", "a=1", 3},
		{"d", "f", "d=1 e=1 f=1", 3},
		{"d", "g", "d=1 e=1 f=1 g=1", 4},
		{"c", "d", "c=1 d=1", 4},
		{"cc", "d", "d=1", 4},
		{"cc", "cd", "", 3},
		{"g", "g", "g=1", 3},
		{"i", "i", "i=1", 3},
		{"ii", "ij", "", 3},
		{"ii", "j", "j=1", 5},
		{"j", "j", "j=1", 3},
		{"i", "j", "i=1 j=1", 5},
		{"y", "z", "", 3},
		{"x", strings.Repeat("z", 1<<16), "x=1", 3},
		{strings.Repeat("a", 1<<16), "b", "b=1", 3},
	} {
		if n := spent(d, func() { checkScan(t, v, c.lo, c.hi, c.found) }); n != c.reads {
			t.Errorf("Scan(%.9q, %.9q) did %d operations, want %d", c.lo, c.hi, n, c.reads)
		}
	}
}

// P10: a Scan answers what would be behind the transaction.
func TestScanBehindTransaction(t *testing.T) {
	_, v := formatted(t, 12, 50)
	ask(t, v, "d=1 b=1")
	checkScan(t, v, "", "z", "b=1 d=1")
	done(t, v, "f=1")
	ask(t, v, "a=2 b=2 -d c=2 -e g=2 -zz")
	checkScan(t, v, "", "z", "a=2 b=2 c=2 f=1 g=2")
	checkScan(t, v, "b", "f", "b=2 c=2 f=1")
	checkScan(t, v, "d", "e", "")
	checkScan(t, v, "g", "g", "g=2")
	checkScan(t, v, "ff", "fg", "")
	ask(t, v, "-a -b -c -f -g")
	checkScan(t, v, "", "z", "")
	want(t, "Abort", v.Abort(), api.OK)
	checkScan(t, v, "", "z", "b=1 d=1 f=1")
}

// P2: a list is the caller's, with its spare room.
func TestScanIsFresh(t *testing.T) {
	_, v := formatted(t, 12, 50)
	done(t, v, "a=1 b=1 c=1")
	for _, changes := range []string{"", "d=1 b=2"} {
		ask(t, v, changes)
		first, _ := v.Scan("", "z")
		wanted := words(first)
		other, _ := v.Scan("", "z")
		room := first[:cap(first)]
		for i := range room {
			room[i] = api.Pair{Key: "spoilt", Value: "spoilt"}
		}
		if words(other) != wanted {
			t.Errorf("another answer became %s", words(other))
		}
		checkScan(t, v, "", "z", wanted)
	}
	want(t, "Commit", v.Commit(), api.OK)
	checkScan(t, v, "", "z", "a=1 b=2 c=1 d=1")
}
