package vault

import (
	"fmt"
	"strings"
	"testing"

	"keystore/api"
)

// P9: keys of 1 to 8 bytes, values of 0 to 16; which error comes first.
func TestPutErrors(t *testing.T) {
	d, v := formatted(t, 5, 50)
	value := strings.Repeat("v", 17)
	n := spent(d, func() {
		for _, k := range []string{"", "123456789", strings.Repeat("k", 1<<16)} {
			want(t, "Put", v.Put(k, "1"), api.ErrKey)
			want(t, "Put of a long value", v.Put(k, value), api.ErrKey)
			want(t, "Delete", v.Delete(k), api.ErrKey)
		}
		for _, k := range []string{"1", "\x00", "12345678"} {
			want(t, "a value of 17", v.Put(k, value), api.ErrValue)
			want(t, "a value of 2^16", v.Put(k, strings.Repeat("v", 1<<16)), api.ErrValue)
			want(t, "a value of 16", v.Put(k, value[:16]), api.OK)
			want(t, "a value of none", v.Put(k, ""), api.OK)
			want(t, "Delete", v.Delete(k), api.OK)
		}
	})
	if n != 0 {
		t.Errorf("%d operations", n)
	}
}

// P9: the twelfth key and the thirteenth; a key that the transaction has may come again.
func TestTwelveKeys(t *testing.T) {
	d, v := formatted(t, 48, 50)
	n := spent(d, func() {
		for i := 0; i < 12; i++ {
			k := fmt.Sprint(i * 7 % 12)
			if i%3 == 0 {
				want(t, "Delete "+k, v.Delete(k), api.OK)
			} else {
				want(t, "Put "+k, v.Put(k, "1"), api.OK)
			}
		}
		want(t, "the thirteenth", v.Put("x", "1"), api.ErrOps)
		want(t, "the thirteenth, deleted", v.Delete("x"), api.ErrOps)
		want(t, "the thirteenth, its value too long", v.Put("x", strings.Repeat("v", 17)), api.ErrValue)
		want(t, "no key", v.Delete(""), api.ErrKey)
		for i := 0; i < 12; i++ {
			want(t, "Put again", v.Put(fmt.Sprint(i), "2"), api.OK)
		}
		want(t, "Delete again", v.Delete("7"), api.OK)
	})
	if n != 0 {
		t.Errorf("%d operations", n)
	}
	l, e := v.Scan("", "z")
	want(t, "Scan", e, api.OK)
	if len(l) != 11 {
		t.Errorf("%d keys, want 11: %v", len(l), l)
	}
	want(t, "Commit", v.Commit(), api.OK)
	want(t, "the transaction is empty again", v.Put("x", "1"), api.OK)
}

// P9: of a key the last word counts.
func TestLastWord(t *testing.T) {
	_, v := formatted(t, 48, 50)
	ask(t, v, "a=1 b=1 -b c=1 c=2 -d d=3 -e e= -e")
	checkGet(t, v, "a", "1", api.OK)
	checkGet(t, v, "b", "", api.ErrNone)
	checkGet(t, v, "c", "2", api.OK)
	checkGet(t, v, "d", "3", api.OK)
	checkGet(t, v, "e", "", api.ErrNone)
	want(t, "Commit", v.Commit(), api.OK)
	checkScan(t, v, "", "z", "a=1 c=2 d=3")
}

// P9: Abort empties the transaction and does no operation; the tree is as it was.
func TestAbort(t *testing.T) {
	d, v := formatted(t, 12, 50)
	done(t, v, "a=1 b=1")
	ask(t, v, "a=2 -b c=3")
	checkScan(t, v, "", "z", "a=2 c=3")
	if n := spent(d, func() { want(t, "Abort", v.Abort(), api.OK) }); n != 0 {
		t.Errorf("%d operations", n)
	}
	checkScan(t, v, "", "z", "a=1 b=1")
	if n := spent(d, func() { want(t, "Commit", v.Commit(), api.OK) }); n != 0 {
		t.Errorf("Commit of nothing did %d operations", n)
	}
	want(t, "Abort of nothing", v.Abort(), api.OK)
	if !v.IsOpen() || d.Tally() != 3 {
		t.Errorf("open is %v, the counter %d", v.IsOpen(), d.Tally())
	}
}

func checkGet(t *testing.T, v *Vault, k string, wanted string, e api.Errno) {
	t.Helper()
	s, got := v.Get(k)
	if s != wanted || got != e {
		t.Errorf("Get(%q): %q, %d, want %q, %d", k, s, got, wanted, e)
	}
}

// words: pairs as "k=value", one behind the other.
func words(l []api.Pair) string {
	var w []string
	for _, p := range l {
		w = append(w, p.Key+"="+p.Value)
	}
	return strings.Join(w, " ")
}

func checkScan(t *testing.T, v *Vault, lo string, hi string, wanted string) {
	t.Helper()
	l, e := v.Scan(lo, hi)
	if e != api.OK || words(l) != wanted {
		t.Errorf("Scan(%q, %q): %s, %d, want %s", lo, hi, words(l), e, wanted)
	}
	if wanted == "" && l != nil {
		t.Errorf("Scan(%q, %q) found nothing and is not nil", lo, hi)
	}
}
