package vault

import (
	"fmt"
	"strings"
	"testing"

	"keystore/api"
	"keystore/disk"
)

// again: what is there is closed, and another vault is opened over the same world.
func again(t *testing.T, d *disk.Disk, v *Vault) *Vault {
	t.Helper()
	want(t, "Close", v.Close(), api.OK)
	v = Of(d)
	want(t, "Open", v.Open(pass), api.OK)
	return v
}

// refused: an Open that is not OK: the vault stays closed and keeps nothing, nothing is written, the counter does not rise; how many operations it did.
func refused(t *testing.T, what string, d *disk.Disk, v *Vault, pass string, e api.Errno) int {
	t.Helper()
	tally, wrote := d.Tally(), len(d.Wrote)
	n := spent(d, func() { want(t, what, v.Open(pass), e) })
	if v.IsOpen() || d.Tally() != tally || len(d.Wrote) != wrote {
		t.Errorf("%s: open is %v, the counter %d, it was %d, %d writes more", what, v.IsOpen(), d.Tally(), tally, len(d.Wrote)-wrote)
	}
	if v.keys != (keys{}) || v.salt != "" || v.root != (link{}) || v.used != [api.MaxBlocks]bool{} || v.version != 0 {
		t.Errorf("%s: the closed vault has %+v", what, *v)
	}
	closedCalls(t, v)
	return n
}

// P13: what was committed is there again, in the same vault and in another over the same world; what was not is gone. Trees of no level to three.
func TestOpen(t *testing.T) {
	for _, c := range []struct {
		first, second string
		nodes         int
		shape         string
	}{
		{"", "", 0, ""},
		{"a=1", "", 1, "(a)"},
		{"a=1 b=2 c= d=0123456789abcdef 12345678=5", "", 1, "(12345678 a b c d)"},
		{"a=1 b=1 c=1 d=1 e=1 f=1", "", 3, "((a b c) (d e f))"},
		{firstTwelve, "", 5, "((a b c) (d e f) (g h i) (j k l))"},
		{firstTwelve, otherTwelve, 11, threeLevels},
		{"a=1 b=1", "-a -b", 0, ""},
	} {
		d, v := formatted(t, 48, 500)
		done(t, v, c.first)
		done(t, v, c.second)
		all := words(tree(t, d, pass).pairs())
		ask(t, v, "zz=1 -a")
		for i := 0; i < 3; i++ {
			want(t, "Close", v.Close(), api.OK)
			if i > 0 {
				v = Of(d)
			}
			tally, wrote := d.Tally(), len(d.Wrote)
			n := spent(d, func() { want(t, "Open", v.Open(pass), api.OK) })
			if n != 3+c.nodes+6 || len(d.Wrote) != wrote+2 || d.Tally() != tally+2 || !v.IsOpen() {
				t.Errorf("%s: %d operations, %d writes, the counter is %d, it was %d, open is %v", c.shape, n, len(d.Wrote)-wrote, d.Tally(), tally, v.IsOpen())
			}
			checkScan(t, v, "", "\xff", all)
			checkGet(t, v, "zz", "", api.ErrNone)
			if got := tree(t, d, pass).shape(); got != c.shape {
				t.Errorf("the tree is %s, want %s", got, c.shape)
			}
			for _, w := range strings.Fields(all) {
				k, s, _ := strings.Cut(w, "=")
				checkGet(t, v, k, s, api.OK)
			}
		}
	}
}

// P13, P7: sessions one behind the other: each has a number of its own, counts its pages from 1 on, and its places are those that the tree leaves.
func TestSessions(t *testing.T) {
	d, v := formatted(t, 12, 500)
	all := ""
	for i := 0; i < 8; i++ {
		before := tree(t, d, pass).list()
		since := len(d.Wrote)
		k := string(rune('a' + i))
		done(t, v, k+"=1")
		all = strings.TrimSpace(all + " " + k + "=1")
		nth := 0
		for _, w := range d.Wrote[since : len(d.Wrote)-1] {
			nth++
			if want := numberText(3*i+2, 8) + numberText(nth, 4); w.Text[:12] != want {
				t.Errorf("session %d: the nonce of page %d is %x", 3*i+2, nth, w.Text[:12])
			}
			for _, n := range before {
				if n.place == w.At {
					t.Errorf("session %d: a page is laid where a node lies, at %d", 3*i+2, w.At)
				}
			}
		}
		v = again(t, d, v)
		if d.Tally() != 3*i+5 || v.version != 3*i+5 || v.session != 3*i+5 || v.sealed != 0 {
			t.Errorf("the counter is %d, the version %d, the session %d, %d pages", d.Tally(), v.version, v.session, v.sealed)
		}
		checkScan(t, v, "", "z", all)
		for _, s := range []int{0, 1} {
			if got := readSlot(t, d.Look((d.Tally()-s)%2), pass); got.version != uint64(d.Tally()-s) {
				t.Errorf("the slot %d versions ago has version %d", s, got.version)
			}
		}
	}
}

// P13, P11: a disk that is full is full behind an Open, too.
func TestSpaceBehindOpen(t *testing.T) {
	d, v := formatted(t, 3, 50)
	done(t, v, "a=1")
	v = again(t, d, v)
	ask(t, v, "a=2")
	refusal(t, d, v, api.ErrSpace)
	want(t, "Abort", v.Abort(), api.OK)
	checkGet(t, v, "a", "1", api.OK)
	done(t, v, "-a")
	v = again(t, d, v)
	done(t, v, "b=1")
}

// P13, P7: a session that has sealed all its pages; the next may seal as many again.
func TestPagesBehindOpen(t *testing.T) {
	d, v := formatted(t, 4, 500)
	for i := 0; i < 3; i++ {
		for n := 0; n < 40; n++ {
			done(t, v, "k=1")
		}
		ask(t, v, "k=1")
		refusal(t, d, v, api.ErrSession)
		v = again(t, d, v)
	}
}

// P13: the errors ahead of all operations, and which comes first.
func TestOpenErrors(t *testing.T) {
	d, v := world(t, 5, 50)
	long := strings.Repeat("x", 41)
	if n := refused(t, "41 bytes", d, v, long, api.ErrArg); n != 0 {
		t.Errorf("%d operations up to ErrArg", n)
	}
	refused(t, "2^16 bytes", d, v, strings.Repeat("x", 1<<16), api.ErrArg)
	want(t, "Format", v.Format(long[:40]), api.OK)
	done(t, v, "a=1")
	ask(t, v, "b=1")
	n := spent(d, func() {
		want(t, "an open vault", v.Open(long[:40]), api.ErrOpen)
		want(t, "an open vault, 41 bytes", v.Open(long), api.ErrOpen)
		want(t, "an open vault, another password", v.Open("other"), api.ErrOpen)
	})
	if n != 0 || !v.IsOpen() {
		t.Errorf("%d operations up to ErrOpen, open is %v", n, v.IsOpen())
	}
	checkScan(t, v, "", "z", "a=1 b=1")
	want(t, "Close", v.Close(), api.OK)
	refused(t, "41 bytes", d, v, long, api.ErrArg)
	refused(t, "39 bytes", d, v, long[:39], api.ErrTampered)
	want(t, "40 bytes", v.Open(long[:40]), api.OK)
	checkScan(t, v, "", "z", "a=1")
	refused(t, "no world, 41 bytes", d, Of(nil), long, api.ErrArg)
	refused(t, "no world", d, Of(nil), pass, api.ErrDown)
}

// P13: where nothing was formatted, nothing can be opened, whatever the counter and the blocks are; both blocks are read.
func TestOpenNothing(t *testing.T) {
	for _, block := range []string{"", "SEAL", strings.Repeat("\xff", 256), "SEAL" + strings.Repeat("\xff", 252)} {
		d, v := world(t, 3, 50)
		for i := 0; i < 4; i++ {
			d.Poke(0, block)
			d.Poke(1, block)
			if n := refused(t, "nothing formatted", d, v, "", api.ErrTampered); n != 3 {
				t.Errorf("%d operations, want 3", n)
			}
			d.Bump()
		}
	}
}

// P13, P6: other passwords, and such that differ by noughts alone; the right one opens behind them.
func TestPasswords(t *testing.T) {
	l := []string{"", "\x00", "\x00\x00", "pw", "pw\x00", "pw\x00\x00", "PW", "wp", "\x02pw", strings.Repeat("x", 40), strings.Repeat("x", 39) + "\x00"}
	for _, right := range l {
		d, v := world(t, 5, 500)
		d.Lay("salt")
		want(t, "Format", v.Format(right), api.OK)
		done(t, v, "a=1")
		want(t, "Close", v.Close(), api.OK)
		for _, p := range l {
			if p == right {
				continue
			}
			if n := refused(t, fmt.Sprintf("%q for %q", p, right), d, v, p, api.ErrTampered); n != 3 {
				t.Errorf("%d operations, want 3", n)
			}
		}
		want(t, "the right password", v.Open(right), api.OK)
		checkScan(t, v, "", "z", "a=1")
	}
}

// P13: the counter must rise twice; this error is named last, and nothing is done then.
func TestOpenCeiling(t *testing.T) {
	d, v := formatted(t, 5, 6)
	done(t, v, "a=1")
	done(t, v, "b=1")
	v = again(t, d, v)
	want(t, "Close", v.Close(), api.OK)
	if n := refused(t, "a counter at its ceiling", d, v, pass, api.ErrCounter); n != 4 {
		t.Errorf("%d operations, want 4", n)
	}
	refused(t, "41 bytes", d, v, strings.Repeat("x", 41), api.ErrArg)
	refused(t, "another password", d, v, "other", api.ErrTampered)
	place := tree(t, d, pass).place
	good := d.Look(place)
	d.Poke(place, "")
	refused(t, "a node that was changed", d, v, pass, api.ErrTampered)
	d.Poke(place, good)
	d.Fuse(3)
	want(t, "three operations", v.Open(pass), api.ErrDown)
	d, v = formatted(t, 5, 4)
	done(t, v, "a=1")
	want(t, "Close", v.Close(), api.OK)
	refused(t, "room for one step", d, v, pass, api.ErrCounter)
	d, v = formatted(t, 5, 5)
	done(t, v, "a=1")
	v = again(t, d, v)
	checkGet(t, v, "a", "1", api.OK)
	done(t, v, "-b")
	ask(t, v, "a=2")
	refusal(t, d, v, api.ErrCounter)
}

// P13, P8: a Format makes what was there unreachable, under its old password and under the same.
func TestOpenBehindFormat(t *testing.T) {
	d, v := formatted(t, 5, 500)
	done(t, v, "a=1")
	want(t, "Close", v.Close(), api.OK)
	d.Lay("another salt")
	want(t, "Format", v.Format("new"), api.OK)
	done(t, v, "q=1")
	want(t, "Close", v.Close(), api.OK)
	refused(t, "the old password", d, v, pass, api.ErrTampered)
	want(t, "the new password", v.Open("new"), api.OK)
	checkScan(t, v, "", "z", "q=1")
	if s := readSlot(t, d.Look(0), "new"); s.salt != nulled("another salt", 16) {
		t.Errorf("the salt is %q", s.salt)
	}
	want(t, "Close", v.Close(), api.OK)
	want(t, "Format", v.Format("new"), api.OK)
	want(t, "Close", v.Close(), api.OK)
	want(t, "Open", v.Open("new"), api.OK)
	checkScan(t, v, "", "z", "")
}

// P13, P7: Open's operations one behind the other: Count, two Reads, the nodes, and BEGINNING; what a crash leaves of it.
func TestOpenOperations(t *testing.T) {
	for n, c := range []crashed{
		{4, 3, "SSP"}, {4, 3, "SSP"}, {4, 3, "SSP"}, {4, 3, "SSP"}, {4, 3, "SSP"}, // Count, Read, Read, the root
		{5, 3, "SSP"}, {5, 3, "SSP"}, {5, 4, "SSP"}, {6, 4, "SSP"}, {6, 4, "SSP"}, {6, 5, "SSP"},
	} {
		d, v := formatted(t, 5, 50)
		done(t, v, "a=1")
		want(t, "Close", v.Close(), api.OK)
		version := []uint64{2, 3}
		if n >= 6 {
			version[0] = 4
		}
		if n >= 9 {
			version[1] = 5
		}
		d.Fuse(n)
		want(t, "Open", v.Open(pass), downBelow(n, 10))
		if v.IsOpen() != (n == 10) {
			t.Errorf("%d operations: open is %v", n, v.IsOpen())
		}
		d.Crash("")
		if got := stand(d); got != c {
			t.Errorf("%d operations: %+v, want %+v", n, got, c)
		}
		for k := range version {
			if s := readSlot(t, d.Look(k), pass); s.version != version[k] {
				t.Errorf("%d operations: block %d has version %d, want %d", n, k, s.version, version[k])
			}
		}
		v = Of(d)
		want(t, "Open behind a crash", v.Open(pass), api.OK)
		checkScan(t, v, "", "z", "a=1")
	}
}
