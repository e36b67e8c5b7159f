package vault

import (
	"strings"
	"testing"

	"keystore/api"
	"keystore/disk"
)

// crashed: what a crash that keeps nothing leaves of a call: how many writes were asked for, the counter, and what blocks 0, 1 and 2 are (S: a slot, P: something else, -: noughts).
type crashed struct {
	writes, tally int
	kept          string
}

// stand: what is on a disk now.
func stand(d *disk.Disk) crashed {
	kept := ""
	for k := 0; k < 3; k++ {
		switch block := d.Look(k); {
		case block[:4] == "SEAL":
			kept += "S"
		case strings.Trim(block, "\x00") == "":
			kept += "-"
		default:
			kept += "P"
		}
	}
	return crashed{writes: len(d.Wrote), tally: d.Tally(), kept: kept}
}

// downBelow: what a call answers that needs so many operations, and has n.
func downBelow(n int, needs int) api.Errno {
	if n < needs {
		return api.ErrDown
	}
	return api.OK
}

// P7, P8: Format's operations one behind the other: Count, Draw, the slot of version 1, Flush, Bump, the slot of version 2, Flush, Bump.
func TestFormatOperations(t *testing.T) {
	for n, c := range []crashed{
		{0, 0, "---"}, {0, 0, "---"}, {0, 0, "---"}, {1, 0, "---"}, {1, 0, "-S-"}, {1, 1, "-S-"}, {2, 1, "-S-"}, {2, 1, "SS-"}, {2, 2, "SS-"},
	} {
		d, v := world(t, 5, 50)
		d.Fuse(n)
		want(t, "Format", v.Format(pass), downBelow(n, 8))
		if v.IsOpen() != (n == 8) {
			t.Errorf("%d operations: open is %v", n, v.IsOpen())
		}
		d.Crash("")
		if got := stand(d); got != c {
			t.Errorf("%d operations: %+v, want %+v", n, got, c)
		}
	}
}

// P7: where the slot of version c + 1 is there already, it is kept and not written again.
func TestBeginningFromNextVersion(t *testing.T) {
	for n, c := range []struct{ writes, tally int }{{0, 4}, {0, 4}, {0, 5}, {1, 5}, {1, 5}, {1, 6}} {
		d, v := world(t, 5, 50)
		for i := 0; i < 4; i++ {
			d.Bump()
		}
		v.salt = strings.Repeat("s", 16)
		v.keys = keysOf(pass, v.salt)
		v.root = link{place: 3, digest: strings.Repeat("d", 32)}
		d.Fuse(n)
		want(t, "BEGINNING", v.begin(4, 5), downBelow(n, 5))
		if d.Tally() != c.tally || len(d.Wrote) != c.writes || v.IsOpen() != (n == 5) {
			t.Errorf("%d operations: the counter is %d, %d writes, open is %v", n, d.Tally(), len(d.Wrote), v.IsOpen())
		}
		if n < 5 {
			continue
		}
		s := readSlot(t, d.Look(0), pass)
		if s.version != 6 || s.place != 3 || s.salt != v.salt || s.digest != v.root.digest {
			t.Errorf("the slot: %+v", s)
		}
		if v.version != 6 || v.session != 6 || v.sealed != 0 || len(v.changes) != 0 {
			t.Errorf("version %d, session %d, %d pages, %d changes", v.version, v.session, v.sealed, len(v.changes))
		}
	}
}

// P7: both slots of a beginning stand for the same root; behind it the transaction is empty.
func TestFormatBegins(t *testing.T) {
	d, v := formatted(t, 5, 50)
	if !v.IsOpen() || d.Tally() != 2 {
		t.Fatalf("open is %v, the counter %d", v.IsOpen(), d.Tally())
	}
	if tree(t, d, pass) != nil {
		t.Error("an empty vault has a root")
	}
	l, e := v.Scan("", "\xff")
	if l != nil || e != api.OK {
		t.Errorf("an empty vault has %v, %d", l, e)
	}
}

// P8: the errors, and which comes first.
func TestFormatErrors(t *testing.T) {
	d, v := world(t, 5, 1)
	long := strings.Repeat("x", 41)
	want(t, "41 bytes, a low ceiling", v.Format(long), api.ErrArg)
	want(t, "a ceiling of 1", v.Format(pass), api.ErrCounter)
	if n := spent(d, func() { v.Format(pass) }); n != 1 {
		t.Errorf("%d operations up to ErrCounter, want 1", n)
	}
	if n := spent(d, func() { v.Format(long) }); n != 0 {
		t.Errorf("%d operations up to ErrArg", n)
	}
	d, v = world(t, 5, 4)
	d.Bump()
	d.Bump()
	want(t, "a counter of 2, a ceiling of 4", v.Format(strings.Repeat("x", 40)), api.OK)
	if n := spent(d, func() { want(t, "an open vault", v.Format(long), api.ErrOpen) }); n != 0 || !v.IsOpen() {
		t.Errorf("%d operations up to ErrOpen, open is %v", n, v.IsOpen())
	}
	want(t, "Close", v.Close(), api.OK)
	want(t, "a counter of 4, a ceiling of 4", v.Format(pass), api.ErrCounter)
	if v.IsOpen() || d.Tally() != 4 {
		t.Errorf("open is %v, the counter %d", v.IsOpen(), d.Tally())
	}
	d, v = world(t, 5, 3)
	d.Bump()
	d.Bump()
	want(t, "a counter of 2, a ceiling of 3", v.Format(pass), api.ErrCounter)
}

// P8: each Format draws a salt of its own; what an elder vault left is not looked at, and its places are free.
func TestFormatAnew(t *testing.T) {
	d, v := world(t, 5, 50)
	d.Lay("one")
	d.Lay("two")
	want(t, "Format", v.Format(pass), api.OK)
	done(t, v, "a=1")
	done(t, v, "b=1")
	ask(t, v, "c=1")
	want(t, "Close", v.Close(), api.OK)
	if n := spent(d, func() { want(t, "Format", v.Format("other"), api.OK) }); n != 8 {
		t.Errorf("%d operations, want 8", n)
	}
	s := readSlot(t, d.Look(0), "other")
	if s.salt[:3] != "two" || s.version != 6 || s.place != 0 {
		t.Errorf("the slot of the new vault: %+v", s)
	}
	_, e := v.Get("a")
	want(t, "what was in the elder vault", e, api.ErrNone)
	_, e = v.Get("c")
	want(t, "what was in its transaction", e, api.ErrNone)
	done(t, v, "z=1")
	if p := tree(t, d, "other"); p.place != 2 || p.session != 6 || p.nth != 1 {
		t.Errorf("the new vault's page: place %d, session %d, the %d-th", p.place, p.session, p.nth)
	}
}

// P1: where there is no world, no operation works.
func TestNoWorld(t *testing.T) {
	v := Of(nil)
	want(t, "Format", v.Format(pass), api.ErrDown)
	want(t, "Put", v.Put("a", "1"), api.ErrClosed)
	if v.IsOpen() {
		t.Error("it is open")
	}
}

// closedCalls: every call of a closed vault but Format and Open.
func closedCalls(t *testing.T, v *Vault) {
	t.Helper()
	long := strings.Repeat("k", 1<<16)
	for _, k := range []string{"a", "", long} {
		want(t, "Put", v.Put(k, "1"), api.ErrClosed)
		want(t, "Put of a long value", v.Put(k, long), api.ErrClosed)
		want(t, "Delete", v.Delete(k), api.ErrClosed)
		s, e := v.Get(k)
		want(t, "Get", e, api.ErrClosed)
		l, e := v.Scan(k, "a")
		want(t, "Scan", e, api.ErrClosed)
		if s != "" || l != nil {
			t.Errorf("beside an error: %q, %v", s, l)
		}
	}
	want(t, "Abort", v.Abort(), api.ErrClosed)
	want(t, "Commit", v.Commit(), api.ErrClosed)
	want(t, "Close", v.Close(), api.ErrClosed)
	if v.IsOpen() {
		t.Error("it is open")
	}
}

// P9, P10, P11: a closed vault answers ErrClosed, and does no operation.
func TestClosed(t *testing.T) {
	d, v := world(t, 5, 50)
	if n := spent(d, func() { closedCalls(t, v) }); n != 0 {
		t.Errorf("a vault that never was open did %d operations", n)
	}
	want(t, "Format", v.Format(pass), api.OK)
	done(t, v, "a=1")
	ask(t, v, "b=1")
	if n := spent(d, func() { want(t, "Close", v.Close(), api.OK) }); n != 0 {
		t.Errorf("Close did %d operations", n)
	}
	if n := spent(d, func() { closedCalls(t, v) }); n != 0 {
		t.Errorf("a vault that was closed did %d operations", n)
	}
	if len(d.Wrote) != 4 || d.Tally() != 3 {
		t.Errorf("%d writes, the counter is %d", len(d.Wrote), d.Tally())
	}
}

// P9: a closed vault keeps nothing of what it was but its world.
func TestCloseForgets(t *testing.T) {
	d, v := formatted(t, 5, 50)
	done(t, v, "a=1")
	ask(t, v, "b=1")
	want(t, "Close", v.Close(), api.OK)
	if v.keys != (keys{}) || v.salt != "" || v.root != (link{}) || v.changes != nil || v.disk != d {
		t.Errorf("a closed vault has %+v", *v)
	}
}
