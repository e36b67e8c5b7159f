package vault

import (
	"fmt"
	"testing"

	"keystore/api"
	"keystore/disk"
)

// P11: a Commit's operations one behind the other: the page, Flush, the slot, Flush, Bump.
func TestCommitOperations(t *testing.T) {
	for n, c := range []crashed{{2, 2, "SS-"}, {3, 2, "SS-"}, {3, 2, "SSP"}, {4, 2, "SSP"}, {4, 2, "SSP"}, {4, 3, "SSP"}} {
		d, v := formatted(t, 5, 50)
		old := d.Look(1)
		ask(t, v, "a=1")
		d.Fuse(n)
		want(t, "Commit", v.Commit(), downBelow(n, 5))
		if v.IsOpen() != (n == 5) {
			t.Errorf("%d operations: open is %v", n, v.IsOpen())
		}
		d.Crash("")
		if got := stand(d); got != c {
			t.Errorf("%d operations: %+v, want %+v", n, got, c)
		}
		if kept := d.Look(1) != old; kept != (n >= 4) {
			t.Errorf("%d operations: the new slot is kept: %v", n, kept)
		}
	}
}

// P11, P12, P14: how many operations Commits do: reads, pages, and Flush, slot, Flush, Bump.
func TestCommitReads(t *testing.T) {
	for _, c := range []struct {
		changes string
		count   int
	}{
		{"", 0},
		{"-zz", 3},
		{"-aa -ab -bb -cc", 3},
		{"-aa -dd", 4},
		{"a=1", 3 + 3 + 4},
		{"a=1 b=2 -cc", 3 + 3 + 4},
		{"-aa a=1 -b", 3 + 3 + 4},
		{"a=1 x=1", 5 + 5 + 4},
		{"-a -b", 4 + 3 + 4},
		{"-a -b -c -d -e", 6 + 4 + 4},
	} {
		d, v := deep(t)
		ask(t, v, c.changes)
		if n := spent(d, func() { want(t, "Commit", v.Commit(), api.OK) }); n != c.count {
			t.Errorf("Commit of %q did %d operations, want %d", c.changes, n, c.count)
		}
	}
}

// P11: a Commit that leaves no tree writes no page, but Flush, the slot, Flush and Bump are done.
func TestCommitToNothing(t *testing.T) {
	d, v := formatted(t, 5, 50)
	done(t, v, "a=1")
	ask(t, v, "-a")
	if n := spent(d, func() { want(t, "Commit", v.Commit(), api.OK) }); n != 5 {
		t.Errorf("%d operations, want 5", n)
	}
	if s := readSlot(t, d.Look(0), pass); s.version != 4 || s.place != 0 {
		t.Errorf("the slot: %+v", s)
	}
	checkScan(t, v, "", "z", "")
}

// P11: where nothing changes, nothing is written; the transaction is empty then.
func TestCommitOfNothing(t *testing.T) {
	d, v := formatted(t, 12, 50)
	for _, tree := range []string{"", "a=1", "b=1 c=1 d=1 e=1 f=1"} {
		done(t, v, tree)
		state := writes(d)
		want(t, "Commit of nothing", v.Commit(), api.OK)
		done(t, v, "-aa -0 -z")
		if writes(d) != state {
			t.Errorf("%s, then %s", state, writes(d))
		}
		if len(v.changes) != 0 {
			t.Errorf("the transaction has %d keys", len(v.changes))
		}
	}
	tally := d.Tally()
	done(t, v, "a=1")
	if d.Tally() != tally+1 || !v.IsOpen() {
		t.Errorf("a value that is the same: the counter is %d, it was %d", d.Tally(), tally)
	}
}

// P11, P13: the lowest free place; what a Commit replaces is free only behind it. An Open ahead of each Commit changes nothing in that.
func TestPlaces(t *testing.T) {
	for _, opens := range []bool{false, true} {
		d, v := formatted(t, 8, 50)
		for i, c := range []struct {
			changes string
			places  []int // of the new nodes
		}{
			{"a=1", []int{2}},
			{"a=2", []int{3}},
			{"a=3", []int{2}},
			{"b=1 c=1 d=1 e=1 f=1", []int{3, 4, 5}},
			{"f=2", []int{2, 6}},
			{"a=1", []int{4, 5}},
			{"-d -e", []int{3}},
			{"-a -b -c -f", nil},
			{"a=1 b=1 c=1 d=1 e=1 f=1 g=1 h=1 i=1", []int{2, 3, 4, 5}},
		} {
			if opens {
				v = again(t, d, v)
			}
			before, since := tree(t, d, pass), len(d.Wrote)
			done(t, v, c.changes)
			var places []int
			for _, w := range d.Wrote[since : len(d.Wrote)-1] {
				places = append(places, w.At)
			}
			if fmt.Sprint(places) != fmt.Sprint(c.places) {
				t.Errorf("step %d, %q: places %v, want %v (%s before)", i, c.changes, places, c.places, before.shape())
			}
		}
	}
}

// P11: children ahead of their parents, from the left to the right: in a tree of three levels an inner node stands ahead of the leaves to its right.
func TestOrderOfPages(t *testing.T) {
	d, v := deep(t)
	since := len(d.Wrote)
	done(t, v, "a=2 x=2")
	_, key := keyPair(t, pass, d.Look(0)[4:20])
	kinds := ""
	for _, w := range d.Wrote[since : len(d.Wrote)-1] {
		n := readNode(t, openBlock(t, w.Text, w.At, key))
		kinds += n.keys[0]
		if n.leaf {
			kinds += "."
		}
	}
	if kinds != "a.av.ja" {
		t.Errorf("pages in the order %s", kinds)
	}
}

// refusal: a Commit that is refused changes nothing.
func refusal(t *testing.T, d *disk.Disk, v *Vault, e api.Errno) {
	t.Helper()
	state, tally, changes := writes(d), d.Tally(), fmt.Sprint(v.changes)
	want(t, "Commit", v.Commit(), e)
	if writes(d) != state || d.Tally() != tally || fmt.Sprint(v.changes) != changes || !v.IsOpen() {
		t.Errorf("behind error %d: %s, %d, open is %v, the transaction %v", e, writes(d), d.Tally(), v.IsOpen(), v.changes)
	}
}

// P11: a full disk of three blocks.
func TestSpace(t *testing.T) {
	d, v := formatted(t, 3, 50)
	done(t, v, "a=1")
	ask(t, v, "a=2 b=1")
	refusal(t, d, v, api.ErrSpace)
	checkGet(t, v, "a", "2", api.OK)
	want(t, "Abort", v.Abort(), api.OK)
	checkGet(t, v, "a", "1", api.OK)
	done(t, v, "-b")
	done(t, v, "-a")
	done(t, v, "b=1")
	if p := tree(t, d, pass); p.place != 2 || p.shape() != "(b)" {
		t.Errorf("%s at %d", p.shape(), p.place)
	}
}

// P11: as many free places as new nodes are enough; one fewer is not.
func TestSpaceEdge(t *testing.T) {
	for _, c := range []struct {
		blocks int
		e      api.Errno
	}{{4, api.ErrSpace}, {5, api.ErrSpace}, {6, api.OK}, {7, api.OK}} {
		d, v := formatted(t, c.blocks, 50)
		done(t, v, "a=1 b=1 c=1")
		ask(t, v, "d=1 e=1 f=1")
		if c.e == api.OK {
			want(t, "Commit", v.Commit(), api.OK)
			continue
		}
		refusal(t, d, v, c.e)
		checkScan(t, v, "", "z", "a=1 b=1 c=1 d=1 e=1 f=1")
		ask(t, v, "-d -e -f")
		want(t, "Commit", v.Commit(), api.OK)
		checkScan(t, v, "", "z", "a=1 b=1 c=1")
	}
}

// P11: the counter at its ceiling; this error is named ahead of the others.
func TestCeiling(t *testing.T) {
	d, v := formatted(t, 3, 4)
	done(t, v, "a=1")
	done(t, v, "-a")
	ask(t, v, "a=2")
	refusal(t, d, v, api.ErrCounter)
	want(t, "Abort", v.Abort(), api.OK)
	done(t, v, "-a -b")
	d, v = formatted(t, 3, 3)
	done(t, v, "a=1")
	ask(t, v, "a=2")
	refusal(t, d, v, api.ErrCounter)
	ask(t, v, "-a")
	refusal(t, d, v, api.ErrCounter)
	checkGet(t, v, "a", "", api.ErrNone)
}

// P11: the fortieth page of a session and the next; ErrSession is named ahead of ErrSpace.
func TestSession(t *testing.T) {
	d, v := formatted(t, 4, 500)
	for i := 0; i < 38; i++ {
		done(t, v, "a="+fmt.Sprint(i))
	}
	done(t, v, "b=1 c=1 d=1 e=1")
	ask(t, v, "f=1")
	refusal(t, d, v, api.ErrSession)
	want(t, "Abort", v.Abort(), api.OK)
	done(t, v, "a=39")
	ask(t, v, "a=40")
	refusal(t, d, v, api.ErrSession)
	checkGet(t, v, "a", "40", api.OK)
	done(t, v, "-a -b -c -d -e")
	ask(t, v, "a=1")
	refusal(t, d, v, api.ErrSession)
	want(t, "Close", v.Close(), api.OK)
	want(t, "Format", v.Format(pass), api.OK)
	done(t, v, "a=1")
}

// P11: ErrTampered leaves transaction, tree and disk as they are.
func TestCommitTampered(t *testing.T) {
	d, v := deep(t)
	leaf := tree(t, d, pass).below[0].below[0].place
	good := d.Look(leaf)
	d.Poke(leaf, "")
	ask(t, v, "x=2 a=2")
	refusal(t, d, v, api.ErrTampered)
	checkGet(t, v, "a", "2", api.OK)
	d.Poke(leaf, good)
	want(t, "Commit", v.Commit(), api.OK)
	checkScan(t, v, "w", "x", "w=1 x=2")
	checkGet(t, v, "a", "2", api.OK)
}
