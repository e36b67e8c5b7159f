package vault

import (
	"fmt"
	"maps"
	"math/rand"
	"slices"
	"strings"
	"testing"

	"keystore/api"
	"keystore/disk"
)

// found: what a vault has, as words.
func found(t *testing.T, v *Vault) string {
	t.Helper()
	l, e := v.Scan("", "\xff")
	want(t, "Scan", e, api.OK)
	return words(l)
}

// choices: all that a crash may keep of so many blocks: none, one or both sectors of each.
func choices(blocks int) []string {
	l := []string{""}
	for range blocks {
		var more []string
		for _, c := range l {
			for b := byte(0); b < 4; b++ {
				more = append(more, c+string([]byte{b}))
			}
		}
		l = more
	}
	return l
}

// P13, P15: whenever a Commit stops, and whatever a crash keeps of it, the next Open finds the old tree or the new one; where that Open stops, too, so does the one behind it.
func TestCrashedCommit(t *testing.T) {
	const old, new = "a=1 b=1 c=1 d=1 e=1", "a=2 b=1 c=1 d=1 e=1 f=1"
	const needs = 1 + 3 + 4 // the root, three pages, and Flush, slot, Flush, Bump
	seen := map[string]int{}
	for n := 0; n <= needs; n++ {
		for _, c := range choices(2) {
			for m := 0; m <= 13; m++ {
				d, v := formatted(t, 8, 50)
				done(t, v, old)
				ask(t, v, "a=2 f=1")
				d.Fuse(n)
				want(t, "Commit", v.Commit(), downBelow(n, needs))
				d.Crash(c)
				v = Of(d)
				d.Fuse(m)
				if e := v.Open(pass); e != api.OK {
					want(t, "Open", e, api.ErrDown)
					d.Crash(c)
					v = Of(d)
					want(t, "Open behind two crashes", v.Open(pass), api.OK)
				}
				d.Fuse(-1)
				got := found(t, v)
				seen[got]++
				if got != new && (n == needs || got != old) || got == new && n <= 5 {
					t.Fatalf("%d operations, the crash keeps %x, %d operations: %s", n, c, m, got)
				}
				done(t, v, "z=1")
				v = again(t, d, v)
				if s := found(t, v); s != got+" z=1" {
					t.Fatalf("a session later: %s", s)
				}
			}
		}
	}
	if seen[old] == 0 || seen[new] == 0 || len(seen) != 2 {
		t.Errorf("found: %v", seen)
	}
}

// P13: what was written and is not kept yet is read, and kept ahead of Bump: no crash behind that can take the slot away from the counter.
func TestSlotOutOfCache(t *testing.T) {
	for m := 0; m <= 9; m++ {
		d, v := formatted(t, 8, 50)
		ask(t, v, "a=1")
		d.Fuse(3)
		want(t, "Commit", v.Commit(), api.ErrDown)
		d.Fuse(m)
		v = Of(d)
		want(t, "Open", v.Open(pass), downBelow(m, 9))
		if tally := d.Tally(); (tally > 2) != (m >= 6) {
			t.Errorf("%d operations: the counter is %d", m, tally)
		}
		d.Crash("")
		v = Of(d)
		want(t, "Open behind a crash", v.Open(pass), api.OK)
		wanted := "a=1"
		if m < 5 {
			wanted = ""
		}
		checkScan(t, v, "", "z", wanted)
	}
}

// elderly: a world with its history, and what must be found in it.
type elderly struct {
	t     *testing.T
	r     *rand.Rand
	d     *disk.Disk
	v     *Vault
	sure  map[string]string // what the last call that was OK left
	maybe map[string]string // that, with what was under way; nil: nothing was
	taken [3]int            // Opens that were OK, ErrDown, ErrTampered
}

func listed(m map[string]string) string {
	var l []string
	for _, k := range slices.Sorted(maps.Keys(m)) {
		l = append(l, k+"="+m[k])
	}
	return strings.Join(l, " ")
}

// work: a transaction, whose Commit may stop anywhere.
func (g *elderly) work() {
	next := maps.Clone(g.sure)
	for range 1 + g.r.Intn(6) {
		k := string(rune('a' + g.r.Intn(14)))
		if g.r.Intn(5) < 2 {
			want(g.t, "Delete", g.v.Delete(k), api.OK)
			delete(next, k)
			continue
		}
		next[k] = fmt.Sprint(g.r.Intn(1000))
		want(g.t, "Put", g.v.Put(k, next[k]), api.OK)
	}
	if g.r.Intn(3) == 0 {
		g.d.Fuse(g.r.Intn(20))
	}
	e := g.v.Commit()
	g.d.Fuse(-1)
	switch e {
	case api.OK:
		g.sure = next
	case api.ErrDown:
		g.maybe = next
	case api.ErrSession, api.ErrSpace:
		want(g.t, "Close", g.v.Close(), api.OK)
	default:
		g.t.Fatalf("Commit: %d", e)
	}
}

// crash: or none: another vault stands over the world as it is.
func (g *elderly) crash() {
	if g.r.Intn(4) > 0 {
		c := make([]byte, 8)
		for i := range c {
			c[i] = byte(g.r.Intn(4))
		}
		g.d.Crash(string(c))
	}
	g.v = Of(g.d)
}

// turnBack: some blocks become what they once were; what they were ahead of that.
func (g *elderly) turnBack() map[int]string {
	before := map[int]string{}
	for range g.r.Intn(4) {
		w := g.d.Wrote[g.r.Intn(len(g.d.Wrote))]
		if g.r.Intn(2) == 0 {
			w = g.d.Wrote[max(0, len(g.d.Wrote)-1-g.r.Intn(6))]
		}
		if _, there := before[w.At]; !there {
			before[w.At] = g.d.Look(w.At)
		}
		g.d.Poke(w.At, w.Text)
	}
	return before
}

// open: an Open that may stop anywhere, or is over blocks that somebody turned back.
func (g *elderly) open() {
	var before map[int]string
	if g.r.Intn(2) == 0 {
		before = g.turnBack()
	} else if g.r.Intn(2) == 0 {
		g.d.Fuse(g.r.Intn(20))
	}
	e := g.v.Open(pass)
	g.d.Fuse(-1)
	switch {
	case e == api.OK:
		g.taken[0]++
	case e == api.ErrDown:
		g.taken[1]++
		g.crash()
		return
	case e == api.ErrTampered && len(before) > 0:
		g.taken[2]++
		for k, b := range before {
			g.d.Poke(k, b)
		}
		return
	default:
		g.t.Fatalf("Open: %d", e)
	}
	got := found(g.t, g.v)
	if g.maybe != nil && got == listed(g.maybe) {
		g.sure = g.maybe
	}
	g.maybe = nil
	if got != listed(g.sure) {
		g.t.Fatalf("found %s, want %s", got, listed(g.sure))
	}
}

// P13: a device that stops, a disk that crashes, blocks that somebody turns back: an Open that is OK finds what the last acknowledged call left, or that with what was under way; never what is elder.
func TestCrashesAndElderBlocks(t *testing.T) {
	taken := [3]int{}
	for seed := int64(0); seed < 60; seed++ {
		g := &elderly{t: t, r: rand.New(rand.NewSource(seed)), sure: map[string]string{}}
		g.d, g.v = formatted(t, 20, 100000)
		for range 60 {
			if !g.v.IsOpen() {
				g.open()
				continue
			}
			g.work()
			if !g.v.IsOpen() || g.r.Intn(4) == 0 {
				g.crash()
			}
		}
		for i := range taken {
			taken[i] += g.taken[i]
		}
	}
	if taken[0] < 100 || taken[1] < 20 || taken[2] < 100 {
		t.Errorf("Opens: OK, ErrDown, ErrTampered: %v", taken)
	}
}
