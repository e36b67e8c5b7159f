package vault

import (
	"fmt"
	"maps"
	"math/rand"
	"strings"
	"testing"

	"keystore/api"
	"keystore/disk"
)

// carried: another device with the same blocks and the same counter.
func carried(t *testing.T, d *disk.Disk) *disk.Disk {
	t.Helper()
	other, _ := world(t, d.Blocks(), d.Ceiling())
	for k, b := range seen(d) {
		other.Poke(k, b)
	}
	for range d.Tally() {
		other.Bump()
	}
	return other
}

// once: what each block once was, noughts with it; what it is now comes last.
func once(d *disk.Disk) [][]string {
	l := make([][]string, d.Blocks())
	for k := range l {
		l[k] = []string{strings.Repeat("\x00", 256)}
		for _, w := range d.Wrote {
			if w.At == k {
				l[k] = append(l[k], w.Text)
			}
		}
		if now := d.Look(k); l[k][len(l[k])-1] != now {
			l[k] = append(l[k], now)
		}
	}
	return l
}

// each: does something with all ways of choosing one text of each block.
func each(texts [][]string, do func(blocks []string)) {
	at := make([]int, len(texts))
	for {
		var blocks []string
		for k := range texts {
			blocks = append(blocks, texts[k][at[k]])
		}
		do(blocks)
		k := 0
		for k < len(at) && at[k] == len(texts[k])-1 {
			at[k] = 0
			k++
		}
		if k == len(at) {
			return
		}
		at[k]++
	}
}

// holds: are all nodes of a tree in these blocks?
func (p *page) holds(d *disk.Disk, blocks []string) bool {
	for _, n := range p.list() {
		if blocks[n.place] != d.Look(n.place) {
			return false
		}
	}
	return true
}

// history: a small world with two sessions and a root at each place.
func history(t *testing.T) (*disk.Disk, *Vault) {
	t.Helper()
	d, v := formatted(t, 5, 50)
	done(t, v, "a=1")
	done(t, v, "a=2")
	v = again(t, d, v)
	done(t, v, "a=3")
	done(t, v, "a=3 b=1")
	return d, v
}

// P13, P14: whatever blocks are turned back to whatever they once were: the tree that was left is opened, where all of it is there, and no other ever.
func TestAllTurnedBack(t *testing.T) {
	d, v := history(t)
	p := tree(t, d, pass)
	want(t, "Close", v.Close(), api.OK)
	opened := 0
	each(once(d), func(blocks []string) {
		other := carried(t, d)
		for k, b := range blocks {
			other.Poke(k, b)
		}
		v := Of(other)
		if blocks[d.Tally()%2] != d.Look(d.Tally()%2) || !p.holds(d, blocks) {
			refused(t, "blocks that were turned back", other, v, pass, api.ErrTampered)
			return
		}
		opened++
		want(t, "what counts is there", v.Open(pass), api.OK)
		checkScan(t, v, "", "z", "a=3 b=1")
	})
	if opened < 10 {
		t.Errorf("%d were opened", opened)
	}
}

// P13, P14: the same behind a Commit whose slot was kept, while the counter did not rise: the new tree, where its slot is there; where it is not, the old one.
func TestAllTurnedBackUnderWay(t *testing.T) {
	d, v := history(t)
	before := tree(t, d, pass)
	ask(t, v, "c=1")
	d.Fuse(5)
	want(t, "Commit", v.Commit(), api.ErrDown)
	d.Crash("")
	c := d.Tally()
	s := readSlot(t, d.Look((c+1)%2), pass)
	_, key := keyPair(t, pass, s.salt)
	behind := readTree(t, d, key, s.place, s.digest)
	count := map[string]int{}
	each(once(d), func(blocks []string) {
		other := carried(t, d)
		for k, b := range blocks {
			other.Poke(k, b)
		}
		p := before
		if blocks[(c+1)%2] == d.Look((c+1)%2) {
			p = behind
		} else if blocks[c%2] != d.Look(c%2) {
			p = nil
		}
		v := Of(other)
		if p == nil || !p.holds(d, blocks) {
			count["refused"]++
			refused(t, "blocks that were turned back", other, v, pass, api.ErrTampered)
			return
		}
		count[p.shape()]++
		want(t, "what counts is there", v.Open(pass), api.OK)
		checkScan(t, v, "", "z", words(p.pairs()))
	})
	if count["(a b)"] == 0 || count["(a b c)"] == 0 || count["refused"] == 0 {
		t.Errorf("found: %v", count)
	}
}

// P14: the same below an open vault: its tree is the one that it knows, whatever the slots are.
func TestAllTurnedBackWhileOpen(t *testing.T) {
	d, v := history(t)
	p := tree(t, d, pass)
	now := seen(d)
	right := 0
	each(once(d), func(blocks []string) {
		holds := true
		for k, b := range blocks {
			d.Poke(k, b)
			holds = holds && (k != p.place || b == now[k])
		}
		if !holds {
			lookTampered(t, d, v, "a", "-zz")
			return
		}
		right++
		checkGet(t, v, "a", "3", api.OK)
		checkScan(t, v, "", "z", "a=3 b=1")
		done(t, v, "-zz")
	})
	if right == 0 {
		t.Error("the tree was never there")
	}
	want(t, "as it was", v.Close(), api.OK)
}

// lookTampered: Get of a key, Scan of all and Commit are ErrTampered, and nothing else changes.
func lookTampered(t *testing.T, d *disk.Disk, v *Vault, k string, changes string) {
	t.Helper()
	checkGet(t, v, k, "", api.ErrTampered)
	l, e := v.Scan("", "\xff")
	want(t, "Scan", e, api.ErrTampered)
	if l != nil {
		t.Errorf("beside an error: %v", l)
	}
	ask(t, v, changes)
	refusal(t, d, v, api.ErrTampered)
	want(t, "Abort", v.Abort(), api.OK)
	if !v.IsOpen() {
		t.Error("it is closed")
	}
}

// P14: of a page each bit counts, whether it is the root, an inner node or a leaf.
func TestEachBit(t *testing.T) {
	d, v := deep(t)
	p := tree(t, d, pass)
	for _, n := range []*page{p, p.below[0], p.below[0].below[0]} {
		good := d.Look(n.place)
		for bit := range 256 * 8 {
			b := []byte(good)
			b[bit/8] ^= 1 << (bit % 8)
			d.Poke(n.place, string(b))
			if s, e := v.Get("a"); e != api.ErrTampered || s != "" {
				t.Fatalf("bit %d of %s: %q, %d", bit, n.shape(), s, e)
			}
		}
		d.Poke(n.place, good)
		checkGet(t, v, "a", "1", api.OK)
	}
}

// P14: what lies at a node's place that is not its page: another's, an elder one of the same place, one of another session, no page at all.
func TestOtherPages(t *testing.T) {
	d, v := deep(t)
	for _, n := range tree(t, d, pass).list() {
		done(t, v, n.keys[len(n.keys)-1]+"=2")
		if v.sealed > 30 {
			v = again(t, d, v)
		}
	}
	v = again(t, d, v)
	done(t, v, "a=3 x=3")
	all := found(t, v)
	p := tree(t, d, pass)
	elder := 0
	for _, n := range p.list() {
		k := n.keys[0]
		good := d.Look(n.place)
		bad := []string{"", "SEAL", strings.Repeat("\xff", 256), good[:255], good[1:], good[:128], d.Look(0), d.Look(1)}
		for _, other := range p.list() {
			if other.place != n.place {
				bad = append(bad, d.Look(other.place))
			}
		}
		for _, w := range d.Wrote {
			if w.At == n.place && w.Text != good {
				bad = append(bad, w.Text)
				elder++
			}
		}
		for _, b := range bad {
			d.Poke(n.place, b)
			lookTampered(t, d, v, k, "-"+k)
		}
		d.Poke(n.place, good)
		checkScan(t, v, "", "z", all)
	}
	if elder < 20 {
		t.Errorf("%d elder pages", elder)
	}
}

// P14: two pages that change places, and the same page at two places.
func TestPagesChangePlaces(t *testing.T) {
	d, v := deep(t)
	p := tree(t, d, pass)
	one, other := p.below[0].below[0], p.below[0].below[1]
	here, there := d.Look(one.place), d.Look(other.place)
	d.Poke(one.place, there)
	d.Poke(other.place, here)
	lookTampered(t, d, v, "a", "-a")
	lookTampered(t, d, v, "d", "-d")
	checkGet(t, v, "g", "1", api.OK)
	d.Poke(one.place, here)
	checkGet(t, v, "a", "1", api.OK)
	lookTampered(t, d, v, "d", "-d")
}

// P14: a call looks anew: what the one ahead has seen does not help, nor does it harm.
func TestAnew(t *testing.T) {
	d, v := deep(t)
	for _, n := range tree(t, d, pass).list() {
		k := n.keys[0]
		good := d.Look(n.place)
		for range 2 {
			checkGet(t, v, k, "1", api.OK)
			d.Poke(n.place, "")
			lookTampered(t, d, v, k, k+"=2")
			d.Poke(n.place, good)
		}
		ask(t, v, "-"+k+"x")
		want(t, "Commit", v.Commit(), api.OK)
	}
	n := spent(d, func() {
		checkGet(t, v, "a", "1", api.OK)
		checkGet(t, v, "a", "1", api.OK)
	})
	if n != 6 {
		t.Errorf("two calls did %d operations, want 6", n)
	}
}

// looked: what a call looks at: the leaves whose change it finds out, and how many inner nodes; a failure, if it does another number of Reads than that.
func looked(t *testing.T, what string, lay func(t *testing.T) (*disk.Disk, *Vault), call func(v *Vault) (string, api.Errno)) (string, int) {
	t.Helper()
	var leaves []string
	inner := 0
	d, _ := lay(t)
	for _, n := range tree(t, d, pass).list() {
		d, v := lay(t)
		d.Poke(n.place, bent(d.Look(n.place), 100))
		answer, e := call(v)
		if e != api.ErrTampered {
			want(t, what, e, api.OK)
			continue
		}
		if answer != "" {
			t.Errorf("%s: beside an error: %q", what, answer)
		}
		if n.leaf {
			leaves = append(leaves, n.shape())
		} else {
			inner++
		}
	}
	d, v := lay(t)
	since := len(d.Wrote)
	reads := spent(d, func() {
		_, e := call(v)
		want(t, what, e, api.OK)
	})
	if wrote := len(d.Wrote) - since; wrote > 0 {
		reads -= wrote + len("FFB")
	}
	if reads != len(leaves)+inner {
		t.Errorf("%s: %d Reads, but %s and %d inner nodes are looked at", what, reads, strings.Join(leaves, " "), inner)
	}
	return strings.Join(leaves, " "), inner
}

// P14, P12: which nodes a Commit looks at, a neighbour that is mended with among them; each is read once, however often it is met.
func TestLookedAt(t *testing.T) {
	for _, c := range []struct {
		changes, leaves string
		inner           int
	}{
		{"", "", 0},
		{"-zz", "(v w x)", 2},
		{"a=2", "(a b c)", 2},
		{"a=2 -aa b=2 -bb c=2 ca=1 cb=1 cc=1", "(a b c)", 2},
		{"-aa -cc -dd -ff -gg", "(a b c) (d e f) (g h i)", 2},
		{"-a", "(a b c)", 2},
		{"-a -b", "(a b c) (d e f)", 2},
		{"-d -e", "(d e f) (g h i)", 2},
		{"-h -i", "(d e f) (g h i)", 2},
		{"-v -w -x", "(s t u) (v w x)", 2},
		{"-m -n m=2 n=2", "(m n o)", 2},
		{"-m -n p=2 q=2", "(m n o) (p q r)", 2},
		{"-a -b -c -d -e", "(a b c) (d e f) (g h i)", 3},
		{"-a -b -c -d -e -f -g -h -i -j -k", "(a b c) (d e f) (g h i) (j k l) (m n o)", 3},
		{"a=2 x=2", "(a b c) (v w x)", 3},
	} {
		lay := over(c.changes, firstTwelve, otherTwelve)
		leaves, inner := looked(t, "Commit of "+c.changes, lay, commit)
		if leaves != c.leaves || inner != c.inner {
			t.Errorf("Commit of %q looks at %s and %d inner nodes, want %s and %d", c.changes, leaves, inner, c.leaves, c.inner)
		}
	}
}

// P14, P10: the same of Scan: each child whose key is not above hi and whose right neighbour's key is above lo.
func TestLookedAtByScan(t *testing.T) {
	for _, c := range []struct {
		lo, hi, leaves string
		inner          int
	}{
		{"", "z", "(a b c) (d e f) (g h i) (j k l) (m n o) (p q r) (s t u) (v w x)", 3},
		{"b", "a", "", 0},
		{"", "", "", 1},
		{"a", "a", "(a b c)", 2},
		{"cc", "d", "(a b c) (d e f)", 2},
		{"d", "d", "(d e f)", 2},
		{"c", "cc", "(a b c)", 2},
		{"i", "m", "(g h i) (j k l) (m n o)", 3},
		{"zz", "zzz", "(v w x)", 2},
	} {
		lay := over("b=2 -c -j", firstTwelve, otherTwelve)
		leaves, inner := looked(t, "Scan", lay, scanOf(c.lo, c.hi))
		if leaves != c.leaves || inner != c.inner {
			t.Errorf("Scan(%q, %q) looks at %s and %d inner nodes, want %s and %d", c.lo, c.hi, leaves, inner, c.leaves, c.inner)
		}
	}
}

// anyChanges: a transaction out of a tree's keys and others.
func anyChanges(r *rand.Rand) string {
	var l []string
	for range 1 + r.Intn(12) {
		k := string(rune('a' + r.Intn(26)))
		switch r.Intn(4) {
		case 0:
			l = append(l, k+"=2")
		case 1:
			l = append(l, k+k+"=2")
		default:
			l = append(l, "-"+k)
		}
	}
	return strings.Join(l, " ")
}

// P14: whatever a Commit does: it reads as many places as there are pages on which its answer hangs.
func TestLookedAtAtRandom(t *testing.T) {
	r := rand.New(rand.NewSource(14))
	for range 40 {
		changes := anyChanges(r)
		looked(t, "Commit of "+changes, over(changes, firstTwelve, otherTwelve), commit)
	}
}

// P14, P11: behind ErrTampered all is as it was: what is written later is what would have been written without it.
func TestAsIfNothingWere(t *testing.T) {
	r := rand.New(rand.NewSource(15))
	found := 0
	for range 20 {
		d, v := deep(t)
		plain, w := deep(t)
		for range 5 {
			changes := anyChanges(r)
			l := tree(t, d, pass).list()
			if len(l) == 0 {
				break
			}
			place := l[r.Intn(len(l))].place
			good := d.Look(place)
			d.Poke(place, bent(good, r.Intn(256)))
			ask(t, v, changes)
			ask(t, w, changes)
			e := v.Commit()
			d.Poke(place, good)
			if e == api.ErrTampered {
				found++
				e = v.Commit()
			}
			want(t, "Commit", e, w.Commit())
			if e != api.OK {
				break
			}
		}
		if writes(d) != writes(plain) || d.Tally() != plain.Tally() {
			t.Fatalf("%s, without those who wrote %s", writes(d), writes(plain))
		}
	}
	if found < 20 {
		t.Errorf("ErrTampered %d times", found)
	}
}

// meddled: a vault into whose blocks others write.
type meddled struct {
	t       *testing.T
	r       *rand.Rand
	d       *disk.Disk
	v       *Vault
	kept    map[string]string
	asked   map[string]*string // nil: deleted
	changed map[int]string     // blocks that others changed, as they were
	found   int
}

// meddle: somebody writes into a block.
func (g *meddled) meddle() {
	k := g.r.Intn(g.d.Blocks())
	now := g.d.Look(k)
	if _, there := g.changed[k]; !there {
		g.changed[k] = now
	}
	switch g.r.Intn(4) {
	case 0:
		g.d.Poke(k, bent(now, g.r.Intn(256)))
	case 1:
		g.d.Poke(k, g.d.Wrote[g.r.Intn(len(g.d.Wrote))].Text)
	case 2:
		b := make([]byte, 256)
		g.r.Read(b)
		g.d.Poke(k, string(b))
	default:
		g.d.Poke(k, "")
	}
}

// restore: all that others changed is as it was.
func (g *meddled) restore() {
	for k, b := range g.changed {
		g.d.Poke(k, b)
	}
	clear(g.changed)
}

// behind: what is there behind the transaction.
func (g *meddled) behind() map[string]string {
	m := maps.Clone(g.kept)
	for k, s := range g.asked {
		delete(m, k)
		if s != nil {
			m[k] = *s
		}
	}
	return m
}

// isRight: a call's answer is right, or others have written and it was found out.
func (g *meddled) isRight(what string, right bool, e api.Errno) {
	g.t.Helper()
	if e == api.ErrTampered && len(g.changed) > 0 {
		g.found++
		return
	}
	if !right || e != api.OK && e != api.ErrNone {
		g.t.Fatalf("%s: %d, and it is right: %v", what, e, right)
	}
}

func (g *meddled) read() {
	k := string(rune('a' + g.r.Intn(20)))
	all := g.behind()
	s, e := g.v.Get(k)
	wanted, there := all[k]
	g.isRight("Get", s == wanted && (e == api.OK) == there, e)
	l, e := g.v.Scan("", "z")
	g.isRight("Scan", words(l) == listed(all), e)
}

func (g *meddled) change() {
	k := string(rune('a' + g.r.Intn(20)))
	if g.r.Intn(3) == 0 {
		if g.v.Delete(k) == api.OK {
			g.asked[k] = nil
		}
		return
	}
	s := fmt.Sprint(g.r.Intn(100))
	if g.v.Put(k, s) == api.OK {
		g.asked[k] = &s
	}
}

// written: what the vault wrote itself is nobody else's any more.
func (g *meddled) written(since int) {
	for _, w := range g.d.Wrote[since:] {
		delete(g.changed, w.At)
	}
}

func (g *meddled) commit() {
	all, since := g.behind(), len(g.d.Wrote)
	e := g.v.Commit()
	if e == api.ErrSession || e == api.ErrSpace {
		g.reopen()
		return
	}
	g.isRight("Commit", true, e)
	if e == api.OK {
		g.kept = all
		clear(g.asked)
	}
	g.written(since)
}

func (g *meddled) reopen() {
	want(g.t, "Close", g.v.Close(), api.OK)
	clear(g.asked)
	since := len(g.d.Wrote)
	e := g.v.Open(pass)
	if e == api.ErrTampered && len(g.changed) > 0 {
		g.found++
		g.restore()
		e = g.v.Open(pass)
	}
	want(g.t, "Open", e, api.OK)
	g.written(since)
	checkScan(g.t, g.v, "", "z", listed(g.kept))
}

// P1, P14: whatever others write, and whenever: an answer is right, or it is ErrTampered; as soon as the blocks are as they were, all is.
func TestOthersAtRandom(t *testing.T) {
	found := 0
	for seed := int64(0); seed < 60; seed++ {
		g := &meddled{t: t, r: rand.New(rand.NewSource(seed)), kept: map[string]string{}, asked: map[string]*string{}, changed: map[int]string{}}
		g.d, g.v = formatted(t, 10+g.r.Intn(20), 100000)
		for range 200 {
			switch g.r.Intn(12) {
			case 0, 1:
				g.meddle()
			case 2:
				g.restore()
			case 3, 4:
				g.read()
			case 5:
				g.commit()
			case 6:
				if g.r.Intn(3) == 0 {
					g.reopen()
				}
			default:
				g.change()
			}
			if !g.v.IsOpen() {
				t.Fatal("it is closed")
			}
		}
		g.restore()
		checkScan(t, g.v, "", "z", listed(g.behind()))
		found += g.found
	}
	if found < 200 {
		t.Errorf("others were found out %d times", found)
	}
}
