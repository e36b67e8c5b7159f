package vault

import (
	"strings"
	"testing"

	"keystore/api"
	"keystore/disk"
	"keystore/sha"
)

// forge: a page at a place that opens, whatever its bytes are, and the link to it.
func forge(d *disk.Disk, v *Vault, place int, bytes string) link {
	t := v.keys.pageText(9, 9, place, bytes)
	d.Poke(place, t)
	return link{place: place, digest: sha.Of(t)}
}

// leafText: the bytes of a leaf with these keys, without values.
func leafText(keys string) string {
	n := &node{leaf: true}
	for _, k := range strings.Fields(keys) {
		n.entries = append(n.entries, entry{key: k})
	}
	return n.text()
}

// P14: a node that is not what its parent says is ErrTampered, in every call that looks at it; the vault stays open, as it was.
func TestTampered(t *testing.T) {
	for _, level := range []int{0, 1, 2} {
		d, v := deep(t)
		p := tree(t, d, pass)
		for i := 0; i < level; i++ {
			p = p.below[0]
		}
		good := d.Look(p.place)
		for _, at := range []int{0, 11, 12, 239, 240, 255} {
			bad := []byte(good)
			bad[at] ^= 1
			d.Poke(p.place, string(bad))
			checkGet(t, v, "a", "", api.ErrTampered)
			l, e := v.Scan("a", "b")
			want(t, "Scan", e, api.ErrTampered)
			ask(t, v, "-a")
			want(t, "Commit", v.Commit(), api.ErrTampered)
			if l != nil || !v.IsOpen() || len(v.changes) != 1 {
				t.Errorf("level %d: %v, open is %v, %d changes", level, l, v.IsOpen(), len(v.changes))
			}
			want(t, "Abort", v.Abort(), api.OK)
		}
		d.Poke(p.place, good)
		checkGet(t, v, "a", "1", api.OK)
	}
}

// P14: an elder page at its own place opens, but is not the one that the slot says.
func TestElderPage(t *testing.T) {
	d, v := formatted(t, 4, 50)
	done(t, v, "a=1")
	elder := d.Look(2)
	done(t, v, "a=2")
	done(t, v, "a=3")
	good := d.Look(2)
	d.Poke(2, elder)
	checkGet(t, v, "a", "", api.ErrTampered)
	d.Poke(2, good)
	checkGet(t, v, "a", "3", api.OK)
}

// P14: pages that have the right digest, but are not what must be there: in Get, in Scan, and in a Commit that would mend with them.
func TestForged(t *testing.T) {
	sealed := func(k keys, place int, bytes string) func(d *disk.Disk, v *Vault) link {
		return func(d *disk.Disk, v *Vault) link {
			if k == (keys{}) {
				k = v.keys
			}
			b := k.pageText(9, 9, place, bytes)
			d.Poke(5, b)
			return link{place: 5, digest: sha.Of(b)}
		}
	}
	laid := func(block string) func(d *disk.Disk, v *Vault) link {
		return func(d *disk.Disk, v *Vault) link {
			d.Poke(5, block)
			return link{place: 5, digest: sha.Of(d.Look(5))}
		}
	}
	for _, c := range []struct {
		what  string
		child func(d *disk.Disk, v *Vault) link // what is at place 5, where the keys a and b must be
		e     api.Errno
	}{
		{"it is right", sealed(keys{}, 5, leafText("a b")), api.OK},
		{"five entries", sealed(keys{}, 5, leafText("a b c d e")), api.OK},
		{"six entries", sealed(keys{}, 5, leafText("a b c d e f")), api.ErrTampered},
		{"one entry", sealed(keys{}, 5, leafText("a")), api.ErrTampered},
		{"no entry", sealed(keys{}, 5, leafText("")), api.ErrTampered},
		{"a greater least key", sealed(keys{}, 5, leafText("aa b")), api.ErrTampered},
		{"a lesser least key", sealed(keys{}, 5, leafText("A a b")), api.ErrTampered},
		{"keys that fall", sealed(keys{}, 5, leafText("a c b")), api.ErrTampered},
		{"noughts as a node", sealed(keys{}, 5, nulled("", 228)), api.ErrTampered},
		{"a byte behind the entries", sealed(keys{}, 5, leafText("a b")[:227]+"x"), api.ErrTampered},
		{"a byte too few", sealed(keys{}, 5, leafText("a b")[:227]), api.ErrTampered},
		{"a page of another place", sealed(keys{}, 6, leafText("a b")), api.ErrTampered},
		{"a page under another password", sealed(keysOf("other", nulled("", 16)), 5, leafText("a b")), api.ErrTampered},
		{"noughts", laid(""), api.ErrTampered},
		{"no page", laid(strings.Repeat("x", 256)), api.ErrTampered},
		{"a node that is not sealed", laid(nulled("", 12) + leafText("a b")), api.ErrTampered},
	} {
		d, v := formatted(t, 12, 50)
		n := &node{entries: []entry{
			{key: "a", link: c.child(d, v)},
			{key: "m", link: forge(d, v, 6, leafText("m n"))},
		}}
		v.root = forge(d, v, 7, n.text())
		for _, place := range []int{5, 6, 7} {
			v.use(place, true)
		}
		_, e := v.Get("a")
		want(t, c.what+": Get", e, c.e)
		_, e = v.Scan("", "z")
		want(t, c.what+": Scan", e, c.e)
		ask(t, v, "-m")
		if c.e != api.OK {
			checkGet(t, v, "n", "", api.OK)
			refusal(t, d, v, c.e)
			continue
		}
		want(t, c.what+": Commit", v.Commit(), api.OK)
	}
}

// P14: places that may not be are found out ahead of reading: of a root, of a child on the way, of a neighbour.
func TestForgedPlaces(t *testing.T) {
	for _, place := range []int{0, 1, 12, 13, 47, 48, 255} {
		d, v := formatted(t, 12, 50)
		bad := link{place: place, digest: sha.Of(d.Look(1))}
		if place != 0 {
			v.root = bad
			forgedReads(t, d, v, 0, 0, 0)
		}
		n := &node{entries: []entry{{key: "a", link: bad}, {key: "m", link: forge(d, v, 6, leafText("m n"))}}}
		v.root = forge(d, v, 7, n.text())
		forgedReads(t, d, v, 1, 1, 2)
	}
	for _, place := range []int{2, 11} {
		d, v := formatted(t, 12, 50)
		v.root = forge(d, v, place, leafText("a"))
		checkGet(t, v, "a", "", api.OK)
	}
}

// forgedReads: Get, Scan and Commit are ErrTampered behind so many operations.
func forgedReads(t *testing.T, d *disk.Disk, v *Vault, get int, scan int, commit int) {
	t.Helper()
	got := [3]int{
		spent(d, func() { checkGet(t, v, "a", "", api.ErrTampered) }),
		spent(d, func() {
			_, e := v.Scan("", "z")
			want(t, "Scan", e, api.ErrTampered)
		}),
		spent(d, func() {
			ask(t, v, "-n")
			refusal(t, d, v, api.ErrTampered)
		}),
	}
	if got != [3]int{get, scan, commit} {
		t.Errorf("Get, Scan, Commit: %v operations, want %d, %d, %d", got, get, scan, commit)
	}
	want(t, "Abort", v.Abort(), api.OK)
}

// P14: a leaf is not mended with an inner node, to the right or to the left; no more than the two are read for it.
func TestMendUnlike(t *testing.T) {
	for _, c := range []struct {
		what      string
		leafFirst bool
		gone      string // a key, whose leaf or whose leaf's parent has one entry left then
		reads     int
	}{
		{"a leaf and an inner node to its right", true, "a", 3},
		{"an inner node and a leaf to its left", true, "w", 5},
		{"an inner node and a leaf to its right", false, "a", 5},
		{"a leaf and an inner node to its left", false, "w", 3},
	} {
		d, v := formatted(t, 12, 50)
		first, last := "a", "w"
		leaf, inner := first, last
		if !c.leafFirst {
			leaf, inner = last, first
		}
		below := &node{entries: []entry{
			{key: inner, link: forge(d, v, 3, leafText(inner+" "+inner+"1"))},
			{key: inner + "2", link: forge(d, v, 4, leafText(inner+"2 "+inner+"3"))},
		}}
		children := []entry{
			{key: leaf, link: forge(d, v, 5, leafText(leaf+" "+leaf+"1"))},
			{key: inner, link: forge(d, v, 6, below.text())},
		}
		if !c.leafFirst {
			children[0], children[1] = children[1], children[0]
		}
		n := &node{entries: children}
		v.root = forge(d, v, 7, n.text())
		for place := 3; place <= 7; place++ {
			v.use(place, true)
		}
		checkGet(t, v, inner+"3", "", api.OK)
		checkGet(t, v, leaf+"1", "", api.OK)
		ask(t, v, "-"+c.gone)
		if reads := spent(d, func() { refusal(t, d, v, api.ErrTampered) }); reads != c.reads {
			t.Errorf("%s: %d operations, want %d", c.what, reads, c.reads)
		}
		want(t, "Abort", v.Abort(), api.OK)
		done(t, v, first+"=2 "+last+"=2")
	}
}

// P14: one call looks at 48 nodes, and not at one more.
func TestMostLooks(t *testing.T) {
	d, v := formatted(t, 12, 50)
	v.root = forge(d, v, 5, leafText("a"))
	w := &view{vault: v, looks: 47}
	_, e := w.root()
	want(t, "the 48th node", e, api.OK)
	n := spent(d, func() {
		_, e = w.root()
		want(t, "the 49th node", e, api.ErrTampered)
	})
	if n != 0 {
		t.Errorf("%d operations", n)
	}
}
