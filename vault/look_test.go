package vault

import (
	"strings"
	"testing"

	"keystore/api"
	"keystore/disk"
	"keystore/sha"
)

// forge: a page at a place that opens, whatever its bytes are, and the link to it.
func forge(d *disk.Disk, v *Vault, place int, bytes string) link {
	t := v.keys.pageText(9, 9, place, bytes)
	d.Poke(place, t)
	return link{place: place, digest: sha.Of(t)}
}

// leafText: the bytes of a leaf with these keys, without values.
func leafText(keys string) string {
	n := &node{leaf: true}
	for _, k := range strings.Fields(keys) {
		n.entries = append(n.entries, entry{key: k})
	}
	return n.text()
}

// P14: a node that is not what its parent says is ErrTampered, in every call that looks at it; the vault stays open, as it was.
func TestTampered(t *testing.T) {
	for _, level := range []int{0, 1, 2} {
		d, v := deep(t)
		p := tree(t, d, pass)
		for i := 0; i < level; i++ {
			p = p.below[0]
		}
		good := d.Look(p.place)
		for _, at := range []int{0, 11, 12, 239, 240, 255} {
			bad := []byte(good)
			bad[at] ^= 1
			d.Poke(p.place, string(bad))
			checkGet(t, v, "a", "", api.ErrTampered)
			l, e := v.Scan("a", "b")
			want(t, "Scan", e, api.ErrTampered)
			ask(t, v, "-a")
			want(t, "Commit", v.Commit(), api.ErrTampered)
			if l != nil || !v.IsOpen() || len(v.changes) != 1 {
				t.Errorf("level %d: %v, open is %v, %d changes", level, l, v.IsOpen(), len(v.changes))
			}
			want(t, "Abort", v.Abort(), api.OK)
		}
		d.Poke(p.place, good)
		checkGet(t, v, "a", "1", api.OK)
	}
}

// P14: an elder page at its own place opens, but is not the one that the slot says.
func TestElderPage(t *testing.T) {
	d, v := formatted(t, 4, 50)
	done(t, v, "a=1")
	elder := d.Look(2)
	done(t, v, "a=2")
	done(t, v, "a=3")
	good := d.Look(2)
	d.Poke(2, elder)
	checkGet(t, v, "a", "", api.ErrTampered)
	d.Poke(2, good)
	checkGet(t, v, "a", "3", api.OK)
}

// P14: pages that open and have the right digest, but are not what must be there.
func TestForged(t *testing.T) {
	for _, c := range []struct {
		what  string
		child string // the bytes of the page that must have the keys a and b
		e     api.Errno
	}{
		{"it is right", leafText("a b"), api.OK},
		{"no node", strings.Repeat("\x00", 228), api.ErrTampered},
		{"another least key", leafText("aa b"), api.ErrTampered},
		{"one entry", leafText("a"), api.ErrTampered},
	} {
		d, v := formatted(t, 12, 50)
		n := &node{entries: []entry{
			{key: "a", link: forge(d, v, 5, c.child)},
			{key: "m", link: forge(d, v, 6, leafText("m n"))},
		}}
		v.root = forge(d, v, 7, n.text())
		for _, place := range []int{5, 6, 7} {
			v.use(place, true)
		}
		_, e := v.Get("a")
		want(t, c.what+": Get", e, c.e)
		_, e = v.Scan("", "z")
		want(t, c.what+": Scan", e, c.e)
		ask(t, v, "-m")
		want(t, c.what+": Commit", v.Commit(), c.e)
	}
}

// P14: places that may not be, and a page that was sealed for another place, are found out; the former ahead of reading.
func TestForgedPlaces(t *testing.T) {
	d, v := formatted(t, 12, 50)
	for _, place := range []int{1, 12, 47, 48, 255} {
		v.root = link{place: place, digest: sha.Of(d.Look(1))}
		if n := spent(d, func() { checkGet(t, v, "a", "", api.ErrTampered) }); n != 0 {
			t.Errorf("place %d: %d operations", place, n)
		}
	}
	v.root = forge(d, v, 5, leafText("a"))
	checkGet(t, v, "a", "", api.OK)
	d.Poke(6, d.Look(5))
	v.root.place = 6
	checkGet(t, v, "a", "", api.ErrTampered)
}

// P14: a leaf is not mended with an inner node.
func TestMendUnlike(t *testing.T) {
	d, v := formatted(t, 12, 50)
	inner := &node{entries: []entry{
		{key: "m", link: forge(d, v, 3, leafText("m n"))},
		{key: "o", link: forge(d, v, 4, leafText("o p"))},
	}}
	n := &node{entries: []entry{
		{key: "a", link: forge(d, v, 5, leafText("a b"))},
		{key: "m", link: forge(d, v, 6, inner.text())},
	}}
	v.root = forge(d, v, 7, n.text())
	checkGet(t, v, "p", "", api.OK)
	ask(t, v, "-a")
	refusal(t, d, v, api.ErrTampered)
}

// P14: one call looks at 48 nodes, and not at one more.
func TestMostLooks(t *testing.T) {
	d, v := formatted(t, 12, 50)
	v.root = forge(d, v, 5, leafText("a"))
	w := &view{vault: v, looks: 47}
	_, e := w.root()
	want(t, "the 48th node", e, api.OK)
	n := spent(d, func() {
		_, e = w.root()
		want(t, "the 49th node", e, api.ErrTampered)
	})
	if n != 0 {
		t.Errorf("%d operations", n)
	}
}

// P15: where a Read does not work, the vault is closed and nothing else is answered.
func TestReadsDown(t *testing.T) {
	for n := 0; n < 4; n++ {
		for _, call := range []string{"Get", "Scan", "Commit"} {
			d, v := deep(t)
			ask(t, v, "-a -b")
			wrote := len(d.Wrote)
			d.Fuse(min(n, 2))
			s, l, e := "", []api.Pair(nil), api.OK
			switch call {
			case "Get":
				s, e = v.Get("c")
			case "Scan":
				l, e = v.Scan("c", "d")
			case "Commit":
				d.Fuse(n)
				e = v.Commit()
			}
			want(t, call, e, api.ErrDown)
			if s != "" || l != nil || v.IsOpen() || v.changes != nil || len(d.Wrote) != wrote {
				t.Errorf("%s with %d operations: %q, %v, open is %v", call, n, s, l, v.IsOpen())
			}
		}
	}
}
