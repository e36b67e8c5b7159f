package vault

import (
	"fmt"
	"math/rand"
	"slices"
	"strings"
	"testing"

	"keystore/api"
	"keystore/disk"
)

// counted: a world whose counter is c, and a hand over it.
func counted(t *testing.T, c int) (*disk.Disk, *hand) {
	t.Helper()
	d, _ := world(t, 12, 50)
	for i := 0; i < c; i++ {
		d.Bump()
	}
	return d, handOver(t, d, pass, "some salt")
}

// P13, P6: of the slots of version c + 1 and c, each in its own block, the first is taken; others are not.
func TestWhichSlot(t *testing.T) {
	for c := 4; c < 6; c++ {
		for _, x := range []struct {
			what string
			lay  func(h *hand, here string, next string)
			want string // what is found; "": ErrTampered
			adds int    // operations of BEGINNING
		}{
			{"version c", func(h *hand, here, next string) { h.slot(c, here) }, "here=1", 6},
			{"version c + 1", func(h *hand, here, next string) { h.slot(c+1, next) }, "next=1", 5},
			{"both", func(h *hand, here, next string) { h.slot(c, here); h.slot(c+1, next) }, "next=1", 5},
			{"c, and c - 1", func(h *hand, here, next string) { h.slot(c, here); h.slot(c-1, next) }, "here=1", 6},
			{"c + 1, and c + 2", func(h *hand, here, next string) { h.slot(c+1, here); h.slot(c+2, next) }, "here=1", 5},
			{"c - 1", func(h *hand, here, next string) { h.slot(c-1, here) }, "", 0},
			{"c - 2 and c - 1", func(h *hand, here, next string) { h.slot(c-2, here); h.slot(c-1, next) }, "", 0},
			{"c + 2", func(h *hand, here, next string) { h.slot(c+2, here) }, "", 0},
			{"c + 2 and c + 3", func(h *hand, here, next string) { h.slot(c+2, here); h.slot(c+3, next) }, "", 0},
			{"c in the other block", func(h *hand, here, next string) { h.d.Poke((c+1)%2, h.slotOf(uint64(c), here)) }, "", 0},
			{"c + 1 in the other block", func(h *hand, here, next string) { h.d.Poke(c%2, h.slotOf(uint64(c+1), here)) }, "", 0},
			{"c in both", func(h *hand, here, next string) { h.slot(c, here); h.d.Poke((c+1)%2, h.slotOf(uint64(c), next)) }, "here=1", 6},
			{"c + 2^8", func(h *hand, here, next string) { h.slot(c+1<<8, here) }, "", 0},
			{"c + 2^32", func(h *hand, here, next string) { h.slot(c+1<<32, here) }, "", 0},
			{"c + 2^63", func(h *hand, here, next string) { h.d.Poke(c%2, h.slotOf(uint64(c)+1<<63, here)) }, "", 0},
			{"c, and c + 1 under another password", func(h *hand, here, next string) {
				h.slot(c, here)
				handOver(h.t, h.d, "other", "other salt").slot(c+1, next)
			}, "here=1", 6},
			{"c under another password, and c + 1", func(h *hand, here, next string) {
				handOver(h.t, h.d, "other", "other salt").slot(c, here)
				h.slot(c+1, next)
			}, "next=1", 5},
			{"c, and c + 1 with another salt", func(h *hand, here, next string) {
				h.slot(c, here)
				other := handOver(h.t, h.d, pass, "other salt")
				other.slot(c+1, other.page(5, leafOf("salted")))
			}, "salted=1", 5},
			{"c, and c + 1 whose salt was changed", func(h *hand, here, next string) {
				h.slot(c, here)
				h.d.Poke((c+1)%2, bent(h.slotOf(uint64(c+1), next), 7))
			}, "here=1", 6},
			{"c, and c + 1 with a wrong tag", func(h *hand, here, next string) {
				h.slot(c, here)
				h.d.Poke((c+1)%2, bent(h.slotOf(uint64(c+1), next), 92))
			}, "here=1", 6},
			{"c with a wrong tag, and c + 1", func(h *hand, here, next string) {
				h.d.Poke(c%2, bent(h.slotOf(uint64(c), here), 61))
				h.slot(c+1, next)
			}, "next=1", 5},
			{"both with wrong tags", func(h *hand, here, next string) {
				h.d.Poke(c%2, bent(h.slotOf(uint64(c), here), 61))
				h.d.Poke((c+1)%2, bent(h.slotOf(uint64(c+1), next), 61))
			}, "", 0},
			{"c, and c + 1 with another mark", func(h *hand, here, next string) {
				h.slot(c, here)
				h.d.Poke((c+1)%2, h.tagged("MARK"+h.slotOf(uint64(c+1), next)[4:61]))
			}, "here=1", 6},
			{"c, and c + 1 whose page is gone", func(h *hand, here, next string) {
				h.slot(c, here)
				h.slot(c+1, next)
				h.d.Poke(int(next[0]), "")
			}, "", 1},
		} {
			d, h := counted(t, c)
			here, next := h.page(2, leafOf("here")), h.page(3, leafOf("next"))
			x.lay(h, here, next)
			v := Of(d)
			if x.want == "" {
				if n := refused(t, x.what, d, v, pass, api.ErrTampered); n != 3+x.adds {
					t.Errorf("%s: %d operations", x.what, n)
				}
				continue
			}
			n := spent(d, func() { want(t, x.what, v.Open(pass), api.OK) })
			if n != 3+1+x.adds || len(d.Wrote) != x.adds-4 || d.Tally() != c+2 || v.version != c+2 || v.session != c+2 {
				t.Errorf("%s: %d operations, %d writes, the counter is %d, the version %d, the session %d", x.what, n, len(d.Wrote), d.Tally(), v.version, v.session)
			}
			checkScan(t, v, "", "z", x.want)
			if got := words(tree(t, d, pass).pairs()); got != x.want {
				t.Errorf("%s: the new slot's tree has %s", x.what, got)
			}
			done(t, v, "z=1")
			v = again(t, d, v)
			checkScan(t, v, "", "z", x.want+" z=1")
		}
	}
}

// P13: the counter must rise to c + 2, also where the slot of version c + 1 is there.
func TestCeilingOfEachSlot(t *testing.T) {
	for c := 46; c <= 50; c++ {
		for version := c; version <= c+1; version++ {
			d, h := counted(t, c)
			h.slot(version, h.page(2, leafOf("a")))
			v := Of(d)
			if c <= 48 {
				want(t, "room for two steps", v.Open(pass), api.OK)
				continue
			}
			if n := refused(t, "no room for two steps", d, v, pass, api.ErrCounter); n != 4 {
				t.Errorf("%d operations, want 4", n)
			}
		}
	}
}

// P6: of a slot each of the block's first 128 bytes counts, and none of the others.
func TestBytesOfSlot(t *testing.T) {
	for at := 0; at < 256; at++ {
		d, h := counted(t, 4)
		d.Poke(0, bent(h.slotOf(4, h.page(2, leafOf("a"))), at))
		v := Of(d)
		if at < 128 {
			refused(t, "a slot with a byte changed", d, v, pass, api.ErrTampered)
			continue
		}
		want(t, "a slot with a byte changed behind the 128th", v.Open(pass), api.OK)
		checkScan(t, v, "", "z", "a=1")
	}
}

// P6: a slot without a root has none, whatever its digest is; what is written behind it names none.
func TestSlotWithoutRoot(t *testing.T) {
	for _, root := range []string{noRoot, "\x00" + strings.Repeat("x", 32), nulled("", 32) + "x"} {
		for version := 4; version < 6; version++ {
			d, h := counted(t, 4)
			h.slot(version, root)
			v := Of(d)
			n := spent(d, func() { want(t, "Open", v.Open(pass), api.OK) })
			if n != 3+10-version {
				t.Errorf("version %d: %d operations", version, n)
			}
			checkScan(t, v, "", "z", "")
			for _, w := range d.Wrote {
				readSlot(t, w.Text, pass)
			}
			if tree(t, d, pass) != nil {
				t.Error("the new slot has a root")
			}
			done(t, v, "a=1")
			if p := tree(t, d, pass); p.place != 2 || p.shape() != "(a)" {
				t.Errorf("%s at %d", p.shape(), p.place)
			}
		}
	}
}

// laid: a tree that is laid by hand; how its root is named.
type laid struct {
	what  string
	reads int // nodes that are read
	lay   func(h *hand) string
}

// two: a root above two leaves, at 2, 3 and 4.
func two(h *hand, one string, other string, keys string) string {
	return h.page(4, innerOf(keys, h.page(2, one), h.page(3, other)))
}

// three: an inner node above two leaves, and how it is named.
func three(h *hand, place int, one string, other string) string {
	return h.page(place, innerOf(one[:1]+" "+other[:1], h.page(place+1, leafOf(one)), h.page(place+2, leafOf(other))))
}

// P13, P14: trees that are right.
func TestRightTrees(t *testing.T) {
	for _, x := range []laid{
		{"(a)", 1, func(h *hand) string { return h.page(11, leafOf("a")) }},
		{"(a b c d e)", 1, func(h *hand) string { return h.page(2, leafOf("a b c d e")) }},
		{"(\x00 \x00\x00)", 1, func(h *hand) string { return h.page(2, leafOf("\x00 \x00\x00")) }},
		{"((a b) (c d))", 3, func(h *hand) string { return two(h, leafOf("a b"), leafOf("c d"), "a c") }},
		{"((a b) (bb d))", 3, func(h *hand) string { return two(h, leafOf("a b"), leafOf("bb d"), "a bb") }},
		{"(((a b) (c d)) ((e f) (g h)))", 7, func(h *hand) string {
			return h.page(11, innerOf("a e", three(h, 2, "a b", "c d"), three(h, 5, "e f", "g h")))
		}},
	} {
		for version := 4; version < 6; version++ {
			d, h := counted(t, 4)
			h.slot(version, x.lay(h))
			v := Of(d)
			n := spent(d, func() { want(t, x.what, v.Open(pass), api.OK) })
			if n != 3+x.reads+10-version {
				t.Errorf("%s, version %d: %d operations", x.what, version, n)
			}
			p := tree(t, d, pass)
			if p.shape() != x.what {
				t.Errorf("%s is %s", x.what, p.shape())
			}
			checkScan(t, v, "", "\xff", words(p.pairs()))
			done(t, v, "zz=1")
		}
	}
}

// P13, P14: trees that are not: found out as soon as the node is met that is wrong, and ahead of reading it, where its place is.
func TestWrongTrees(t *testing.T) {
	for _, x := range []laid{
		{"a root at 1", 0, func(h *hand) string { return name(1, h.d.Look(1)) }},
		{"a root at 12", 0, func(h *hand) string { return "\x0c" + h.page(2, leafOf("a"))[1:] }},
		{"a root at 255", 0, func(h *hand) string { return "\xff" + h.page(2, leafOf("a"))[1:] }},
		{"a root's digest", 1, func(h *hand) string { return bent(h.page(2, leafOf("a")), 32) }},
		{"a root that is sealed for another place", 1, func(h *hand) string { return h.pageFor(2, 3, leafOf("a")) }},
		{"a root under another password", 1, func(h *hand) string { return handOver(h.t, h.d, "other", h.salt).page(2, leafOf("a")) }},
		{"noughts", 1, func(h *hand) string { return name(2, h.d.Look(2)) }},
		{"no node", 1, func(h *hand) string { return h.page(2, nulled("", 228)) }},
		{"a leaf of none", 1, func(h *hand) string { return h.page(2, leafOf("")) }},
		{"a leaf of six", 1, func(h *hand) string { return h.page(2, leafOf("a b c d e f")) }},
		{"keys that fall in a leaf", 1, func(h *hand) string { return h.page(2, leafOf("b a")) }},
		{"an inner root of one", 1, func(h *hand) string { return h.page(3, innerOf("a", h.page(2, leafOf("a b")))) }},
		{"the root's keys fall", 1, func(h *hand) string { return two(h, leafOf("c d"), leafOf("a b"), "c a") }},
		{"a child at 0", 1, func(h *hand) string { return h.page(3, innerOf("a c", noRoot, h.page(2, leafOf("c d")))) }},
		{"a child at 1", 1, func(h *hand) string {
			return h.page(3, innerOf("a c", "\x01"+h.page(2, leafOf("a b"))[1:], h.page(2, leafOf("c d"))))
		}},
		{"a child at 12", 2, func(h *hand) string {
			return h.page(4, innerOf("a c", h.page(2, leafOf("a b")), "\x0c"+h.page(3, leafOf("c d"))[1:]))
		}},
		{"a child at 48", 2, func(h *hand) string {
			return h.page(4, innerOf("a c", h.page(2, leafOf("a b")), "\x30"+h.page(3, leafOf("c d"))[1:]))
		}},
		{"a child at 255", 2, func(h *hand) string {
			return h.page(4, innerOf("a c", h.page(2, leafOf("a b")), "\xff"+h.page(3, leafOf("c d"))[1:]))
		}},
		{"a child's digest", 3, func(h *hand) string {
			return h.page(4, innerOf("a c", h.page(2, leafOf("a b")), bent(h.page(3, leafOf("c d")), 1)))
		}},
		{"a first child of one", 2, func(h *hand) string { return two(h, leafOf("a"), leafOf("c d"), "a c") }},
		{"a last child of one", 3, func(h *hand) string { return two(h, leafOf("a b"), leafOf("c"), "a c") }},
		{"a first child's least key", 2, func(h *hand) string { return two(h, leafOf("aa b"), leafOf("c d"), "a c") }},
		{"a last child's least key", 3, func(h *hand) string { return two(h, leafOf("a b"), leafOf("cc d"), "a c") }},
		{"a place twice", 2, func(h *hand) string {
			p := h.page(2, leafOf("a b"))
			return h.page(3, innerOf("a c", p, p))
		}},
		{"a place twice, with another digest", 2, func(h *hand) string {
			p := h.page(2, leafOf("a b"))
			return h.page(3, innerOf("a c", p, bent(p, 5)))
		}},
		{"the root's own place", 1, func(h *hand) string {
			return h.page(3, innerOf("a c", "\x03"+strings.Repeat("d", 32), h.page(2, leafOf("c d"))))
		}},
		{"the place of a parent", 2, func(h *hand) string {
			p := h.page(3, innerOf("a c", "\x03"+strings.Repeat("d", 32), h.page(2, leafOf("c d"))))
			return h.page(5, innerOf("a e", p, h.page(4, leafOf("e f"))))
		}},
		{"the place of the root, two levels below", 2, func(h *hand) string {
			p := h.page(3, innerOf("a c", "\x05"+strings.Repeat("d", 32), h.page(2, leafOf("c d"))))
			return h.page(5, innerOf("a e", p, h.page(4, leafOf("e f"))))
		}},
		{"the place of a leaf below another node", 5, func(h *hand) string {
			p := three(h, 2, "a b", "c d")
			q := h.page(5, innerOf("e g", "\x04"+strings.Repeat("d", 32), h.page(7, leafOf("g h"))))
			return h.page(11, innerOf("a e", p, q))
		}},
		{"a leaf's first key is the last of the one ahead", 3, func(h *hand) string { return two(h, leafOf("a c"), leafOf("c d"), "a c") }},
		{"a leaf's first key is below the last of the one ahead", 3, func(h *hand) string { return two(h, leafOf("a c"), leafOf("b d"), "a b") }},
		{"a leaf that reaches over the next", 3, func(h *hand) string { return two(h, leafOf("a z"), leafOf("c d"), "a c") }},
		{"leaves below different nodes: the same key", 6, func(h *hand) string {
			return h.page(11, innerOf("a e", three(h, 2, "a b", "c e"), three(h, 5, "e f", "g h")))
		}},
		{"leaves below different nodes: a key below", 6, func(h *hand) string {
			return h.page(11, innerOf("a e", three(h, 2, "a b", "c f"), three(h, 5, "e f", "g h")))
		}},
		{"a leaf, then one that is deeper", 4, func(h *hand) string {
			return h.page(11, innerOf("a c", h.page(10, leafOf("a b")), three(h, 2, "c d", "e f")))
		}},
		{"a leaf, then one that is less deep", 5, func(h *hand) string {
			return h.page(11, innerOf("a e", three(h, 2, "a b", "c d"), h.page(10, leafOf("e f"))))
		}},
		{"an inner child's least key", 5, func(h *hand) string {
			return h.page(11, innerOf("a d", three(h, 2, "a b", "c d"), three(h, 5, "e f", "g h")))
		}},
		{"an inner child of one", 2, func(h *hand) string {
			p := h.page(3, innerOf("a", h.page(2, leafOf("a b"))))
			return h.page(5, innerOf("a c", p, h.page(4, innerOf("c", h.page(6, leafOf("c d"))))))
		}},
		{"an inner child whose first leaf is less than it says", 3, func(h *hand) string {
			p := h.page(3, innerOf("b d", h.page(2, leafOf("a c")), h.page(4, leafOf("d e"))))
			return h.page(11, innerOf("b f", p, three(h, 5, "f g", "h i")))
		}},
	} {
		for version := 4; version < 6; version++ {
			d, h := counted(t, 4)
			h.slot(version, x.lay(h))
			v := Of(d)
			n := refused(t, x.what, d, v, pass, api.ErrTampered)
			if n != 3+x.reads {
				t.Errorf("%s: %d operations, want %d", x.what, n, 3+x.reads)
			}
			d.Fuse(n)
			want(t, x.what+", no operation more", v.Open(pass), api.ErrTampered)
			d.Fuse(n - 1)
			want(t, x.what+", an operation fewer", v.Open(pass), api.ErrDown)
		}
	}
}

// level: nodes of one level, one behind the other: how each is named, and its least key.
type level struct{ names, keys []string }

// above: the level above one: of so many children each.
func (l level) above(h *hand, place int, sizes ...int) level {
	up := level{}
	at := 0
	for i, n := range sizes {
		up.names = append(up.names, h.page(place+i, innerOf(strings.Join(l.keys[at:at+n], " "), l.names[at:at+n]...)))
		up.keys = append(up.keys, l.keys[at])
		at += n
	}
	return up
}

// P13, P14: a tree that has each place of the greatest disk, from 2 to the last: all its 46 nodes may be looked at in one call, and each is.
func TestFullDisk(t *testing.T) {
	d, _ := world(t, 48, 50)
	h := handOver(t, d, pass, "full")
	leaves := level{}
	for i := range 35 {
		k := fmt.Sprintf("%02d", i)
		leaves.names = append(leaves.names, h.page(47-i, leafOf(k+"a "+k+"b")))
		leaves.keys = append(leaves.keys, k+"a")
	}
	root := leaves.above(h, 5, 5, 5, 5, 4, 4, 4, 4, 4).above(h, 3, 4, 4).above(h, 2, 2)
	h.slot(0, root.names[0])
	v := Of(d)
	n := spent(d, func() { want(t, "Open", v.Open(pass), api.OK) })
	if n != 3+46+6 {
		t.Errorf("Open did %d operations, want 55", n)
	}
	all := words(tree(t, d, pass).pairs())
	if n := spent(d, func() { checkScan(t, v, "", "z", all) }); n != 46 {
		t.Errorf("Scan did %d operations, want 46", n)
	}
	for k := 2; k < 48; k++ {
		good := d.Look(k)
		d.Poke(k, bent(good, 128))
		_, e := v.Scan("", "z")
		want(t, "Scan of a page that was changed", e, api.ErrTampered)
		d.Poke(k, good)
	}
	ask(t, v, "00a=2")
	refusal(t, d, v, api.ErrSpace)
	want(t, "Abort", v.Abort(), api.OK)
	done(t, v, "-00 -01 -02 -03 -04")
	checkScan(t, v, "", "z", all)
}

// P13: a page of the tree that was changed anywhere, or put at another place, or that is an elder one.
func TestChangedPages(t *testing.T) {
	d, v := deep(t)
	done(t, v, "a=2")
	nodes := tree(t, d, pass).list()
	want(t, "Close", v.Close(), api.OK)
	for _, p := range nodes {
		good := d.Look(p.place)
		for _, at := range []int{0, 8, 12, 100, 239, 240, 255} {
			d.Poke(p.place, bent(good, at))
			refused(t, "a page with a byte changed", d, v, pass, api.ErrTampered)
		}
		for _, other := range nodes {
			if other != p {
				d.Poke(p.place, d.Look(other.place))
				refused(t, "another page", d, v, pass, api.ErrTampered)
			}
		}
		for _, w := range d.Wrote {
			if w.At == p.place && w.Text != good {
				d.Poke(p.place, w.Text)
				refused(t, "an elder page", d, v, pass, api.ErrTampered)
			}
		}
		d.Poke(p.place, good)
	}
	want(t, "as it was", v.Open(pass), api.OK)
	checkGet(t, v, "a", "2", api.OK)
}

// P13: what is at places that the tree does not have is nobody's concern.
func TestOtherPlaces(t *testing.T) {
	d, v := deep(t)
	all := words(tree(t, d, pass).pairs())
	want(t, "Close", v.Close(), api.OK)
	for k := 2; k < 48; k++ {
		if !inTree(tree(t, d, pass), k) {
			d.Poke(k, strings.Repeat("x", 256))
		}
	}
	want(t, "Open", v.Open(pass), api.OK)
	checkScan(t, v, "", "z", all)
}

func inTree(p *page, place int) bool {
	for _, n := range p.list() {
		if n.place == place {
			return true
		}
	}
	return false
}

// model: a page that is laid, as whoever laid it knows it.
type model struct {
	place int
	keys  string // two of them
	below []*model
}

// check: is this a right tree? met: its places; leaves: the depth and the keys of its leaves, from the left.
type check struct {
	met    []int
	depths []int
	keys   []string
	right  bool
}

func (c *check) walk(m *model, depth int) {
	c.right = c.right && !slices.Contains(c.met, m.place)
	c.met = append(c.met, m.place)
	for i, b := range m.below {
		c.right = c.right && b.keys[:1] == m.keys[2*i:2*i+1]
		c.walk(b, depth+1)
	}
	if m.below == nil {
		c.depths = append(c.depths, depth)
		c.keys = append(c.keys, strings.Fields(m.keys)...)
	}
}

func (m *model) isRight() bool {
	c := &check{right: true}
	c.walk(m, 0)
	rising := slices.IsSorted(c.keys) && len(slices.Compact(slices.Clone(c.keys))) == len(c.keys)
	return c.right && rising && slices.Min(c.depths) == slices.Max(c.depths)
}

// layAny: four leaves, most often one behind the other, and six nodes above those that are there.
func layAny(h *hand, r *rand.Rand) ([]*model, []string) {
	var l []*model
	var names []string
	for place := 2; place < 12; place++ {
		m := &model{place: place, keys: "a b"}
		text := ""
		if place < 6 {
			at := 4 * (place - 2)
			if r.Intn(8) == 0 {
				at = 2 * r.Intn(7)
			}
			m.keys = "a b c d e f g h"[at : at+3]
		} else {
			i, j := r.Intn(len(l)), r.Intn(len(l))
			m.below = []*model{l[i], l[j]}
			m.keys = l[i].keys[:1] + " " + l[j].keys[:1]
			text = innerOf(m.keys, names[i], names[j])
		}
		if m.keys[:1] >= m.keys[2:] {
			m.below, m.keys = nil, "a b"
		}
		if m.below == nil {
			text = leafOf(m.keys)
		}
		l = append(l, m)
		names = append(names, h.page(place, text))
	}
	return l, names
}

// P1, P13: whatever tree somebody lays who knows the password, Open ends: it is OK, where the tree is right, or ErrTampered; and what was opened works.
func TestAnyTree(t *testing.T) {
	r := rand.New(rand.NewSource(3))
	opened := [8]int{}
	for i := 0; i < 3000; i++ {
		d, h := counted(t, 4)
		l, names := layAny(h, r)
		at := len(l) - 1 - r.Intn(4)
		h.slot(4+r.Intn(2), names[at])
		v := Of(d)
		if !l[at].isRight() {
			refused(t, "a wrong tree", d, v, pass, api.ErrTampered)
			continue
		}
		want(t, "a right tree", v.Open(pass), api.OK)
		p := tree(t, d, pass)
		opened[p.sizes(t, true)]++
		checkScan(t, v, "", "z", words(p.pairs()))
		done(t, v, "aa=1 -b")
		tree(t, d, pass)
	}
	if opened[1] == 0 || opened[2] == 0 || opened[3] == 0 || opened[1]+opened[2]+opened[3] == 3000 {
		t.Errorf("trees of one level, two and three: %v", opened)
	}
}
