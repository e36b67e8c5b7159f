package vault

import (
	"strings"
	"testing"

	"keystore/api"
)

// P6: a slot's bytes, tested with Go's own digests.
func TestSlots(t *testing.T) {
	d, v := world(t, 12, 50)
	d.Lay("a salt")
	want(t, "Format", v.Format("secret"), api.OK)
	salt := "a salt" + strings.Repeat("\x00", 10)
	for version, block := range []string{"", d.Wrote[0].Text, d.Wrote[1].Text} {
		if version == 0 {
			continue
		}
		if at := d.Wrote[version-1].At; at != version%2 {
			t.Errorf("the slot of version %d is in block %d", version, at)
		}
		s := readSlot(t, block, "secret")
		if s.salt != salt || s.version != uint64(version) || s.place != 0 {
			t.Errorf("the slot of version %d: %+v", version, s)
		}
	}
	done(t, v, "a=1")
	s := readSlot(t, d.Look(1), "secret")
	if s.salt != salt || s.version != 3 || s.place != 2 {
		t.Errorf("the slot behind a Commit: %+v", s)
	}
	if got := tree(t, d, "secret").shape(); got != "(a)" {
		t.Errorf("the tree is %s", got)
	}
}

// P6: the version has eight bytes, the highest first.
func TestHighVersion(t *testing.T) {
	d, v := world(t, 3, api.MaxCount)
	for i := 0; i < 70000; i++ {
		d.Bump()
	}
	want(t, "Format", v.Format(pass), api.OK)
	done(t, v, "a=1")
	p := tree(t, d, pass)
	if got := d.Look(70003 % 2)[20:28]; got != unhex(t, "00000000 00011173") {
		t.Errorf("version 70003 is %x", got)
	}
	if p.session != 70002 || p.nth != 1 {
		t.Errorf("session %d, page %d", p.session, p.nth)
	}
}

// P6: the password's length goes into the keys, and the salt does.
func TestKeysDiffer(t *testing.T) {
	seen := []string{}
	for _, c := range []struct{ pass, salt string }{
		{"", ""}, {"\x00", ""}, {"\x00\x00", ""}, {"p", ""}, {"p\x00", ""}, {"p", "s"}, {strings.Repeat("x", 40), ""},
	} {
		d, v := world(t, 3, 50)
		d.Lay(c.salt)
		want(t, "Format", v.Format(c.pass), api.OK)
		done(t, v, "a=1")
		tree(t, d, c.pass)
		for _, s := range seen {
			if s == d.Look(2) {
				t.Errorf("password %q, salt %q: a page as before", c.pass, c.salt)
			}
		}
		seen = append(seen, d.Look(2))
	}
}

// P6: the nonce of a page is the session's number and the how manieth it is; it is sealed together with its place.
func TestPages(t *testing.T) {
	d, v := formatted(t, 12, 50)
	done(t, v, "a=1 b=1 c=1 d=1 e=1 f=1")
	done(t, v, "f=2")
	nth := uint32(0)
	for _, w := range d.Wrote {
		if w.At < 2 {
			continue
		}
		nth++
		if len(w.Text) != 256 {
			t.Fatalf("a page of %d bytes", len(w.Text))
		}
		if want := numberText(2, 8) + numberText(int(nth), 4); w.Text[:12] != want {
			t.Errorf("the nonce of page %d: %x", nth, w.Text[:12])
		}
		_, key := keyPair(t, pass, strings.Repeat("\x00", 16))
		readNode(t, openBlock(t, w.Text, w.At, key))
	}
	if nth != 5 {
		t.Errorf("%d pages, want 5", nth)
	}
	want(t, "Close", v.Close(), api.OK)
	want(t, "Format", v.Format(pass), api.OK)
	done(t, v, "a=1")
	if p := tree(t, d, pass); p.session != 6 || p.nth != 1 {
		t.Errorf("another session: its number is %d, its page the %d-th", p.session, p.nth)
	}
}

// P6: a leaf's and an inner node's bytes.
func TestNodeText(t *testing.T) {
	leaf := &node{leaf: true, entries: []entry{{key: "a", value: ""}, {key: "bcdefghi", value: "0123456789abcdef"}}}
	got := leaf.text()
	head := unhex(t, "01 02 01 61 00 08 6263646566676869 10 30313233343536373839616263646566")
	if got != head+strings.Repeat("\x00", 228-len(head)) {
		t.Errorf("a leaf: %x", got)
	}
	one, other := strings.Repeat("\xd1", 32), strings.Repeat("\xd2", 32)
	inner := &node{entries: []entry{{key: "a", link: link{place: 7, digest: one}}, {key: "b", link: link{place: 47, digest: other}}}}
	got = inner.text()
	head = "\x02\x02\x01a\x07" + one + "\x01b\x2f" + other
	if got != head+strings.Repeat("\x00", 228-len(head)) {
		t.Errorf("an inner node: %x", got)
	}
	for _, n := range []*node{leaf, inner} {
		back, ok := nodeOf(n.text())
		if !ok || back.text() != n.text() || back.leaf != n.leaf || len(back.entries) != len(n.entries) {
			t.Errorf("a node is not itself again: %x", n.text())
		}
	}
}

// nodeText: bytes that may be a node: noughts are filled up.
func nodeText(b string) string { return b + strings.Repeat("\x00", 228-len(b)) }

// P6: all other bytes are no node.
func TestNoNode(t *testing.T) {
	leaf := func(k string) string { return string([]byte{byte(len(k))}) + k + "\x00" }
	inner := func(k string) string { return string([]byte{byte(len(k))}) + k + "\x05" + strings.Repeat("d", 32) }
	for _, c := range []struct {
		what, text string
		node       bool
	}{
		{"a leaf of one", nodeText("\x01\x01" + leaf("a")), true},
		{"a leaf of five", nodeText("\x01\x05" + leaf("a") + leaf("b") + leaf("c") + leaf("d") + leaf("e")), true},
		{"an inner node of two", nodeText("\x02\x02" + inner("a") + inner("b")), true},
		{"an inner node of five", nodeText("\x02\x05" + inner("a") + inner("b") + inner("c") + inner("d") + inner("e")), true},
		{"a key of eight, a value of 16", nodeText("\x01\x01\x0812345678\x100123456789abcdef"), true},
		{"keys of noughts", nodeText("\x01\x02" + leaf("\x00") + leaf("\x00\x00")), true},
		{"noughts", nodeText(""), false},
		{"nothing", "", false},
		{"one byte", "\x01", false},
		{"a kind of 0", nodeText("\x00\x01" + leaf("a")), false},
		{"a kind of 3", nodeText("\x03\x02" + inner("a") + inner("b")), false},
		{"a leaf of none", nodeText("\x01\x00"), false},
		{"a leaf of six", nodeText("\x01\x06" + leaf("a") + leaf("b") + leaf("c") + leaf("d") + leaf("e") + leaf("f")), false},
		{"a leaf of 255", nodeText("\x01\xff" + leaf("a")), false},
		{"an inner node of none", nodeText("\x02\x00"), false},
		{"an inner node of one", nodeText("\x02\x01" + inner("a")), false},
		{"an inner node of six", nodeText("\x02\x06" + inner("a") + inner("b") + inner("c") + inner("d") + inner("e") + leaf("f")), false},
		{"a key of no bytes", nodeText("\x01\x01\x00\x00"), false},
		{"a key of nine", nodeText("\x01\x01" + leaf("123456789")), false},
		{"an inner key of no bytes", nodeText("\x02\x02" + inner("") + inner("b")), false},
		{"an inner key of nine", nodeText("\x02\x02" + inner("a") + inner("bbbbbbbbb")), false},
		{"a value of 17", nodeText("\x01\x01\x01a\x110123456789abcdefg"), false},
		{"keys that fall", nodeText("\x01\x02" + leaf("b") + leaf("a")), false},
		{"a key twice", nodeText("\x01\x02" + leaf("a") + leaf("a")), false},
		{"inner keys that fall", nodeText("\x02\x03" + inner("a") + inner("c") + inner("b")), false},
		{"an inner key twice", nodeText("\x02\x02" + inner("a") + inner("a")), false},
		{"more behind the entries", nodeText("\x01\x01" + leaf("a") + "\x01"), false},
		{"more at the end", nodeText("\x01\x01" + leaf("a"))[:227] + "\x01", false},
		{"a byte too few", nodeText("\x01\x01" + leaf("a"))[:227], false},
		{"a byte too many", nodeText("\x01\x01"+leaf("a")) + "\x00", false},
	} {
		n, ok := nodeOf(c.text)
		if ok != c.node || (n != nil) != c.node {
			t.Errorf("%s: %v", c.what, ok)
		}
		if ok && n.text() != c.text {
			t.Errorf("%s: it is %x then", c.what, n.text())
		}
	}
}

// P1: nodeOf ends at whatever bytes there are.
func TestNodeOfAnything(t *testing.T) {
	good := nodeText("\x01\x02\x01a\x021x\x08bbbbbbbb\x100123456789abcdef")
	for i := range good {
		for x := 0; x < 256; x++ {
			b := []byte(good)
			b[i] = byte(x)
			n, ok := nodeOf(string(b))
			if ok && n.text() != string(b) {
				t.Fatalf("byte %d is %d: taken for %x", i, x, n.text())
			}
		}
		if _, ok := nodeOf(good[:i]); ok {
			t.Errorf("%d bytes are a node", i)
		}
	}
}
