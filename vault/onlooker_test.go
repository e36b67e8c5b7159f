package vault

import (
	"crypto/aes"
	"crypto/cipher"
	"crypto/hmac"
	"crypto/pbkdf2"
	"crypto/sha256"
	"encoding/binary"
	"encoding/hex"
	"fmt"
	"strings"
	"testing"

	"keystore/api"
	"keystore/disk"
)

// The onlooker reads what was written by the document alone, with the ciphers and digests of Go's library: it shares no code with the vault.

const pass = "pw"

// world: a disk, and a closed vault over it.
func world(t *testing.T, blocks int, ceiling int) (*disk.Disk, *Vault) {
	t.Helper()
	d, e := disk.Make(blocks, ceiling)
	if e != api.OK {
		t.Fatalf("a world of %d blocks, ceiling %d: %d", blocks, ceiling, e)
	}
	return d, Of(d)
}

// formatted: a world, and a vault over it that is open and empty.
func formatted(t *testing.T, blocks int, ceiling int) (*disk.Disk, *Vault) {
	t.Helper()
	d, v := world(t, blocks, ceiling)
	want(t, "Format", v.Format(pass), api.OK)
	return d, v
}

func want(t *testing.T, what string, got api.Errno, wanted api.Errno) {
	t.Helper()
	if got != wanted {
		t.Fatalf("%s: %d, want %d", what, got, wanted)
	}
}

// ask: changes, one word each: "k=value" puts, "-k" deletes.
func ask(t *testing.T, v *Vault, words string) {
	t.Helper()
	for _, w := range strings.Fields(words) {
		if k, isDelete := strings.CutPrefix(w, "-"); isDelete {
			want(t, w, v.Delete(k), api.OK)
			continue
		}
		k, s, _ := strings.Cut(w, "=")
		want(t, w, v.Put(k, s), api.OK)
	}
}

// done: changes and a Commit that is OK.
func done(t *testing.T, v *Vault, words string) {
	t.Helper()
	ask(t, v, words)
	want(t, "Commit of "+words, v.Commit(), api.OK)
}

// spent: how many operations something does.
func spent(d *disk.Disk, do func()) int {
	const plenty = 10000
	d.Fuse(plenty)
	do()
	left := 0
	for {
		if _, ok := d.Count(); !ok {
			break
		}
		left++
	}
	d.Fuse(-1)
	return plenty - left
}

// writes: how many writes so far, and the beginning of the digest of their places and texts.
func writes(d *disk.Disk) string {
	s := ""
	for _, w := range d.Wrote {
		s += string([]byte{byte(w.At)}) + w.Text
	}
	sum := sha256.Sum256([]byte(s))
	return fmt.Sprintf("%d %x", len(d.Wrote), sum[:8])
}

// slot: what a slot says.
type slot struct {
	salt, digest string
	version      uint64
	place        int
}

// keyPair: the key of tags and the key of pages.
func keyPair(t *testing.T, pass string, salt string) ([]byte, []byte) {
	t.Helper()
	k, err := pbkdf2.Key(sha256.New, string([]byte{byte(len(pass))})+pass, []byte(salt), 3, 64)
	if err != nil {
		t.Fatal(err)
	}
	return k[:32], k[32:]
}

// readSlot: the slot in a block's bytes; all of them are tested.
func readSlot(t *testing.T, block string, pass string) slot {
	t.Helper()
	if len(block) != 256 || block[:4] != "SEAL" || block[93:] != strings.Repeat("\x00", 256-93) {
		t.Fatalf("no slot: %x", block)
	}
	s := slot{salt: block[4:20], version: binary.BigEndian.Uint64([]byte(block[20:28])), place: int(block[28]), digest: block[29:61]}
	tags, _ := keyPair(t, pass, s.salt)
	m := hmac.New(sha256.New, tags)
	m.Write([]byte(block[:61]))
	if string(m.Sum(nil)) != block[61:93] {
		t.Fatalf("the slot's tag: %x", block)
	}
	if s.place == 0 && s.digest != strings.Repeat("\x00", 32) {
		t.Fatalf("no root, but a digest: %x", s.digest)
	}
	return s
}

// page: a node and where it lies, with all that is below.
type page struct {
	place   int
	digest  string
	session uint64
	nth     uint32
	leaf    bool
	keys    []string
	values  []string
	places  []int
	digests []string
	below   []*page
}

// openBlock: the node's bytes in a block, with Go's own cipher.
func openBlock(t *testing.T, block string, place int, key []byte) string {
	t.Helper()
	c, err := aes.NewCipher(key)
	if err != nil {
		t.Fatal(err)
	}
	g, err := cipher.NewGCM(c)
	if err != nil {
		t.Fatal(err)
	}
	b, err := g.Open(nil, []byte(block[:12]), []byte(block[12:]), []byte{byte(place)})
	if err != nil {
		t.Fatalf("the page at %d does not open: %v", place, err)
	}
	return string(b)
}

// readNode: the node in these bytes; what is not as P6 says is a failure.
func readNode(t *testing.T, b string) *page {
	t.Helper()
	if len(b) != 228 || b[0] != 1 && b[0] != 2 {
		t.Fatalf("no node: %x", b)
	}
	p := &page{leaf: b[0] == 1}
	count, at := int(b[1]), 2
	word := func(size int) string {
		at += size
		return b[at-size : at]
	}
	for i := 0; i < count; i++ {
		p.keys = append(p.keys, word(int(word(1)[0])))
		if p.leaf {
			p.values = append(p.values, word(int(word(1)[0])))
		} else {
			p.places = append(p.places, int(word(1)[0]))
			p.digests = append(p.digests, word(32))
		}
	}
	if strings.Trim(b[at:], "\x00") != "" {
		t.Fatalf("behind the entries: %x", b[at:])
	}
	for i, k := range p.keys {
		if len(k) < 1 || len(k) > 8 || i > 0 && p.keys[i-1] >= k {
			t.Fatalf("keys %q", p.keys)
		}
	}
	return p
}

// readTree: a page and all that is below it.
func readTree(t *testing.T, d *disk.Disk, key []byte, place int, digest string) *page {
	t.Helper()
	block := d.Look(place)
	if s := sha256.Sum256([]byte(block)); string(s[:]) != digest {
		t.Fatalf("the digest of the page at %d", place)
	}
	p := readNode(t, openBlock(t, block, place, key))
	p.place, p.digest = place, digest
	p.session = binary.BigEndian.Uint64([]byte(block[:8]))
	p.nth = binary.BigEndian.Uint32([]byte(block[8:12]))
	for i := range p.places {
		below := readTree(t, d, key, p.places[i], p.digests[i])
		if below.keys[0] != p.keys[i] {
			t.Fatalf("the node's key is %q, the child's least %q", p.keys[i], below.keys[0])
		}
		p.below = append(p.below, below)
	}
	return p
}

// tree: the tree of the slot that the counter tells; nil: it has no root.
func tree(t *testing.T, d *disk.Disk, pass string) *page {
	t.Helper()
	s := readSlot(t, d.Look(d.Tally()%2), pass)
	if s.version != uint64(d.Tally()) {
		t.Fatalf("the slot's version is %d, the counter %d", s.version, d.Tally())
	}
	if s.place == 0 {
		return nil
	}
	_, key := keyPair(t, pass, s.salt)
	p := readTree(t, d, key, s.place, s.digest)
	p.sizes(t, true)
	return p
}

// sizes: a failure, if a node has too few entries or too many, or if leaves are not equally deep; the depth.
func (p *page) sizes(t *testing.T, root bool) int {
	t.Helper()
	least := 2
	if root && p.leaf {
		least = 1
	}
	if len(p.keys) < least || len(p.keys) > 5 {
		t.Fatalf("a node of %d entries: %s", len(p.keys), p.shape())
	}
	depth := 0
	for i, b := range p.below {
		n := b.sizes(t, false)
		if i > 0 && n != depth {
			t.Fatalf("leaves are not equally deep: %s", p.shape())
		}
		depth = n
	}
	return depth + 1
}

// shape: a tree's keys: (a b) is a leaf, ((a b) (c d)) a node above two.
func (p *page) shape() string {
	if p == nil {
		return ""
	}
	l := p.keys
	if !p.leaf {
		l = nil
		for _, b := range p.below {
			l = append(l, b.shape())
		}
	}
	return "(" + strings.Join(l, " ") + ")"
}

// list: a tree's nodes, children ahead of their parents, from the left to the right.
func (p *page) list() []*page {
	if p == nil {
		return nil
	}
	var l []*page
	for _, b := range p.below {
		l = append(l, b.list()...)
	}
	return append(l, p)
}

// pairs: a tree's keys and values.
func (p *page) pairs() []api.Pair {
	var l []api.Pair
	for _, n := range p.list() {
		for i := range n.values {
			l = append(l, api.Pair{Key: n.keys[i], Value: n.values[i]})
		}
	}
	return l
}

func unhex(t *testing.T, s string) string {
	t.Helper()
	b, err := hex.DecodeString(strings.ReplaceAll(s, " ", ""))
	if err != nil {
		t.Fatal(err)
	}
	return string(b)
}
