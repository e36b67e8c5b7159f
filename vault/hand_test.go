package vault

import (
	"crypto/aes"
	"crypto/cipher"
	"crypto/hmac"
	"crypto/sha256"
	"encoding/binary"
	"strings"
	"testing"

	"keystore/disk"
)

// hand: one who knows a password and lays a vault byte by byte, by the document alone, with the ciphers and digests of Go's library.
type hand struct {
	t           *testing.T
	d           *disk.Disk
	salt        string
	tags, pages []byte
	nth         uint32
}

func handOver(t *testing.T, d *disk.Disk, pass string, salt string) *hand {
	t.Helper()
	h := &hand{t: t, d: d, salt: nulled(salt, 16)}
	h.tags, h.pages = keyPair(t, pass, h.salt)
	return h
}

// nulled: a text with noughts behind it.
func nulled(s string, size int) string { return s + strings.Repeat("\x00", size-len(s)) }

// part: a text, its length ahead.
func part(s string) string { return string([]byte{byte(len(s))}) + s }

// noRoot: how a slot names no root.
var noRoot = nulled("", 33)

// page: a page is laid; how it is named: its place and its digest.
func (h *hand) page(place int, node string) string { return h.pageFor(place, place, node) }

// pageFor: a page that was sealed for another place.
func (h *hand) pageFor(place int, sealedFor int, node string) string {
	h.t.Helper()
	c, err := aes.NewCipher(h.pages)
	if err != nil {
		h.t.Fatal(err)
	}
	g, err := cipher.NewGCM(c)
	if err != nil {
		h.t.Fatal(err)
	}
	h.nth++
	nonce := binary.BigEndian.AppendUint32([]byte("by hand."), h.nth)
	block := g.Seal(nonce, nonce, []byte(node), []byte{byte(sealedFor)})
	h.d.Poke(place, string(block))
	return name(place, string(block))
}

// name: how a node names its child, and a slot its root.
func name(place int, block string) string {
	s := sha256.Sum256([]byte(block))
	return string([]byte{byte(place)}) + string(s[:])
}

// leafOf: the bytes of a leaf with these keys, each with the value "1".
func leafOf(keys string) string {
	l := strings.Fields(keys)
	t := "\x01" + string([]byte{byte(len(l))})
	for _, k := range l {
		t += part(k) + part("1")
	}
	return nulled(t, 228)
}

// innerOf: the bytes of an inner node: keys, and how their children are named.
func innerOf(keys string, names ...string) string {
	l := strings.Fields(keys)
	t := "\x02" + string([]byte{byte(len(l))})
	for i, k := range l {
		t += part(k) + names[i]
	}
	return nulled(t, 228)
}

// slotOf: a slot with this root, its tag right.
func (h *hand) slotOf(version uint64, root string) string {
	b := []byte("SEAL" + h.salt)
	b = binary.BigEndian.AppendUint64(b, version)
	return h.tagged(string(b) + root)
}

// tagged: a block with a right tag behind these bytes.
func (h *hand) tagged(b string) string {
	m := hmac.New(sha256.New, h.tags)
	m.Write([]byte(b))
	return nulled(string(m.Sum([]byte(b))), 256)
}

// slot: a slot is laid into its block.
func (h *hand) slot(version int, root string) {
	h.d.Poke(version%2, h.slotOf(uint64(version), root))
}

// bent: a block with one byte changed.
func bent(block string, at int) string {
	b := []byte(block)
	b[at] ^= 0x40
	return string(b)
}
