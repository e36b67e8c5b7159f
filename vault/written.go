package vault

import (
	"keystore/api"
	"keystore/gcm"
	"keystore/sha"
)

const (
	mark      = "SEAL"
	numbers   = 8 // bytes of a version and of a session's number
	nonceSize = numbers + 4
)

// keys: what a password and a salt give (P6).
type keys struct {
	tags  *sha.MAC
	pages *gcm.Key
}

// link: where a node lies, and the digest of its page. Place 0: nowhere.
type link struct {
	place  int
	digest string
}

// keysOf: the keys of a password. Its length goes ahead of it, so that noughts behind a password make another one.
func keysOf(pass string, salt string) keys {
	t := sha.Stretch(numberText(len(pass), 1)+pass, salt, api.Rounds, 2*sha.Size)
	return keys{tags: sha.Keyed(t[:sha.Size]), pages: gcm.Keyed(t[sha.Size:])}
}

// slotText: a slot, as it is written (P6).
func (k keys) slotText(salt string, version int, root link) string {
	t := mark + salt + numberText(version, numbers) + numberText(root.place, 1) + filled(root.digest, sha.Size)
	tag := k.tags.Sum(t)
	return filled(t+tag, api.Block)
}

// slotOf: the salt and the root that a block tells, whether it is a slot or not: its tag tells that.
func slotOf(block string) (string, link) {
	c := &cursor{text: block}
	c.take(len(mark))
	salt := c.take(api.Salt)
	c.take(numbers)
	root := link{}
	root.place = c.number()
	root.digest = c.take(sha.Size)
	return salt, root
}

// isSlot: does a block hold this slot? What is behind its first sector does not count: a crash may keep the one without the other.
func isSlot(block string, slot string) bool {
	return len(block) == api.Block && filled(block[:api.Sector], api.Block) == slot
}

// pageText: a page, as it is written (P6): the how manieth of its session, and where.
func (k keys) pageText(session int, nth int, place int, node string) string {
	nonce := numberText(session, numbers) + numberText(nth, nonceSize-numbers)
	return nonce + k.pages.Seal(nonce, numberText(place, 1), node)
}

// openPage: the node's bytes in a page at this place; false: it does not open.
func (k keys) openPage(block string, place int) (string, bool) {
	if len(block) != api.Block {
		return "", false
	}
	return k.pages.Open(block[:nonceSize], numberText(place, 1), block[nonceSize:])
}

// numberText: a number as so many bytes, the highest first.
func numberText(n int, size int) string {
	b := make([]byte, size)
	for i := size - 1; i >= 0; i-- {
		b[i] = byte(n)
		n >>= 8
	}
	return string(b)
}

// filled: a text of at most this size, with noughts behind it.
func filled(t string, size int) string {
	b := make([]byte, size)
	copy(b, t)
	return string(b)
}
