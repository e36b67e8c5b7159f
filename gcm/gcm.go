// Package gcm: texts that are sealed: see DOC.md.
package gcm

const (
	keySize   = 32
	nonceSize = 12
	tagSize   = 16
)

// Key is a key of 32 bytes, made ready for the cipher.
type Key struct {
	box   [256]byte // too great for a table of the package: each key has its own
	round [roundBytes]byte
}

// Keyed makes one (P5).
func Keyed(key string) *Key {
	var b [keySize]byte
	copy(b[:], key)
	box := makeBox()
	return &Key{box: box, round: expand(box, b)}
}

// Seal tells the text sealed, and its tag (P5).
func (k *Key) Seal(nonce string, with string, t string) string {
	sealed := k.turned(nonce, t)
	return sealed + k.tag(nonce, with, sealed)
}

// Open tells the text that was sealed; false: it was not so (P5).
func (k *Key) Open(nonce string, with string, t string) (string, bool) {
	if len(t) < tagSize {
		return "", false
	}
	sealed := t[:len(t)-tagSize]
	tag := k.tag(nonce, with, sealed)
	if !same(tag, t[len(t)-tagSize:]) {
		return "", false
	}
	return k.turned(nonce, sealed), true
}

// turned: a text xor the stream of this nonce: done twice it is the text again.
func (k *Key) turned(nonce string, t string) string {
	b := []byte(t)
	// The stream begins at 2: the tag has 1.
	n := uint32(2)
	for i := 0; i < len(b); i += blockSize {
		pad := k.encrypt(counterBlock(nonce, n))
		for j := 0; j < blockSize && i+j < len(b); j++ {
			b[i+j] ^= pad[j]
		}
		n++
	}
	return string(b)
}

// tag: the sixteen bytes that stand behind a sealed text.
func (k *Key) tag(nonce string, with string, sealed string) string {
	h := elementOf(k.encrypt([blockSize]byte{}))
	y := absorb(element{}, h, with)
	y = absorb(y, h, sealed)
	lengths := element{high: uint64(len(with)) * 8, low: uint64(len(sealed)) * 8}
	y = times(plus(y, lengths), h)
	y = plus(y, elementOf(k.encrypt(counterBlock(nonce, 1))))
	b := blockOf(y)
	return string(b[:])
}

// counterBlock: the nonce, cut or filled up, and a number as four bytes.
func counterBlock(nonce string, n uint32) [blockSize]byte {
	var b [blockSize]byte
	copy(b[:nonceSize], nonce)
	b[12] = byte(n >> 24)
	b[13] = byte(n >> 16)
	b[14] = byte(n >> 8)
	b[15] = byte(n)
	return b
}

// same: are two texts the same? It looks at all bytes, so that its time does not tell where a wrong tag begins to differ.
func same(a string, b string) bool {
	if len(a) != len(b) {
		return false
	}
	differs := byte(0)
	for i := 0; i < len(a); i++ {
		differs |= a[i] ^ b[i]
	}
	return differs == 0
}
