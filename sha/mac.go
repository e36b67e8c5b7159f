package sha

// MAC has a key: the key's two blocks are taken in already, once for all tags.
type MAC struct {
	inner, outer Hash
}

// Keyed: HMAC under a key (P4).
func Keyed(key string) *MAC {
	if len(key) > blockSize {
		key = Of(key)
	}
	inner := Start()
	inner.Write(masked(key, 0x36))
	outer := Start()
	outer.Write(masked(key, 0x5c))
	return &MAC{inner: *inner, outer: *outer}
}

// Sum tells the tag of a text (P4).
func (m *MAC) Sum(t string) string {
	// Copies: the next tag begins at the key again.
	inner := m.inner
	inner.Write(t)
	digest := inner.Sum()
	outer := m.outer
	outer.Write(digest)
	return outer.Sum()
}

// masked: a key of at most a block, with noughts behind it up to a block, each byte xor the mask.
func masked(key string, mask byte) string {
	var b [blockSize]byte
	copy(b[:], key)
	for i := 0; i < len(b); i++ {
		b[i] ^= mask
	}
	return string(b[:])
}

// Stretch makes a key out of a password and a salt (P4).
func Stretch(pass string, salt string, rounds int, size int) string {
	if size < 0 {
		size = 0
	}
	m := Keyed(pass)
	var t []byte
	for i := uint32(1); len(t) < size; i++ {
		part := m.stretched(salt, i, rounds)
		t = append(t, part[:]...)
	}
	return string(t[:size])
}

// stretched: the i-th digest's length of a stretched key.
func (m *MAC) stretched(salt string, i uint32, rounds int) [Size]byte {
	var all [Size]byte
	last := m.Sum(salt + numberText(i))
	copy(all[:], last)
	for r := 1; r < rounds; r++ {
		last = m.Sum(last)
		for k := 0; k < len(all) && k < len(last); k++ {
			all[k] ^= last[k]
		}
	}
	return all
}
