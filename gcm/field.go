package gcm

// element of the field of the tags: 128 bits; the first one of a block is the highest one of high.
type element struct {
	high, low uint64
}

// plus: the sum of two elements.
func plus(a element, b element) element {
	return element{high: a.high ^ b.high, low: a.low ^ b.low}
}

// times: the product of two elements (SP 800-38D, 6.3).
func times(a element, b element) element {
	var z element
	for i := 0; i < 128; i++ {
		if a.high>>63 == 1 {
			z = plus(z, b)
		}
		a = element{high: a.high<<1 | a.low>>63, low: a.low << 1}
		b = shifted(b)
	}
	return z
}

// shifted: an element times the field's x: a bit that falls out at the end comes back as the field's polynomial.
func shifted(b element) element {
	s := element{high: b.high >> 1, low: b.high<<63 | b.low>>1}
	if b.low&1 == 1 {
		s.high ^= 0xe1 << 56
	}
	return s
}

// absorb takes a text, filled up with noughts to whole blocks, into y.
func absorb(y element, h element, t string) element {
	for i := 0; i < len(t); i += blockSize {
		var b [blockSize]byte
		copy(b[:], t[i:])
		y = times(plus(y, elementOf(b)), h)
	}
	return y
}

// elementOf: a block as an element.
func elementOf(b [blockSize]byte) element {
	var e element
	for i := 0; i < blockSize/2; i++ {
		e.high = e.high<<8 | uint64(b[i])
		e.low = e.low<<8 | uint64(b[blockSize/2+i])
	}
	return e
}

// blockOf: an element as a block.
func blockOf(e element) [blockSize]byte {
	var b [blockSize]byte
	for i := 0; i < blockSize/2; i++ {
		down := uint32(56 - 8*i)
		b[i] = byte(e.high >> down)
		b[blockSize/2+i] = byte(e.low >> down)
	}
	return b
}
