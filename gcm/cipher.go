package gcm

const (
	blockSize  = 16 // bytes of a block of the cipher: four columns of four
	rounds     = 14
	roundBytes = (rounds + 1) * blockSize // bytes of all round keys
)

// encrypt: AES-256 of one block (FIPS 197).
func (k *Key) encrypt(b [blockSize]byte) [blockSize]byte {
	b = k.addRound(b, 0)
	for r := 1; r < rounds; r++ {
		b = k.substitute(b)
		b = mixColumns(shiftRows(b))
		b = k.addRound(b, r)
	}
	b = shiftRows(k.substitute(b))
	return k.addRound(b, rounds)
}

// addRound: the block xor the key of round r, 0 to 14.
func (k *Key) addRound(b [blockSize]byte, r int) [blockSize]byte {
	for i := 0; i < blockSize; i++ {
		b[i] ^= k.round[r*blockSize+i]
	}
	return b
}

// substitute: each byte through the box.
func (k *Key) substitute(b [blockSize]byte) [blockSize]byte {
	for i := 0; i < blockSize; i++ {
		b[i] = k.box[b[i]]
	}
	return b
}

// shiftRows: row r (every fourth byte from r on) goes r columns to the left.
func shiftRows(b [blockSize]byte) [blockSize]byte {
	var s [blockSize]byte
	for i := 0; i < blockSize; i++ {
		s[i] = b[(i+4*(i%4))%blockSize]
	}
	return s
}

// mixColumns: each column times the matrix of 2, 3, 1, 1.
func mixColumns(b [blockSize]byte) [blockSize]byte {
	for i := 0; i+3 < blockSize; i += 4 {
		p, q, r, s := b[i], b[i+1], b[i+2], b[i+3]
		all := p ^ q ^ r ^ s
		b[i] = p ^ all ^ double(p^q)
		b[i+1] = q ^ all ^ double(q^r)
		b[i+2] = r ^ all ^ double(r^s)
		b[i+3] = s ^ all ^ double(s^p)
	}
	return b
}

// expand: the round keys out of a key, a word of four bytes behind the other.
func expand(box [256]byte, key [keySize]byte) [roundBytes]byte {
	var w [roundBytes]byte
	copy(w[:], key[:])
	mark := byte(1)
	for i := keySize; i+3 < roundBytes; i += 4 {
		p, q, r, s := w[i-4], w[i-3], w[i-2], w[i-1]
		if i%keySize == 0 {
			p, q, r, s = box[q]^mark, box[r], box[s], box[p]
			mark = double(mark)
		} else if i%keySize == keySize/2 {
			p, q, r, s = box[p], box[q], box[r], box[s]
		}
		w[i] = w[i-keySize] ^ p
		w[i+1] = w[i+1-keySize] ^ q
		w[i+2] = w[i+2-keySize] ^ r
		w[i+3] = w[i+3-keySize] ^ s
	}
	return w
}

// makeBox: the box by its rule. 3 has all bytes but 0 among its powers: p goes up through them and q, its inverse, down.
func makeBox() [256]byte {
	var box [256]byte
	box[0] = 0x63
	p := byte(1)
	q := byte(1)
	for i := 0; i < 255; i++ {
		p ^= double(p)
		q = third(q)
		box[p] = 0x63 ^ q ^ turnLeft(q, 1) ^ turnLeft(q, 2) ^ turnLeft(q, 3) ^ turnLeft(q, 4)
	}
	return box
}

// double: x times 2 in the cipher's field.
func double(x byte) byte {
	if x >= 0x80 {
		return x<<1 ^ 0x1b
	}
	return x << 1
}

// third: x divided by 3, which is x times 0xf6, in the cipher's field.
func third(x byte) byte {
	x ^= x << 1
	x ^= x << 2
	x ^= x << 4
	if x >= 0x80 {
		return x ^ 0x09
	}
	return x
}

// turnLeft: x turned left by n bits, 1 to 7.
func turnLeft(x byte, n uint32) byte { return x<<n | x>>(8-n) }
