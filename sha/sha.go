// Package sha: the hash, tags, keys out of passwords: see DOC.md.
package sha

// Size: bytes of a digest.
const Size = 32

// blockSize: the digest takes in its text in blocks of so many bytes.
const blockSize = 64

// lengthAt: where in the last block the number of bits stands.
const lengthAt = 56

// startWords: of the square roots of the first eight primes.
var startWords = [8]uint32{
	0x6a09e667, 0xbb67ae85, 0x3c6ef372, 0xa54ff53a, 0x510e527f, 0x9b05688c, 0x1f83d9ab, 0x5be0cd19,
}

// stepWords: of the cube roots of the first 64 primes.
var stepWords = [64]uint32{
	0x428a2f98, 0x71374491, 0xb5c0fbcf, 0xe9b5dba5, 0x3956c25b, 0x59f111f1, 0x923f82a4, 0xab1c5ed5,
	0xd807aa98, 0x12835b01, 0x243185be, 0x550c7dc3, 0x72be5d74, 0x80deb1fe, 0x9bdc06a7, 0xc19bf174,
	0xe49b69c1, 0xefbe4786, 0x0fc19dc6, 0x240ca1cc, 0x2de92c6f, 0x4a7484aa, 0x5cb0a9dc, 0x76f988da,
	0x983e5152, 0xa831c66d, 0xb00327c8, 0xbf597fc7, 0xc6e00bf3, 0xd5a79147, 0x06ca6351, 0x14292967,
	0x27b70a85, 0x2e1b2138, 0x4d2c6dfc, 0x53380d13, 0x650a7354, 0x766a0abb, 0x81c2c92e, 0x92722c85,
	0xa2bfe8a1, 0xa81a664b, 0xc24b8b70, 0xc76c51a3, 0xd192e819, 0xd6990624, 0xf40e3585, 0x106aa070,
	0x19a4c116, 0x1e376c08, 0x2748774c, 0x34b0bcb5, 0x391c0cb3, 0x4ed8aa4a, 0x5b9cca4f, 0x682e6ff3,
	0x748f82ee, 0x78a5636f, 0x84c87814, 0x8cc70208, 0x90befffa, 0xa4506ceb, 0xbef9a3f7, 0xc67178f2,
}

// Hash has taken in some bytes. It is arrays and numbers alone, so that a copy of it goes its own way.
type Hash struct {
	words [8]uint32
	block [blockSize]byte // what does not make a whole block yet
	size  uint64          // bytes taken in
}

// Start: nothing has been taken in (P3).
func Start() *Hash { return &Hash{words: startWords} }

// Write takes in more (P3).
func (s *Hash) Write(t string) {
	for i := 0; i < len(t); i++ {
		s.block[s.size%blockSize] = t[i]
		s.size++
		if s.size%blockSize == 0 {
			s.words = mix(s.words, s.block)
		}
	}
}

// Sum tells the digest of what has been taken in (P3).
func (s *Hash) Sum() string {
	// The text's end goes into a copy: more may come into s.
	end := *s
	end.Write(padding(s.size))
	return wordsText(end.words)
}

// Of tells the digest of a text (P3).
func Of(t string) string {
	s := Start()
	s.Write(t)
	return s.Sum()
}

// padding: what is added behind a text of so many bytes.
func padding(size uint64) string {
	noughts := (blockSize + lengthAt - 1 - size%blockSize) % blockSize
	p := []byte{128}
	for i := uint64(0); i < noughts; i++ {
		p = append(p, 0)
	}
	bits := size * 8
	p = append(p, numberText(uint32(bits>>32))...)
	p = append(p, numberText(uint32(bits))...)
	return string(p)
}

// mix takes one block into the eight words.
func mix(words [8]uint32, block [blockSize]byte) [8]uint32 {
	w := spread(block)
	a, b, c, d := words[0], words[1], words[2], words[3]
	e, f, g, h := words[4], words[5], words[6], words[7]
	for t := 0; t < 64; t++ {
		turnedE := turn(e, 6) ^ turn(e, 11) ^ turn(e, 25)
		turnedA := turn(a, 2) ^ turn(a, 13) ^ turn(a, 22)
		chosen := (e & f) ^ (^e & g)
		most := (a & b) ^ (a & c) ^ (b & c)
		x := h + turnedE + chosen + stepWords[t] + w[t]
		y := turnedA + most
		h, g, f, e = g, f, e, d+x
		d, c, b, a = c, b, a, x+y
	}
	return [8]uint32{
		words[0] + a, words[1] + b, words[2] + c, words[3] + d,
		words[4] + e, words[5] + f, words[6] + g, words[7] + h,
	}
}

// spread: the 64 words that a block gives.
func spread(block [blockSize]byte) [64]uint32 {
	var w [64]uint32
	for t := 0; t < 16; t++ {
		w[t] = uint32(block[4*t])<<24 | uint32(block[4*t+1])<<16 | uint32(block[4*t+2])<<8 | uint32(block[4*t+3])
	}
	for t := 16; t < 64; t++ {
		p := w[t-15]
		q := w[t-2]
		s := turn(p, 7) ^ turn(p, 18) ^ p>>3
		z := turn(q, 17) ^ turn(q, 19) ^ q>>10
		w[t] = w[t-16] + s + w[t-7] + z
	}
	return w
}

// turn: x turned right by n bits, 1 to 31.
func turn(x uint32, n uint32) uint32 { return x>>n | x<<(32-n) }

// numberText: a number as four bytes.
func numberText(x uint32) string {
	return string([]byte{byte(x >> 24), byte(x >> 16), byte(x >> 8), byte(x)})
}

// wordsText: the eight words, one behind the other.
func wordsText(words [8]uint32) string {
	t := make([]byte, 0, Size)
	for i := 0; i < len(words); i++ {
		t = append(t, numberText(words[i])...)
	}
	return string(t)
}
