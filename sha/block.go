package sha

import (
	"math/bits"

	"pigeonry/api"
)

// The state goes on by blocks; the last one ends with the number of bits.
const (
	blockSize = 64
	lengthAt  = blockSize - 8
)

type block [blockSize]byte

// words are a state: eight words, each with its highest byte first.
type words [8]uint32

// firstState: of the square roots of the first 8 primes, the first 32 bits
// behind the point.
var firstState = words{
	0x6a09e667, 0xbb67ae85, 0x3c6ef372, 0xa54ff53a, 0x510e527f, 0x9b05688c, 0x1f83d9ab, 0x5be0cd19,
}

// roundWords: of the cube roots of the first 64 primes, the first 32 bits
// behind the point.
var roundWords = [64]uint32{
	0x428a2f98, 0x71374491, 0xb5c0fbcf, 0xe9b5dba5, 0x3956c25b, 0x59f111f1, 0x923f82a4, 0xab1c5ed5,
	0xd807aa98, 0x12835b01, 0x243185be, 0x550c7dc3, 0x72be5d74, 0x80deb1fe, 0x9bdc06a7, 0xc19bf174,
	0xe49b69c1, 0xefbe4786, 0x0fc19dc6, 0x240ca1cc, 0x2de92c6f, 0x4a7484aa, 0x5cb0a9dc, 0x76f988da,
	0x983e5152, 0xa831c66d, 0xb00327c8, 0xbf597fc7, 0xc6e00bf3, 0xd5a79147, 0x06ca6351, 0x14292967,
	0x27b70a85, 0x2e1b2138, 0x4d2c6dfc, 0x53380d13, 0x650a7354, 0x766a0abb, 0x81c2c92e, 0x92722c85,
	0xa2bfe8a1, 0xa81a664b, 0xc24b8b70, 0xc76c51a3, 0xd192e819, 0xd6990624, 0xf40e3585, 0x106aa070,
	0x19a4c116, 0x1e376c08, 0x2748774c, 0x34b0bcb5, 0x391c0cb3, 0x4ed8aa4a, 0x5b9cca4f, 0x682e6ff3,
	0x748f82ee, 0x78a5636f, 0x84c87814, 0x8cc70208, 0x90befffa, 0xa4506ceb, 0xbef9a3f7, 0xc67178f2,
}

// behind tells the state behind one more block. Its letters are variables, not
// an array that goes through a function: that would take three times as long.
func (s words) behind(next block) words {
	w := spread(next)
	a, b, c, d, e, f, g, h := s[0], s[1], s[2], s[3], s[4], s[5], s[6], s[7]
	for t := range w {
		t1 := h + bigSigma1(e) + (e&f ^ ^e&g) + roundWords[t] + w[t]
		t2 := bigSigma0(a) + (a&b ^ a&c ^ b&c)
		h, g, f, e, d, c, b, a = g, f, e, d+t1, c, b, a, t1+t2
	}
	return words{s[0] + a, s[1] + b, s[2] + c, s[3] + d, s[4] + e, s[5] + f, s[6] + g, s[7] + h}
}

// spread tells a block's words, and those that follow from them.
func spread(b block) [64]uint32 {
	var w [64]uint32
	for i, x := range b {
		w[i/4] = w[i/4]<<8 | uint32(x)
	}
	for t := 16; t < len(w); t++ {
		w[t] = smallSigma1(w[t-2]) + w[t-7] + smallSigma0(w[t-15]) + w[t-16]
	}
	return w
}

func smallSigma0(x uint32) uint32 { return right(x, 7) ^ right(x, 18) ^ x>>3 }
func smallSigma1(x uint32) uint32 { return right(x, 17) ^ right(x, 19) ^ x>>10 }
func bigSigma0(x uint32) uint32   { return right(x, 2) ^ right(x, 13) ^ right(x, 22) }
func bigSigma1(x uint32) uint32   { return right(x, 6) ^ right(x, 11) ^ right(x, 25) }

// right turns a word right by n bits.
func right(x uint32, n int) uint32 { return bits.RotateLeft32(x, -n) }

// putLength ends a block with the number of bits of so many bytes.
func putLength(b *block, length int) {
	n := uint64(length) * 8
	for i := blockSize - 1; i >= lengthAt; i-- {
		b[i] = byte(n)
		n >>= 8
	}
}

// key tells the words as bytes.
func (s words) key() api.Key {
	var k api.Key
	for i := range k {
		k[i] = byte(s[i/4] >> (24 - i%4*8))
	}
	return k
}
