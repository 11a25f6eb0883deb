package chacha

import (
	"math/bits"

	"pigeonry/api"
)

const (
	blockSize    = 64
	doubleRounds = 10
)

// Where a block's first words begin: those that are always the same stand
// ahead of these.
const (
	keyAt   = 4
	countAt = 12
	nonceAt = 13
)

// words are a block's: 16, as four rows of four, each word with its lowest
// byte first.
type words [blockSize / 4]uint32

// firstWords tells a block's words ahead of all rounds.
func firstWords(key api.Key, n Nonce, count uint32) words {
	// As bytes, the words that are always the same say "expand 32-byte k".
	w := words{0x61707865, 0x3320646e, 0x79622d32, 0x6b206574}
	w.put(keyAt, key[:])
	w[countAt] = count
	w.put(nonceAt, n[:])
	return w
}

// put lays bytes into words that are 0, from the word at on.
func (w *words) put(at int, b []byte) {
	for i, x := range b {
		w[at+i/4] |= uint32(x) << (i % 4 * 8)
	}
}

// doubleRound turns the columns of the rows, and then their diagonals.
func (w *words) doubleRound() {
	for i := range 4 {
		w.quarter(i, 4+i, 8+i, 12+i)
	}
	for i := range 4 {
		w.quarter(i, 4+(i+1)%4, 8+(i+2)%4, 12+(i+3)%4)
	}
}

// quarter turns the four words at these places.
func (w *words) quarter(i, j, k, l int) {
	a, b, c, d := w[i], w[j], w[k], w[l]
	a += b
	d = bits.RotateLeft32(d^a, 16)
	c += d
	b = bits.RotateLeft32(b^c, 12)
	a += b
	d = bits.RotateLeft32(d^a, 8)
	c += d
	b = bits.RotateLeft32(b^c, 7)
	w[i], w[j], w[k], w[l] = a, b, c, d
}

// block tells the words as bytes.
func (w words) block() [blockSize]byte {
	var b [blockSize]byte
	for i := range b {
		b[i] = byte(w[i/4] >> (i % 4 * 8))
	}
	return b
}

// blocksOf tells how many blocks so many bytes begin.
func blocksOf(size int) int { return (size + blockSize - 1) / blockSize }
