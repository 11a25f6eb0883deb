package hmac

import "pigeonry/sha"

// blockSize is how many bytes a key takes up ahead of what is hashed.
const blockSize = 64

// The masks by which the two digests of a tag have unlike keys.
const (
	innerMask = 54
	outerMask = 92
)

// filled tells a key, or the digest of one that is too long, in a block.
func filled(key []byte) []byte {
	k := make([]byte, blockSize)
	if len(key) > blockSize {
		digest := sha.Sum(key)
		copy(k, digest[:])
	} else {
		copy(k, key)
	}
	return k
}

// masked tells a block with each byte xor the mask.
func masked(k []byte, mask byte) []byte {
	m := make([]byte, len(k))
	for i, x := range k {
		m[i] = x ^ mask
	}
	return m
}
