package aead

import (
	"slices"

	"pigeonry/api"
	"pigeonry/chacha"
	"pigeonry/hmac"
)

// turn hides bytes, and turns hidden ones back.
func turn(key api.Key, n chacha.Nonce, b []byte) ([]byte, api.Errno) {
	return chacha.Xor(hmac.Derive(key, "hide"), n, 0, b)
}

// proved tells the bytes that a tag is made of. How many the other bytes are
// stands ahead, so that none of them can pass for the nonce or a hidden one.
func proved(n chacha.Nonce, other, hidden []byte) []byte {
	return slices.Concat(number(len(other)), other, n[:], hidden)
}

// number tells a number as 8 bytes, the lowest one first.
func number(n int) []byte {
	b := make([]byte, 8)
	for i := range b {
		b[i] = byte(uint64(n) >> (8 * i))
	}
	return b
}
