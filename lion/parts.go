package lion

import (
	"slices"

	"pigeonry/api"
	"pigeonry/chacha"
	"pigeonry/hmac"
)

const leftSize = len(api.Key{})

// block is a block in its two parts. A round tells a new one, and writes over
// no part of the old one, which may be the caller's.
type block struct {
	left  api.Key
	right []byte
}

// parted tells the parts of bytes, of which there are enough for the left one.
func parted(b []byte) block {
	return block{api.Key(b[:leftSize]), b[leftSize:]}
}

// joined tells the bytes of a block, as new memory.
func (x block) joined() []byte { return slices.Concat(x.left[:], x.right) }

// stream mixes the left part into the right one.
func (x block) stream(key api.Key) block {
	// A stream is longer than any block.
	right, _ := chacha.Xor(xored(key, x.left), chacha.Nonce{}, 0, x.right)
	return block{x.left, right}
}

// tag mixes the right part into the left one.
func (x block) tag(key api.Key) block {
	return block{xored(x.left, hmac.Mac(key[:], x.right)), x.right}
}

// round is one of the four: what it does, and for which purpose it has its key.
type round struct {
	mix   func(x block, key api.Key) block
	label string
}

// rounds tells the four in the order in which a block is locked.
func rounds() []round {
	return []round{
		{block.stream, "lion 1"},
		{block.tag, "lion 2"},
		{block.stream, "lion 3"},
		{block.tag, "lion 4"},
	}
}

// by tells what comes of a block by the round.
func (r round) by(key api.Key, x block) block {
	return r.mix(x, hmac.Derive(key, r.label))
}

// xored tells two keys as one, each byte xor that at its place.
func xored(a, b api.Key) api.Key {
	for i, x := range b {
		a[i] ^= x
	}
	return a
}
