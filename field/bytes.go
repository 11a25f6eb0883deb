package field

import "pigeonry/api"

// numberOf tells what is left of a key's number: each call begins with it, so
// that keys which leave the same are alike everywhere.
func numberOf(a api.Key) number {
	return settle(number{load(a[0:8]), load(a[8:16]), load(a[16:24]), load(a[24:32])}, 0)
}

// keyOf tells a number's bytes, the lowest one first.
func keyOf(n number) api.Key {
	var a api.Key
	store(a[0:8], n.w0)
	store(a[8:16], n.w1)
	store(a[16:24], n.w2)
	store(a[24:32], n.w3)
	return a
}

// load and store are written out because the compiler then makes one move of
// each, and a single point of layer 2 takes thousands of calls.
func load(b []byte) uint64 {
	return uint64(b[0]) | uint64(b[1])<<8 | uint64(b[2])<<16 | uint64(b[3])<<24 |
		uint64(b[4])<<32 | uint64(b[5])<<40 | uint64(b[6])<<48 | uint64(b[7])<<56
}

func store(b []byte, w uint64) {
	b[0], b[1], b[2], b[3] = byte(w), byte(w>>8), byte(w>>16), byte(w>>24)
	b[4], b[5], b[6], b[7] = byte(w>>32), byte(w>>40), byte(w>>48), byte(w>>56)
}
