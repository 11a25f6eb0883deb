package field

import (
	"math/big"
	"testing"
)

// The promises reach settle with few values of high; its remark says more.

func bigOf(low number, high uint64) *big.Int {
	n := new(big.Int).SetUint64(high)
	for _, w := range []uint64{low.w3, low.w2, low.w1, low.w0} {
		n.Lsh(n, 64)
		n.Add(n, new(big.Int).SetUint64(w))
	}
	return n
}

func TestSettleAtItsBounds(t *testing.T) {
	p := bigOf(prime(), 0)
	ends := []uint64{0, 1, 1<<63 - 1, 1 << 63, 1<<64 - 39, 1<<64 - 38, 1<<64 - 20, 1<<64 - 19, 1<<64 - 1}
	for high := range uint64(39) {
		for _, w0 := range ends {
			for _, w3 := range ends {
				for _, middle := range []uint64{0, 1<<64 - 1} {
					low := number{w0, middle, middle, w3}
					want := new(big.Int).Mod(bigOf(low, high), p)
					if got := bigOf(settle(low, high), 0); got.Cmp(want) != 0 {
						t.Errorf("settle of %x and %d: %x, not %x", low, high, got, want)
					}
				}
			}
		}
	}
}
