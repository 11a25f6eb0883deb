package sha_test

import (
	"bytes"
	"crypto/sha256"
	"encoding/hex"
	"math/rand/v2"
	"slices"
	"strings"
	"testing"

	"pigeonry/api"
	"pigeonry/sha"
)

// The tests hold the calls against crypto/sha256, which was written by others
// from the standard, and against the standard's own examples.

// most is how many bytes a hash takes.
const most = 1 << 30

// known tells what crypto/sha256 answers.
func known(b []byte) api.Key { return api.Key(sha256.Sum256(b)) }

// scattered tells n bytes of all kinds, always the same ones.
func scattered(n int) []byte {
	source := rand.New(rand.NewPCG(3, uint64(n)))
	b := make([]byte, n)
	for i := range b {
		b[i] = byte(source.Uint32())
	}
	return b
}

func write(t *testing.T, h *sha.Hash, b []byte) {
	t.Helper()
	if e := h.Write(b); e != api.OK {
		t.Fatalf("%d bytes behind %d: error %d", len(b), h.Len(), e)
	}
}

// holds fails unless h is a hash of b.
func holds(t *testing.T, h *sha.Hash, b []byte) {
	t.Helper()
	if h.Len() != len(b) || h.Sum() != known(b) {
		t.Errorf("%d bytes: length %d, digest %x, not %x", len(b), h.Len(), h.Sum(), known(b))
	}
}

// P3.1

func TestSumOfTheStandard(t *testing.T) {
	for _, c := range [][2]string{
		{"", "e3b0c44298fc1c149afbf4c8996fb92427ae41e4649b934ca495991b7852b855"},
		{"abc", "ba7816bf8f01cfea414140de5dae2223b00361a396177a9cb410ff61f20015ad"},
		{"abcdbcdecdefdefgefghfghighijhijkijkljklmklmnlmnomnopnopq", "248d6a61d20638b8e5c026930c3e6039a33ce45964ff2167f6ecedd419db06c1"},
		{"abcdefghbcdefghicdefghijdefghijkefghijklfghijklmghijklmnhijklmnoijklmnopjklmnopqklmnopqrlmnopqrsmnopqrstnopqrstu", "cf5b16a778af8380036ce59e7b0492370b249b11e8f07a51afac45037afee9d1"},
		{strings.Repeat("a", 1000000), "cdc76e5c9914fb9281a1c7e284d73e67f1809a48a497200e046d39ccc7112cd0"},
	} {
		got := sha.Sum([]byte(c[0]))
		if hex.EncodeToString(got[:]) != c[1] {
			t.Errorf("of %d bytes: %x, not %s", len(c[0]), got, c[1])
		}
	}
}

func TestSumOfNilIsThatOfNoBytes(t *testing.T) {
	if sha.Sum(nil) != known(nil) || sha.Sum([]byte{}) != known(nil) {
		t.Errorf("nil: %x, none: %x", sha.Sum(nil), sha.Sum([]byte{}))
	}
}

func TestSumOfEachLength(t *testing.T) {
	all := scattered(700)
	for n := range all {
		for _, b := range [][]byte{all[:n], make([]byte, n), bytes.Repeat([]byte{128}, n), bytes.Repeat([]byte{255}, n)} {
			if got := sha.Sum(b); got != known(b) {
				t.Errorf("%x: %x", b, got)
			}
		}
	}
}

func TestSumOfLongBytes(t *testing.T) {
	// The number of bits takes one more of its bytes from each of these on.
	for _, n := range []int{1 << 5, 1 << 13, 1 << 21} {
		all := scattered(n + 1)
		for _, b := range [][]byte{all[:n-1], all[:n], all} {
			if got := sha.Sum(b); got != known(b) {
				t.Errorf("of %d bytes: %x", len(b), got)
			}
		}
	}
}

func TestSumTellsEachBit(t *testing.T) {
	b := scattered(130)
	want := sha.Sum(b)
	for bit := range 8 * len(b) {
		b[bit/8] ^= 1 << (bit % 8)
		if got := sha.Sum(b); got == want || got != known(b) {
			t.Errorf("with bit %d turned: %x", bit, got)
		}
		b[bit/8] ^= 1 << (bit % 8)
	}
}

func TestSumLeavesItsBytes(t *testing.T) {
	for _, n := range []int{1, 55, 56, 64, 200} {
		// Behind the bytes stand others of the same memory, which are not Sum's either.
		whole := scattered(n + 100)
		before := slices.Clone(whole)
		sha.Sum(whole[:n])
		if !slices.Equal(whole, before) {
			t.Errorf("%d bytes were changed", n)
		}
	}
}

func TestSumKeepsNothing(t *testing.T) {
	b := scattered(100)
	sha.Sum(b)
	sha.Sum(scattered(33))
	if got := sha.Sum(b); got != known(b) {
		t.Errorf("the second time: %x", got)
	}
}

// P3.2

func TestNewIsAHashOfNothing(t *testing.T) {
	h := sha.New()
	if h == nil {
		t.Fatal("nil")
	}
	holds(t, h, nil)
}

func TestWriteOfNoBytes(t *testing.T) {
	b := scattered(70)
	h := sha.New()
	for _, piece := range [][]byte{nil, {}, b[:64], nil, {}, b[64:], nil, {}} {
		write(t, h, piece)
	}
	holds(t, h, b)
}

func TestSumChangesNothing(t *testing.T) {
	all := scattered(200)
	h := sha.New()
	for n := range all {
		for range 3 {
			holds(t, h, all[:n])
		}
		write(t, h, all[n:n+1])
	}
	holds(t, h, all)
}

func TestHashesAreApart(t *testing.T) {
	a, b := scattered(300), scattered(301)
	x, y := sha.New(), sha.New()
	for i := 0; i < len(a); i += 30 {
		write(t, x, a[i:i+30])
		write(t, y, b[i:i+30])
		holds(t, x, a[:i+30])
	}
	write(t, y, b[300:])
	holds(t, x, a)
	holds(t, y, b)
}

func TestWriteKeepsNoMemory(t *testing.T) {
	for _, n := range []int{1, 63, 64, 65, 150} {
		b := scattered(n)
		before := slices.Clone(b)
		h := sha.New()
		write(t, h, b)
		if !slices.Equal(b, before) {
			t.Errorf("%d bytes were changed", n)
		}
		clear(b)
		holds(t, h, before)
	}
}

func TestWhatIsAnsweredIsNew(t *testing.T) {
	b := scattered(90)
	h := sha.New()
	write(t, h, b)
	got := h.Sum()
	clear(got[:])
	holds(t, h, b)
}

// unmade tells hashes that no call made.
func unmade() []*sha.Hash { return []*sha.Hash{nil, {}, new(sha.Hash)} }

func TestAHashThatNoCallMade(t *testing.T) {
	for i, h := range unmade() {
		for _, b := range [][]byte{nil, {}, {1}, scattered(64), scattered(200)} {
			if e := h.Write(b); e != api.ErrNil {
				t.Errorf("hash %d, %d bytes: %d", i, len(b), e)
			}
			if h.Sum() != (api.Key{}) || h.Len() != 0 {
				t.Errorf("hash %d behind %d bytes: %x, %d", i, len(b), h.Sum(), h.Len())
			}
		}
	}
}

// So many bytes are made once, for Sum (P3.1), which has no limit, too.
func TestMoreBytesThanAHashTakes(t *testing.T) {
	t.Parallel()
	much := make([]byte, most+1)
	for i, h := range unmade() {
		if e := h.Write(much); e != api.ErrNil {
			t.Errorf("hash %d: %d", i, e)
		}
	}
	some := scattered(100)
	h := sha.New()
	for n := range some {
		for _, piece := range [][]byte{much, much[:most+1-n]} {
			if e := h.Write(piece); e != api.ErrBig {
				t.Fatalf("%d bytes behind %d: %d", len(piece), n, e)
			}
			holds(t, h, some[:n])
		}
		write(t, h, some[n:n+1])
	}
	if got := sha.Sum(much); got != known(much) {
		t.Errorf("Sum of %d bytes: %x", len(much), got)
	}
}

func TestAsManyBytesAsThereMayBe(t *testing.T) {
	t.Parallel()
	piece := scattered(1 << 20)
	h, other := sha.New(), sha256.New()
	for h.Len() < most-len(piece) {
		write(t, h, piece)
		other.Write(piece)
	}
	write(t, h, piece[1:])
	other.Write(piece[1:])
	full := func(length int) {
		t.Helper()
		if want := api.Key(other.Sum(nil)); h.Len() != length || h.Sum() != want {
			t.Errorf("length %d, digest %x, not %x", h.Len(), h.Sum(), want)
		}
	}
	refuses := func(b []byte) {
		t.Helper()
		if e := h.Write(b); e != api.ErrBig {
			t.Errorf("%d bytes behind %d: %d", len(b), h.Len(), e)
		}
	}
	full(most - 1)
	refuses(piece[:2])
	full(most - 1)
	write(t, h, piece[:1])
	other.Write(piece[:1])
	full(most)
	refuses(piece[:1])
	refuses(piece)
	write(t, h, nil)
	full(most)
}

// P3.3

func TestTwoPiecesCutAnywhere(t *testing.T) {
	all := scattered(200)
	for _, n := range []int{55, 56, 63, 64, 65, 119, 120, 127, 128, 129, 200} {
		for cut := range n + 1 {
			h := sha.New()
			write(t, h, all[:cut])
			write(t, h, all[cut:n])
			holds(t, h, all[:n])
		}
	}
}

func TestPiecesOfOneLength(t *testing.T) {
	all := scattered(1000)
	for n := 1; n <= 260; n++ {
		h := sha.New()
		for piece := range slices.Chunk(all, n) {
			write(t, h, piece)
		}
		holds(t, h, all)
	}
}

func TestPiecesOfScatteredLengths(t *testing.T) {
	source := rand.New(rand.NewPCG(3, 3))
	for n := range 300 {
		all := scattered(5 * n)
		h := sha.New()
		for done := 0; done < len(all); {
			next := min(len(all), done+source.IntN(150))
			write(t, h, all[done:next])
			done = next
			if source.IntN(4) == 0 {
				holds(t, h, all[:done])
			}
		}
		if holds(t, h, all); h.Sum() != sha.Sum(all) {
			t.Errorf("%d bytes: the pieces tell", len(all))
		}
	}
}
