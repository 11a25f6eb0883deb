package lion_test

import (
	"bytes"
	"crypto/hkdf"
	"crypto/hmac"
	"crypto/sha256"
	"encoding/hex"
	"math/rand/v2"
	"slices"
	"testing"

	"pigeonry/api"
	"pigeonry/chacha"
	"pigeonry/lion"
)

// The tests hold the calls against what OpenSSL's ChaCha20 and another HMAC
// answer, written down here, and against known, which makes keys and tags by
// crypto/hkdf and crypto/hmac.

const (
	least = 33   // bytes of a block
	most  = 4096 // bytes of a block
)

// knownKey tells a round's key, as the chapter of hmac derives it.
func knownKey(t *testing.T, key api.Key, label string) []byte {
	t.Helper()
	k, err := hkdf.Expand(sha256.New, key[:], "pigeonry "+label, 32)
	if err != nil {
		t.Fatal(err)
	}
	return k
}

// turn lays a xor b over a.
func turn(a, b []byte) {
	for i := range a {
		a[i] ^= b[i]
	}
}

// streamRound turns the right part of a block.
func streamRound(t *testing.T, key, b []byte) {
	t.Helper()
	k := slices.Clone(key)
	turn(k, b[:32])
	s, e := chacha.Stream(api.Key(k), chacha.Nonce{}, 0, len(b)-32)
	if e != api.OK {
		t.Fatalf("no stream of %d bytes: error %d", len(b)-32, e)
	}
	turn(b[32:], s)
}

// tagRound turns the left part of a block.
func tagRound(key, b []byte) {
	h := hmac.New(sha256.New, key)
	h.Write(b[32:])
	turn(b[:32], h.Sum(nil))
}

// known tells a block behind the four rounds.
func known(t *testing.T, key api.Key, b []byte) []byte {
	t.Helper()
	x := slices.Clone(b)
	streamRound(t, knownKey(t, key, "lion 1"), x)
	tagRound(knownKey(t, key, "lion 2"), x)
	streamRound(t, knownKey(t, key, "lion 3"), x)
	tagRound(knownKey(t, key, "lion 4"), x)
	return x
}

// knownBack tells a block behind the four rounds in the opposite order.
func knownBack(t *testing.T, key api.Key, b []byte) []byte {
	t.Helper()
	x := slices.Clone(b)
	tagRound(knownKey(t, key, "lion 4"), x)
	streamRound(t, knownKey(t, key, "lion 3"), x)
	tagRound(knownKey(t, key, "lion 2"), x)
	streamRound(t, knownKey(t, key, "lion 1"), x)
	return x
}

// lock fails unless the block is locked, and keeps its size.
func lock(t *testing.T, key api.Key, b []byte) []byte {
	t.Helper()
	x, e := lion.Lock(key, b)
	if e != api.OK || len(x) != len(b) {
		t.Fatalf("%d bytes: %d of them locked, error %d", len(b), len(x), e)
	}
	return x
}

// unlock fails unless the block is unlocked, and keeps its size.
func unlock(t *testing.T, key api.Key, b []byte) []byte {
	t.Helper()
	x, e := lion.Unlock(key, b)
	if e != api.OK || len(x) != len(b) {
		t.Fatalf("%d bytes: %d of them unlocked, error %d", len(b), len(x), e)
	}
	return x
}

// refused fails unless neither call takes the block, for this reason.
func refused(t *testing.T, key api.Key, b []byte, want api.Errno) {
	t.Helper()
	if x, e := lion.Lock(key, b); x != nil || e != want {
		t.Errorf("%d bytes: %d of them locked, error %d, not %d", len(b), len(x), e, want)
	}
	if x, e := lion.Unlock(key, b); x != nil || e != want {
		t.Errorf("%d bytes: %d of them unlocked, error %d, not %d", len(b), len(x), e, want)
	}
}

// scattered tells n bytes of all kinds, always the same ones.
func scattered(n int) []byte {
	source := rand.New(rand.NewPCG(8, uint64(n)))
	b := make([]byte, n)
	for i := range b {
		b[i] = byte(source.Uint32())
	}
	return b
}

// some tells one of some keys of all kinds.
func some(i int) api.Key { return api.Key(scattered(10000 + i)[:32]) }

// up tells bytes from first on, each greater by one than that ahead of it.
func up(first byte, size int) []byte {
	b := make([]byte, size)
	for i := range b {
		b[i] = first + byte(i)
	}
	return b
}

func keyUp(first byte) api.Key { return api.Key(up(first, 32)) }

func repeated(value byte, size int) []byte { return bytes.Repeat([]byte{value}, size) }

// sizes tells how long the blocks are that the tests try: all short ones, those
// about the ends of a stream's blocks, those of packets, and the longest.
func sizes() []int {
	var l []int
	for n := least; n <= 300; n++ {
		l = append(l, n)
	}
	return append(l, 351, 352, 353, 496, 528, 736, 1055, 1056, 1057, 2048, 3000, 4063, 4064, 4065, most-1, most)
}

// P8.1 and P8.2: what comes of a block

// By OpenSSL's ChaCha20 and another HMAC: blocks, locked and unlocked.
func TestBlocksOfOpenSSL(t *testing.T) {
	for _, c := range []struct {
		key              api.Key
		b                []byte
		locked, unlocked string
	}{
		{
			api.Key{}, make([]byte, 40),
			"48d1e731bf3761d7c78fbffd84b42b0a2691c2d0b34a14c2297d3cb0799366cfd02d6084e2b303c4",
			"37ed2fcf56942eebf51f150bfa5b2526649c3bf0d85bd49056f1227fe2c852fe868e5abfb7948b1c",
		},
		{
			api.Key{}, make([]byte, 33),
			"3d83fc7e1fa545ec5080ab25dcbeec10af650ff3fde3fad3dd9619552b33de202c",
			"ba425bd954e1ca6b1d79587b4a9ed57940bb183afe61a589a949aee548e011c9bf",
		},
		{
			keyUp(0), []byte("a block that is one byte longer.."),
			"3e53ab407e5796f8e6540fd5e8de50dad521750692ae2633542274920ec25580f9",
			"14b6ef5dc133ad1d0f761b28c8b8c4982f7d62bf62dfb2247a849ff550e18c29ae",
		},
		{
			api.Key(repeated(255, 32)), repeated(255, 64),
			"bf1be3a6ebc8f5ed2feeae12d4e99f9c89f29287619a37f6167e8437df8c4fbfc2d0b6e3b453c4e2b6cd66d22b3d1472cbaa1fdb03e34d15b81c41990e97a167",
			"1637e3c262cbaec0c38e928d51578b5e3422c513c52b73980236f7cf97151d31f57befae3e1a9219b9aed5f14b8229a28bae016fc157bcb03c42e38d240bb1a4",
		},
		{
			api.Key{1, 2, 3}, up(7, 65),
			"af272b589264b8beef6b8758c3c1bfa5c35f96804e28e878a29877b74314da1954b6a00067377bb468103795632c5fe5d92f3f7525490645900516eec791246d87",
			"696ef93f865747d8ee170b12afeda7aba8fc48746b3721322034bfe2077a97e87c91c786c05f92de454c180f2e3cc494fe7e2d00976e98cfdab2938ff695d3fb36",
		},
		{
			keyUp(0x80), up(1, 97),
			"ac2855bb5068be0de61c173ea7d0f5f1847d2787335ae688ccacb71722e5f387fc7e5b6a99cd3fe13f4fcc29d994cb4436616355371aab3ba678654b434e8d8364b8bac515356e6fe072213e05a5c50dea55738955206ef3d86b39fae0ce25262a",
			"c83fc2a365762fe33249474e74990e264ba8fc158c2eee1cd33c7126ec8cc900350a5c40a300e1c867afd3970ef5a38adfcd467d79e2593824e7f5bb6d52820502ce57ba7415d305330074477e301a67019084bc1de927813ffc638be5ae44ba12",
		},
	} {
		if got := hex.EncodeToString(lock(t, c.key, c.b)); got != c.locked {
			t.Errorf("%d bytes, locked: %s, not %s", len(c.b), got, c.locked)
		}
		if got := hex.EncodeToString(unlock(t, c.key, c.b)); got != c.unlocked {
			t.Errorf("%d bytes, unlocked: %s, not %s", len(c.b), got, c.unlocked)
		}
	}
}

// The digests are those of what OpenSSL's ChaCha20 and another HMAC give.
func TestLongBlocksOfOpenSSL(t *testing.T) {
	for _, c := range []struct {
		key              api.Key
		b                []byte
		locked, unlocked string
	}{
		{
			api.Key{}, make([]byte, most),
			"2331fd659d34019caa00bfb8a36b75f8152c9923da7c268e57b636eb1b870def",
			"0942d5a8aae9e6935b86092efde4bdd29b11cd568c20052c9220fa673a3a090e",
		},
		{
			keyUp(0), up(0, 528),
			"0fb03061221f345c997d0e6c7b9075df7c037fc863f084d82afa5cf2323c5a47",
			"dbb3e59b7d5b891537dda72c0d5aef1d2f15791952bce5e7e5db37175ccf72ce",
		},
		{
			api.Key(repeated(255, 32)), repeated(255, 241),
			"510f524f35948e7eb4fd0015bbf0bd686cc89e41137efadb61c779b58c94c75c",
			"93bd8a7a317fbe0294ce87592a2f93825d88bac1e30508ee64098aa0d69be36f",
		},
		{
			keyUp(0x80), up(5, most-1),
			"312d9e0ca37ac4172b65c81376cb61ee32aa3d1f03bbf5226997dbcd705e55ba",
			"9290e3c92ccae11290cf2069a2cbff1f97414315fc809bfad8019d8b64ba1cd0",
		},
		{
			keyUp(200), up(9, most),
			"4277cddd2b25f529d94679630f964c2e1e9078aa32650af9a495a88fac901a50",
			"e7a130dc4d4dae5b1cd12df6b40adc6f101e354a58214402a64a4203970f75ff",
		},
	} {
		if got := sha256.Sum256(lock(t, c.key, c.b)); hex.EncodeToString(got[:]) != c.locked {
			t.Errorf("%d bytes, locked: the digest is %x, not %s", len(c.b), got, c.locked)
		}
		if got := sha256.Sum256(unlock(t, c.key, c.b)); hex.EncodeToString(got[:]) != c.unlocked {
			t.Errorf("%d bytes, unlocked: the digest is %x, not %s", len(c.b), got, c.unlocked)
		}
	}
}

func TestLockIsTheRounds(t *testing.T) {
	for _, n := range sizes() {
		key, b := some(n), scattered(n)
		if got, want := lock(t, key, b), known(t, key, b); !slices.Equal(got, want) {
			t.Errorf("%d bytes: %x, not %x", n, got, want)
		}
	}
}

func TestUnlockIsTheRoundsInTheOppositeOrder(t *testing.T) {
	for _, n := range sizes() {
		key, b := some(n), scattered(n)
		if got, want := unlock(t, key, b), knownBack(t, key, b); !slices.Equal(got, want) {
			t.Errorf("%d bytes: %x, not %x", n, got, want)
		}
	}
}

// All of the key's bits count, and all of the block's.
func TestEachBitCounts(t *testing.T) {
	key, b := some(1), scattered(48)
	seen := map[string]int{string(lock(t, key, b)): -1}
	seenBack := map[string]int{string(unlock(t, key, b)): -1}
	both := slices.Concat(key[:], b)
	for bit := range 8 * len(both) {
		turned := slices.Clone(both)
		turned[bit/8] ^= 1 << (bit % 8)
		k, x := api.Key(turned[:32]), turned[32:]
		locked, unlocked := lock(t, k, x), unlock(t, k, x)
		if !slices.Equal(locked, known(t, k, x)) || !slices.Equal(unlocked, knownBack(t, k, x)) {
			t.Errorf("bit %d turned: what comes of it is another block", bit)
		}
		if like, ok := seen[string(locked)]; ok {
			t.Errorf("bit %d turned: it is locked as with %d", bit, like)
		}
		if like, ok := seenBack[string(unlocked)]; ok {
			t.Errorf("bit %d turned: it is unlocked as with %d", bit, like)
		}
		seen[string(locked)], seenBack[string(unlocked)] = bit, bit
	}
}

// A block is mixed as a whole: whichever bit is turned, hardly any byte of what
// is unlocked stays as it was.
func TestABitTurnedIsSeenEverywhere(t *testing.T) {
	for _, n := range []int{40, 528} {
		key, b := some(n), scattered(n)
		x := lock(t, key, b)
		for _, bit := range []int{0, 7, 255, 256, 8*n - 1} {
			turned := slices.Clone(x)
			turned[bit/8] ^= 1 << (bit % 8)
			back, same := unlock(t, key, turned), 0
			for i := range back {
				if back[i] == b[i] {
					same++
				}
			}
			if same > n/16+4 {
				t.Errorf("bit %d of %d bytes turned: %d of them are as they were", bit, n, same)
			}
		}
	}
}

// P8.1 and P8.2: what is refused

func TestShortBlocksAreRefused(t *testing.T) {
	for i, key := range []api.Key{{}, some(2), api.Key(repeated(255, 32))} {
		refused(t, key, nil, api.ErrShort)
		for n := range least {
			refused(t, key, make([]byte, n), api.ErrShort)
			// What counts is how many bytes there are, not for how many there is room.
			refused(t, key, scattered(most)[i:i+n], api.ErrShort)
		}
		lock(t, key, make([]byte, least))
		unlock(t, key, make([]byte, least))
	}
}

func TestLongBlocksAreRefused(t *testing.T) {
	for _, key := range []api.Key{{}, some(3), api.Key(repeated(255, 32))} {
		lock(t, key, make([]byte, most))
		unlock(t, key, make([]byte, most))
		for _, n := range []int{most + 1, most + 2, most + 31, most + 32, most + 33, 2 * most, api.MaxBytes, api.MaxBytes + 32, api.MaxBytes + 33, 1 << 20} {
			refused(t, key, make([]byte, n), api.ErrBig)
		}
	}
	room := scattered(1 << 17)
	if b := room[:most]; !slices.Equal(lock(t, some(4), b), known(t, some(4), b)) {
		t.Error("a block with room behind it: what comes of it is another one")
	}
}

// P8.3

func TestEachUndoesTheOther(t *testing.T) {
	for _, n := range sizes() {
		for i, key := range []api.Key{{}, some(n), api.Key(repeated(255, 32))} {
			for j, b := range [][]byte{make([]byte, n), scattered(n), repeated(255, n), up(byte(n), n)} {
				if got := unlock(t, key, lock(t, key, b)); !slices.Equal(got, b) {
					t.Errorf("%d bytes, key %d, block %d: locked and unlocked: %x", n, i, j, got)
				}
				if got := lock(t, key, unlock(t, key, b)); !slices.Equal(got, b) {
					t.Errorf("%d bytes, key %d, block %d: unlocked and locked: %x", n, i, j, got)
				}
			}
		}
	}
}

// Locks by several keys are undone by these in the opposite order.
func TestManyLocksAreUndone(t *testing.T) {
	b := scattered(528)
	x := b
	for i := range 10 {
		x = lock(t, some(i), x)
		if slices.Equal(x, b) {
			t.Errorf("locked %d times it is as it was", i+1)
		}
	}
	for i := range 10 {
		x = unlock(t, some(9-i), x)
	}
	if !slices.Equal(x, b) {
		t.Errorf("what is unlocked is %x", x)
	}
}

func TestAnotherKeyUndoesNothing(t *testing.T) {
	for _, n := range []int{least, 40, 528} {
		b := scattered(n)
		x := lock(t, some(5), b)
		for _, key := range []api.Key{{}, some(6), api.Key(knownKey(t, some(5), "lion 1"))} {
			if slices.Equal(unlock(t, key, x), b) {
				t.Errorf("%d bytes are unlocked by another key", n)
			}
		}
		// Nor is a lock its own opposite.
		if slices.Equal(lock(t, some(5), x), b) {
			t.Errorf("%d bytes, locked twice, are as they were", n)
		}
	}
}

// P8.4

func TestABlockKeepsItsSize(t *testing.T) {
	// lock and unlock fail, if it does not.
	for n := least; n <= most; n += 7 {
		lock(t, some(7), make([]byte, n))
		unlock(t, some(7), make([]byte, n))
	}
}

// What holds in all calls: nothing is changed, nothing kept, all is new.

func TestWhatIsHandedInIsLeft(t *testing.T) {
	for _, n := range []int{least, 40, 64, 528, most} {
		// Ahead of the block and behind it stand others of the same memory.
		room := scattered(n + 100)
		before := slices.Clone(room)
		key, b := some(8), room[20:20+n]
		want, wantBack := known(t, key, b), knownBack(t, key, b)
		locked := lock(t, key, b)
		if !slices.Equal(room, before) {
			t.Errorf("%d bytes: Lock has changed what it was given", n)
		}
		unlocked := unlock(t, key, b)
		if !slices.Equal(room, before) {
			t.Errorf("%d bytes: Unlock has changed what it was given", n)
		}
		clear(room)
		if !slices.Equal(locked, want) || !slices.Equal(unlocked, wantBack) {
			t.Errorf("%d bytes: what was answered has changed", n)
		}
	}
}

func TestWhatIsAnsweredIsNew(t *testing.T) {
	key := some(9)
	for _, n := range []int{least, 40, 528, most} {
		b := scattered(n)
		want, wantBack := known(t, key, b), knownBack(t, key, b)
		locked, unlocked := lock(t, key, b), unlock(t, key, b)
		clear(lock(t, key, b))
		clear(unlock(t, key, b))
		if !slices.Equal(locked, want) || !slices.Equal(unlocked, wantBack) {
			t.Errorf("%d bytes: what was answered has changed", n)
		}
		clear(locked)
		clear(unlocked)
		if !slices.Equal(b, scattered(n)) {
			t.Errorf("%d bytes: what was given has changed", n)
		}
		if !slices.Equal(lock(t, key, b), want) || !slices.Equal(unlock(t, key, b), wantBack) {
			t.Errorf("%d bytes: the third time it is another block", n)
		}
	}
}

// What comes of a block hangs on no other call, nor on its order.
func TestCallsHangOnNoOther(t *testing.T) {
	key, b := some(10), scattered(528)
	want, wantBack := known(t, key, b), knownBack(t, key, b)
	refused(t, key, b[:32], api.ErrShort)
	refused(t, key, make([]byte, most+1), api.ErrBig)
	for i := range 3 {
		if !slices.Equal(unlock(t, key, b), wantBack) || !slices.Equal(lock(t, key, b), want) {
			t.Errorf("time %d: it is another block", i)
		}
		lock(t, some(11), scattered(100))
		unlock(t, some(12), scattered(200))
	}
}
