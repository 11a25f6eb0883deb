package aead_test

import (
	"bytes"
	"crypto/hkdf"
	"crypto/hmac"
	"crypto/sha256"
	"encoding/binary"
	"encoding/hex"
	"math/rand/v2"
	"slices"
	"testing"

	"pigeonry/aead"
	"pigeonry/api"
	"pigeonry/chacha"
)

// The tests hold the calls against what OpenSSL's ChaCha20 and another HMAC
// answer, written down here, and against known, which makes keys and tags by
// crypto/hkdf and crypto/hmac.

const (
	most    = 65536     // bytes that are sealed, with their tag
	maxText = most - 16 // bytes that are hidden, and others beside them
)

// knownKey tells a key of its own, as the chapter of hmac derives it.
func knownKey(t *testing.T, key api.Key, label string) api.Key {
	t.Helper()
	b, err := hkdf.Expand(sha256.New, key[:], "pigeonry "+label, 32)
	if err != nil {
		t.Fatal(err)
	}
	return api.Key(b)
}

// knownTag tells the tag of hidden bytes.
func knownTag(t *testing.T, key api.Key, n chacha.Nonce, other, hidden []byte) []byte {
	t.Helper()
	prove := knownKey(t, key, "prove")
	h := hmac.New(sha256.New, prove[:])
	h.Write(binary.LittleEndian.AppendUint64(nil, uint64(len(other))))
	h.Write(other)
	h.Write(n[:])
	h.Write(hidden)
	return h.Sum(nil)[:16]
}

// known tells what is sealed of bytes.
func known(t *testing.T, key api.Key, n chacha.Nonce, other, b []byte) []byte {
	t.Helper()
	hidden, e := chacha.Xor(knownKey(t, key, "hide"), n, 0, b)
	if e != api.OK {
		t.Fatalf("%d bytes are not hidden: error %d", len(b), e)
	}
	return slices.Concat(hidden, knownTag(t, key, n, other, hidden))
}

// seal fails unless the bytes are sealed.
func seal(t *testing.T, key api.Key, n chacha.Nonce, other, b []byte) []byte {
	t.Helper()
	s, e := aead.Seal(key, n, other, b)
	if e != api.OK || len(s) != len(b)+16 {
		t.Fatalf("%d bytes beside %d: %d of them sealed, error %d", len(b), len(other), len(s), e)
	}
	return s
}

// opened fails unless the bytes are opened, to what is wanted.
func opened(t *testing.T, key api.Key, n chacha.Nonce, other, s, want []byte) {
	t.Helper()
	b, e := aead.Open(key, n, other, s)
	if e != api.OK || !slices.Equal(b, want) {
		t.Fatalf("%d bytes beside %d: %d of them opened, error %d", len(s), len(other), len(b), e)
	}
}

// tagged fails unless the bytes have a tag.
func tagged(t *testing.T, key api.Key, n chacha.Nonce, other, hidden []byte) []byte {
	t.Helper()
	tag, e := aead.Tag(key, n, other, hidden)
	if e != api.OK {
		t.Fatalf("%d bytes beside %d: error %d", len(hidden), len(other), e)
	}
	return tag[:]
}

// refusedOpen fails unless the bytes are not opened, for this reason.
func refusedOpen(t *testing.T, key api.Key, n chacha.Nonce, other, s []byte, want api.Errno) {
	t.Helper()
	if b, e := aead.Open(key, n, other, s); b != nil || e != want {
		t.Errorf("%d bytes beside %d: %d of them opened, error %d, not %d", len(s), len(other), len(b), e, want)
	}
}

// scattered tells n bytes of all kinds, always the same ones.
func scattered(n int) []byte {
	source := rand.New(rand.NewPCG(6, uint64(n)))
	b := make([]byte, n)
	for i := range b {
		b[i] = byte(source.Uint32())
	}
	return b
}

// some tells one of some keys and nonces of all kinds.
func some(i int) (api.Key, chacha.Nonce) {
	b := scattered(1000 + i)
	return api.Key(b[:32]), chacha.Nonce(b[32:44])
}

// up tells bytes from first on, each greater by one than that ahead of it.
func up(first byte, size int) []byte {
	b := make([]byte, size)
	for i := range b {
		b[i] = first + byte(i)
	}
	return b
}

func keyUp(first byte) api.Key        { return api.Key(up(first, 32)) }
func nonceUp(first byte) chacha.Nonce { return chacha.Nonce(up(first, 12)) }

func repeated(value byte, size int) []byte { return bytes.Repeat([]byte{value}, size) }

// P6.1

func TestSealOfOpenSSL(t *testing.T) {
	for _, c := range []struct {
		key      api.Key
		nonce    chacha.Nonce
		other, b []byte
		want     string
	}{
		{api.Key{}, chacha.Nonce{}, nil, nil, "69109f686b5e203274e761011cf11dcb"},
		{keyUp(0), nonceUp(0), nil, []byte("hello"), "ce9b62bf81d595ed616775851b9f74361f4b61235a"},
		{keyUp(0), nonceUp(0), []byte("other"), nil, "8a4dd617a486e9a4af5d188e85a8c87c"},
		{api.Key{1, 2, 3}, chacha.Nonce{4}, []byte("other"), []byte("hello"), "613990bae62050d99e41898040db0da411fef7040c"},
		{
			api.Key(repeated(255, 32)), chacha.Nonce(repeated(255, 12)), repeated(255, 16), repeated(255, 64),
			"37f1b057e88828fd28add5b1701ad14525c4037e29dae96eab8cc52ad77f5f6c134656437d1f3e8eca56aaf66155167570d621ceaa753a75b3bf91a881c34864b34466a2f5e010023fb4bc7715b9d3cc",
		},
		{
			keyUp(0x80), nonceUp(0x40), up(1, 300), up(7, 65),
			"06b114bb1b5be5a95a266a846fcec05d7d216d22405f1c2f3450ad5c226ddb924e4275f0e866b7081bb74333d6fcca187fd89ae5771fdd15b6e6437367078466e78ec038679bec3e02a736d4dc798d10eb",
		},
	} {
		s := seal(t, c.key, c.nonce, c.other, c.b)
		if hex.EncodeToString(s) != c.want {
			t.Errorf("%d bytes beside %d: %x, not %s", len(c.b), len(c.other), s, c.want)
		}
		end := len(s) - 16
		if tag := tagged(t, c.key, c.nonce, c.other, s[:end]); hex.EncodeToString(tag) != c.want[2*end:] {
			t.Errorf("%d bytes beside %d: the tag is %x", len(c.b), len(c.other), tag)
		}
		opened(t, c.key, c.nonce, c.other, s, c.b)
	}
}

// The digests are those of what OpenSSL's ChaCha20 and another HMAC give.
func TestSealOfManyBytes(t *testing.T) {
	for _, c := range []struct {
		key      api.Key
		nonce    chacha.Nonce
		other, b []byte
		want     string
	}{
		{api.Key{}, chacha.Nonce{}, make([]byte, maxText), make([]byte, maxText), "1b6261da6110db6c34761729cef4843d5c1337bcf70d18a1e0f6872ad722e116"},
		{keyUp(0), nonceUp(0), up(0, maxText), nil, "e299e76ac80dc387f6135c0575adcf4a3ba35feba3368966a2a55d4afb012e51"},
		{api.Key(repeated(255, 32)), chacha.Nonce(repeated(255, 12)), nil, up(0, maxText), "25cda22b76273720031c599bb76af72e36d86b63c3c4f0a6c2b920d5096270a6"},
		{keyUp(0x80), nonceUp(0x40), up(5, maxText-1), up(9, maxText-1), "9cca062565709ec58e64f1ef6513c24025f34a2ac805722df0aabce2f1c8d341"},
		{keyUp(200), nonceUp(250), up(1, 256), up(2, 4096), "980abce70ba13a06f35a4c7e8c0b72d782e33c7699d8319959d67f9a79121b8d"},
	} {
		s := seal(t, c.key, c.nonce, c.other, c.b)
		if digest := sha256.Sum256(s); hex.EncodeToString(digest[:]) != c.want {
			t.Errorf("%d bytes beside %d: the digest is %x, not %s", len(c.b), len(c.other), digest, c.want)
		}
		opened(t, c.key, c.nonce, c.other, s, c.b)
	}
}

func TestSealOfEachSize(t *testing.T) {
	for size := range 300 {
		key, n := some(size)
		other, b := scattered((size*7)%301), scattered(size)
		if got, want := seal(t, key, n, other, b), known(t, key, n, other, b); !slices.Equal(got, want) {
			t.Errorf("%d bytes beside %d: %x, not %x", size, len(other), got, want)
		}
	}
}

func TestTagOfEachSize(t *testing.T) {
	key, n := some(1)
	for size := range 300 {
		for _, beside := range []int{0, 1, 255, 256, size, 300 - size} {
			other, hidden := scattered(beside), scattered(size)
			if got, want := tagged(t, key, n, other, hidden), knownTag(t, key, n, other, hidden); !slices.Equal(got, want) {
				t.Errorf("%d bytes beside %d: %x, not %x", size, beside, got, want)
			}
		}
	}
}

// The greatest numbers of bytes have a second byte that is not 0.
func TestTagOfManyOtherBytes(t *testing.T) {
	key, n := some(2)
	for _, beside := range []int{511, 512, 0x1234, 1<<15 - 1, 1 << 15, maxText - 1, maxText} {
		other := scattered(beside)
		if got, want := tagged(t, key, n, other, nil), knownTag(t, key, n, other, nil); !slices.Equal(got, want) {
			t.Errorf("beside %d bytes: %x, not %x", beside, got, want)
		}
	}
}

func TestSealAndTagRefuseManyBytes(t *testing.T) {
	key, n := some(3)
	great := make([]byte, 1<<20)
	for _, c := range [][2]int{
		{maxText + 1, 0}, {0, maxText + 1}, {maxText + 1, maxText}, {maxText, maxText + 1}, {maxText + 1, maxText + 1},
		{most - 1, 5}, {5, most - 1}, {most, 5}, {5, most}, {most + 1, 5}, {5, most + 1},
		{len(great), 0}, {0, len(great)}, {len(great), len(great)},
	} {
		other, b := great[:c[0]], great[:c[1]]
		if s, e := aead.Seal(key, n, other, b); s != nil || e != api.ErrBig {
			t.Errorf("%d bytes beside %d: %d of them sealed, error %d", c[1], c[0], len(s), e)
		}
		if tag, e := aead.Tag(key, n, other, b); tag != (api.Tag{}) || e != api.ErrBig {
			t.Errorf("%d bytes beside %d: the tag is %x, error %d", c[1], c[0], tag, e)
		}
	}
	// What counts is how many bytes there are, not for how many there is room.
	if got := seal(t, key, n, great[:7], great[:9]); !slices.Equal(got, known(t, key, n, great[:7], great[:9])) {
		t.Error("few bytes, with room behind them: what is sealed is another one")
	}
}

func TestSealAndTagAtTheLimit(t *testing.T) {
	key, n := some(4)
	for _, c := range [][2]int{{maxText, 0}, {0, maxText}, {maxText, maxText}, {maxText - 1, maxText}, {maxText, maxText - 1}} {
		other, b := scattered(c[0]), scattered(c[1])
		s := seal(t, key, n, other, b)
		if !slices.Equal(s, known(t, key, n, other, b)) {
			t.Errorf("%d bytes beside %d: what is sealed is another one", c[1], c[0])
		}
		if tag := tagged(t, key, n, other, s[:len(b)]); !slices.Equal(tag, s[len(b):]) {
			t.Errorf("%d bytes beside %d: the tag is %x", c[1], c[0], tag)
		}
		opened(t, key, n, other, s, b)
	}
}

// The same bytes in a row, parted at other places, have other tags.
func TestTagTellsWhereItsPartsEnd(t *testing.T) {
	key, _ := some(5)
	row := scattered(60)
	seen := map[string]int{}
	for at := range 49 {
		n := chacha.Nonce(row[at : at+12])
		tag := tagged(t, key, n, row[:at], row[at+12:])
		if !slices.Equal(tag, knownTag(t, key, n, row[:at], row[at+12:])) {
			t.Errorf("parted at %d: it is another tag", at)
		}
		if like, ok := seen[string(tag)]; ok {
			t.Errorf("parted at %d: it is the tag of %d", at, like)
		}
		seen[string(tag)] = at
	}
}

// P6.2

func TestOpenRefusesFewBytes(t *testing.T) {
	key, n := some(6)
	s := seal(t, key, n, nil, nil)
	refusedOpen(t, key, n, nil, nil, api.ErrShort)
	for size := range 16 {
		refusedOpen(t, key, n, nil, s[:size], api.ErrShort)
		refusedOpen(t, key, n, []byte("other"), s[:size], api.ErrShort)
		// Of several errors it is the first one.
		refusedOpen(t, key, n, make([]byte, maxText+1), s[:size], api.ErrShort)
	}
	opened(t, key, n, nil, s, nil)
}

func TestOpenRefusesManyBytes(t *testing.T) {
	key, n := some(7)
	for _, c := range [][2]int{
		{maxText + 1, 16}, {maxText + 1, 17}, {maxText + 1, most}, {most, 16}, {1 << 20, 16},
		{0, most + 1}, {maxText, most + 1}, {maxText + 1, most + 1}, {0, most + 16}, {0, 1 << 20},
	} {
		other, hidden := scattered(c[0]), scattered(c[1])[16:]
		refusedOpen(t, key, n, other, slices.Concat(hidden, make([]byte, 16)), api.ErrBig)
		// So are those with a tag that would be the right one.
		refusedOpen(t, key, n, other, slices.Concat(hidden, knownTag(t, key, n, other, hidden)), api.ErrBig)
	}
	for _, c := range [][2]int{{maxText, 16}, {0, most}, {maxText, most}} {
		other, hidden := scattered(c[0]), scattered(c[1])[16:]
		refusedOpen(t, key, n, other, slices.Concat(hidden, make([]byte, 16)), api.ErrMac)
		if _, e := aead.Open(key, n, other, slices.Concat(hidden, knownTag(t, key, n, other, hidden))); e != api.OK {
			t.Errorf("%d bytes beside %d: error %d", c[1], c[0], e)
		}
	}
}

func TestOpenRefusesEachBitTurned(t *testing.T) {
	key, n := some(8)
	other, b := scattered(20), scattered(70)
	s := seal(t, key, n, other, b)
	turnedIn := func(part []byte, bit int) []byte {
		part = slices.Clone(part)
		part[bit/8] ^= 1 << (bit % 8)
		return part
	}
	for bit := range 8 * len(s) {
		refusedOpen(t, key, n, other, turnedIn(s, bit), api.ErrMac)
	}
	for bit := range 8 * len(other) {
		refusedOpen(t, key, n, turnedIn(other, bit), s, api.ErrMac)
	}
	for bit := range 8 * len(n) {
		refusedOpen(t, key, chacha.Nonce(turnedIn(n[:], bit)), other, s, api.ErrMac)
	}
	for bit := range 8 * len(key) {
		refusedOpen(t, api.Key(turnedIn(key[:], bit)), n, other, s, api.ErrMac)
	}
	opened(t, key, n, other, s, b)
}

func TestOpenRefusesMoreAndLess(t *testing.T) {
	key, n := some(9)
	other, b := scattered(20), scattered(70)
	s := seal(t, key, n, other, b)
	for end := 16; end < len(s); end++ {
		refusedOpen(t, key, n, other, s[:end], api.ErrMac)
		refusedOpen(t, key, n, other, s[len(s)-end:], api.ErrMac)
	}
	for _, x := range []byte{0, 1, 255} {
		refusedOpen(t, key, n, other, slices.Concat(s, []byte{x}), api.ErrMac)
		refusedOpen(t, key, n, other, slices.Concat([]byte{x}, s), api.ErrMac)
		refusedOpen(t, key, n, slices.Concat(other, []byte{x}), s, api.ErrMac)
		refusedOpen(t, key, n, slices.Concat([]byte{x}, other), s, api.ErrMac)
	}
	for end := range other {
		refusedOpen(t, key, n, other[:end], s, api.ErrMac)
		// A byte that leaves the others does not go on among the hidden ones.
		refusedOpen(t, key, n, other[:end], slices.Concat(other[end:], s), api.ErrMac)
	}
	refusedOpen(t, key, n, nil, s, api.ErrMac)
	refusedOpen(t, key, n, other, slices.Concat(s[70:], s[:70]), api.ErrMac)
	refusedOpen(t, key, n, other, repeated(0, len(s)), api.ErrMac)
}

// A tag by the key itself, by the key to hide, of the bytes that are not
// hidden, or by its other half, proves nothing.
func TestOpenRefusesOtherTags(t *testing.T) {
	key, n := some(10)
	other, b := scattered(20), scattered(70)
	s := seal(t, key, n, other, b)
	hidden := s[:70]
	row := slices.Concat(binary.LittleEndian.AppendUint64(nil, 20), other, n[:], hidden)
	hide, prove := knownKey(t, key, "hide"), knownKey(t, key, "prove")
	for _, k := range []api.Key{key, hide} {
		h := hmac.New(sha256.New, k[:])
		h.Write(row)
		refusedOpen(t, key, n, other, slices.Concat(hidden, h.Sum(nil)[:16]), api.ErrMac)
	}
	h := hmac.New(sha256.New, prove[:])
	h.Write(row)
	refusedOpen(t, key, n, other, slices.Concat(hidden, h.Sum(nil)[16:]), api.ErrMac)
	refusedOpen(t, key, n, other, slices.Concat(hidden, h.Sum(nil)), api.ErrMac)
	refusedOpen(t, key, n, other, slices.Concat(hidden, knownTag(t, key, n, other, b)), api.ErrMac)
	opened(t, key, n, other, slices.Concat(hidden, h.Sum(nil)[:16]), b)
}

// P6.3

func TestWhatWasSealedIsOpened(t *testing.T) {
	for i := range 400 {
		key, n := some(i)
		other, b := scattered((i*11)%401), scattered(i)
		opened(t, key, n, other, seal(t, key, n, other, b), b)
	}
	key, n := some(11)
	for _, size := range []int{1 << 10, 1<<15 + 1, maxText - 1, maxText} {
		for _, beside := range []int{0, 1, maxText} {
			other, b := scattered(beside), scattered(size)
			opened(t, key, n, other, seal(t, key, n, other, b), b)
		}
	}
}

func TestNoBytesAndNilAreAlike(t *testing.T) {
	key, n := some(12)
	none := [][]byte{nil, {}, scattered(5)[:0]}
	want := known(t, key, n, nil, nil)
	for _, other := range none {
		for _, b := range none {
			if s := seal(t, key, n, other, b); !slices.Equal(s, want) {
				t.Errorf("no bytes: %x, not %x", s, want)
			}
			if tag := tagged(t, key, n, other, b); !slices.Equal(tag, want) {
				t.Errorf("no bytes: the tag is %x, not %x", tag, want)
			}
			opened(t, key, n, other, want, nil)
		}
	}
}

// P6.4

// justThat fails unless bytes are opened just if they are what is sealed of
// what comes out, and tells whether they are.
func justThat(t *testing.T, key api.Key, n chacha.Nonce, other, s []byte) bool {
	t.Helper()
	b, e := aead.Open(key, n, other, s)
	if e == api.OK {
		if got := seal(t, key, n, other, b); !slices.Equal(got, s) {
			t.Errorf("%x is opened, but %x is sealed of what comes out", s, got)
		}
		return true
	}
	// What would come out, were it opened, is not sealed to these bytes.
	would, e := chacha.Xor(knownKey(t, key, "hide"), n, 0, s[:len(s)-16])
	if e != api.OK {
		t.Fatalf("error %d", e)
	}
	if slices.Equal(seal(t, key, n, other, would), s) {
		t.Errorf("%x is not opened, but it is what is sealed of %x", s, would)
	}
	return false
}

// Bytes with their tag are opened, though nobody has sealed them.
func TestBytesWithTheirTagAreOpened(t *testing.T) {
	for i := range 200 {
		key, n := some(i)
		other, hidden := scattered((i*13)%201), scattered(i)
		if !justThat(t, key, n, other, slices.Concat(hidden, tagged(t, key, n, other, hidden))) {
			t.Errorf("%d bytes with their tag are not opened", i)
		}
	}
}

func TestBytesWithAnotherTagAreNotOpened(t *testing.T) {
	for i := range 200 {
		key, n := some(i)
		other, s := scattered((i*13)%201), scattered(16+i)
		if justThat(t, key, n, other, s) {
			t.Errorf("%x is opened", s)
		}
		// Each byte of the tag is held against that at its place.
		tag := tagged(t, key, n, other, s[:i])
		tag[i%16] ^= 1 << (i % 8)
		if justThat(t, key, n, other, slices.Concat(s[:i], tag)) {
			t.Errorf("%d bytes with a tag whose byte %d is turned are opened", i, i%16)
		}
	}
}

// Two texts that are unlike, or are sealed by unlike keys, nonces or other
// bytes, are unlike when they are sealed.
func TestUnlikeIsSealedUnlike(t *testing.T) {
	seen := map[string]int{}
	for i := range 50 {
		key, n := some(13)
		other, b := scattered(20), scattered(30)
		switch i % 4 {
		case 0:
			key[i%32] ^= byte(i + 1)
		case 1:
			n[i%12] ^= byte(i + 1)
		case 2:
			other[i%20] ^= byte(i + 1)
		case 3:
			b[i%30] ^= byte(i + 1)
		}
		s := string(seal(t, key, n, other, b))
		if like, ok := seen[s]; ok {
			t.Errorf("%d is sealed as %d is", i, like)
		}
		seen[s] = i
	}
}

// What holds in all calls: nothing is changed, nothing kept, all is new.

func TestWhatIsHandedInIsLeft(t *testing.T) {
	key, n := some(14)
	for _, size := range []int{0, 1, 16, 64, 200} {
		// Behind the bytes stand others of the same memory, which are not the call's either.
		otherRoom, room := scattered(size+100), scattered(size+101)
		sealedRoom := slices.Concat(known(t, key, n, otherRoom[:size], room[:size]), scattered(50))
		rooms := [][]byte{otherRoom, room, sealedRoom}
		before := []string{string(otherRoom), string(room), string(sealedRoom)}
		other, b, sealed := otherRoom[:size], room[:size], sealedRoom[:size+16]
		s := seal(t, key, n, other, b)
		tagged(t, key, n, other, b)
		back, e := aead.Open(key, n, other, sealed)
		for i, r := range rooms {
			if string(r) != before[i] {
				t.Errorf("%d bytes: the list %d was changed", size, i)
			}
		}
		clear(otherRoom)
		clear(room)
		clear(sealedRoom)
		if e != api.OK || string(s) != before[2][:size+16] || string(back) != before[1][:size] {
			t.Errorf("%d bytes: what was answered has changed", size)
		}
	}
}

func TestWhatIsAnsweredIsNew(t *testing.T) {
	key, n := some(15)
	other, b := scattered(20), scattered(100)
	want := known(t, key, n, other, b)
	first := seal(t, key, n, other, b)
	clear(seal(t, key, n, other, b))
	if !slices.Equal(first, want) {
		t.Error("what was sealed has changed")
	}
	out, e := aead.Open(key, n, other, first)
	again, f := aead.Open(key, n, other, first)
	if e != api.OK || f != api.OK {
		t.Fatalf("errors %d and %d", e, f)
	}
	clear(again)
	if !slices.Equal(out, b) || !slices.Equal(first, want) {
		t.Error("what was opened has changed")
	}
	clear(first)
	if !slices.Equal(seal(t, key, n, other, b), want) || !slices.Equal(out, b) {
		t.Error("the second time it is another one")
	}
}

func TestAnErrorIsForgotten(t *testing.T) {
	key, n := some(16)
	other, b := scattered(20), scattered(100)
	aead.Open(key, n, other, b[:15])
	aead.Open(key, n, other, b)
	aead.Open(key, n, other, make([]byte, most+1))
	aead.Seal(key, n, other, make([]byte, maxText+1))
	aead.Tag(key, n, make([]byte, maxText+1), b)
	s := seal(t, key, n, other, b)
	if !slices.Equal(s, known(t, key, n, other, b)) {
		t.Errorf("behind errors: %x", s)
	}
	opened(t, key, n, other, s, b)
}
