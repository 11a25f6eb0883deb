package hmac_test

import (
	"bytes"
	"crypto/hkdf"
	other "crypto/hmac"
	"crypto/sha256"
	"encoding/hex"
	"math"
	"math/rand/v2"
	"slices"
	"strings"
	"testing"

	"pigeonry/api"
	"pigeonry/hmac"
)

// The tests hold the calls against crypto/hmac and crypto/hkdf, which were
// written by others from the RFCs, and against the RFCs' own examples.

// most is how many bytes are expanded at most.
const most = 8160

// known tells the tag that crypto/hmac answers.
func known(key, b []byte) api.Key {
	h := other.New(sha256.New, key)
	h.Write(b)
	return api.Key(h.Sum(nil))
}

// knownExpand tells what crypto/hkdf answers.
func knownExpand(t *testing.T, secret api.Key, info []byte, n int) []byte {
	t.Helper()
	b, err := hkdf.Expand(sha256.New, secret[:], string(info), n)
	if err != nil {
		t.Fatal(err)
	}
	return b
}

// expand fails unless as many bytes as asked for are answered.
func expand(t *testing.T, secret api.Key, info []byte, n int) []byte {
	t.Helper()
	b, e := hmac.Expand(secret, info, n)
	if e != api.OK || len(b) != n {
		t.Fatalf("expanded to %d: %d bytes, error %d", n, len(b), e)
	}
	return b
}

// scattered tells n bytes of all kinds, always the same ones.
func scattered(n int) []byte {
	source := rand.New(rand.NewPCG(4, uint64(n)))
	b := make([]byte, n)
	for i := range b {
		b[i] = byte(source.Uint32())
	}
	return b
}

// secret tells one of some keys of all kinds of bytes.
func secret(i int) api.Key { return api.Key(scattered(1000 + i)[:32]) }

// filled tells n bytes of one value.
func filled(n int, value byte) []byte { return bytes.Repeat([]byte{value}, n) }

// upTo tells the n bytes from first on, each greater by one than that ahead of it.
func upTo(first byte, n int) []byte {
	b := make([]byte, n)
	for i := range b {
		b[i] = first + byte(i)
	}
	return b
}

// P4.1

func TestMacOfTheRFC(t *testing.T) {
	for _, c := range []struct {
		key  []byte
		b    string
		want string
	}{
		{filled(20, 0x0b), "Hi There", "b0344c61d8db38535ca8afceaf0bf12b881dc200c9833da726e9376c2e32cff7"},
		{[]byte("Jefe"), "what do ya want for nothing?", "5bdcc146bf60754e6a042426089575c75a003f089d2739839dec58b964ec3843"},
		{filled(20, 0xaa), string(filled(50, 0xdd)), "773ea91e36800e46854db8ebd09181a72959098b3ef8c122d9635514ced565fe"},
		{upTo(1, 25), string(filled(50, 0xcd)), "82558a389a443c0ea4cc819899f2083a85f0faa3e578f8077a2e3ff46729665b"},
		{filled(131, 0xaa), "Test Using Larger Than Block-Size Key - Hash Key First", "60e431591ee0b67f0d8a26aacbf5b77f8e0bc6213728c5140546040f0ee37f54"},
		{filled(131, 0xaa), "This is a test using a larger than block-size key and a larger than block-size data. The key needs to be hashed before being used by the HMAC algorithm.", "9b09ffa71b942fcb27635fbcd5b0e944bfdc63644f0713938a7f51535c3a35e2"},
	} {
		if got := hmac.Mac(c.key, []byte(c.b)); hex.EncodeToString(got[:]) != c.want {
			t.Errorf("of %q by %x: %x, not %s", c.b, c.key, got, c.want)
		}
	}
}

func TestMacByKeysOfEachLength(t *testing.T) {
	b := scattered(77)
	for n := range 200 {
		for _, key := range [][]byte{scattered(n), filled(n, 0), filled(n, 54), filled(n, 92), filled(n, 255)} {
			if got := hmac.Mac(key, b); got != known(key, b) {
				t.Errorf("by %x: %x", key, got)
			}
		}
	}
}

func TestMacOfBytesOfEachLength(t *testing.T) {
	for _, key := range [][]byte{nil, scattered(32), scattered(64), scattered(65)} {
		for n := range 300 {
			for _, b := range [][]byte{scattered(n), filled(n, 0), filled(n, 255)} {
				if got := hmac.Mac(key, b); got != known(key, b) {
					t.Errorf("of %x by %x: %x", b, key, got)
				}
			}
		}
	}
}

func TestMacOfLongBytes(t *testing.T) {
	long := scattered(1 << 20)
	if got := hmac.Mac(long[:32], long); got != known(long[:32], long) {
		t.Errorf("long bytes: %x", got)
	}
	if got := hmac.Mac(long, long[:32]); got != known(long, long[:32]) {
		t.Errorf("a long key: %x", got)
	}
}

// A hash of layer 3 takes at most 2^30 bytes; a tag has no such limit.
func TestMacOfMoreBytesThanAHashTakes(t *testing.T) {
	t.Parallel()
	key, much := scattered(32), make([]byte, 1<<30-63)
	copy(much, scattered(100))
	if got := hmac.Mac(key, much); got != known(key, much) {
		t.Errorf("of %d bytes: %x", len(much), got)
	}
}

func TestMacOfNilIsThatOfNoBytes(t *testing.T) {
	want := known(nil, nil)
	for _, key := range [][]byte{nil, {}} {
		for _, b := range [][]byte{nil, {}} {
			if got := hmac.Mac(key, b); got != want {
				t.Errorf("%x", got)
			}
		}
	}
}

func TestMacTellsEachBit(t *testing.T) {
	for _, n := range []int{1, 64, 65} {
		key, b := scattered(n), scattered(70)
		want := hmac.Mac(key, b)
		for _, part := range [][]byte{key, b} {
			for bit := range 8 * len(part) {
				part[bit/8] ^= 1 << (bit % 8)
				if got := hmac.Mac(key, b); got == want || got != known(key, b) {
					t.Errorf("with bit %d turned: %x", bit, got)
				}
				part[bit/8] ^= 1 << (bit % 8)
			}
		}
	}
}

// lent tells n bytes with others of the same memory behind them, which are not
// the called one's either, and what fails if one of all these has changed.
func lent(t *testing.T, n int) ([]byte, func()) {
	whole := scattered(n + 200)
	before := slices.Clone(whole)
	return whole[:n], func() {
		t.Helper()
		if !slices.Equal(whole, before) {
			t.Errorf("memory of %d bytes was changed", n)
		}
	}
}

func TestCallsLeaveTheirBytes(t *testing.T) {
	for _, n := range []int{0, 1, 32, 63, 64, 65, 200} {
		key, keyIsLeft := lent(t, n)
		b, bIsLeft := lent(t, n+1)
		same, sameIsLeft := lent(t, n)
		hmac.Mac(key, b)
		hmac.Mac(key, key)
		hmac.Extract(key, b)
		expand(t, secret(0), b, 100)
		hmac.Equal(key, b)
		hmac.Equal(key, same)
		keyIsLeft()
		bIsLeft()
		sameIsLeft()
	}
}

func TestCallsKeepNothing(t *testing.T) {
	key, b := scattered(40), scattered(50)
	first, derived := hmac.Mac(key, b), hmac.Derive(secret(0), "tag")
	hmac.Mac(scattered(64), scattered(200))
	hmac.Derive(secret(1), "other")
	expand(t, secret(1), scattered(60), most)
	if hmac.Mac(key, b) != first || hmac.Derive(secret(0), "tag") != derived {
		t.Error("the second time it is another one")
	}
	clear(key)
	clear(b)
	if got := hmac.Mac(key, b); got != known(key, b) {
		t.Errorf("of bytes that were written over: %x", got)
	}
}

// P4.2

// rfc tells the examples of RFC 5869 for SHA-256.
func rfc() []struct {
	secret, salt, info []byte
	key, expanded      string
} {
	return []struct {
		secret, salt, info []byte
		key, expanded      string
	}{
		{
			filled(22, 0x0b), upTo(0, 13), upTo(0xf0, 10),
			"077709362c2e32df0ddc3f0dc47bba6390b6c73bb50f9c3122ec844ad7c2b3e5",
			"3cb25f25faacd57a90434f64d0362f2a2d2d0a90cf1a5a4c5db02d56ecc4c5bf34007208d5b887185865",
		},
		{
			upTo(0, 80), upTo(0x60, 80), upTo(0xb0, 80),
			"06a6b88c5853361a06104c9ceb35b45cef760014904671014a193f40c15fc244",
			"b11e398dc80327a1c8e7f78c596a49344f012eda2d4efad8a050cc4c19afa97c59045a99cac7827271cb41c65e590e09da3275600c2f09b8367793a9aca3db71cc30c58179ec3e87c14c01d5c1f3434f1d87",
		},
		{
			filled(22, 0x0b), nil, nil,
			"19ef24a32c717b167f33a91d6f648bdf96596776afdb6377ac434c1c293ccb04",
			"8da4e775a563c18f715f802a063c5a31b8a11f5c5ee1879ec3454e5f3c738d2d9d201395faa4b61a96c8",
		},
	}
}

func TestExtractAndExpandOfTheRFC(t *testing.T) {
	for i, c := range rfc() {
		key := hmac.Extract(c.salt, c.secret)
		if hex.EncodeToString(key[:]) != c.key {
			t.Errorf("example %d: %x, not %s", i, key, c.key)
		}
		got := expand(t, key, c.info, len(c.expanded)/2)
		if hex.EncodeToString(got) != c.expanded {
			t.Errorf("example %d: %x, not %s", i, got, c.expanded)
		}
	}
}

func TestExtractIsTheTagByTheSalt(t *testing.T) {
	for _, n := range []int{0, 1, 32, 63, 64, 65, 130} {
		for _, m := range []int{0, 1, 32, 64, 200} {
			salt, b := scattered(n), scattered(m)
			if got := hmac.Extract(salt, b); got != known(salt, b) || got != hmac.Mac(salt, b) {
				t.Errorf("of %d bytes by %d: %x", m, n, got)
			}
		}
	}
	if hmac.Extract(nil, nil) != known(nil, nil) {
		t.Errorf("of nil by nil: %x", hmac.Extract(nil, nil))
	}
}

func TestExpandToEachLength(t *testing.T) {
	info := scattered(20)
	for n := range 300 {
		if got := expand(t, secret(n), info, n); !slices.Equal(got, knownExpand(t, secret(n), info, n)) {
			t.Errorf("to %d: %x", n, got)
		}
	}
	for n := most - 100; n <= most; n++ {
		if got := expand(t, secret(n), info, n); !slices.Equal(got, knownExpand(t, secret(n), info, n)) {
			t.Errorf("to %d: its bytes are others", n)
		}
	}
}

func TestExpandByInfosOfEachLength(t *testing.T) {
	for n := range 200 {
		info := scattered(n)
		if got := expand(t, secret(n), info, 100); !slices.Equal(got, knownExpand(t, secret(n), info, 100)) {
			t.Errorf("by %x: %x", info, got)
		}
	}
	if !slices.Equal(expand(t, secret(1), nil, 100), expand(t, secret(1), []byte{}, 100)) {
		t.Error("nil and no bytes are unlike")
	}
}

func TestExpandByEachSecret(t *testing.T) {
	for _, k := range []api.Key{{}, {1}, {31: 1}, api.Key(filled(32, 54)), api.Key(filled(32, 255)), secret(7)} {
		if got := expand(t, k, []byte("info"), 70); !slices.Equal(got, knownExpand(t, k, []byte("info"), 70)) {
			t.Errorf("by %x: %x", k, got)
		}
	}
}

func TestExpandRefusesNumbers(t *testing.T) {
	for _, n := range []int{-1, -2, -32, -most, math.MinInt32, math.MinInt, most + 1, most + 2, most + 32, 1 << 16, 1 << 20, math.MaxInt32, math.MaxInt} {
		for _, info := range [][]byte{nil, {}, scattered(40)} {
			if b, e := hmac.Expand(secret(1), info, n); b != nil || e != api.ErrBig {
				t.Errorf("to %d: %d bytes, error %d", n, len(b), e)
			}
		}
	}
}

func TestExpandTakesTheNumbersAtTheEdges(t *testing.T) {
	for _, n := range []int{0, 1, 31, 32, 33, most - 32, most - 1, most} {
		expand(t, secret(2), nil, n)
	}
}

func TestExpandEndsWhereItsListEnds(t *testing.T) {
	for _, n := range []int{0, 1, 31, 32, 33, 42, 64, 100, most - 1, most} {
		if b := expand(t, secret(3), nil, n); cap(b) != n {
			t.Errorf("to %d: there are %d bytes behind it", n, cap(b)-n)
		}
	}
}

func TestWhatIsExpandedIsNew(t *testing.T) {
	k, info := secret(4), scattered(30)
	first := expand(t, k, info, 100)
	before := slices.Clone(first)
	clear(expand(t, k, info, 100))
	clear(info)
	if !slices.Equal(first, before) {
		t.Error("what was expanded has changed")
	}
	if again := expand(t, k, scattered(30), 100); !slices.Equal(again, before) {
		t.Errorf("the second time: %x", again)
	}
}

// P4.3

func TestDeriveIsExpandedByItsLabel(t *testing.T) {
	labels := []string{
		"", "tag", "hide", "prove", " ", "pigeonry ", "pigeonry tag", "Tag", "tag ", " tag", "\x00", "tag\x00",
		"täg", "\xff\xfe", strings.Repeat("long ", 100),
	}
	seen := map[api.Key]string{}
	k := secret(9)
	for _, label := range labels {
		got := hmac.Derive(k, label)
		info := []byte("pigeonry " + label)
		if want := knownExpand(t, k, info, 32); !slices.Equal(got[:], want) {
			t.Errorf("%q: %x, not %x", label, got, want)
		}
		if !slices.Equal(got[:], expand(t, k, info, 32)) {
			t.Errorf("%q: it is another one than Expand's", label)
		}
		if like, ok := seen[got]; ok {
			t.Errorf("%q is like %q", label, like)
		}
		seen[got] = label
	}
}

func TestDeriveByEachSecret(t *testing.T) {
	for _, k := range []api.Key{{}, {1}, {31: 1}, api.Key(filled(32, 255)), secret(1), secret(2)} {
		if got := hmac.Derive(k, "tag"); !slices.Equal(got[:], knownExpand(t, k, []byte("pigeonry tag"), 32)) {
			t.Errorf("by %x: %x", k, got)
		}
	}
}

// P4.4

func TestEqualOfTheSameBytes(t *testing.T) {
	for n := range 100 {
		a := scattered(n)
		if !hmac.Equal(a, slices.Clone(a)) || !hmac.Equal(a, a) {
			t.Errorf("%x is not like itself", a)
		}
	}
	none := [][]byte{nil, {}, scattered(5)[:0]}
	for _, a := range none {
		for _, b := range none {
			if !hmac.Equal(a, b) {
				t.Errorf("%#v and %#v are unlike", a, b)
			}
		}
	}
}

// unlike fails unless the bytes are told to be unlike, in either order.
func unlike(t *testing.T, a, b []byte) {
	t.Helper()
	if hmac.Equal(a, b) || hmac.Equal(b, a) {
		t.Errorf("%x is like %x", a, b)
	}
}

func TestEqualTellsEachBit(t *testing.T) {
	for _, n := range []int{1, 2, 16, 32, 65} {
		a := scattered(n)
		for bit := range 8 * n {
			b := slices.Clone(a)
			b[bit/8] ^= 1 << (bit % 8)
			unlike(t, a, b)
		}
	}
}

// What two bytes have unlike may not cancel out.
func TestEqualTellsTwoBytes(t *testing.T) {
	a := scattered(16)
	for i := range a {
		for j := range i {
			for _, by := range []byte{1, 128, 255} {
				turned, moved := slices.Clone(a), slices.Clone(a)
				turned[i] ^= by
				turned[j] ^= by
				moved[i] += by
				moved[j] -= by
				unlike(t, a, turned)
				unlike(t, a, moved)
			}
		}
	}
	unlike(t, []byte{1, 2}, []byte{2, 1})
	unlike(t, make([]byte, 256), filled(256, 1))
}

func TestEqualTellsLengths(t *testing.T) {
	a := scattered(70)
	for n := range a {
		unlike(t, a, a[:n])
		unlike(t, make([]byte, 70), make([]byte, n))
		unlike(t, a[:n], append(slices.Clone(a[:n]), 0))
	}
	unlike(t, nil, []byte{0})
	unlike(t, a[1:], a[:69])
	unlike(t, make([]byte, 256), nil)
}

func TestShortIsTheFirstHalf(t *testing.T) {
	if got := hmac.Short(api.Key(upTo(1, 32))); got != api.Tag(upTo(1, 16)) {
		t.Errorf("%x", got)
	}
	if got := hmac.Short(api.Key{}); got != (api.Tag{}) {
		t.Errorf("of bytes 0: %x", got)
	}
	for i := range 100 {
		k := secret(i)
		if got := hmac.Short(k); !slices.Equal(got[:], k[:16]) {
			t.Errorf("of %x: %x", k, got)
		}
	}
}

// P4.5

func TestFewerBytesAreTheBeginningOfMore(t *testing.T) {
	info := scattered(12)
	whole := expand(t, secret(5), info, most)
	for n := 0; n <= most; n += 1 + n/16 {
		if got := expand(t, secret(5), info, n); !bytes.HasPrefix(whole, got) {
			t.Errorf("to %d: it is no beginning", n)
		}
	}
	for n := most - 33; n <= most; n++ {
		if got := expand(t, secret(5), info, n); !bytes.HasPrefix(whole, got) {
			t.Errorf("to %d: it is no beginning", n)
		}
	}
}

// P4.6

func TestKeysWithBytes0BehindThem(t *testing.T) {
	b := scattered(45)
	for n := range 65 {
		key := scattered(n)
		want := known(key, b)
		for m := n; m <= 64; m++ {
			longer := append(slices.Clone(key), make([]byte, m-n)...)
			if hmac.Mac(longer, b) != want || hmac.Extract(longer, b) != want {
				t.Errorf("%d bytes, and bytes 0 up to %d: another tag", n, m)
			}
		}
		// One byte more, and the key's digest stands for it.
		if longer := append(slices.Clone(key), make([]byte, 65-n)...); hmac.Mac(longer, b) == want {
			t.Errorf("%d bytes, and bytes 0 up to 65: the same tag", n)
		}
	}
}

func TestKeysAndTheirDigests(t *testing.T) {
	b := scattered(45)
	for n := range 300 {
		key := scattered(n)
		digest := sha256.Sum256(key)
		like := hmac.Mac(key, b) == hmac.Mac(digest[:], b)
		if like != (n > 64) {
			t.Errorf("a key of %d bytes, and its digest: alike %t", n, like)
		}
	}
}
