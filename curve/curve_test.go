package curve_test

import (
	"crypto/ecdh"
	"encoding/hex"
	"math/big"
	"math/rand/v2"
	"slices"
	"testing"

	"pigeonry/api"
	"pigeonry/curve"
)

// The tests hold the calls against crypto/ecdh, which was written by others from the RFC.

// key tells the key of hexadecimal digits.
func key(t *testing.T, digits string) api.Key {
	t.Helper()
	b, err := hex.DecodeString(digits)
	if err != nil || len(b) != len(api.Key{}) {
		t.Fatalf("%s is no key", digits)
	}
	return api.Key(b)
}

// plus tells 2^255 - 19 + n as a key, the lowest byte first.
func plus(n int64) api.Key {
	p := new(big.Int).Lsh(big.NewInt(1), 255)
	k := api.Key(p.Add(p, big.NewInt(n-19)).FillBytes(make([]byte, 32)))
	slices.Reverse(k[:])
	return k
}

func withTop(k api.Key) api.Key {
	k[31] |= 128
	return k
}

// scattered tells n keys of bytes of all kinds, always the same ones.
func scattered(n int) []api.Key {
	source := rand.New(rand.NewPCG(2, uint64(n)))
	l := make([]api.Key, n)
	for i := range l {
		for j := range l[i] {
			l[i][j] = byte(source.Uint32())
		}
	}
	return l
}

// secrets tells secrets of all kinds: of one byte throughout, of one bit, and scattered ones.
func secrets() []api.Key {
	l := scattered(40)
	for _, v := range []byte{0, 1, 7, 8, 0x55, 0x80, 0xaa, 0xff} {
		var k api.Key
		for i := range k {
			k[i] = v
		}
		l = append(l, k)
	}
	for bit := 0; bit < 256; bit += 17 {
		var k api.Key
		k[bit/8] = 1 << (bit % 8)
		l = append(l, k)
	}
	return l
}

// noughts tells all keys whose points leave nought times every scalar: those of
// the points 0, 1, p - 1 and the two of order 8, p and p + 1 instead of 0 and 1,
// and all of these with the highest bit.
func noughts(t *testing.T) []api.Key {
	l := []api.Key{
		{}, {1}, plus(-1), plus(0), plus(1),
		key(t, "e0eb7a7c3b41b8ae1656e3faf19fc46ada098deb9c32b1fd866205165f49b800"),
		key(t, "5f9c95bca3508c24b1d0b1559c83ef5b04445cc4581c8e86d8224eddd09f1157"),
	}
	for _, k := range l {
		l = append(l, withTop(k))
	}
	return l
}

// points tells keys of all kinds whose points are not nought times a scalar:
// on the curve and beside it, with the highest bit and without, below p and above.
func points() []api.Key {
	l := scattered(40)
	for n := int64(2); n <= 18; n++ {
		l = append(l, api.Key{byte(n)}, withTop(api.Key{byte(n)}), plus(n), withTop(plus(n)), plus(-n))
	}
	return l
}

// known tells what crypto/ecdh answers.
func known(t *testing.T, k, u api.Key) (api.Key, api.Errno) {
	t.Helper()
	secret, err := ecdh.X25519().NewPrivateKey(k[:])
	if err != nil {
		t.Fatal(err)
	}
	public, err := ecdh.X25519().NewPublicKey(u[:])
	if err != nil {
		t.Fatal(err)
	}
	shared, err := secret.ECDH(public)
	if err != nil {
		return api.Key{}, api.ErrZero
	}
	return api.Key(shared), api.OK
}

func shared(t *testing.T, k, u api.Key) api.Key {
	t.Helper()
	got, e := curve.Shared(k, u)
	if e != api.OK {
		t.Fatalf("Shared(%x, %x): error %d", k, u, e)
	}
	return got
}

// P2.1

func TestClampOfEachFirstAndLastByte(t *testing.T) {
	middle := scattered(1)[0]
	for v := range 256 {
		k, want := middle, middle
		k[0], k[31] = byte(v), byte(v)
		want[0], want[31] = byte(v/8*8), byte(64+v%64)
		if got := curve.Clamp(k); got != want {
			t.Errorf("Clamp(%x): %x", k, got)
		}
	}
}

func TestClampLeavesTheMiddle(t *testing.T) {
	for _, k := range secrets() {
		got := curve.Clamp(k)
		if !slices.Equal(got[1:31], k[1:31]) {
			t.Errorf("Clamp(%x): %x", k, got)
		}
	}
}

// P2.2

func TestSharedOfTheRFC(t *testing.T) {
	for _, c := range [][3]string{
		{"a546e36bf0527c9d3b16154b82465edd62144c0ac1fc5a18506a2244ba449ac4", "e6db6867583030db3594c1a424b15f7c726624ec26b3353b10a903a6d0ab1c4c", "c3da55379de9c6908e94ea4df28d084f32eccf03491c71f754b4075577a28552"},
		{"4b66e9d4d1b4673c5ad22691957d6af5c11b6421e0ea01d42ca4169e7918ba0d", "e5210f12786811d3f4b7959d0538ae2c31dbe7106fc03c3efc4cd549c715a493", "95cbde9476e8907d7aade45cb4b873f88b595a68799fa152e6f8f7647aac7957"},
	} {
		if got := shared(t, key(t, c[0]), key(t, c[1])); got != key(t, c[2]) {
			t.Errorf("Shared(%s, %s): %x", c[0], c[1], got)
		}
	}
}

func TestSharedOverAndOverAsInTheRFC(t *testing.T) {
	k, u := api.Key{9}, api.Key{9}
	for n := 1; n <= 1000; n++ {
		k, u = shared(t, k, u), k
		if n == 1 && k != key(t, "422c8e7a6227d7bca1350b3e2bb7279f7897b87bb6854b783c60e80311ae3079") {
			t.Fatalf("once: %x", k)
		}
	}
	if k != key(t, "684cf59ba83309552800ef566f2f4d3c1c3887c49360e3875f2eb94d99532c51") {
		t.Errorf("a thousand times: %x", k)
	}
}

func TestSharedAgainstECDH(t *testing.T) {
	ks := secrets()
	for i, u := range append(points(), noughts(t)...) {
		for n := range 6 {
			k := ks[(5*i+n)%len(ks)]
			got, e := curve.Shared(k, u)
			if want, f := known(t, k, u); got != want || e != f {
				t.Errorf("Shared(%x, %x): %x, %d, not %x, %d", k, u, got, e, want, f)
			}
		}
	}
}

func TestSharedRefusesNought(t *testing.T) {
	for _, u := range noughts(t) {
		for _, k := range secrets() {
			if got, e := curve.Shared(k, u); got != (api.Key{}) || e != api.ErrZero {
				t.Errorf("Shared(%x, %x): %x, %d", k, u, got, e)
			}
		}
	}
}

func TestPublicAgainstECDH(t *testing.T) {
	for _, k := range secrets() {
		secret, err := ecdh.X25519().NewPrivateKey(k[:])
		if err != nil {
			t.Fatal(err)
		}
		got := curve.Public(k)
		if got != api.Key(secret.PublicKey().Bytes()) || got == (api.Key{}) {
			t.Errorf("Public(%x): %x", k, got)
		}
	}
}

func TestPublicIsNineTimesTheSecret(t *testing.T) {
	for _, k := range secrets() {
		if curve.Public(k) != shared(t, k, api.Key{9}) {
			t.Errorf("Public(%x) is not that of the point 9", k)
		}
	}
}

// P2.3

// oneByOne tells what Shared makes of the secrets, one behind the other.
func oneByOne(u api.Key, l []api.Key) (api.Key, api.Errno) {
	e := api.OK
	for _, k := range l {
		if u, e = curve.Shared(k, u); e != api.OK {
			return u, e
		}
	}
	return u, e
}

func TestChainIsSharedOneByOne(t *testing.T) {
	l := secrets()
	for i, u := range points() {
		for n := 1; n <= 8; n += 1 + i%3 {
			some := l[i%30 : i%30+n]
			got, e := curve.Chain(u, some)
			if want, f := oneByOne(u, some); got != want || e != f || e != api.OK {
				t.Errorf("Chain(%x, %d secrets): %x, %d, not %x, %d", u, n, got, e, want, f)
			}
		}
	}
}

func TestChainTakesEightSecretsAndNoMore(t *testing.T) {
	l := secrets()
	if got, e := curve.Chain(api.Key{9}, l[:8]); e != api.OK || got == (api.Key{}) {
		t.Errorf("eight: %x, %d", got, e)
	}
	for _, n := range []int{9, 10, len(l)} {
		for _, u := range append(noughts(t), points()...) {
			if got, e := curve.Chain(u, l[:n]); got != (api.Key{}) || e != api.ErrBig {
				t.Errorf("%d of %x: %x, %d", n, u, got, e)
			}
		}
	}
}

func TestChainRefusesNought(t *testing.T) {
	l := secrets()
	for _, u := range noughts(t) {
		for n := 1; n <= 8; n++ {
			if got, e := curve.Chain(u, l[:n]); got != (api.Key{}) || e != api.ErrZero {
				t.Errorf("%d of %x: %x, %d", n, u, got, e)
			}
		}
	}
}

func TestChainOfNoSecretTellsThePoint(t *testing.T) {
	high := api.Key{5, 31: 0x7f}
	for _, c := range []struct{ of, want api.Key }{
		{api.Key{1}, api.Key{1}},
		{api.Key{9}, api.Key{9}},
		{withTop(api.Key{9}), api.Key{9}},
		{high, high},
		{withTop(high), high},
		{plus(-1), plus(-1)},
		{withTop(plus(-1)), plus(-1)},
		{plus(1), api.Key{1}},
		{plus(18), api.Key{18}},
		{withTop(plus(18)), api.Key{18}},
	} {
		for _, none := range [][]api.Key{nil, {}} {
			if got, e := curve.Chain(c.of, none); got != c.want || e != api.OK {
				t.Errorf("of %x: %x, %d", c.of, got, e)
			}
		}
	}
}

func TestChainOfNoSecretRefusesNought(t *testing.T) {
	for _, u := range []api.Key{{}, withTop(api.Key{}), plus(0), withTop(plus(0))} {
		for _, none := range [][]api.Key{nil, {}} {
			if got, e := curve.Chain(u, none); got != (api.Key{}) || e != api.ErrZero {
				t.Errorf("of %x: %x, %d", u, got, e)
			}
		}
	}
}

func TestChainLeavesItsSecrets(t *testing.T) {
	l := scattered(8)
	before := slices.Clone(l)
	curve.Chain(api.Key{9}, l)
	if !slices.Equal(l, before) {
		t.Error("the secrets were changed")
	}
}

// P2.4

func TestEitherOrder(t *testing.T) {
	l := secrets()
	for i, u := range points() {
		a, b := l[i%len(l)], l[(i+11)%len(l)]
		if shared(t, a, shared(t, b, u)) != shared(t, b, shared(t, a, u)) {
			t.Errorf("%x times %x and %x: the order tells", u, a, b)
		}
	}
}

func TestChainInEachOrder(t *testing.T) {
	l := scattered(8)
	want, e := curve.Chain(api.Key{9}, l)
	if e != api.OK {
		t.Fatalf("error %d", e)
	}
	for range l {
		l = append(l[1:], l[0])
		l[2], l[5] = l[5], l[2]
		if got, e := curve.Chain(api.Key{9}, l); got != want || e != api.OK {
			t.Errorf("%x, %d, not %x", got, e, want)
		}
	}
}

// P2.5

// sameScalar tells all secrets that have the scalar of k.
func sameScalar(k api.Key) []api.Key {
	var l []api.Key
	for low := range byte(8) {
		for high := range byte(4) {
			k[0], k[31] = k[0]&^7|low, k[31]&^192|high<<6
			l = append(l, k)
		}
	}
	return l
}

func TestSecretsWithOneScalarAreAlike(t *testing.T) {
	for _, k := range scattered(3) {
		scalar, public, want := curve.Clamp(k), curve.Public(k), shared(t, k, api.Key{7})
		chained, _ := curve.Chain(api.Key{7}, []api.Key{k, k})
		for _, same := range sameScalar(k) {
			if curve.Clamp(same) != scalar || curve.Public(same) != public || shared(t, same, api.Key{7}) != want {
				t.Errorf("%x and %x are told apart", k, same)
			}
			if got, e := curve.Chain(api.Key{7}, []api.Key{same, k}); got != chained || e != api.OK {
				t.Errorf("Chain tells %x and %x apart", k, same)
			}
		}
	}
}

func TestKeysWithOnePointAreAlike(t *testing.T) {
	k := scattered(1)[0]
	alike := func(u, same api.Key) {
		x, e := curve.Shared(k, u)
		y, f := curve.Shared(k, same)
		p, g := curve.Chain(u, []api.Key{k, k})
		q, h := curve.Chain(same, []api.Key{k, k})
		if x != y || e != f || p != q || g != h {
			t.Errorf("%x and %x are told apart", u, same)
		}
	}
	for _, u := range append(points(), noughts(t)...) {
		alike(u, withTop(u))
	}
	for n := range byte(19) {
		alike(api.Key{n}, plus(int64(n)))
		alike(api.Key{n}, withTop(plus(int64(n))))
	}
}

// P2.6

func TestPairs(t *testing.T) {
	l := secrets()
	for i, a := range l {
		for _, b := range []api.Key{a, l[(i+1)%len(l)], l[(3*i+7)%len(l)]} {
			x, y := shared(t, a, curve.Public(b)), shared(t, b, curve.Public(a))
			if x != y || x == (api.Key{}) {
				t.Errorf("%x and %x: %x, %x", a, b, x, y)
			}
		}
	}
}

// R4: nothing is kept, so that what was asked between does not tell.

func TestNothingIsKept(t *testing.T) {
	l := scattered(2)
	x, public := shared(t, l[0], api.Key{5}), curve.Public(l[0])
	curve.Shared(l[1], api.Key{})
	curve.Chain(l[1], scattered(9))
	if shared(t, l[0], api.Key{5}) != x || curve.Public(l[0]) != public {
		t.Error("other answers the second time")
	}
}
