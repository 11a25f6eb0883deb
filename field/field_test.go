package field_test

import (
	"math/big"
	"math/rand/v2"
	"testing"

	"pigeonry/api"
	"pigeonry/field"
)

// The tests hold the calls against math/big, which knows nothing of words and carries.

func prime() *big.Int { return less(power(255), 19) }

func power(n uint) *big.Int { return new(big.Int).Lsh(big.NewInt(1), n) }

func less(n *big.Int, by int64) *big.Int { return new(big.Int).Sub(n, big.NewInt(by)) }

func left(n *big.Int) *big.Int { return new(big.Int).Mod(n, prime()) }

// key tells the bytes of a number below 2^256, the lowest one first.
func key(n *big.Int) api.Key {
	var k api.Key
	for i, b := range n.FillBytes(make([]byte, len(k))) {
		k[len(k)-1-i] = b
	}
	return k
}

func number(k api.Key) *big.Int {
	var b [32]byte
	for i, v := range k {
		b[len(k)-1-i] = v
	}
	return new(big.Int).SetBytes(b[:])
}

func small(n int64) api.Key { return key(big.NewInt(n)) }

// edges tells the numbers around 0, p, 2^255, 2 p and 2^256, and those around each word's ends.
func edges() []api.Key {
	var l []api.Key
	for _, n := range []int64{0, 1, 2, 18, 19, 20, 36, 37, 38, 39} {
		l = append(l, small(n))
	}
	twice := new(big.Int).Lsh(prime(), 1)
	for _, middle := range []*big.Int{prime(), power(255), twice, power(64), power(128), power(192), power(254)} {
		for by := int64(-20); by <= 20; by++ {
			l = append(l, key(less(middle, by)))
		}
	}
	for by := int64(1); by <= 40; by++ {
		l = append(l, key(less(power(256), by)))
	}
	return append(l, key(new(big.Int).Rsh(prime(), 1)))
}

// patterns tells keys of one byte throughout, of one bit, and of words that are all noughts or all ones.
func patterns() []api.Key {
	var l []api.Key
	for v := range 256 {
		var k api.Key
		for i := range k {
			k[i] = byte(v)
		}
		l = append(l, k)
	}
	for bit := range 256 {
		l = append(l, key(power(uint(bit))))
	}
	for words := range 16 {
		var k api.Key
		for i := range k {
			if words>>(i/8)&1 == 1 {
				k[i] = 0xff
			}
		}
		l = append(l, k)
	}
	return l
}

// scattered tells n keys of bytes of all kinds, always the same ones.
func scattered(n int) []api.Key {
	source := rand.New(rand.NewPCG(1, uint64(n)))
	l := make([]api.Key, n)
	for i := range l {
		for j := range l[i] {
			l[i][j] = byte(source.Uint32())
		}
	}
	return l
}

func all() []api.Key { return append(append(edges(), patterns()...), scattered(500)...) }

// few tells some of each sort, for tests of two or three keys.
func few() []api.Key {
	l := scattered(8)
	for _, n := range []*big.Int{
		big.NewInt(0), big.NewInt(1), big.NewInt(19), less(prime(), 1), prime(), less(prime(), -1), less(power(255), 1),
		power(255), less(power(256), 39), less(power(256), 38), less(power(256), 1), power(254), power(128), less(power(192), 1),
	} {
		l = append(l, key(n))
	}
	return l
}

func expect(t *testing.T, what string, got api.Key, want *big.Int) {
	t.Helper()
	if got != key(want) {
		t.Errorf("%s: %x, not %x", what, got, key(want))
	}
}

// P1.1

func TestCanonTellsWhatIsLeft(t *testing.T) {
	for _, a := range all() {
		expect(t, "Canon", field.Canon(a), left(number(a)))
	}
}

func TestCanonAtTheEdges(t *testing.T) {
	for _, c := range []struct{ of, want *big.Int }{
		{big.NewInt(0), big.NewInt(0)},
		{less(prime(), 1), less(prime(), 1)},
		{prime(), big.NewInt(0)},
		{less(prime(), -1), big.NewInt(1)},
		{less(power(255), 1), big.NewInt(18)},
		{power(255), big.NewInt(19)},
		{less(power(256), 39), less(prime(), 1)},
		{less(power(256), 38), big.NewInt(0)},
		{less(power(256), 1), big.NewInt(37)},
	} {
		expect(t, "Canon of "+c.of.String(), field.Canon(key(c.of)), c.want)
	}
}

func TestLowestByteComesFirst(t *testing.T) {
	a, b := api.Key{0: 0xff, 1: 2, 31: 1}, api.Key{0: 1}
	if got := field.Add(a, b); got != (api.Key{0: 0, 1: 3, 31: 1}) {
		t.Errorf("the carry went to %x", got)
	}
}

func TestZeroIsOfThreeNumbersAlone(t *testing.T) {
	for _, a := range all() {
		want := left(number(a)).Sign() == 0
		if got := field.Zero(a); got != want {
			t.Errorf("Zero of %x: %v", a, got)
		}
	}
	for _, n := range []*big.Int{big.NewInt(0), prime(), new(big.Int).Lsh(prime(), 1)} {
		if !field.Zero(key(n)) {
			t.Errorf("Zero of %v: false", n)
		}
	}
}

// P1.2

func TestAddSubMulAgainstBig(t *testing.T) {
	firsts := all()
	for i, a := range firsts {
		seconds := append(few(), a, firsts[(7*i+3)%len(firsts)])
		for _, b := range seconds {
			x, y := number(a), number(b)
			expect(t, "Add", field.Add(a, b), left(new(big.Int).Add(x, y)))
			expect(t, "Sub", field.Sub(a, b), left(new(big.Int).Sub(x, y)))
			expect(t, "Mul", field.Mul(a, b), left(new(big.Int).Mul(x, y)))
		}
	}
}

func TestExamplesOfTheChapter(t *testing.T) {
	last := less(prime(), 1)
	half := new(big.Int).Rsh(less(prime(), -1), 1)
	expect(t, "Add(p - 1, 2)", field.Add(key(last), small(2)), big.NewInt(1))
	expect(t, "Sub(0, 1)", field.Sub(small(0), small(1)), last)
	expect(t, "Mul(2^254, 2)", field.Mul(key(power(254)), small(2)), big.NewInt(19))
	expect(t, "Inv(2)", field.Inv(small(2)), half)
	expect(t, "Canon(p)", field.Canon(key(prime())), big.NewInt(0))
	if !field.Zero(key(prime())) {
		t.Error("Zero(p): false")
	}
}

// P1.3

func TestInvAgainstBig(t *testing.T) {
	for _, a := range all() {
		x := left(number(a))
		want := new(big.Int)
		if x.Sign() != 0 {
			want.ModInverse(x, prime())
		}
		expect(t, "Inv", field.Inv(a), want)
	}
}

func TestInvOfNoughtIsNought(t *testing.T) {
	for _, n := range []*big.Int{big.NewInt(0), prime(), new(big.Int).Lsh(prime(), 1)} {
		expect(t, "Inv of "+n.String(), field.Inv(key(n)), big.NewInt(0))
	}
}

// P1.4

func TestLawsOfTwo(t *testing.T) {
	for _, a := range all() {
		for _, b := range few() {
			if field.Add(a, b) != field.Add(b, a) || field.Mul(a, b) != field.Mul(b, a) {
				t.Errorf("%x, %x: the order tells", a, b)
			}
			if field.Add(field.Sub(a, b), b) != field.Canon(a) || field.Sub(field.Add(a, b), b) != field.Canon(a) {
				t.Errorf("%x, %x: Add does not undo Sub", a, b)
			}
		}
	}
}

func TestLawsOfThree(t *testing.T) {
	l := few()
	for _, a := range l {
		for _, b := range l {
			for _, c := range l {
				if field.Add(field.Add(a, b), c) != field.Add(a, field.Add(b, c)) {
					t.Errorf("%x, %x, %x: Add", a, b, c)
				}
				if field.Mul(field.Mul(a, b), c) != field.Mul(a, field.Mul(b, c)) {
					t.Errorf("%x, %x, %x: Mul", a, b, c)
				}
				if field.Mul(a, field.Add(b, c)) != field.Add(field.Mul(a, b), field.Mul(a, c)) {
					t.Errorf("%x, %x, %x: a product of a sum", a, b, c)
				}
			}
		}
	}
}

// P1.5

func TestInverse(t *testing.T) {
	for _, a := range all() {
		b := field.Inv(a)
		if !field.Zero(a) && field.Mul(a, b) != small(1) {
			t.Errorf("%x times its inverse is %x", a, field.Mul(a, b))
		}
		if field.Inv(b) != field.Canon(a) {
			t.Errorf("the inverse of the inverse of %x is %x", a, field.Inv(b))
		}
	}
}

// P1.6

// sameLeft tells all keys that leave what a leaves: two, or three of the lowest numbers.
func sameLeft(a api.Key) []api.Key {
	var l []api.Key
	for n := left(number(a)); n.BitLen() <= 256; n = new(big.Int).Add(n, prime()) {
		l = append(l, key(n))
	}
	return l
}

func TestKeysThatLeaveTheSameAreAlike(t *testing.T) {
	for _, a := range all() {
		for _, same := range sameLeft(a) {
			if field.Canon(same) != field.Canon(a) || field.Zero(same) != field.Zero(a) || field.Inv(same) != field.Inv(a) {
				t.Errorf("%x and %x are told apart", a, same)
			}
		}
	}
}

func TestPairsThatLeaveTheSameAreAlike(t *testing.T) {
	for _, a := range few() {
		for _, b := range few() {
			for _, x := range sameLeft(a) {
				for _, y := range sameLeft(b) {
					if field.Add(x, y) != field.Add(a, b) || field.Sub(x, y) != field.Sub(a, b) || field.Mul(x, y) != field.Mul(a, b) {
						t.Errorf("%x, %x and %x, %x are told apart", a, b, x, y)
					}
				}
			}
		}
	}
}

// R4: nothing is kept, so that what was asked between does not tell.

func TestNothingIsKept(t *testing.T) {
	for _, a := range few() {
		for _, b := range few() {
			before := [...]api.Key{field.Canon(a), field.Add(a, b), field.Sub(a, b), field.Mul(a, b)}
			field.Inv(b)
			field.Mul(b, b)
			after := [...]api.Key{field.Canon(a), field.Add(a, b), field.Sub(a, b), field.Mul(a, b)}
			if before != after {
				t.Errorf("%x, %x: other answers the second time", a, b)
			}
		}
	}
}
