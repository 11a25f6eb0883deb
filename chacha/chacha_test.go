package chacha_test

import (
	"bytes"
	"crypto/sha256"
	"encoding/binary"
	"encoding/hex"
	"math"
	"math/rand/v2"
	"slices"
	"testing"

	"pigeonry/api"
	"pigeonry/chacha"
)

// The tests hold the calls against the RFC's examples, against what OpenSSL
// answers, written down here, and against known, which does what the chapter
// says word for word, and shares no code with the package.

const (
	most      = 65536        // bytes of a stream
	lastCount = 1<<32 - 1    // of a block
	blockSize = 64           // bytes of a block
	blocks    = most / 64    // of the longest stream
	whole     = 1<<32 - 1024 // the last count that the longest stream begins at
)

// quarters are the places of a double round's words, as the chapter lists them.
var quarters = [8][4]int{
	{0, 4, 8, 12}, {1, 5, 9, 13}, {2, 6, 10, 14}, {3, 7, 11, 15},
	{0, 5, 10, 15}, {1, 6, 11, 12}, {2, 7, 8, 13}, {3, 4, 9, 14},
}

// turned tells the low 32 bits of a word, turned left by n of them.
func turned(x uint64, n int) uint64 {
	x %= 1 << 32
	return x<<n%(1<<32) + x>>(32-n)
}

// known tells a block. Its words have more bits than they need, and lose them
// where they are turned or told.
func known(key api.Key, n chacha.Nonce, count uint32) []byte {
	first := []byte("expand 32-byte k")
	first = append(first, key[:]...)
	first = binary.LittleEndian.AppendUint32(first, count)
	first = append(first, n[:]...)
	var w [16]uint64
	for i := range w {
		w[i] = uint64(binary.LittleEndian.Uint32(first[4*i:]))
	}
	for i := range 10 * len(quarters) {
		q := quarters[i%len(quarters)]
		for _, by := range [2][2]int{{16, 12}, {8, 7}} {
			w[q[0]] += w[q[1]]
			w[q[3]] = turned(w[q[3]]^w[q[0]], by[0])
			w[q[2]] += w[q[3]]
			w[q[1]] = turned(w[q[1]]^w[q[2]], by[1])
		}
	}
	var b []byte
	for i, x := range w {
		b = binary.LittleEndian.AppendUint32(b, uint32(x)+binary.LittleEndian.Uint32(first[4*i:]))
	}
	return b
}

// knownStream tells so many bytes of known blocks.
func knownStream(key api.Key, n chacha.Nonce, count uint32, size int) []byte {
	var s []byte
	for i := 0; len(s) < size; i++ {
		s = append(s, known(key, n, count+uint32(i))...)
	}
	return s[:size]
}

// stream fails unless as many bytes as asked for are answered.
func stream(t *testing.T, key api.Key, n chacha.Nonce, count uint32, size int) []byte {
	t.Helper()
	s, e := chacha.Stream(key, n, count, size)
	if e != api.OK || len(s) != size {
		t.Fatalf("from %d, %d bytes: %d of them, error %d", count, size, len(s), e)
	}
	return s
}

// xor fails unless as many bytes as were handed in are answered.
func xor(t *testing.T, key api.Key, n chacha.Nonce, count uint32, b []byte) []byte {
	t.Helper()
	x, e := chacha.Xor(key, n, count, b)
	if e != api.OK || len(x) != len(b) {
		t.Fatalf("from %d, %d bytes: %d of them, error %d", count, len(b), len(x), e)
	}
	return x
}

// both tells bytes, each xor that of others at its place.
func both(a, b []byte) []byte {
	x := make([]byte, len(a))
	for i := range a {
		x[i] = a[i] ^ b[i]
	}
	return x
}

// scattered tells n bytes of all kinds, always the same ones.
func scattered(n int) []byte {
	source := rand.New(rand.NewPCG(5, uint64(n)))
	b := make([]byte, n)
	for i := range b {
		b[i] = byte(source.Uint32())
	}
	return b
}

// some tells one of some keys, nonces and counts of all kinds.
func some(i int) (api.Key, chacha.Nonce, uint32) {
	b := scattered(1000 + i)
	return api.Key(b[:32]), chacha.Nonce(b[32:44]), binary.LittleEndian.Uint32(b[44:48])
}

// keyUp and nonceUp tell bytes from first on, each greater by one than that ahead of it.
func keyUp(first byte) (k api.Key) {
	for i := range k {
		k[i] = first + byte(i)
	}
	return k
}

func nonceUp(first byte) (n chacha.Nonce) {
	for i := range n {
		n[i] = first + byte(i)
	}
	return n
}

func keyOf(value byte) api.Key        { return api.Key(bytes.Repeat([]byte{value}, 32)) }
func nonceOf(value byte) chacha.Nonce { return chacha.Nonce(bytes.Repeat([]byte{value}, 12)) }

func fromHex(t *testing.T, s string) []byte {
	t.Helper()
	b, err := hex.DecodeString(s)
	if err != nil {
		t.Fatal(err)
	}
	return b
}

// P5.1

func TestBlockOfTheRFC(t *testing.T) {
	for _, c := range []struct {
		key   api.Key
		nonce chacha.Nonce
		count uint32
		want  string
	}{
		// Section 2.3.2, the first block of 2.4.2, and the five of A.1.
		{keyUp(0), chacha.Nonce{3: 9, 7: 0x4a}, 1, "10f1e7e4d13b5915500fdd1fa32071c4c7d1f4c733c068030422aa9ac3d46c4ed2826446079faa0914c2d705d98b02a2b5129cd1de164eb9cbd083e8a2503c4e"},
		{keyUp(0), chacha.Nonce{7: 0x4a}, 1, "224f51f3401bd9e12fde276fb8631ded8c131f823d2c06e27e4fcaec9ef3cf788a3b0aa372600a92b57974cded2b9334794cba40c63e34cdea212c4cf07d41b7"},
		{api.Key{}, chacha.Nonce{}, 0, "76b8e0ada0f13d90405d6ae55386bd28bdd219b8a08ded1aa836efcc8b770dc7da41597c5157488d7724e03fb8d84a376a43b8f41518a11cc387b669b2ee6586"},
		{api.Key{}, chacha.Nonce{}, 1, "9f07e7be5551387a98ba977c732d080dcb0f29a048e3656912c6533e32ee7aed29b721769ce64e43d57133b074d839d531ed1f28510afb45ace10a1f4b794d6f"},
		{api.Key{31: 1}, chacha.Nonce{}, 1, "3aeb5224ecf849929b9d828db1ced4dd832025e8018b8160b82284f3c949aa5a8eca00bbb4a73bdad192b5c42f73f2fd4e273644c8b36125a64addeb006c13a0"},
		{api.Key{1: 255}, chacha.Nonce{}, 2, "72d54dfbf12ec44b362692df94137f328fea8da73990265ec1bbbea1ae9af0ca13b25aa26cb4a648cb9b9d1be65b2c0924a66c54d545ec1b7374f4872e99f096"},
		{api.Key{}, chacha.Nonce{11: 2}, 0, "c2c64d378cd536374ae204b9ef933fcd1a8b2288b3dfa49672ab765b54ee27c78a970e0e955c14f3a88e741b97c286f75f8fc299e8148362fa198a39531bed6d"},
		// OpenSSL's, of counts with all their bytes.
		{keyOf(255), nonceOf(255), lastCount, "d72b21cfa4b6b0c41d61f62b8a11159c6a4f63bc56c2035796c7ad37811121bbec56d54a530f3a933dd28a50feb23bfaf64f405be985f3718bdf4683e96be749"},
		{keyUp(0x80), nonceUp(0x40), 1 << 31, "91c4a151c556a2c27e265eaf08f9ecab5284ea1cf41c2c3a49ddc72e54fc6be97d302a773fd074a71ccc3e77d6417b83eb601acb192e78f2609548a5835740f8"},
		{keyUp(1), nonceUp(101), 0x01020304, "4272d898fe3e1af7873b64903e0046361e96f6b51e49dbe305c867c1f14b95bec9cfffd4c7919af2c168daebaeeda2c70bdcb19af25636aaad33ec884993eaa9"},
	} {
		got := chacha.Block(c.key, c.nonce, c.count)
		if hex.EncodeToString(got[:]) != c.want {
			t.Errorf("by %x, %x, %d: %x, not %s", c.key, c.nonce, c.count, got, c.want)
		}
		if hex.EncodeToString(known(c.key, c.nonce, c.count)) != c.want {
			t.Errorf("known is wrong by %x, %x, %d", c.key, c.nonce, c.count)
		}
	}
}

// isKnown fails unless the block is the known one.
func isKnown(t *testing.T, key api.Key, n chacha.Nonce, count uint32) [64]byte {
	t.Helper()
	got := chacha.Block(key, n, count)
	if want := known(key, n, count); !slices.Equal(got[:], want) {
		t.Errorf("by %x, %x, %d: %x, not %x", key, n, count, got, want)
	}
	return got
}

func TestBlockOfAllKinds(t *testing.T) {
	for i := range 500 {
		isKnown(t, api.Key(scattered(32 + i)[i:]), chacha.Nonce(scattered(12 + i)[i:]), uint32(i)*0x01234567)
	}
	for _, key := range []api.Key{{}, {1}, keyOf(128), keyOf(255)} {
		for _, n := range []chacha.Nonce{{}, {1}, nonceOf(128), nonceOf(255)} {
			for _, count := range []uint32{0, 1, 255, 256, 1<<16 - 1, 1 << 16, 1 << 24, 1<<31 - 1, 1 << 31, lastCount - 1, lastCount} {
				isKnown(t, key, n, count)
			}
		}
	}
}

func TestBlockTellsEachBit(t *testing.T) {
	key, n, count := some(1)
	seen := map[[64]byte]string{isKnown(t, key, n, count): "none"}
	isNew := func(b [64]byte, what string, bit int) {
		t.Helper()
		if like, ok := seen[b]; ok {
			t.Errorf("%s's bit %d turned: it is that of %s", what, bit, like)
		}
		seen[b] = what
	}
	for bit := range 8 * len(key) {
		k := key
		k[bit/8] ^= 1 << (bit % 8)
		isNew(isKnown(t, k, n, count), "key", bit)
	}
	for bit := range 8 * len(n) {
		m := n
		m[bit/8] ^= 1 << (bit % 8)
		isNew(isKnown(t, key, m, count), "nonce", bit)
	}
	for bit := range 32 {
		isNew(isKnown(t, key, n, count^1<<bit), "count", bit)
	}
}

func TestBlockKeepsNothing(t *testing.T) {
	key, n, count := some(2)
	first := chacha.Block(key, n, count)
	clear(first[:])
	other, m, c := some(3)
	chacha.Block(other, m, c)
	isKnown(t, key, n, count)
}

// P5.2

func TestStreamOfEachSize(t *testing.T) {
	key, n, count := some(4)
	want := knownStream(key, n, count, 700)
	for size := range want {
		if got := stream(t, key, n, count, size); !slices.Equal(got, want[:size]) {
			t.Errorf("%d bytes: %x", size, got)
		}
	}
}

func TestStreamIsBlocks(t *testing.T) {
	key, n, _ := some(5)
	for _, count := range []uint32{0, 1, 254, 1<<16 - 2, 1<<31 - 2, 1 << 31, lastCount - 4} {
		got := stream(t, key, n, count, 5*blockSize)
		for i := range uint32(5) {
			b := chacha.Block(key, n, count+i)
			if !slices.Equal(got[blockSize*i:blockSize*(i+1)], b[:]) {
				t.Errorf("from %d: block %d is another one", count, i)
			}
		}
	}
}

// The digests are those of what OpenSSL answers.
func TestTheLongestStream(t *testing.T) {
	for _, c := range []struct {
		key   api.Key
		nonce chacha.Nonce
		count uint32
		want  string
	}{
		{api.Key{}, chacha.Nonce{}, 0, "7fa8aa6c7eb97ac15922d5ae8adac5a228a4d2386a76f148d1407ad876b889da"},
		{keyUp(0), nonceUp(0), 1, "febd063d10280503126cfc318b675bad737317df84bd79f03932cbfbc9b95d48"},
		{keyOf(255), nonceOf(255), whole, "671b3cf64ff321088bdf7d16467f51ea42124c84007d4a8b1397ad4c7135d1e4"},
		{keyUp(0x80), nonceUp(0x40), 1<<31 - 512, "9e3fd538432997d6b9c89f6f0a297d0fea951a42527e5a6a35c4932e12d75653"},
		{keyUp(200), nonceUp(250), 0xff80, "7021ba73feb8f0a439da11df9fd7a4a63ac342aca2e59dbff93e21f9ef714e36"},
	} {
		s := sha256.Sum256(stream(t, c.key, c.nonce, c.count, most))
		x := sha256.Sum256(xor(t, c.key, c.nonce, c.count, make([]byte, most)))
		if hex.EncodeToString(s[:]) != c.want || x != s {
			t.Errorf("from %d: %x and %x, not %s", c.count, s, x, c.want)
		}
	}
}

func TestStreamRefusesSizesBelow0(t *testing.T) {
	key, n, _ := some(6)
	for _, size := range []int{-1, -2, -63, -64, -65, -most, -most - 1, math.MinInt32, math.MinInt} {
		for _, count := range []uint32{0, 1, 1 << 31, lastCount} {
			if s, e := chacha.Stream(key, n, count, size); s != nil || e != api.ErrArg {
				t.Errorf("from %d, %d bytes: %d of them, error %d", count, size, len(s), e)
			}
		}
	}
}

func TestStreamRefusesGreatSizes(t *testing.T) {
	key, n, _ := some(7)
	for _, size := range []int{most + 1, most + 2, most + 63, most + 64, 1 << 20, 1<<31 - 1, math.MaxInt - 63, math.MaxInt - 62, math.MaxInt} {
		for _, count := range []uint32{0, 1, 1 << 31, whole, lastCount} {
			if s, e := chacha.Stream(key, n, count, size); s != nil || e != api.ErrBig {
				t.Errorf("from %d, %d bytes: %d of them, error %d", count, size, len(s), e)
			}
		}
	}
}

func TestXorRefusesManyBytes(t *testing.T) {
	key, n, _ := some(8)
	for _, size := range []int{most + 1, most + 64, 1 << 20} {
		for _, count := range []uint32{0, whole, lastCount} {
			if x, e := chacha.Xor(key, n, count, make([]byte, size)); x != nil || e != api.ErrBig {
				t.Errorf("from %d, %d bytes: %d of them, error %d", count, size, len(x), e)
			}
		}
	}
	// What counts is how many bytes there are, not for how many there is room.
	if b := make([]byte, 10, most+1); !slices.Equal(xor(t, key, n, 0, b), knownStream(key, n, 0, 10)) {
		t.Error("10 bytes, with room behind them: they are others")
	}
}

// edge fails unless both calls take so many bytes, and refuse one more.
func edge(t *testing.T, count uint32, size int) {
	t.Helper()
	key, n, _ := some(9)
	want := knownStream(key, n, count, size)
	b := scattered(size + 1)
	if got := stream(t, key, n, count, size); !slices.Equal(got, want) {
		t.Errorf("from %d, %d bytes: they are others", count, size)
	}
	if got := xor(t, key, n, count, b[:size]); !slices.Equal(got, both(b[:size], want)) {
		t.Errorf("from %d, xor %d bytes: they are others", count, size)
	}
	if s, e := chacha.Stream(key, n, count, size+1); s != nil || e != api.ErrBig {
		t.Errorf("from %d, %d bytes: %d of them, error %d", count, size+1, len(s), e)
	}
	if x, e := chacha.Xor(key, n, count, b); x != nil || e != api.ErrBig {
		t.Errorf("from %d, xor %d bytes: %d of them, error %d", count, size+1, len(x), e)
	}
}

func TestAsManyBytesAsThereAreCounts(t *testing.T) {
	for _, left := range []uint32{1, 2, 3, 4, 5, 16, 100, blocks / 2, blocks - 2, blocks - 1, blocks} {
		edge(t, lastCount-left+1, blockSize*int(left))
	}
}

func TestAsManyBytesAsThereMayBe(t *testing.T) {
	for _, count := range []uint32{0, 1, 1 << 16, 1<<31 - 1, 1 << 31, whole - 1, whole} {
		edge(t, count, most)
	}
}

func TestEachSizeAtTheLastCounts(t *testing.T) {
	key, n, _ := some(10)
	for left := range 4 {
		count := lastCount - uint32(left)
		for size := range 6 * blockSize {
			want := api.OK
			if size > (left+1)*blockSize {
				want = api.ErrBig
			}
			s, e := chacha.Stream(key, n, count, size)
			x, f := chacha.Xor(key, n, count, make([]byte, size))
			if e != want || f != want {
				t.Errorf("from %d, %d bytes: errors %d and %d, not %d", count, size, e, f, want)
			}
			if !slices.Equal(s, x) {
				t.Errorf("from %d, %d bytes: the two are unlike", count, size)
			}
		}
	}
}

func TestNoBytes(t *testing.T) {
	key, n, _ := some(11)
	for _, count := range []uint32{0, 1, 1 << 31, lastCount} {
		stream(t, key, n, count, 0)
		for _, b := range [][]byte{nil, {}, scattered(5)[:0]} {
			xor(t, key, n, count, b)
		}
	}
}

func TestXorOfTheRFC(t *testing.T) {
	for _, c := range []struct {
		key   string
		nonce chacha.Nonce
		count uint32
		text  string
		want  string
	}{
		// Section 2.4.2, and the second and the third one of A.2.
		{
			"000102030405060708090a0b0c0d0e0f101112131415161718191a1b1c1d1e1f", chacha.Nonce{7: 0x4a}, 1,
			"Ladies and Gentlemen of the class of '99: If I could offer you only one tip for the future, sunscreen would be it.",
			"6e2e359a2568f98041ba0728dd0d6981e97e7aec1d4360c20a27afccfd9fae0bf91b65c5524733ab8f593dabcd62b3571639d624e65152ab8f530c359f0861d807ca0dbf500d6a6156a38e088a22b65e52bc514d16ccf806818ce91ab77937365af90bbf74a35be6b40b8eedf2785e42874d",
		},
		{
			"0000000000000000000000000000000000000000000000000000000000000001", chacha.Nonce{11: 2}, 1,
			"Any submission to the IETF intended by the Contributor for publication as all or part of an IETF Internet-Draft or RFC and any statement made within the context of an IETF activity is considered an \"IETF Contribution\". Such statements include oral statements in IETF sessions, as well as written and electronic communications made at any time or place, which are addressed to",
			"a3fbf07df3fa2fde4f376ca23e82737041605d9f4f4f57bd8cff2c1d4b7955ec2a97948bd3722915c8f3d337f7d370050e9e96d647b7c39f56e031ca5eb6250d4042e02785ececfa4b4bb5e8ead0440e20b6e8db09d881a7c6132f420e52795042bdfa7773d8a9051447b3291ce1411c680465552aa6c405b7764d5e87bea85ad00f8449ed8f72d0d662ab052691ca66424bc86d2df80ea41f43abf937d3259dc4b2d0dfb48a6c9139ddd7f76966e928e635553ba76c5c879d7b35d49eb2e62b0871cdac638939e25e8a1e0ef9d5280fa8ca328b351c3c765989cbcf3daa8b6ccc3aaf9f3979c92b3720fc88dc95ed84a1be059c6499b9fda236e7e818b04b0bc39c1e876b193bfe5569753f88128cc08aaa9b63d1a16f80ef2554d7189c411f5869ca52c5b83fa36ff216b9c1d30062bebcfd2dc5bce0911934fda79a86f6e698ced759c3ff9b6477338f3da4f9cd8514ea9982ccafb341b2384dd902f3d1ab7ac61dd29c6f21ba5b862f3730e37cfdc4fd806c22f221",
		},
		{
			"1c9240a5eb55d38af333888604f6b5f0473917c1402b80099dca5cbc207075c0", chacha.Nonce{11: 2}, 42,
			"'Twas brillig, and the slithy toves\nDid gyre and gimble in the wabe:\nAll mimsy were the borogoves,\nAnd the mome raths outgrabe.",
			"62e6347f95ed87a45ffae7426f27a1df5fb69110044c0d73118effa95b01e5cf166d3df2d721caf9b21e5fb14c616871fd84c54f9d65b283196c7fe4f60553ebf39c6402c42234e32a356b3e764312a61a5532055716ead6962568f87d3f3f7704c6a8d1bcd1bf4d50d6154b6da731b187b58dfd728afa36757a797ac188d1",
		},
	} {
		got := xor(t, api.Key(fromHex(t, c.key)), c.nonce, c.count, []byte(c.text))
		if hex.EncodeToString(got) != c.want {
			t.Errorf("of %q: %x", c.text, got)
		}
	}
}

func TestXorOfEachSize(t *testing.T) {
	key, n, count := some(12)
	want := knownStream(key, n, count, 300)
	for size := range want {
		for _, b := range [][]byte{scattered(size), make([]byte, size), bytes.Repeat([]byte{255}, size)} {
			if got := xor(t, key, n, count, b); !slices.Equal(got, both(b, want)) {
				t.Errorf("of %x: %x", b, got)
			}
		}
	}
}

func TestXorLeavesItsBytes(t *testing.T) {
	key, n, count := some(13)
	for _, size := range []int{0, 1, 63, 64, 65, 200} {
		// Behind the bytes stand others of the same memory, which are not Xor's either.
		room := scattered(size + 100)
		before := slices.Clone(room)
		got := xor(t, key, n, count, room[:size])
		want := slices.Clone(got)
		if !slices.Equal(room, before) {
			t.Errorf("%d bytes were changed", size)
		}
		clear(room)
		if !slices.Equal(got, want) {
			t.Errorf("%d bytes: what was answered has changed", size)
		}
	}
}

func TestWhatIsAnsweredIsNew(t *testing.T) {
	key, n, count := some(14)
	b := scattered(100)
	s, x := stream(t, key, n, count, 100), xor(t, key, n, count, b)
	clear(stream(t, key, n, count, 100))
	clear(xor(t, key, n, count, b))
	want := knownStream(key, n, count, 100)
	if !slices.Equal(s, want) || !slices.Equal(x, both(b, want)) {
		t.Error("what was answered has changed")
	}
	clear(s)
	clear(x)
	if !slices.Equal(stream(t, key, n, count, 100), want) || !slices.Equal(xor(t, key, n, count, b), both(b, want)) {
		t.Error("the second time it is another one")
	}
}

func TestAnErrorIsForgotten(t *testing.T) {
	key, n, _ := some(15)
	chacha.Stream(key, n, lastCount, 65)
	chacha.Stream(key, n, 0, -1)
	chacha.Xor(key, n, 0, make([]byte, most+1))
	if got := stream(t, key, n, lastCount, 64); !slices.Equal(got, known(key, n, lastCount)) {
		t.Errorf("behind errors: %x", got)
	}
}

// P5.3

func TestXorOfXorIsWhatWasAtFirst(t *testing.T) {
	for i := range 300 {
		key, n, count := some(i)
		b := scattered(i)
		if got := xor(t, key, n, count, xor(t, key, n, count, b)); !slices.Equal(got, b) {
			t.Errorf("%x: it is %x", b, got)
		}
	}
	key, n, _ := some(16)
	for _, count := range []uint32{0, 1 << 31, whole} {
		for _, size := range []int{most - 1, most} {
			b := scattered(size)
			if got := xor(t, key, n, count, xor(t, key, n, count, b)); !slices.Equal(got, b) {
				t.Errorf("%d bytes from %d are not what they were", size, count)
			}
		}
	}
}

// P5.4

func TestAStreamFromAWholeBlockOn(t *testing.T) {
	for i := range 20 {
		key, n, count := some(i)
		all := stream(t, key, n, count, 1000)
		for skipped := range 16 {
			rest := all[skipped*blockSize:]
			if got := stream(t, key, n, count+uint32(skipped), len(rest)); !slices.Equal(got, rest) {
				t.Errorf("from %d, %d blocks on: it is another one", count, skipped)
			}
		}
	}
}

func TestPartsOfTheLongestStream(t *testing.T) {
	key, n, _ := some(17)
	b := scattered(most)
	for _, count := range []uint32{0, 1<<31 - 100, whole} {
		all, turned := stream(t, key, n, count, most), xor(t, key, n, count, b)
		for _, skipped := range []int{1, 2, 255, 256, 257, 511, 512, blocks - 1, blocks} {
			at, from := skipped*blockSize, count+uint32(skipped)
			if from < count {
				// There is no count behind the last block: no bytes are left to ask for.
				continue
			}
			if got := stream(t, key, n, from, most-at); !slices.Equal(got, all[at:]) {
				t.Errorf("from %d, %d blocks on: it is another stream", count, skipped)
			}
			if got := xor(t, key, n, from, b[at:]); !slices.Equal(got, turned[at:]) {
				t.Errorf("from %d, %d blocks on: the bytes are turned to others", count, skipped)
			}
		}
	}
}
