package packet_test

import (
	"crypto/hkdf"
	"crypto/sha256"
	"encoding/hex"
	"math/rand/v2"
	"slices"
	"testing"

	"pigeonry/api"
	"pigeonry/chacha"
	"pigeonry/command"
	"pigeonry/curve"
	"pigeonry/header"
	"pigeonry/lion"
)

// What a packet has to be, made from the chapter's words by crypto/hkdf and the
// layers below. What is written down in written_test.go was made without these.

// bytesOf tells so many bytes of hexadecimal digits.
func bytesOf(t *testing.T, digits string, size int) []byte {
	t.Helper()
	b, err := hex.DecodeString(digits)
	if err != nil || len(b) != size {
		t.Fatalf("%s are not %d bytes", digits, size)
	}
	return b
}

// keyOf tells the key of hexadecimal digits.
func keyOf(t *testing.T, digits string) api.Key {
	t.Helper()
	return api.Key(bytesOf(t, digits, 32))
}

func derive(t *testing.T, s api.Key, label string) api.Key {
	t.Helper()
	b, err := hkdf.Expand(sha256.New, s[:], "pigeonry "+label, 32)
	if err != nil {
		t.Fatal(err)
	}
	return api.Key(b)
}

func layerOf(t *testing.T, s api.Key) api.Key {
	t.Helper()
	return derive(t, s, "pi")
}

func tagOf(t *testing.T, s api.Key) api.Tag {
	t.Helper()
	k := derive(t, s, "tau")
	return api.Tag(k[:16])
}

// locked fails unless lion locks the block.
func locked(t *testing.T, key api.Key, b []byte) []byte {
	t.Helper()
	x, e := lion.Lock(key, b)
	if e != api.OK {
		t.Fatalf("%d bytes are not locked: error %d", len(b), e)
	}
	return x
}

// unlocked fails unless lion unlocks the block.
func unlocked(t *testing.T, key api.Key, b []byte) []byte {
	t.Helper()
	x, e := lion.Unlock(key, b)
	if e != api.OK {
		t.Fatalf("%d bytes are not unlocked: error %d", len(b), e)
	}
	return x
}

// bodyOf tells the body of a room.
func bodyOf(room []byte) []byte { return append(make([]byte, 16), room...) }

// known is the packets that a route's hops get, from the first one to the last
// one, and the secrets that are shared with these.
type known struct {
	packets [][]byte
	secrets []api.Key
}

// knownOf tells what a route's packets have to be: of each hop the header that
// leads to it, and the room's body, locked by it and all hops behind it.
func knownOf(t *testing.T, r route, room []byte) known {
	t.Helper()
	h, s, e := header.Build(r.secret, r.hops)
	if e != api.OK {
		t.Fatalf("%d hops: no header: error %d", len(r.hops), e)
	}
	x := known{secrets: s}
	for i, own := range r.own {
		b := bodyOf(room)
		for j := len(s) - 1; j >= i; j-- {
			b = locked(t, layerOf(t, s[j]), b)
		}
		x.packets = append(x.packets, append(header.Encode(h), b...))
		step, e := header.Unwrap(own, h)
		if e != api.OK {
			t.Fatalf("%d hops: %d finds nothing: error %d", len(r.hops), i, e)
		}
		h = step.Next
	}
	return x
}

// laid tells a packet in which one who has that secret finds 16 bytes of a
// command, noughts as the next gamma, and that body; and the shared secret.
func laid(t *testing.T, own, alpha api.Key, first, body []byte) ([]byte, api.Key) {
	t.Helper()
	s, e := curve.Shared(own, alpha)
	if e != api.OK {
		t.Fatalf("%x by %x: no secret: error %d", alpha, own, e)
	}
	beta, e := chacha.Stream(derive(t, s, "rho"), chacha.Nonce{}, 0, 160)
	if e != api.OK {
		t.Fatalf("no stream: error %d", e)
	}
	for i, b := range first {
		beta[i] ^= b
	}
	proof := header.Proof(s, header.Beta(beta))
	return slices.Concat(alpha[:], beta, proof[:], locked(t, layerOf(t, s), body)), s
}

// commandBytes tells the bytes of a command that may be.
func commandBytes(t *testing.T, c command.Command) []byte {
	t.Helper()
	b, e := command.Encode(c)
	if e != api.OK {
		t.Fatalf("%+v has no bytes: error %d", c, e)
	}
	return b[:]
}

// Routes and rooms

// newSource tells a source of numbers that are always the same ones.
func newSource(n uint64) *rand.Rand { return rand.New(rand.NewPCG(11, n)) }

// some tells n bytes of all kinds.
func some(source *rand.Rand, n int) []byte {
	b := make([]byte, n)
	for i := range b {
		b[i] = byte(source.Uint32())
	}
	return b
}

func someKey(source *rand.Rand) api.Key { return api.Key(some(source, 32)) }

// someRooms tells rooms of noughts, of other bytes, and of bytes of all kinds.
func someRooms(source *rand.Rand) [][]byte {
	counted := make([]byte, 512)
	for i := range counted {
		counted[i] = byte(i)
	}
	l := [][]byte{make([]byte, 512), slices.Repeat([]byte{255}, 512), counted}
	for _, at := range []int{0, 15, 16, 31, 511} {
		room := make([]byte, 512)
		room[at] = 1
		l = append(l, room)
	}
	return append(l, bodyOf(some(source, 496)), some(source, 512), some(source, 512))
}

// forwards tells commands of hops that send on, those at the limits among them.
func forwards() []command.Command {
	return []command.Command{
		{Kind: command.Forward}, {Kind: command.Forward, Next: 15, Delay: 64},
		{Kind: command.Forward, Next: 3, Delay: 10},
	}
}

// lasts tells commands of last hops, likewise.
func lasts() []command.Command {
	return []command.Command{
		{Kind: command.Deliver}, {Kind: command.Deliver, Next: 7}, {Kind: command.Drop},
		{Kind: command.Reply}, {Kind: command.Reply, Next: 7, Id: command.Id{1, 2, 3, 4, 5, 6, 7, 255}},
	}
}

// route is a sender's secret, hops, and the secrets that belong to their keys.
type route struct {
	secret api.Key
	own    []api.Key
	hops   []header.Hop
}

// someRoute tells a route of n hops, of which the last one has that command.
func someRoute(source *rand.Rand, n int, last command.Command) route {
	r := route{secret: someKey(source)}
	for i := range n {
		own, cmd := someKey(source), forwards()[source.IntN(len(forwards()))]
		if i == n-1 {
			cmd = last
		}
		r.own = append(r.own, own)
		r.hops = append(r.hops, header.Hop{Key: curve.Public(own), Cmd: cmd})
	}
	return r
}

// someRoutes tells a route of each number of hops and each command of last ones.
func someRoutes(seed uint64) []route {
	source := newSource(seed)
	var l []route
	for n := 1; n <= 5; n++ {
		for _, last := range lasts() {
			l = append(l, someRoute(source, n, last))
		}
	}
	return l
}

// with tells hops of which one is another.
func with(hops []header.Hop, at int, hop header.Hop) []header.Hop {
	l := slices.Clone(hops)
	l[at] = hop
	return l
}

// withBit tells bytes of which one bit is turned.
func withBit(b []byte, bit int) []byte {
	x := slices.Clone(b)
	x[bit/8] ^= 1 << (bit % 8)
	return x
}
