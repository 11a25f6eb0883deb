package header_test

import (
	"crypto/ecdh"
	"crypto/hkdf"
	"crypto/hmac"
	"crypto/sha256"
	"encoding/binary"
	"encoding/hex"
	"math/big"
	"math/rand/v2"
	"slices"
	"testing"

	"pigeonry/api"
	"pigeonry/chacha"
	"pigeonry/command"
	"pigeonry/header"
)

// What a header has to be, made from the chapter's words by crypto/ecdh,
// crypto/hkdf and crypto/hmac. The streams are the project's own chacha's: what
// is written down in written_test.go has those of OpenSSL.

// keyOf tells the key of hexadecimal digits.
func keyOf(t *testing.T, digits string) api.Key {
	t.Helper()
	return api.Key(bytesOf(t, digits, 32))
}

// bytesOf tells so many bytes of hexadecimal digits.
func bytesOf(t *testing.T, digits string, size int) []byte {
	t.Helper()
	b, err := hex.DecodeString(digits)
	if err != nil || len(b) != size {
		t.Fatalf("%s are not %d bytes", digits, size)
	}
	return b
}

// headerOf tells the header of hexadecimal digits.
func headerOf(t *testing.T, digits string) header.Header {
	t.Helper()
	return split(bytesOf(t, digits, 208))
}

// split tells the header of 208 bytes.
func split(b []byte) header.Header {
	return header.Header{Alpha: api.Key(b[:32]), Beta: header.Beta(b[32:192]), Gamma: api.Tag(b[192:])}
}

// plus tells 2^255 - 19 + n as a key, the lowest byte first.
func plus(n int64) api.Key {
	p := new(big.Int).Lsh(big.NewInt(1), 255)
	k := api.Key(p.Add(p, big.NewInt(n-19)).FillBytes(make([]byte, 32)))
	slices.Reverse(k[:])
	return k
}

func withTop(k api.Key) api.Key {
	k[31] |= 128
	return k
}

// noughts tells all keys whose points leave nought times every scalar.
func noughts(t *testing.T) []api.Key {
	l := []api.Key{
		{}, {1}, plus(-1), plus(0), plus(1),
		keyOf(t, "e0eb7a7c3b41b8ae1656e3faf19fc46ada098deb9c32b1fd866205165f49b800"),
		keyOf(t, "5f9c95bca3508c24b1d0b1559c83ef5b04445cc4581c8e86d8224eddd09f1157"),
	}
	for _, k := range l {
		l = append(l, withTop(k))
	}
	return l
}

// product tells the point of a key times a secret; there is none, if that is nought.
func product(t *testing.T, secret, u api.Key) (api.Key, bool) {
	t.Helper()
	k, err := ecdh.X25519().NewPrivateKey(secret[:])
	if err != nil {
		t.Fatal(err)
	}
	point, err := ecdh.X25519().NewPublicKey(u[:])
	if err != nil {
		t.Fatal(err)
	}
	b, err := k.ECDH(point)
	if err != nil {
		return api.Key{}, false
	}
	return api.Key(b), true
}

// times tells the point of a key times a secret, which has to be some.
func times(t *testing.T, secret, u api.Key) api.Key {
	t.Helper()
	k, ok := product(t, secret, u)
	if !ok {
		t.Fatalf("%x times %x is nought", u, secret)
	}
	return k
}

func public(t *testing.T, secret api.Key) api.Key {
	t.Helper()
	return times(t, secret, api.Key{9})
}

func mac(key, b []byte) []byte {
	h := hmac.New(sha256.New, key)
	h.Write(b)
	return h.Sum(nil)
}

func derive(t *testing.T, s api.Key, label string) api.Key {
	t.Helper()
	b, err := hkdf.Expand(sha256.New, s[:], "pigeonry "+label, 32)
	if err != nil {
		t.Fatal(err)
	}
	return api.Key(b)
}

func proofOf(t *testing.T, s api.Key, beta []byte) api.Tag {
	t.Helper()
	k := derive(t, s, "mu")
	return api.Tag(mac(k[:], beta)[:16])
}

func tagOf(t *testing.T, s api.Key) api.Tag {
	t.Helper()
	k := derive(t, s, "tau")
	return api.Tag(k[:16])
}

func blindingOf(s, alpha api.Key) api.Key { return api.Key(mac(s[:], alpha[:])) }

func streamOf(t *testing.T, s api.Key) []byte {
	t.Helper()
	b, e := chacha.Stream(derive(t, s, "rho"), chacha.Nonce{}, 0, 192)
	if e != api.OK {
		t.Fatalf("no stream: error %d", e)
	}
	return b
}

// xored tells bytes, each xor that of others at its place.
func xored(a, b []byte) []byte {
	x := slices.Clone(a)
	for i := range b[:len(a)] {
		x[i] ^= b[i]
	}
	return x
}

// commandBytes tells the bytes of a command that may be.
func commandBytes(c command.Command) []byte {
	b := []byte{byte(c.Kind), byte(c.Next)}
	b = binary.BigEndian.AppendUint16(b, uint16(c.Delay))
	return slices.Concat(b, c.Id[:], make([]byte, 4))
}

// known is a route's header, what is shared with the hops, and the alphas and
// betas that they get.
type known struct {
	header  header.Header
	secrets []api.Key
	alphas  []api.Key
	betas   []header.Beta
}

// knownOf tells what a route's header has to be.
func knownOf(t *testing.T, secret api.Key, hops []header.Hop) known {
	t.Helper()
	n := len(hops)
	x := known{alphas: []api.Key{public(t, secret)}, betas: make([]header.Beta, n)}
	var blindings []api.Key
	for i, hop := range hops {
		s := times(t, secret, hop.Key)
		for _, b := range blindings {
			s = times(t, b, s)
		}
		x.secrets = append(x.secrets, s)
		blindings = append(blindings, blindingOf(s, x.alphas[i]))
		x.alphas = append(x.alphas, times(t, blindings[i], x.alphas[i]))
	}
	var f []byte
	for i := 1; i < n; i++ {
		f = xored(append(f, make([]byte, 32)...), streamOf(t, x.secrets[i-1])[192-32*i:])
	}
	b := make([]byte, 32*(6-n))
	copy(b, commandBytes(hops[n-1].Cmd))
	b = append(xored(b, streamOf(t, x.secrets[n-1])), f...)
	x.betas[n-1] = header.Beta(b)
	for i := n - 2; i >= 0; i-- {
		gamma := proofOf(t, x.secrets[i+1], b)
		b = xored(slices.Concat(commandBytes(hops[i].Cmd), gamma[:], b[:128]), streamOf(t, x.secrets[i]))
		x.betas[i] = header.Beta(b)
	}
	x.header = header.Header{Alpha: x.alphas[0], Beta: x.betas[0], Gamma: proofOf(t, x.secrets[0], b)}
	return x
}

// plain is what a hop finds: 16 bytes of a command, the next gamma and beta.
type plain [192]byte

// plainOf tells a plain of these first bytes, and of others behind them.
func plainOf(source *rand.Rand, first []byte) plain {
	p := plain(some(source, 192))
	copy(p[:], first)
	return p
}

// headed tells a header of that alpha by which one who has that secret finds
// the plain, but for its last block; and the shared secret.
func headed(t *testing.T, own, alpha api.Key, p plain) (header.Header, api.Key) {
	t.Helper()
	s := times(t, own, alpha)
	b := xored(p[:160], streamOf(t, s))
	return header.Header{Alpha: alpha, Beta: header.Beta(b), Gamma: proofOf(t, s, b)}, s
}

// stepOf tells what is found by a shared secret in a header that is right.
func stepOf(t *testing.T, s api.Key, h header.Header) header.Step {
	t.Helper()
	b := xored(append(slices.Clone(h.Beta[:]), make([]byte, 32)...), streamOf(t, s))
	cmd := command.Command{Kind: int(b[0]), Next: int(b[1]), Delay: int(b[3]), Id: command.Id(b[4:12])}
	alpha := times(t, blindingOf(s, h.Alpha), h.Alpha)
	next := header.Header{Alpha: alpha, Beta: header.Beta(b[32:]), Gamma: api.Tag(b[16:32])}
	return header.Step{Cmd: cmd, Next: next, Secret: s, Tag: tagOf(t, s)}
}

// Routes

// newSource tells a source of numbers that are always the same ones.
func newSource(n uint64) *rand.Rand { return rand.New(rand.NewPCG(10, n)) }

// some tells n bytes of all kinds.
func some(source *rand.Rand, n int) []byte {
	b := make([]byte, n)
	for i := range b {
		b[i] = byte(source.Uint32())
	}
	return b
}

func someKey(source *rand.Rand) api.Key { return api.Key(some(source, 32)) }

// someForward tells one of the commands of hops that send on.
func someForward(source *rand.Rand) command.Command {
	return command.Command{Kind: command.Forward, Next: source.IntN(16), Delay: source.IntN(65)}
}

// someLast tells one of the commands of last hops.
func someLast(source *rand.Rand) command.Command {
	switch source.IntN(3) {
	case 0:
		return command.Command{Kind: command.Deliver, Next: source.IntN(8)}
	case 1:
		return command.Command{Kind: command.Reply, Next: source.IntN(8), Id: command.Id(some(source, 8))}
	}
	return command.Command{Kind: command.Drop}
}

// route is a builder's secret, hops, and the secrets that belong to their keys.
type route struct {
	secret api.Key
	own    []api.Key
	hops   []header.Hop
}

// someRoute tells a route of n hops.
func someRoute(t *testing.T, source *rand.Rand, n int) route {
	t.Helper()
	r := route{secret: someKey(source)}
	for i := range n {
		own, cmd := someKey(source), someForward(source)
		if i == n-1 {
			cmd = someLast(source)
		}
		r.own = append(r.own, own)
		r.hops = append(r.hops, header.Hop{Key: public(t, own), Cmd: cmd})
	}
	return r
}

// someRoutes tells so many routes of each number of hops.
func someRoutes(t *testing.T, seed uint64, of int) []route {
	t.Helper()
	source := newSource(seed)
	var l []route
	for n := 1; n <= 5; n++ {
		for range of {
			l = append(l, someRoute(t, source, n))
		}
	}
	return l
}
