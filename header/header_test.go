package header_test

import (
	"math"
	"slices"
	"testing"

	"pigeonry/api"
	"pigeonry/command"
	"pigeonry/header"
)

// This would not be built, were a beta no array of 160 bytes.
var _ [160]byte = header.Beta{}

// build fails unless there is a header of the route, with as many secrets.
func build(t *testing.T, r route) (header.Header, []api.Key) {
	t.Helper()
	h, s, e := header.Build(r.secret, r.hops)
	if e != api.OK || len(s) != len(r.hops) {
		t.Fatalf("%d hops: %d secrets, error %d", len(r.hops), len(s), e)
	}
	return h, s
}

// built fails unless the route's header and secrets are what they have to be.
func built(t *testing.T, r route) {
	t.Helper()
	h, s := build(t, r)
	want := knownOf(t, r.secret, r.hops)
	if h != want.header {
		t.Errorf("%d hops: %x, not %x", len(r.hops), h, want.header)
	}
	if !slices.Equal(s, want.secrets) {
		t.Errorf("%d hops: the secrets are %x, not %x", len(r.hops), s, want.secrets)
	}
}

// unbuilt fails unless there is no header of these hops, for this reason.
func unbuilt(t *testing.T, secret api.Key, hops []header.Hop, want api.Errno) {
	t.Helper()
	h, s, e := header.Build(secret, hops)
	if e != want || h != (header.Header{}) || len(s) != 0 {
		t.Errorf("%+v: %x, %d secrets, error %d, not %d", hops, h, len(s), e, want)
	}
}

// found fails unless that step is found.
func found(t *testing.T, own api.Key, h header.Header, want header.Step) {
	t.Helper()
	if x, e := header.Unwrap(own, h); e != api.OK || x != want {
		t.Errorf("%x by %x: %+v, error %d, not %+v", h, own, x, e, want)
	}
}

// unfound fails unless nothing is found, for this reason.
func unfound(t *testing.T, own api.Key, h header.Header, want api.Errno) {
	t.Helper()
	if x, e := header.Unwrap(own, h); e != want || x != (header.Step{}) {
		t.Errorf("%x by %x: %+v, error %d, not %d", h, own, x, e, want)
	}
}

// with tells hops of which one is another.
func with(hops []header.Hop, at int, hop header.Hop) []header.Hop {
	l := slices.Clone(hops)
	l[at] = hop
	return l
}

// withBit tells bytes of which one bit is turned.
func withBit(b []byte, bit int) []byte {
	x := slices.Clone(b)
	x[bit/8] ^= 1 << (bit % 8)
	return x
}

// P10.1: what is built

func TestRoutesAreBuilt(t *testing.T) {
	for _, r := range someRoutes(t, 1, 8) {
		built(t, r)
	}
}

// Every secret will do for a builder, since the point 9 times it is never 0.
func TestSecretsOfAllKinds(t *testing.T) {
	r := someRoute(t, newSource(2), 3)
	ones := api.Key{}
	for i := range ones {
		ones[i] = 255
	}
	for _, r.secret = range append(noughts(t), ones, api.Key{7}, api.Key{8}, api.Key{31: 64}, api.Key{31: 128}) {
		built(t, r)
	}
}

// oddKeys tells keys of points that are small, of p or more, beside the curve,
// and of any bytes; with the highest bit and without.
func oddKeys() []api.Key {
	source := newSource(3)
	var l []api.Key
	for n := int64(2); n <= 18; n++ {
		l = append(l, api.Key{byte(n)}, withTop(api.Key{byte(n)}), plus(n), withTop(plus(n)), plus(-n))
	}
	for range 10 {
		l = append(l, someKey(source))
	}
	return l
}

func TestKeysOfAllKinds(t *testing.T) {
	r := someRoute(t, newSource(4), 2)
	for i, k := range oddKeys() {
		built(t, route{secret: r.secret, hops: with(r.hops, i%2, header.Hop{Key: k, Cmd: r.hops[i%2].Cmd})})
	}
}

// Keys of one point are alike at each place.
func TestKeysOfOnePoint(t *testing.T) {
	for n := 1; n <= 5; n++ {
		r := someRoute(t, newSource(5), n)
		for at := range n {
			r.hops[at].Key = api.Key{9}
			h, s := build(t, r)
			for _, k := range []api.Key{withTop(api.Key{9}), plus(9), withTop(plus(9))} {
				other := r
				other.hops = with(r.hops, at, header.Hop{Key: k, Cmd: r.hops[at].Cmd})
				if x, l := build(t, other); x != h || !slices.Equal(l, s) {
					t.Errorf("%d hops: with %x at %d it is another header", n, k, at)
				}
			}
		}
	}
}

// A node may stand on a route more than once, and does not share one secret twice.
func TestANodeTwice(t *testing.T) {
	r := someRoute(t, newSource(6), 5)
	for i := range r.hops {
		r.hops[i].Key = r.hops[0].Key
	}
	built(t, r)
	_, s := build(t, r)
	slices.SortFunc(s, func(a, b api.Key) int { return slices.Compare(a[:], b[:]) })
	if len(slices.Compact(s)) != 5 {
		t.Error("the node shares one secret twice")
	}
}

// lasts tells commands of last hops, those at the limits among them.
func lasts() []command.Command {
	return []command.Command{
		{Kind: command.Deliver}, {Kind: command.Deliver, Next: 7},
		{Kind: command.Reply}, {Kind: command.Reply, Next: 7, Id: command.Id{255, 255, 255, 255, 255, 255, 255, 255}},
		{Kind: command.Reply, Id: command.Id{7: 1}}, {Kind: command.Drop},
	}
}

// forwards tells commands of the hops ahead of last ones, likewise.
func forwards() []command.Command {
	return []command.Command{
		{Kind: command.Forward}, {Kind: command.Forward, Next: 15, Delay: 64},
		{Kind: command.Forward, Next: 15}, {Kind: command.Forward, Delay: 64},
	}
}

func TestCommandsAtTheLimits(t *testing.T) {
	for n := 1; n <= 5; n++ {
		r := someRoute(t, newSource(7), n)
		for _, cmd := range lasts() {
			r.hops[n-1].Cmd = cmd
			built(t, r)
		}
		for at := range n - 1 {
			for _, cmd := range forwards() {
				r.hops[at].Cmd = cmd
				built(t, r)
			}
		}
	}
}

// P10.1: what is refused

func TestNumbersOfHops(t *testing.T) {
	hop := header.Hop{Key: public(t, api.Key{5}), Cmd: command.Command{Kind: command.Forward}}
	last := header.Hop{Key: public(t, api.Key{6}), Cmd: command.Command{Kind: command.Drop}}
	for _, none := range [][]header.Hop{nil, {}, make([]header.Hop, 0, 5)} {
		unbuilt(t, api.Key{1}, none, api.ErrRoute)
	}
	for n := 1; n <= 40; n++ {
		hops := append(slices.Repeat([]header.Hop{hop}, n-1), last)
		if n <= 5 {
			built(t, route{secret: api.Key{1}, hops: hops})
			// What counts is how many hops there are, not for how many there is room.
			built(t, route{secret: api.Key{1}, hops: append(hops, last, last, last)[:n]})
		} else {
			unbuilt(t, api.Key{1}, hops, api.ErrRoute)
		}
	}
	unbuilt(t, api.Key{1}, append(slices.Repeat([]header.Hop{hop}, 65536+4), last), api.ErrRoute)
}

// Of all hops but the last one the command is Forward, and that of the last one is not.
func TestKindsAtEachPlace(t *testing.T) {
	for n := 1; n <= 5; n++ {
		r := someRoute(t, newSource(8), n)
		for at := range n {
			others := lasts()
			if at == n-1 {
				others = forwards()
			}
			for _, cmd := range others {
				unbuilt(t, r.secret, with(r.hops, at, header.Hop{Key: r.hops[at].Key, Cmd: cmd}), api.ErrRoute)
			}
		}
	}
	forward, drop := command.Command{Kind: command.Forward}, command.Command{Kind: command.Drop}
	k := public(t, api.Key{5})
	for n := 1; n <= 5; n++ {
		unbuilt(t, api.Key{1}, slices.Repeat([]header.Hop{{Key: k, Cmd: forward}}, n), api.ErrRoute)
		if n > 1 {
			unbuilt(t, api.Key{1}, slices.Repeat([]header.Hop{{Key: k, Cmd: drop}}, n), api.ErrRoute)
			turned := append([]header.Hop{{Key: k, Cmd: drop}}, slices.Repeat([]header.Hop{{Key: k, Cmd: forward}}, n-1)...)
			unbuilt(t, api.Key{1}, turned, api.ErrRoute)
		}
	}
}

// mayNot tells commands that may not be, of hops that send on and of others.
func mayNot() (sent, other []command.Command) {
	sent = []command.Command{
		{Kind: command.Forward, Next: 16}, {Kind: command.Forward, Next: -1},
		{Kind: command.Forward, Delay: 65}, {Kind: command.Forward, Delay: -1},
		{Kind: command.Forward, Next: 256}, {Kind: command.Forward, Delay: 65536},
		{Kind: command.Forward, Id: command.Id{1}}, {Kind: command.Forward, Id: command.Id{7: 1}},
		{Kind: command.Forward, Next: math.MinInt}, {Kind: command.Forward, Delay: math.MaxInt},
	}
	other = []command.Command{
		{}, {Kind: 5}, {Kind: -1}, {Kind: 256 + 2}, {Kind: math.MaxInt}, {Kind: 0, Next: 1},
		{Kind: command.Deliver, Next: 8}, {Kind: command.Deliver, Next: -1},
		{Kind: command.Deliver, Delay: 1}, {Kind: command.Deliver, Id: command.Id{1}},
		{Kind: command.Reply, Next: 8}, {Kind: command.Reply, Next: -1}, {Kind: command.Reply, Delay: 1},
		{Kind: command.Drop, Next: 1}, {Kind: command.Drop, Delay: 1}, {Kind: command.Drop, Id: command.Id{7: 1}},
	}
	return sent, other
}

func TestCommandsThatMayNotBe(t *testing.T) {
	sent, other := mayNot()
	for n := 1; n <= 5; n++ {
		r := someRoute(t, newSource(9), n)
		for at := range n {
			for _, cmd := range slices.Concat(sent, other) {
				unbuilt(t, r.secret, with(r.hops, at, header.Hop{Key: r.hops[at].Key, Cmd: cmd}), api.ErrRoute)
			}
		}
	}
}

func TestPointsThatAreNought(t *testing.T) {
	for n := 1; n <= 5; n++ {
		r := someRoute(t, newSource(10), n)
		for at := range n {
			for _, k := range noughts(t) {
				unbuilt(t, r.secret, with(r.hops, at, header.Hop{Key: k, Cmd: r.hops[at].Cmd}), api.ErrZero)
			}
		}
		for i := range r.hops {
			r.hops[i].Key = api.Key{}
		}
		unbuilt(t, r.secret, r.hops, api.ErrZero)
	}
}

// Where both errors apply, the route's is told.
func TestNoRouteAheadOfNought(t *testing.T) {
	for n := 1; n <= 5; n++ {
		r := someRoute(t, newSource(11), n)
		for at := range n {
			for bad := range n {
				hops := with(r.hops, at, header.Hop{Cmd: r.hops[at].Cmd})
				hops[bad].Cmd = command.Command{Kind: 5}
				unbuilt(t, r.secret, hops, api.ErrRoute)
			}
		}
	}
	unbuilt(t, api.Key{1}, make([]header.Hop, 6), api.ErrRoute)
	unbuilt(t, api.Key{1}, make([]header.Hop, 1), api.ErrRoute)
}

// P10.2: what is found

func TestStepsAreFound(t *testing.T) {
	for _, r := range someRoutes(t, 20, 5) {
		h, s := build(t, r)
		for i, own := range r.own {
			step := stepOf(t, s[i], h)
			found(t, own, h, step)
			h = step.Next
		}
	}
}

// What is found need not be what a builder would lay: any gamma and any beta
// may stand behind a command, noughts too, and any command anywhere.
func TestStepsOfAllKinds(t *testing.T) {
	source := newSource(21)
	cmds := append(forwards(), lasts()...)
	for range 20 {
		cmds = append(cmds, someForward(source), someLast(source))
	}
	for _, cmd := range cmds {
		ones := plain(slices.Repeat([]byte{255}, 192))
		copy(ones[:], commandBytes(cmd))
		for _, p := range []plain{plainOf(source, commandBytes(cmd)), plain(append(commandBytes(cmd), make([]byte, 176)...)), ones} {
			own := someKey(source)
			h, s := headed(t, own, someKey(source), p)
			step := stepOf(t, s, h)
			if step.Cmd != cmd || step.Next.Gamma != api.Tag(p[16:32]) || !slices.Equal(step.Next.Beta[:128], p[32:160]) {
				t.Fatalf("%+v: the test's own step is %+v", cmd, step)
			}
			found(t, own, h, step)
		}
	}
}

func TestAlphasOfAllKinds(t *testing.T) {
	source := newSource(22)
	for _, alpha := range oddKeys() {
		own, p := someKey(source), plainOf(source, commandBytes(someForward(source)))
		h, s := headed(t, own, alpha, p)
		found(t, own, h, stepOf(t, s, h))
	}
}

// P10.2: what is refused

// Such an alpha is refused ahead of its proof, even if that is the one by nought.
func TestAlphasThatAreNought(t *testing.T) {
	source := newSource(23)
	cmd := commandBytes(command.Command{Kind: command.Drop})
	b := xored(slices.Concat(cmd, make([]byte, 144)), streamOf(t, api.Key{}))
	right := header.Header{Beta: header.Beta(b), Gamma: proofOf(t, api.Key{}, b)}
	wrong := split(some(source, 208))
	for _, own := range []api.Key{{}, {1}, someKey(source), plus(0)} {
		for _, alpha := range noughts(t) {
			for _, h := range []header.Header{right, wrong, {}} {
				h.Alpha = alpha
				unfound(t, own, h, api.ErrZero)
			}
		}
	}
}

func TestBytesOfNoCommand(t *testing.T) {
	source := newSource(24)
	bytes := [][]byte{
		make([]byte, 16), {5}, {255}, {0, 3, 0, 10}, {1, 16}, {1, 0, 0, 65}, {1, 0, 1}, {1, 4: 1}, {1, 11: 1},
		{2, 8}, {2, 0, 0, 1}, {2, 4: 1}, {3, 8}, {3, 0, 0, 1}, {3, 0, 1}, {4, 1}, {4, 0, 0, 1}, {4, 11: 1},
		{1, 12: 1}, {2, 13: 1}, {3, 14: 1}, {4, 15: 1}, {1, 3, 0, 10, 15: 255},
	}
	for _, b := range bytes {
		first := make([]byte, 16)
		copy(first, b)
		own := someKey(source)
		h, _ := headed(t, own, someKey(source), plainOf(source, first))
		unfound(t, own, h, api.ErrForm)
		// The proof is asked for ahead of the command.
		h.Gamma[15] ^= 1
		unfound(t, own, h, api.ErrMac)
	}
	// Bytes of all kinds: none of these is a command's.
	for range 200 {
		own := someKey(source)
		h, _ := headed(t, own, someKey(source), plainOf(source, append([]byte{0}, some(source, 15)...)))
		unfound(t, own, h, api.ErrForm)
	}
}

// Of a command's bytes each bit counts: what differs is found as another one, or refused.
func TestEachBitOfACommand(t *testing.T) {
	source := newSource(25)
	for _, cmd := range append(forwards(), lasts()...) {
		b := commandBytes(cmd)
		for bit := range 128 {
			own, other := someKey(source), withBit(b, bit)
			h, s := headed(t, own, api.Key{9}, plainOf(source, other))
			if _, e := command.Decode([16]byte(other)); e == api.OK {
				found(t, own, h, stepOf(t, s, h))
			} else {
				unfound(t, own, h, api.ErrForm)
			}
		}
	}
}

// P10.3: Proof

func TestProofs(t *testing.T) {
	source := newSource(30)
	for range 300 {
		s, b := someKey(source), header.Beta(some(source, 160))
		if got, want := header.Proof(s, b), proofOf(t, s, b[:]); got != want {
			t.Errorf("%x by %x: %x, not %x", b, s, got, want)
		}
	}
	if got, want := header.Proof(api.Key{}, header.Beta{}), proofOf(t, api.Key{}, make([]byte, 160)); got != want {
		t.Errorf("of noughts: %x, not %x", got, want)
	}
}

func TestEachBitOfAProof(t *testing.T) {
	source := newSource(31)
	both := some(source, 192)
	seen := map[api.Tag]int{header.Proof(api.Key(both[:32]), header.Beta(both[32:])): -1}
	for bit := range 8 * 192 {
		b := withBit(both, bit)
		got := header.Proof(api.Key(b[:32]), header.Beta(b[32:]))
		if like, ok := seen[got]; ok {
			t.Errorf("bit %d turned: it is proved as with %d", bit, like)
		}
		if want := proofOf(t, api.Key(b[:32]), b[32:]); got != want {
			t.Errorf("bit %d turned: %x, not %x", bit, got, want)
		}
		seen[got] = bit
	}
}

// P10.3: Encode and Decode

func TestBytesAreWhereTheyBelong(t *testing.T) {
	b := make([]byte, 208)
	for i := range b {
		b[i] = byte(i)
	}
	h := header.Header{}
	for i := range h.Alpha {
		h.Alpha[i] = byte(i)
	}
	for i := range h.Beta {
		h.Beta[i] = byte(32 + i)
	}
	for i := range h.Gamma {
		h.Gamma[i] = byte(192 + i)
	}
	if got := header.Encode(h); !slices.Equal(got, b) {
		t.Errorf("encoded: %x", got)
	}
	if got, e := header.Decode(b); e != api.OK || got != h {
		t.Errorf("decoded: %x, error %d", got, e)
	}
}

// All headers have bytes, and all bytes of that number are a header's, whether
// anybody finds something in it or not.
func TestHeadersComeBack(t *testing.T) {
	source := newSource(32)
	l := [][]byte{make([]byte, 208), slices.Repeat([]byte{255}, 208)}
	for range 200 {
		l = append(l, some(source, 208))
	}
	for bit := range 8 * 208 {
		l = append(l, withBit(l[2], bit), withBit(l[0], bit))
	}
	for _, b := range l {
		h, e := header.Decode(b)
		if e != api.OK || h != split(b) {
			t.Errorf("%x: %x, error %d", b, h, e)
		}
		if got := header.Encode(h); !slices.Equal(got, b) {
			t.Errorf("%x comes back as %x", b, got)
		}
		if again, e := header.Decode(header.Encode(split(b))); e != api.OK || again != split(b) {
			t.Errorf("%x comes back as %x, error %d", split(b), again, e)
		}
	}
}

func TestOtherNumbersOfBytes(t *testing.T) {
	source := newSource(33)
	room := some(source, 70000)
	sizes := []int{736, 1000, 208 + 256, 65535, 65536, 65536 + 208, 208 * 2, 69999}
	for n := range 600 {
		sizes = append(sizes, n)
	}
	for _, n := range sizes {
		for _, b := range [][]byte{room[:n], slices.Clip(room[:n]), make([]byte, n)} {
			h, e := header.Decode(b)
			if n == 208 && (e != api.OK || h != split(b)) {
				t.Errorf("%d bytes: %x, error %d", n, h, e)
			}
			if n != 208 && (e != api.ErrForm || h != (header.Header{})) {
				t.Errorf("%d bytes: %x, error %d", n, h, e)
			}
		}
	}
	if h, e := header.Decode(nil); e != api.ErrForm || h != (header.Header{}) {
		t.Errorf("nil: %x, error %d", h, e)
	}
}

// P10.4

func TestAlongTheRoute(t *testing.T) {
	for _, r := range someRoutes(t, 40, 10) {
		n := len(r.hops)
		h, s := build(t, r)
		want := knownOf(t, r.secret, r.hops)
		tags, alphas := map[api.Tag]bool{}, map[api.Key]bool{}
		for i, own := range r.own {
			if h.Alpha != want.alphas[i] || h.Beta != want.betas[i] {
				t.Errorf("%d hops: %d gets another header", n, i)
			}
			x, e := header.Unwrap(own, h)
			if e != api.OK || x.Cmd != r.hops[i].Cmd || x.Secret != s[i] || x.Tag != tagOf(t, s[i]) {
				t.Fatalf("%d hops: %d finds %+v, error %d", n, i, x, e)
			}
			tags[x.Tag], alphas[h.Alpha] = true, true
			// A header goes on as bytes.
			h, e = header.Decode(header.Encode(x.Next))
			if e != api.OK {
				t.Fatalf("%d hops: %d sends no header: error %d", n, i, e)
			}
		}
		if h.Alpha != want.alphas[n] {
			t.Errorf("%d hops: the alpha behind the last one is another", n)
		}
		if len(tags) != n || len(alphas) != n {
			t.Errorf("%d hops: %d tags, %d alphas", n, len(tags), len(alphas))
		}
	}
}

// Of each hop all commands come through, whatever the others' are.
func TestCommandsComeThrough(t *testing.T) {
	source := newSource(41)
	for n := 1; n <= 5; n++ {
		for range 6 {
			r := someRoute(t, source, n)
			for i := range r.hops {
				r.hops[i].Cmd = forwards()[source.IntN(len(forwards()))]
			}
			r.hops[n-1].Cmd = lasts()[source.IntN(len(lasts()))]
			h, s := build(t, r)
			for i, own := range r.own {
				x, e := header.Unwrap(own, h)
				if e != api.OK || x.Cmd != r.hops[i].Cmd || x.Secret != s[i] {
					t.Fatalf("%d hops: %d finds %+v, error %d, not %+v", n, i, x, e, r.hops[i].Cmd)
				}
				h = x.Next
			}
		}
	}
}

// The example: each hop finds something in the header that it gets alone.
func TestOthersFindNothing(t *testing.T) {
	for _, r := range someRoutes(t, 42, 2) {
		h, _ := build(t, r)
		for i := range r.own {
			for j, own := range r.own {
				if i != j {
					unfound(t, own, h, api.ErrMac)
				}
			}
			unfound(t, r.secret, h, api.ErrMac)
			x, _ := header.Unwrap(r.own[i], h)
			h = x.Next
		}
		// Behind the last hop nobody finds anything.
		for _, own := range r.own {
			unfound(t, own, h, api.ErrMac)
		}
	}
}

// P10.5

// Whichever bit of a header is turned, but for the highest one of alpha, which
// is no point's, it isn't unwrapped.
func TestEachBitOfAHeader(t *testing.T) {
	for _, n := range []int{1, 5} {
		r := someRoute(t, newSource(50), n)
		h, _ := build(t, r)
		b := header.Encode(h)
		for bit := range 8 * len(b) {
			if bit != 255 {
				unfound(t, r.own[0], split(withBit(b, bit)), api.ErrMac)
			}
		}
	}
}

// Nor is one whose bit was turned on the way: a hop's next header is proved, too.
func TestBitsTurnedOnTheWay(t *testing.T) {
	r := someRoute(t, newSource(51), 5)
	h, _ := build(t, r)
	for i, own := range r.own {
		b := header.Encode(h)
		for _, at := range []int{0, 30, 32, 47, 48, 63, 64, 100, 128, 159, 160, 191, 192, 200, 207} {
			for _, mask := range []byte{1, 16, 128, 255} {
				other := slices.Clone(b)
				other[at] ^= mask
				unfound(t, own, split(other), api.ErrMac)
			}
		}
		x, e := header.Unwrap(own, h)
		if e != api.OK {
			t.Fatalf("hop %d: error %d", i, e)
		}
		h = x.Next
	}
}

func TestOtherProofs(t *testing.T) {
	source := newSource(52)
	for range 20 {
		own, p := someKey(source), plainOf(source, commandBytes(someForward(source)))
		h, s := headed(t, own, someKey(source), p)
		full := derive(t, s, "mu")
		whole := mac(full[:], h.Beta[:])
		byNone, alpha := mac(s[:], h.Beta[:]), h.Alpha
		reversed := h.Gamma
		slices.Reverse(reversed[:])
		for _, gamma := range []api.Tag{
			{}, reversed, tagOf(t, s), api.Tag(whole[16:]), api.Tag(byNone[:16]), api.Tag(p[16:32]),
			proofOf(t, own, h.Beta[:]), proofOf(t, alpha, h.Beta[:]), proofOf(t, api.Key{}, h.Beta[:]),
			proofOf(t, s, p[:160]), proofOf(t, s, p[32:]), proofOf(t, s, h.Beta[:159]), proofOf(t, s, nil),
		} {
			other := h
			other.Gamma = gamma
			unfound(t, own, other, api.ErrMac)
		}
		// Each byte of it counts.
		for at := range h.Gamma {
			other := h
			other.Gamma[at]++
			unfound(t, own, other, api.ErrMac)
		}
	}
}

// What is found has a right proof, and what has none is not found, whatever it is.
func TestHeadersOfAllKinds(t *testing.T) {
	source := newSource(53)
	for range 200 {
		own, h := someKey(source), split(some(source, 208))
		unfound(t, own, h, api.ErrMac)
		s := times(t, own, h.Alpha)
		h.Gamma = header.Proof(s, h.Beta)
		x, e := header.Unwrap(own, h)
		if e == api.OK && x != stepOf(t, s, h) || e != api.OK && (e != api.ErrForm || x != header.Step{}) {
			t.Errorf("%x: %+v, error %d", h, x, e)
		}
	}
	unfound(t, api.Key{1}, header.Header{Alpha: api.Key{9}}, api.ErrMac)
}

// P10.6

// twins tells secrets of the same scalar.
func twins(k api.Key) []api.Key {
	var l []api.Key
	for low := range 8 {
		for high := range 4 {
			x := k
			x[0] = x[0]&^7 | byte(low)
			x[31] = x[31]&^192 | byte(high<<6)
			l = append(l, x)
		}
	}
	return l
}

func TestSecretsOfOneScalar(t *testing.T) {
	for _, n := range []int{1, 3} {
		r := someRoute(t, newSource(60), n)
		h, s := build(t, r)
		for _, own := range twins(r.own[0]) {
			found(t, own, h, stepOf(t, s[0], h))
		}
		// Those of another scalar find nothing.
		for bit := 3; bit < 254; bit++ {
			unfound(t, api.Key(withBit(r.own[0][:], bit)), h, api.ErrMac)
		}
		// It is the same with a builder's secret.
		for _, r.secret = range twins(r.secret) {
			if x, l := build(t, r); x != h || !slices.Equal(l, s) {
				t.Errorf("%d hops: by %x it is another header", n, r.secret)
			}
		}
	}
}

// The alphas 9, p + 9, and both with the highest bit have one point: what is
// found differs in the next alpha alone.
func TestAlphasOfOnePoint(t *testing.T) {
	source := newSource(61)
	for n := byte(2); n <= 18; n++ {
		own, p := someKey(source), plainOf(source, commandBytes(someForward(source)))
		h, s := headed(t, own, api.Key{n}, p)
		first := stepOf(t, s, h)
		nexts := map[api.Key]bool{}
		for _, h.Alpha = range []api.Key{{n}, withTop(api.Key{n}), plus(int64(n)), withTop(plus(int64(n)))} {
			want := first
			want.Next.Alpha = times(t, blindingOf(s, h.Alpha), h.Alpha)
			found(t, own, h, want)
			nexts[want.Next.Alpha] = true
		}
		if len(nexts) != 4 {
			t.Errorf("alpha %d: %d next alphas, not 4", n, len(nexts))
		}
	}
}

// One that turns alpha's highest bit on the way spoils the header for the next hop.
func TestTheHighestBitOfAlpha(t *testing.T) {
	r := someRoute(t, newSource(62), 2)
	h, s := build(t, r)
	h.Alpha = withTop(h.Alpha)
	step := stepOf(t, s[0], h)
	found(t, r.own[0], h, step)
	unfound(t, r.own[1], step.Next, api.ErrMac)
}

// What holds in all calls: nothing is changed, nothing kept, all is new.

func TestWhatIsHandedInIsLeft(t *testing.T) {
	for _, r := range someRoutes(t, 70, 1) {
		// Behind the hops stand others of the same memory.
		room := append(slices.Clone(r.hops), r.hops...)
		before := slices.Clone(room)
		want := knownOf(t, r.secret, r.hops)
		n := len(r.hops)
		h, s, _ := header.Build(r.secret, room[:n])
		if !slices.Equal(room, before) {
			t.Errorf("%d hops: Build has changed what it was given", n)
		}
		clear(room)
		if h != want.header || !slices.Equal(s, want.secrets) {
			t.Errorf("%d hops: what was answered has changed", n)
		}
	}
	room := some(newSource(71), 300)
	before := slices.Clone(room)
	h, e := header.Decode(room[40:248])
	if e != api.OK || !slices.Equal(room, before) {
		t.Errorf("Decode has changed what it was given, or error %d", e)
	}
	clear(room)
	if h != split(before[40:248]) {
		t.Error("what was decoded has changed")
	}
}

func TestWhatIsAnsweredIsNew(t *testing.T) {
	for _, r := range someRoutes(t, 72, 1) {
		h, s := build(t, r)
		kept := slices.Clone(s)
		other, l := build(t, r)
		clear(l[:cap(l)])
		if h != other || !slices.Equal(s, kept) {
			t.Errorf("%d hops: what was answered has changed", len(r.hops))
		}
		clear(s)
		built(t, r)
		b := header.Encode(h)
		clear(b[:cap(b)])
		if h != other || split(header.Encode(h)) != h {
			t.Errorf("%d hops: what was encoded has changed", len(r.hops))
		}
	}
}

// What a call answers hangs on no other, nor on its order.
func TestCallsHangOnNoOther(t *testing.T) {
	r, other := someRoute(t, newSource(73), 4), someRoute(t, newSource(74), 5)
	h, s := build(t, r)
	step := stepOf(t, s[0], h)
	for range 3 {
		unbuilt(t, r.secret, nil, api.ErrRoute)
		unbuilt(t, r.secret, with(r.hops, 2, header.Hop{Cmd: r.hops[2].Cmd}), api.ErrZero)
		built(t, r)
		found(t, r.own[0], h, step)
		built(t, other)
		unfound(t, other.own[0], h, api.ErrMac)
		unfound(t, r.own[0], header.Header{}, api.ErrZero)
		found(t, r.own[0], h, step)
	}
}
