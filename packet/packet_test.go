package packet_test

import (
	"slices"
	"testing"

	"pigeonry/api"
	"pigeonry/command"
	"pigeonry/curve"
	"pigeonry/header"
	"pigeonry/packet"
)

// lock fails unless the room's body is locked.
func lock(t *testing.T, key api.Key, room []byte) []byte {
	t.Helper()
	b, e := packet.Lock(key, room)
	if e != api.OK || len(b) != 528 {
		t.Fatalf("a room of %d bytes: %d bytes, error %d", len(room), len(b), e)
	}
	return b
}

// unlocks fails unless the body is unlocked to that room.
func unlocks(t *testing.T, key api.Key, body, want []byte) {
	t.Helper()
	if room, e := packet.Unlock(key, body); e != api.OK || !slices.Equal(room, want) {
		t.Errorf("by %x: %x, error %d, not %x", key, room, e, want)
	}
}

// roomless fails unless the body is refused.
func roomless(t *testing.T, key api.Key, body []byte) {
	t.Helper()
	if room, e := packet.Unlock(key, body); e != api.ErrForm || len(room) != 0 {
		t.Errorf("%d bytes by %x: %x, error %d", len(body), key, room, e)
	}
}

// newPacket fails unless there is a packet of the route.
func newPacket(t *testing.T, r route, room []byte) []byte {
	t.Helper()
	p, e := packet.New(r.secret, r.hops, room)
	if e != api.OK || len(p) != 736 {
		t.Fatalf("%d hops: %d bytes, error %d", len(r.hops), len(p), e)
	}
	return p
}

// unmade fails unless there is no such packet, for this reason.
func unmade(t *testing.T, secret api.Key, hops []header.Hop, room []byte, want api.Errno) {
	t.Helper()
	if p, e := packet.New(secret, hops, room); e != want || len(p) != 0 {
		t.Errorf("%+v, a room of %d bytes: %x, error %d, not %d", hops, len(room), p, e, want)
	}
}

// peel fails unless something is found.
func peel(t *testing.T, own api.Key, p []byte) packet.Peeled {
	t.Helper()
	x, e := packet.Peel(own, p)
	if e != api.OK {
		t.Fatalf("%x by %x: error %d", p, own, e)
	}
	return x
}

// unpeeled fails unless nothing is found, for this reason.
func unpeeled(t *testing.T, own api.Key, p []byte, want api.Errno) {
	t.Helper()
	x, e := packet.Peel(own, p)
	if e != want || x.Cmd != (command.Command{}) || len(x.Next) != 0 || x.Tag != (api.Tag{}) || len(x.Room) != 0 {
		t.Errorf("%d bytes by %x: %+v, error %d, not %d", len(p), own, x, e, want)
	}
}

// same tells whether the same was found twice.
func same(x, y packet.Peeled) bool {
	return x.Cmd == y.Cmd && slices.Equal(x.Next, y.Next) && x.Tag == y.Tag && slices.Equal(x.Room, y.Room)
}

// sizes tells numbers of bytes, all but one.
func sizes(but int) []int {
	l := []int{1024, 1472, 4096, 4097, 65535, 65536, 65536 + but, 256 + but, 65536*2 + but}
	for n := range 1000 {
		l = append(l, n)
	}
	return slices.DeleteFunc(l, func(n int) bool { return n == but })
}

// P11.1: Layer

func TestLayers(t *testing.T) {
	source := newSource(1)
	first := someKey(source)
	l := []api.Key{{}, first, api.Key(slices.Repeat([]byte{255}, 32))}
	for bit := range 256 {
		l = append(l, someKey(source), api.Key(withBit(first[:], bit)))
	}
	seen := map[api.Key]api.Key{}
	for _, s := range l {
		got := packet.Layer(s)
		if want := layerOf(t, s); got != want {
			t.Errorf("%x: %x, not %x", s, got, want)
		}
		if like, ok := seen[got]; ok {
			t.Errorf("%x has the layer of %x", s, like)
		}
		seen[got] = s
	}
}

// P11.1: Lock and Unlock

func TestRoomsAreLocked(t *testing.T) {
	source := newSource(2)
	for _, key := range []api.Key{{}, {1}, {31: 128}, someKey(source), someKey(source)} {
		for _, room := range someRooms(source) {
			if got, want := lock(t, key, room), locked(t, key, bodyOf(room)); !slices.Equal(got, want) {
				t.Errorf("%x by %x: %x, not %x", room, key, got, want)
			}
		}
	}
}

func TestBodiesAreUnlocked(t *testing.T) {
	source := newSource(3)
	for _, key := range []api.Key{{}, {1}, {31: 128}, someKey(source), someKey(source)} {
		for _, room := range someRooms(source) {
			unlocks(t, key, locked(t, key, bodyOf(room)), room)
		}
	}
}

func TestRoomsOfOtherSizes(t *testing.T) {
	r := someRoute(newSource(4), 2, command.Command{Kind: command.Deliver})
	big := some(newSource(5), 200000)
	for _, n := range sizes(512) {
		for _, room := range [][]byte{big[:n], slices.Clip(big[:n]), make([]byte, n)} {
			if b, e := packet.Lock(r.secret, room); e != api.ErrForm || len(b) != 0 {
				t.Errorf("a room of %d bytes: %d bytes, error %d", n, len(b), e)
			}
			unmade(t, r.secret, r.hops, room, api.ErrForm)
		}
	}
	if b, e := packet.Lock(r.secret, nil); e != api.ErrForm || len(b) != 0 {
		t.Errorf("no room: %d bytes, error %d", len(b), e)
	}
	unmade(t, r.secret, r.hops, nil, api.ErrForm)
}

// Such bodies are refused even if lion takes them, and noughts stand ahead.
func TestBodiesOfOtherSizes(t *testing.T) {
	key := api.Key{1, 2, 3}
	whole := some(newSource(6), 200000)
	copy(whole, lock(t, key, make([]byte, 512)))
	for _, n := range sizes(528) {
		roomless(t, key, whole[:n])
		roomless(t, key, make([]byte, n))
		if 33 <= n && n <= 4096 {
			roomless(t, key, locked(t, key, make([]byte, n)))
		}
	}
	roomless(t, key, nil)
	unlocks(t, key, whole[:528], make([]byte, 512))
}

// leads tells 16 bytes that are not all noughts, each bit turned among them.
func leads() [][]byte {
	l := [][]byte{slices.Repeat([]byte{255}, 16), slices.Repeat([]byte{128}, 16), append(make([]byte, 15), 1), {15: 255}, {0: 1, 15: 255}}
	for bit := range 128 {
		l = append(l, withBit(make([]byte, 16), bit))
	}
	return l
}

// All of the 16 bytes ahead of a room have to be noughts, and those alone.
func TestNoughtsAheadOfARoom(t *testing.T) {
	source := newSource(7)
	for _, lead := range leads() {
		for _, room := range [][]byte{make([]byte, 512), some(source, 512)} {
			key := someKey(source)
			roomless(t, key, locked(t, key, slices.Concat(lead, room)))
		}
	}
	for bit := range 8 * 512 {
		room := withBit(make([]byte, 512), bit)
		unlocks(t, api.Key{7}, locked(t, api.Key{7}, bodyOf(room)), room)
	}
}

func TestEachBitOfALockedBody(t *testing.T) {
	source := newSource(8)
	key := someKey(source)
	b := lock(t, key, some(source, 512))
	for bit := range 8 * 528 {
		roomless(t, key, withBit(b, bit))
	}
}

func TestEachBitOfAKey(t *testing.T) {
	source := newSource(9)
	key := someKey(source)
	for _, room := range someRooms(source) {
		b := lock(t, key, room)
		for bit := range 256 {
			roomless(t, api.Key(withBit(key[:], bit)), b)
		}
	}
}

func TestBodiesThatNobodyLocked(t *testing.T) {
	source := newSource(10)
	roomless(t, api.Key{}, make([]byte, 528))
	roomless(t, api.Key{}, slices.Repeat([]byte{255}, 528))
	roomless(t, api.Key{1}, bodyOf(some(source, 512)))
	for range 300 {
		roomless(t, someKey(source), some(source, 528))
	}
}

// P11.2

func TestPacketsAreMade(t *testing.T) {
	source := newSource(20)
	for _, r := range someRoutes(21) {
		for _, room := range someRooms(source) {
			if got, want := newPacket(t, r, room), knownOf(t, r, room).packets[0]; !slices.Equal(got, want) {
				t.Errorf("%d hops: %x, not %x", len(r.hops), got, want)
			}
		}
	}
}

// The header hangs on the route alone; all of the body hangs on each bit of the room.
func TestOtherRooms(t *testing.T) {
	source := newSource(22)
	r := someRoute(source, 3, command.Command{Kind: command.Deliver})
	room := some(source, 512)
	first := newPacket(t, r, room)
	for bit := 0; bit < 8*512; bit += 37 {
		p := newPacket(t, r, withBit(room, bit))
		if !slices.Equal(p[:208], first[:208]) {
			t.Errorf("bit %d of the room turned: it is another header", bit)
		}
		same := 0
		for i := 208; i < 736; i++ {
			if p[i] == first[i] {
				same++
			}
		}
		if same > 30 {
			t.Errorf("bit %d of the room turned: %d bytes of the body are the same", bit, same)
		}
	}
}

// A node that stands on a route more than once has a layer of its own each time.
func TestANodeTwice(t *testing.T) {
	source := newSource(23)
	r := someRoute(source, 5, command.Command{Kind: command.Deliver, Next: 1})
	for i := range r.hops {
		r.own[i], r.hops[i].Key = r.own[0], r.hops[0].Key
	}
	room := some(source, 512)
	p := newPacket(t, r, room)
	if !slices.Equal(p, knownOf(t, r, room).packets[0]) {
		t.Error("it is another packet")
	}
	for i, own := range r.own {
		x := peel(t, own, p)
		if i == 4 && !slices.Equal(x.Room, room) {
			t.Errorf("the last one finds %x", x.Room)
		}
		p = x.Next
	}
}

// noRoutes tells hops that are no route, made of a route.
func noRoutes(r route) [][]header.Hop {
	n := len(r.hops)
	l := [][]header.Hop{nil, {}, slices.Repeat(r.hops[n-1:], 2), append(slices.Repeat([]header.Hop{{Key: r.hops[0].Key, Cmd: forwards()[0]}}, 5), r.hops[n-1])}
	for at, hop := range r.hops {
		for _, cmd := range []command.Command{{}, {Kind: 5}, {Kind: -1}, {Kind: command.Forward, Next: 16}, {Kind: command.Deliver, Next: 8}, {Kind: command.Drop, Delay: 1}} {
			l = append(l, with(r.hops, at, header.Hop{Key: hop.Key, Cmd: cmd}))
		}
		wrong := command.Command{Kind: command.Forward}
		if at < n-1 {
			wrong.Kind = command.Drop
		}
		l = append(l, with(r.hops, at, header.Hop{Key: hop.Key, Cmd: wrong}))
	}
	return l
}

func TestNoRoutes(t *testing.T) {
	for _, r := range someRoutes(24) {
		for _, hops := range noRoutes(r) {
			unmade(t, r.secret, hops, make([]byte, 512), api.ErrRoute)
		}
	}
}

func TestPointsThatAreNought(t *testing.T) {
	one := api.Key{1}
	for _, r := range someRoutes(25) {
		for at, hop := range r.hops {
			for _, key := range []api.Key{{}, one, {31: 128}} {
				unmade(t, r.secret, with(r.hops, at, header.Hop{Key: key, Cmd: hop.Cmd}), make([]byte, 512), api.ErrZero)
			}
		}
	}
}

// Where several errors apply, the room's is told first, and then the route's.
func TestWhichErrorOfNew(t *testing.T) {
	for _, r := range someRoutes(26) {
		nought := with(r.hops, 0, header.Hop{Cmd: r.hops[0].Cmd})
		for _, n := range []int{0, 511, 513, 528} {
			unmade(t, r.secret, nought, make([]byte, n), api.ErrForm)
			for _, hops := range noRoutes(r) {
				unmade(t, r.secret, hops, make([]byte, n), api.ErrForm)
			}
		}
		nought = with(nought, len(nought)-1, header.Hop{Cmd: command.Command{Kind: 5}})
		unmade(t, r.secret, nought, make([]byte, 512), api.ErrRoute)
	}
}

// P11.3: what is found

func TestEachHopFindsItsOwn(t *testing.T) {
	source := newSource(30)
	for _, r := range someRoutes(31) {
		for _, room := range someRooms(source) {
			want := knownOf(t, r, room)
			for i, own := range r.own {
				found := packet.Peeled{Cmd: r.hops[i].Cmd, Tag: tagOf(t, want.secrets[i])}
				switch r.hops[i].Cmd.Kind {
				case command.Forward:
					found.Next = want.packets[i+1]
				case command.Deliver:
					found.Room = room
				case command.Reply:
					found.Room = bodyOf(room)
				}
				if x := peel(t, own, want.packets[i]); !same(x, found) {
					t.Errorf("%d hops: %d finds %+v, not %+v", len(r.hops), i, x, found)
				}
			}
		}
	}
}

// bodies tells what may be behind a hop's layer, whole or not.
func bodies() [][]byte {
	source := newSource(32)
	l := [][]byte{make([]byte, 528), bodyOf(some(source, 512)), some(source, 528), slices.Repeat([]byte{255}, 528)}
	for _, lead := range leads() {
		l = append(l, slices.Concat(lead, some(source, 512)))
	}
	return l
}

// What a packet holds need not be what New would make: any body may be behind
// any command, and a hop that is the first one may be told anything.
func TestBodiesOfAllKinds(t *testing.T) {
	source := newSource(33)
	for _, cmd := range slices.Concat(forwards(), lasts()) {
		for _, body := range bodies() {
			own := someKey(source)
			p, s := laid(t, own, curve.Public(someKey(source)), commandBytes(t, cmd), body)
			whole := slices.Equal(body[:16], make([]byte, 16))
			if cmd.Kind == command.Deliver && !whole {
				unpeeled(t, own, p, api.ErrForm)
				continue
			}
			h, _ := header.Decode(p[:208])
			step, _ := header.Unwrap(own, h)
			found := packet.Peeled{Cmd: cmd, Tag: tagOf(t, s)}
			switch cmd.Kind {
			case command.Forward:
				found.Next = append(header.Encode(step.Next), body...)
			case command.Deliver:
				found.Room = body[16:]
			case command.Reply:
				found.Room = body
			}
			if x := peel(t, own, p); !same(x, found) {
				t.Errorf("%+v: %+v, not %+v", cmd, x, found)
			}
		}
	}
}

// A body is not asked about on its way: what is spoilt goes on, and is refused
// where it would be delivered alone.
func TestSpoiltOnTheWay(t *testing.T) {
	source := newSource(34)
	for _, r := range someRoutes(35) {
		n := len(r.hops)
		whole := knownOf(t, r, some(source, 512))
		for at := range n {
			for _, place := range []int{208, 223, 224, 239, 240, 500, 735} {
				p := withBit(whole.packets[at], 8*place+place%8)
				for i := at; i < n-1; i++ {
					x := peel(t, r.own[i], p)
					if x.Cmd != r.hops[i].Cmd || len(x.Next) != 736 || !slices.Equal(x.Next[:208], whole.packets[i+1][:208]) {
						t.Fatalf("%d hops: %d finds %+v", n, i, x)
					}
					p = x.Next
				}
				if r.hops[n-1].Cmd.Kind == command.Deliver {
					unpeeled(t, r.own[n-1], p, api.ErrForm)
					continue
				}
				x := peel(t, r.own[n-1], p)
				if x.Cmd != r.hops[n-1].Cmd || len(x.Next) != 0 {
					t.Errorf("%d hops: the last one finds %+v", n, x)
				}
				if want := unlocked(t, layerOf(t, whole.secrets[n-1]), p[208:]); x.Cmd.Kind == command.Reply && !slices.Equal(x.Room, want) {
					t.Errorf("%d hops: the last one finds %x, not %x", n, x.Room, want)
				}
			}
		}
	}
}

// P11.3: what is refused

// It is the packet's size alone that is told first, whatever the header is.
func TestPacketsOfOtherSizes(t *testing.T) {
	r := someRoute(newSource(36), 2, command.Command{Kind: command.Deliver})
	big := some(newSource(37), 200000)
	for _, b := range [][]byte{big, make([]byte, 200000), append(newPacket(t, r, make([]byte, 512)), big[736:]...)} {
		for _, n := range sizes(736) {
			unpeeled(t, r.own[0], b[:n], api.ErrForm)
			unpeeled(t, r.own[0], slices.Clip(b[:n]), api.ErrForm)
		}
	}
	unpeeled(t, r.own[0], nil, api.ErrForm)
}

// What stands behind a packet's bytes in memory is no part of it.
func TestPacketsAheadOfOtherBytes(t *testing.T) {
	r := someRoute(newSource(38), 1, command.Command{Kind: command.Deliver})
	room := some(newSource(39), 512)
	long := append(newPacket(t, r, room), some(newSource(39), 100)...)
	if x := peel(t, r.own[0], long[:736]); !slices.Equal(x.Room, room) {
		t.Errorf("it finds %x", x.Room)
	}
}

func TestAlphasThatAreNought(t *testing.T) {
	source := newSource(40)
	one := api.Key{1}
	for _, alpha := range []api.Key{{}, one, {31: 128}, {0: 1, 31: 128}} {
		for _, b := range [][]byte{make([]byte, 736), some(source, 736), newPacket(t, someRoute(source, 2, command.Command{Kind: command.Drop}), make([]byte, 512))} {
			copy(b, alpha[:])
			unpeeled(t, someKey(source), b, api.ErrZero)
		}
	}
}

// Each bit of a header counts, but for alpha's highest one, which is no point's.
func TestEachBitOfAHeader(t *testing.T) {
	r := someRoute(newSource(41), 2, command.Command{Kind: command.Deliver})
	p := newPacket(t, r, make([]byte, 512))
	for bit := range 8 * 208 {
		if bit != 255 {
			unpeeled(t, r.own[0], withBit(p, bit), api.ErrMac)
		}
	}
	for bit := 3; bit < 254; bit++ {
		unpeeled(t, api.Key(withBit(r.own[0][:], bit)), p, api.ErrMac)
	}
}

func TestBytesOfNoCommand(t *testing.T) {
	source := newSource(42)
	for _, b := range [][]byte{{}, {5}, {255}, {1, 16}, {1, 0, 0, 65}, {1, 4: 1}, {2, 8}, {2, 0, 0, 1}, {3, 8}, {4, 1}, {2, 15: 1}} {
		first := make([]byte, 16)
		copy(first, b)
		for _, body := range [][]byte{make([]byte, 528), some(source, 528)} {
			own := someKey(source)
			p, _ := laid(t, own, curve.Public(someKey(source)), first, body)
			unpeeled(t, own, p, api.ErrForm)
			// The proof is asked for ahead of both.
			p[207] ^= 1
			unpeeled(t, own, p, api.ErrMac)
		}
	}
}

// Of a body that is not whole the header is asked about first.
func TestWhichErrorOfPeel(t *testing.T) {
	source := newSource(43)
	own := someKey(source)
	p, _ := laid(t, own, api.Key{9}, commandBytes(t, command.Command{Kind: command.Deliver}), some(source, 528))
	unpeeled(t, own, p, api.ErrForm)
	wrong := withBit(p, 8*100)
	unpeeled(t, own, wrong, api.ErrMac)
	clear(wrong[:32])
	unpeeled(t, own, wrong, api.ErrZero)
	unpeeled(t, own, wrong[:735], api.ErrForm)
	unpeeled(t, own, append(wrong, 0), api.ErrForm)
}

// P11.4

func TestOneSize(t *testing.T) {
	source := newSource(50)
	for _, r := range someRoutes(51) {
		p := newPacket(t, r, some(source, 512))
		for i, own := range r.own {
			if len(p) != 736 {
				t.Errorf("%d hops: %d gets %d bytes", len(r.hops), i, len(p))
			}
			p = peel(t, own, p).Next
		}
		if len(p) != 0 {
			t.Errorf("%d hops: behind the last one go %d bytes on", len(r.hops), len(p))
		}
	}
	// It is the same with packets that nobody made.
	for _, cmd := range forwards() {
		for _, body := range bodies() {
			own := someKey(source)
			p, _ := laid(t, own, curve.Public(someKey(source)), commandBytes(t, cmd), body)
			if x := peel(t, own, p); len(x.Next) != 736 {
				t.Errorf("%d bytes go on", len(x.Next))
			}
		}
	}
}

// P11.5

// along tells what is found by the last hop, and all tags on the way. Each hop's
// command has to be its own.
func along(t *testing.T, r route, p []byte) (packet.Peeled, map[api.Tag]int) {
	t.Helper()
	tags := map[api.Tag]int{}
	for i, own := range r.own[:len(r.own)-1] {
		x := peel(t, own, p)
		if x.Cmd != r.hops[i].Cmd || len(x.Room) != 0 {
			t.Errorf("%d hops: %d finds %+v", len(r.hops), i, x)
		}
		tags[x.Tag] = i
		p = x.Next
	}
	x := peel(t, r.own[len(r.own)-1], p)
	tags[x.Tag] = len(r.own) - 1
	return x, tags
}

func TestAlongTheRoute(t *testing.T) {
	source := newSource(60)
	for n := 1; n <= 5; n++ {
		for range 10 {
			for _, last := range lasts() {
				r, room := someRoute(source, n, last), some(source, 512)
				x, tags := along(t, r, newPacket(t, r, room))
				want := map[int][]byte{command.Deliver: room, command.Reply: bodyOf(room)}[last.Kind]
				if x.Cmd != last || !slices.Equal(x.Room, want) || len(x.Next) != 0 {
					t.Errorf("%d hops: the last one finds %+v, not %x", n, x, want)
				}
				if len(tags) != n {
					t.Errorf("%d hops: %d tags", n, len(tags))
				}
			}
		}
	}
}

func TestRoomsOfAllKindsAreDelivered(t *testing.T) {
	source := newSource(61)
	for n := 1; n <= 5; n++ {
		r := someRoute(source, n, command.Command{Kind: command.Deliver, Next: 2})
		for _, room := range someRooms(source) {
			if x, _ := along(t, r, newPacket(t, r, room)); !slices.Equal(x.Room, room) {
				t.Errorf("%d hops: the last one finds %x, not %x", n, x.Room, room)
			}
		}
	}
}

// A packet reaches the last hop by way of all the others alone, in their order.
func TestOthersFindNothing(t *testing.T) {
	source := newSource(62)
	for n := 2; n <= 5; n++ {
		r := someRoute(source, n, command.Command{Kind: command.Deliver})
		p := newPacket(t, r, some(source, 512))
		for i, own := range r.own {
			for j, other := range r.own {
				if i != j {
					unpeeled(t, other, p, api.ErrMac)
				}
			}
			unpeeled(t, r.secret, p, api.ErrMac)
			p = peel(t, own, p).Next
		}
	}
}

// No two packets of a route have anything in common, nor is a room to be seen in
// one.
func TestNothingStaysOnTheWay(t *testing.T) {
	source := newSource(63)
	r, room := someRoute(source, 5, command.Command{Kind: command.Deliver}), make([]byte, 512)
	var seen []byte
	p := newPacket(t, r, room)
	for _, own := range r.own {
		for at := 0; at+16 <= 736; at += 16 {
			seen = append(seen, p[at:at+16]...)
		}
		p = peel(t, own, p).Next
	}
	parts := map[api.Tag]bool{{}: true}
	for at := 0; at < len(seen); at += 16 {
		part := api.Tag(seen[at : at+16])
		if parts[part] {
			t.Errorf("the bytes %x are there twice, or noughts", part)
		}
		parts[part] = true
	}
}

// P11.6

func TestUndone(t *testing.T) {
	source := newSource(70)
	for range 50 {
		key := someKey(source)
		for _, room := range someRooms(source) {
			b := lock(t, key, room)
			unlocks(t, key, b, room)
			if slices.Equal(b[16:], room) || slices.Equal(b, bodyOf(room)) {
				t.Errorf("by %x: %x is not locked", key, room)
			}
			back, _ := packet.Unlock(key, b)
			if again := lock(t, key, back); !slices.Equal(again, b) {
				t.Errorf("by %x: %x is locked again to %x", key, b, again)
			}
		}
	}
}

// A packet of one hop is what Lock makes by the layer of its secret.
func TestLayersAreLocks(t *testing.T) {
	source := newSource(71)
	r, room := someRoute(source, 1, command.Command{Kind: command.Deliver}), some(source, 512)
	p := newPacket(t, r, room)
	s, e := curve.Shared(r.own[0], api.Key(p[:32]))
	if e != api.OK {
		t.Fatalf("no secret: error %d", e)
	}
	if b := lock(t, packet.Layer(s), room); !slices.Equal(b, p[208:]) {
		t.Errorf("locked it is %x, not %x", b, p[208:])
	}
	unlocks(t, packet.Layer(s), p[208:], room)
}

// What holds in all calls: nothing is changed, nothing kept, all is new.

func TestWhatIsHandedInIsLeft(t *testing.T) {
	source := newSource(80)
	for _, r := range someRoutes(81) {
		// Behind what is handed in stand other bytes of the same memory.
		memory := some(source, 2000)
		before := slices.Clone(memory)
		hops := slices.Concat(r.hops, r.hops)
		want := knownOf(t, r, memory[:512])
		p, e := packet.New(r.secret, hops[:len(r.hops)], memory[:512])
		b := lock(t, r.secret, memory[100:612])
		if e != api.OK || !slices.Equal(memory, before) || !slices.Equal(hops, slices.Concat(r.hops, r.hops)) {
			t.Errorf("%d hops: New or Lock has changed what it was given, or error %d", len(r.hops), e)
		}
		clear(memory)
		clear(hops)
		if !slices.Equal(p, want.packets[0]) || !slices.Equal(b, locked(t, r.secret, bodyOf(before[100:612]))) {
			t.Errorf("%d hops: what was answered has changed", len(r.hops))
		}
	}
}

func TestWhatIsOpenedIsLeft(t *testing.T) {
	source := newSource(82)
	for _, r := range someRoutes(83) {
		room := some(source, 512)
		p := newPacket(t, r, room)
		for i, own := range r.own {
			memory := slices.Concat(p, some(source, 100))
			before := slices.Clone(memory)
			x, want := peel(t, own, memory[:736]), peel(t, own, p)
			if !slices.Equal(memory, before) {
				t.Errorf("%d hops: Peel has changed what it was given", i)
			}
			clear(memory)
			if !same(x, want) {
				t.Errorf("%d hops: what was answered has changed", i)
			}
			p = want.Next
		}
		memory := append(lock(t, r.secret, room), some(source, 100)...)
		before := slices.Clone(memory)
		got, e := packet.Unlock(r.secret, memory[:528])
		if e != api.OK || !slices.Equal(memory, before) {
			t.Errorf("Unlock has changed what it was given, or error %d", e)
		}
		clear(memory)
		if !slices.Equal(got, room) {
			t.Error("what was unlocked has changed")
		}
	}
}

// spoil writes over all of the memory behind a list.
func spoil(b []byte) {
	for i := range b[:cap(b)] {
		b[:cap(b)][i] ^= 255
	}
}

func TestWhatIsAnsweredIsNew(t *testing.T) {
	source := newSource(84)
	for _, r := range someRoutes(85) {
		room := some(source, 512)
		before, want := slices.Clone(room), knownOf(t, r, room)
		p := newPacket(t, r, room)
		spoil(newPacket(t, r, room))
		spoil(lock(t, r.secret, room))
		if !slices.Equal(p, want.packets[0]) || !slices.Equal(room, before) {
			t.Errorf("%d hops: what was made, or the room, has changed", len(r.hops))
		}
		for i, own := range r.own {
			x, y := peel(t, own, p), peel(t, own, p)
			spoil(y.Next)
			spoil(y.Room)
			if !slices.Equal(p, want.packets[i]) || !same(x, peel(t, own, p)) {
				t.Errorf("%d hops: what %d was given, or found, has changed", len(r.hops), i)
			}
			p = x.Next
		}
		b := lock(t, r.secret, room)
		again := slices.Clone(b)
		got, _ := packet.Unlock(r.secret, b)
		spoil(got)
		if !slices.Equal(b, again) {
			t.Error("what was unlocked shares memory with the body")
		}
		unlocks(t, r.secret, b, room)
	}
}

// What a call answers hangs on no other, nor on its order: a packet that is
// peeled again is found again.
func TestCallsHangOnNoOther(t *testing.T) {
	source := newSource(86)
	r, other := someRoute(source, 3, command.Command{Kind: command.Deliver}), someRoute(source, 5, command.Command{Kind: command.Drop})
	room := some(source, 512)
	p := newPacket(t, r, room)
	first, b := peel(t, r.own[0], p), lock(t, r.secret, room)
	for range 3 {
		unmade(t, r.secret, nil, room, api.ErrRoute)
		unmade(t, r.secret, r.hops, room[:511], api.ErrForm)
		unpeeled(t, r.own[1], p, api.ErrMac)
		unpeeled(t, r.own[0], p[:735], api.ErrForm)
		roomless(t, r.secret, p[208:])
		if q := newPacket(t, other, room); slices.Equal(q, p) {
			t.Error("two routes have one packet")
		}
		if !slices.Equal(newPacket(t, r, room), p) || !same(peel(t, r.own[0], p), first) || !slices.Equal(lock(t, r.secret, room), b) {
			t.Error("a call answers otherwise than before")
		}
	}
}
