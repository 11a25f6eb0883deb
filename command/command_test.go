package command_test

import (
	"encoding/binary"
	"math"
	"math/rand/v2"
	"slices"
	"testing"

	"pigeonry/api"
	"pigeonry/command"
)

// The tests hold the calls against bytes written down here, and against two
// lists made from the chapter's words: all the commands that may be (of
// replies, those with the ids that the tests try), and, byte by byte, what is
// a command's bytes.

// These would not be built, were the kinds numbers of a type of their own.
const (
	_ int   = command.Forward + command.Deliver
	_ uint8 = command.Reply + command.Drop
)

// ids tells ids of all kinds: none, those with one byte that is not 0, and others.
func ids() []command.Id {
	l := []command.Id{{}, {1, 2, 3, 4, 5, 6, 7, 8}, {255, 255, 255, 255, 255, 255, 255, 255}, {0x80, 0, 0, 0, 0, 0, 0, 1}}
	for at := range len(command.Id{}) {
		for _, x := range []byte{1, 0x80, 255} {
			id := command.Id{}
			id[at] = x
			l = append(l, id)
		}
	}
	return l
}

// all tells all commands that may be, of replies those with the ids above.
func all() []command.Command {
	l := []command.Command{{Kind: 4}}
	for next := range 16 {
		for delay := range 65 {
			l = append(l, command.Command{Kind: 1, Next: next, Delay: delay})
		}
	}
	for next := range 8 {
		l = append(l, command.Command{Kind: 2, Next: next})
		for _, id := range ids() {
			l = append(l, command.Command{Kind: 3, Next: next, Id: id})
		}
	}
	return l
}

// known tells the bytes of a command that may be.
func known(c command.Command) [16]byte {
	b := []byte{byte(c.Kind), byte(c.Next)}
	b = binary.BigEndian.AppendUint16(b, uint16(c.Delay))
	return [16]byte(slices.Concat(b, c.Id[:], make([]byte, 4)))
}

// nought tells whether all of the bytes are 0.
func nought(b []byte) bool { return !slices.ContainsFunc(b, func(x byte) bool { return x != 0 }) }

// areCommands tells whether bytes are a command's.
func areCommands(b [16]byte) bool {
	if !nought(b[12:]) {
		return false
	}
	switch b[0] {
	case 1:
		return b[1] <= 15 && b[2] == 0 && b[3] <= 64 && nought(b[4:])
	case 2:
		return b[1] <= 7 && nought(b[2:])
	case 3:
		return b[1] <= 7 && nought(b[2:4])
	case 4:
		return nought(b[1:])
	}
	return false
}

// taken fails unless the command may be, and is encoded as these bytes.
func taken(t *testing.T, c command.Command, want [16]byte) {
	t.Helper()
	if !command.May(c) {
		t.Errorf("%+v may not be", c)
	}
	if b, e := command.Encode(c); e != api.OK || b != want {
		t.Errorf("%+v: %v, error %d, not %v", c, b, e, want)
	}
}

// refused fails unless the command may not be, and is not encoded.
func refused(t *testing.T, c command.Command) {
	t.Helper()
	if command.May(c) {
		t.Errorf("%+v may be", c)
	}
	if b, e := command.Encode(c); e != api.ErrArg || b != [16]byte{} {
		t.Errorf("%+v: %v, error %d", c, b, e)
	}
}

// read fails unless the bytes are that command's.
func read(t *testing.T, b [16]byte, want command.Command) {
	t.Helper()
	if c, e := command.Decode(b); e != api.OK || c != want {
		t.Errorf("%v: %+v, error %d, not %+v", b, c, e, want)
	}
}

// unread fails unless the bytes are no command's.
func unread(t *testing.T, b [16]byte) {
	t.Helper()
	if c, e := command.Decode(b); e != api.ErrForm || c != (command.Command{}) {
		t.Errorf("%v: %+v, error %d", b, c, e)
	}
}

// settled fails unless bytes are read as they should be, and those that are a
// command's come back from it.
func settled(t *testing.T, b [16]byte) {
	t.Helper()
	if !areCommands(b) {
		unread(t, b)
		return
	}
	want := command.Command{Kind: int(b[0]), Next: int(b[1]), Delay: int(b[3]), Id: command.Id(b[4:12])}
	read(t, b, want)
	taken(t, want, b)
}

// written are commands and their bytes, written down.
func written() map[command.Command][16]byte {
	return map[command.Command][16]byte{
		{Kind: command.Forward, Next: 3, Delay: 10}:                              {1, 3, 0, 10},
		{Kind: command.Forward}:                                                  {1},
		{Kind: command.Forward, Next: 15, Delay: 64}:                             {1, 15, 0, 64},
		{Kind: command.Forward, Delay: 1}:                                        {1, 0, 0, 1},
		{Kind: command.Deliver}:                                                  {2},
		{Kind: command.Deliver, Next: 7}:                                         {2, 7},
		{Kind: command.Reply}:                                                    {3},
		{Kind: command.Reply, Next: 7}:                                           {3, 7},
		{Kind: command.Reply, Next: 5, Id: command.Id{1, 2, 3, 4, 5, 6, 7, 8}}:   {3, 5, 0, 0, 1, 2, 3, 4, 5, 6, 7, 8},
		{Kind: command.Reply, Id: command.Id{7: 255}}:                            {3, 11: 255},
		{Kind: command.Reply, Id: command.Id{255}}:                               {3, 4: 255},
		{Kind: command.Reply, Next: 1, Id: command.Id{9, 8, 0, 0, 0, 0, 0, 254}}: {3, 1, 0, 0, 9, 8, 11: 254},
		{Kind: command.Drop}:                                                     {4},
	}
}

// P9.1

func TestTheKindsAreCounted(t *testing.T) {
	if command.Forward != 1 || command.Deliver != 2 || command.Reply != 3 || command.Drop != 4 {
		t.Errorf("%d %d %d %d", command.Forward, command.Deliver, command.Reply, command.Drop)
	}
}

func TestWrittenCommandsAreEncoded(t *testing.T) {
	for c, b := range written() {
		taken(t, c, b)
	}
}

func TestAllThatMayBeIsEncoded(t *testing.T) {
	for _, c := range all() {
		taken(t, c, known(c))
	}
}

// numbers tells numbers about the limits of n, those that would be others if
// they were cut to some bytes, and those at the ends of all numbers.
func numbers(n ...int) []int {
	l := []int{0, 1, 2, 3, 4}
	for _, x := range n {
		l = append(l, x-1, x, x+1)
	}
	for _, x := range slices.Clone(l) {
		for _, bits := range []int{8, 16, 24, 32, 40, 48, 56, 63} {
			l = append(l, x+1<<bits, x-1<<bits)
		}
		l = append(l, -x)
	}
	l = append(l, math.MaxInt, math.MaxInt-1, math.MinInt, math.MinInt+1)
	slices.Sort(l)
	return slices.Compact(l)
}

// Of all these kinds, nexts, delays and ids only those may be that all tells.
func TestAllElseIsRefused(t *testing.T) {
	may := map[command.Command]bool{}
	for _, c := range all() {
		may[c] = true
	}
	found := 0
	for _, kind := range numbers(4) {
		for _, next := range numbers(7, 15) {
			for _, delay := range numbers(64) {
				for _, id := range []command.Id{{}, {1}, {7: 1}} {
					c := command.Command{Kind: kind, Next: next, Delay: delay, Id: id}
					if !may[c] {
						refused(t, c)
						continue
					}
					found++
					taken(t, c, known(c))
				}
			}
		}
	}
	// Forward with 10 nexts and 7 delays, Deliver with 7 nexts, Reply with these
	// and 3 ids, and Drop.
	if want := 10*7 + 7 + 7*3 + 1; found != want {
		t.Errorf("%d of these commands may be, not %d", found, want)
	}
}

func TestKindsAreRefused(t *testing.T) {
	for kind := -300; kind <= 1200; kind++ {
		if c := (command.Command{Kind: kind}); kind < 1 || kind > 4 {
			refused(t, c)
			c.Id = command.Id{1}
			refused(t, c)
		} else {
			taken(t, c, [16]byte{byte(kind)})
		}
	}
}

func TestNextsAreRefused(t *testing.T) {
	for kind, most := range map[int]int{command.Forward: 15, command.Deliver: 7, command.Reply: 7, command.Drop: 0} {
		for next := -300; next <= 1200; next++ {
			if c := (command.Command{Kind: kind, Next: next}); next < 0 || next > most {
				refused(t, c)
			} else {
				taken(t, c, [16]byte{byte(kind), byte(next)})
			}
		}
	}
}

func TestDelaysAreRefused(t *testing.T) {
	for kind, most := range map[int]int{command.Forward: 64, command.Deliver: 0, command.Reply: 0, command.Drop: 0} {
		for delay := -70000; delay <= 140000; delay++ {
			if c := (command.Command{Kind: kind, Delay: delay}); delay < 0 || delay > most {
				refused(t, c)
			} else {
				taken(t, c, [16]byte{byte(kind), 0, 0, byte(delay)})
			}
		}
	}
}

// Each bit of an id counts: a reply has it, and no other command.
func TestIdsAreOfRepliesAlone(t *testing.T) {
	for bit := range 64 {
		id := command.Id{}
		id[bit/8] = 1 << (bit % 8)
		for _, kind := range []int{command.Forward, command.Deliver, command.Drop} {
			refused(t, command.Command{Kind: kind, Id: id})
		}
		want := [16]byte{3, 6}
		want[4+bit/8] = 1 << (bit % 8)
		taken(t, command.Command{Kind: command.Reply, Next: 6, Id: id}, want)
	}
	for _, id := range ids()[1:] {
		refused(t, command.Command{Kind: command.Forward, Next: 15, Delay: 64, Id: id})
		refused(t, command.Command{Kind: command.Deliver, Next: 7, Id: id})
		refused(t, command.Command{Kind: command.Drop, Id: id})
	}
}

// P9.2

func TestWrittenBytesAreDecoded(t *testing.T) {
	for c, b := range written() {
		read(t, b, c)
	}
}

func TestWrittenBytesAreRefused(t *testing.T) {
	for _, b := range [][16]byte{
		{}, {0, 3, 0, 10}, {5}, {6}, {0x81}, {255},
		{1, 16}, {1, 255}, {1, 0, 0, 65}, {1, 0, 0, 255}, {1, 0, 1}, {1, 0, 64}, {1, 0, 1, 64}, {1, 4: 1}, {1, 11: 1},
		{2, 8}, {2, 15}, {2, 0, 0, 1}, {2, 0, 1}, {2, 4: 1}, {2, 11: 1},
		{3, 8}, {3, 15}, {3, 0, 0, 1}, {3, 0, 1},
		{4, 1}, {4, 0, 1}, {4, 0, 0, 1}, {4, 4: 1}, {4, 11: 1},
		{1, 12: 1}, {2, 13: 1}, {3, 14: 1}, {4, 15: 1}, {15: 1},
		{255, 255, 255, 255, 255, 255, 255, 255, 255, 255, 255, 255, 255, 255, 255, 255},
	} {
		unread(t, b)
	}
}

// Each kind beside each next, with delays of each low byte and some high ones.
func TestTheFirstFourBytes(t *testing.T) {
	found := 0
	for _, kind := range []byte{0, 1, 2, 3, 4, 5, 8, 0x81, 255} {
		for next := range 256 {
			for _, high := range []byte{0, 1, 64, 0x80, 255} {
				for low := range 256 {
					b := [16]byte{kind, byte(next), high, byte(low)}
					settled(t, b)
					if areCommands(b) {
						found++
					}
				}
			}
		}
	}
	// As many as there are commands whose id is 0.
	if want := 16*65 + 8 + 8 + 1; found != want {
		t.Errorf("%d of these bytes are commands', not %d", found, want)
	}
}

func TestEachKindAndEachHighByte(t *testing.T) {
	for x := range 256 {
		for y := range 256 {
			settled(t, [16]byte{byte(x), 0, byte(y)})
		}
	}
}

// Bytes of which one differs from a command's.
func TestAByteThatDiffers(t *testing.T) {
	for c := range written() {
		b := known(c)
		for at := range b {
			for x := range 256 {
				other := b
				other[at] = byte(x)
				settled(t, other)
			}
		}
	}
}

// The last four bytes are 0, whichever command stands ahead of them.
func TestTheLastFourBytes(t *testing.T) {
	for _, c := range all() {
		b := known(c)
		for bit := 8 * 12; bit < 8*16; bit++ {
			other := b
			other[bit/8] ^= 1 << (bit % 8)
			unread(t, other)
		}
	}
}

func TestBytesOfAllKinds(t *testing.T) {
	source := rand.New(rand.NewPCG(9, 9))
	few := []byte{0, 0, 0, 1, 2, 3, 4, 5, 7, 8, 15, 16, 64, 65, 255}
	for range 200000 {
		b := [16]byte{}
		for i := range b {
			b[i] = byte(source.Uint32())
		}
		settled(t, b)
		// Some that come nearer to a command's.
		clear(b[12:])
		b[0] = few[source.IntN(len(few))]
		settled(t, b)
		for i := range 4 {
			b[i] = few[source.IntN(len(few))]
		}
		settled(t, b)
		clear(b[2:4])
		settled(t, b)
	}
}

// P9.3

func TestCommandsComeBack(t *testing.T) {
	seen := map[[16]byte]command.Command{}
	for _, c := range all() {
		b, e := command.Encode(c)
		if e != api.OK {
			t.Fatalf("%+v: error %d", c, e)
		}
		if other, ok := seen[b]; ok {
			t.Errorf("%+v and %+v have the same bytes", c, other)
		}
		seen[b] = c
		read(t, b, c)
	}
	if want := 16*65 + 8 + 8*len(ids()) + 1; len(seen) != want {
		t.Errorf("%d commands, not %d", len(seen), want)
	}
}

// Replies of ids of all kinds come back.
func TestRepliesComeBack(t *testing.T) {
	source := rand.New(rand.NewPCG(9, 3))
	for i := range 20000 {
		c := command.Command{Kind: command.Reply, Next: i % 8}
		binary.BigEndian.PutUint64(c.Id[:], source.Uint64())
		b, e := command.Encode(c)
		if e != api.OK || b != known(c) {
			t.Errorf("%+v: %v, error %d", c, b, e)
		}
		read(t, b, c)
	}
}

// No two bytes are one command's: those that differ in a bit are another
// command's, or none's.
func TestBytesComeBack(t *testing.T) {
	for _, c := range all() {
		b := known(c)
		for bit := range 8 * len(b) {
			other := b
			other[bit/8] ^= 1 << (bit % 8)
			x, e := command.Decode(other)
			if e == api.OK && x == c {
				t.Errorf("%v and %v are both %+v", b, other, c)
			}
			settled(t, other)
		}
	}
}

// What holds in all calls: an answer hangs on what was given alone.

func TestEarlierCallsChangeNothing(t *testing.T) {
	for range 3 {
		for c, b := range written() {
			refused(t, command.Command{Kind: c.Kind, Next: -1, Delay: c.Delay, Id: c.Id})
			taken(t, c, b)
			unread(t, [16]byte{15: 1})
			read(t, b, c)
		}
	}
}
