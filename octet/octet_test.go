package octet_test

import (
	"encoding/binary"
	"math"
	"math/rand/v2"
	"slices"
	"testing"

	"pigeonry/api"
	"pigeonry/octet"
)

// most is how many bytes a writer may have room for, and a reader be of.
const most = 65536

// writer fails unless there is one with this room.
func writer(t *testing.T, room int) *octet.Writer {
	t.Helper()
	w := octet.NewWriter(room)
	if w == nil {
		t.Fatalf("no writer with room for %d", room)
	}
	return w
}

// reader fails unless there is one of these bytes.
func reader(t *testing.T, b []byte) *octet.Reader {
	t.Helper()
	r := octet.NewReader(b)
	if r == nil {
		t.Fatalf("no reader of %d bytes", len(b))
	}
	return r
}

// fine fails unless a call answered OK.
func fine(t *testing.T, e api.Errno) {
	t.Helper()
	if e != api.OK {
		t.Fatalf("error %d", e)
	}
}

// failed fails unless a call answered this error.
func failed(t *testing.T, e, want api.Errno) {
	t.Helper()
	if e != want {
		t.Errorf("error %d, not %d", e, want)
	}
}

// holds fails unless these are the writer's bytes.
func holds(t *testing.T, w *octet.Writer, want []byte) {
	t.Helper()
	b, e := w.All()
	if e != api.OK || !slices.Equal(b, want) {
		t.Fatalf("%d bytes, error %d, not %d bytes: %x", len(b), e, len(want), b[:min(len(b), 40)])
	}
}

// number fails unless the next bytes are this number.
func number(t *testing.T, r *octet.Reader, size int, want uint64) {
	t.Helper()
	if n, e := r.Num(size); e != api.OK || n != want {
		t.Fatalf("%#x of %d bytes, error %d, not %#x", n, size, e, want)
	}
}

// taken fails unless these are the next bytes.
func taken(t *testing.T, r *octet.Reader, want []byte) {
	t.Helper()
	if b, e := r.Bytes(len(want)); e != api.OK || !slices.Equal(b, want) {
		t.Fatalf("%d bytes, error %d, not %d bytes: %x", len(b), e, len(want), b[:min(len(b), 40)])
	}
}

// stands fails unless so many bytes are left, and it is done or not.
func stands(t *testing.T, r *octet.Reader, left int, done bool) {
	t.Helper()
	if r.Left() != left || r.Done() != done {
		t.Errorf("%d left, done %t, not %d, %t", r.Left(), r.Done(), left, done)
	}
}

// writerStays fails unless every call of the writer answers this error.
func writerStays(t *testing.T, w *octet.Writer, want api.Errno) {
	t.Helper()
	for range 2 {
		// Calls that would be right, and calls with errors of their own.
		failed(t, w.Num(0, 1), want)
		failed(t, w.Num(256, 1), want)
		failed(t, w.Num(0, 0), want)
		failed(t, w.Num(0, math.MinInt), want)
		failed(t, w.Bytes(nil), want)
		failed(t, w.Bytes([]byte{1}), want)
		failed(t, w.Bytes(make([]byte, most+1)), want)
		failed(t, w.Fill(0), want)
		failed(t, w.Fill(most), want)
		failed(t, w.Fill(-1), want)
		failed(t, w.Fill(math.MaxInt), want)
		b, e := w.All()
		failed(t, e, want)
		if b != nil {
			t.Errorf("beside an error: %x", b)
		}
	}
}

// readerStays fails unless every call of the reader answers this error.
func readerStays(t *testing.T, r *octet.Reader, want api.Errno) {
	t.Helper()
	for range 2 {
		for _, size := range []int{1, 8, 0, 9, -1, math.MinInt, math.MaxInt} {
			n, e := r.Num(size)
			failed(t, e, want)
			if n != 0 {
				t.Errorf("beside an error: %d", n)
			}
		}
		for _, size := range []int{0, 1, most + 1, -1, math.MinInt, math.MaxInt} {
			b, e := r.Bytes(size)
			failed(t, e, want)
			if b != nil {
				t.Errorf("beside an error: %x", b)
			}
		}
		stands(t, r, 0, false)
	}
}

// scattered tells n bytes of all kinds, always the same ones.
func scattered(n int) []byte {
	source := rand.New(rand.NewPCG(7, uint64(n)))
	b := make([]byte, n)
	for i := range b {
		b[i] = byte(source.Uint32())
	}
	return b
}

// greatest tells the greatest number of so many bytes.
func greatest(size int) uint64 { return math.MaxUint64 >> (64 - 8*size) }

// P7.1

func TestWriterOfTheChapter(t *testing.T) {
	w := writer(t, 4)
	fine(t, w.Num(258, 2))
	fine(t, w.Bytes([]byte{7}))
	fine(t, w.Fill(4))
	holds(t, w, []byte{1, 2, 7, 0})
	failed(t, w.Num(256, 1), api.ErrArg)
	writerStays(t, w, api.ErrArg)
}

func TestNewWriter(t *testing.T) {
	for _, room := range []int{0, 1, 2, 255, 256, most - 1, most} {
		w := writer(t, room)
		holds(t, w, nil)
		fine(t, w.Bytes(scattered(room)))
		holds(t, w, scattered(room))
		failed(t, w.Bytes([]byte{1}), api.ErrFull)
	}
	for _, room := range []int{-1, -2, -most, math.MinInt, most + 1, 2 * most, 1 << 32, 1<<32 + 5, math.MaxInt} {
		if octet.NewWriter(room) != nil {
			t.Errorf("there is a writer with room for %d", room)
		}
	}
}

func TestNumLaysTheHighestByteFirst(t *testing.T) {
	for size := 1; size <= 8; size++ {
		for _, n := range []uint64{0, 1, 0x7f, 0x80, 0xff, greatest(size) / 2, greatest(size)/2 + 1, greatest(size) - 1, greatest(size), 0x0102030405060708 >> (64 - 8*size), 0xfedcba9876543210 >> (64 - 8*size)} {
			w := writer(t, 20)
			fine(t, w.Bytes([]byte{9, 8}))
			fine(t, w.Num(n, size))
			eight := binary.BigEndian.AppendUint64(nil, n)
			want := slices.Concat([]byte{9, 8}, eight[8-size:])
			holds(t, w, want)
			fine(t, w.Bytes([]byte{7}))
			holds(t, w, append(want, 7))
		}
	}
}

func TestNumRefusesSizes(t *testing.T) {
	for _, size := range []int{0, 9, 10, 16, 64, -1, -8, math.MinInt, math.MaxInt, 1<<32 + 1, 1<<61 + 1} {
		for _, n := range []uint64{0, 1, math.MaxUint64} {
			w := writer(t, most)
			failed(t, w.Num(n, size), api.ErrArg)
			writerStays(t, w, api.ErrArg)
			// Of several errors it is the first one.
			failed(t, writer(t, 0).Num(n, size), api.ErrArg)
		}
	}
}

func TestNumRefusesNumbersWithoutRoom(t *testing.T) {
	for size := 1; size < 8; size++ {
		for _, n := range []uint64{greatest(size) + 1, greatest(size) + 2, 1 << 63, math.MaxUint64, math.MaxUint64 << (8 * size)} {
			w := writer(t, most)
			failed(t, w.Num(n, size), api.ErrArg)
			writerStays(t, w, api.ErrArg)
			failed(t, writer(t, size-1).Num(n, size), api.ErrArg)
		}
	}
}

func TestNumRefusesMoreThanRoom(t *testing.T) {
	for size := 1; size <= 8; size++ {
		for room := range 12 {
			for have := range room + 1 {
				w := writer(t, room)
				fine(t, w.Bytes(scattered(have)))
				if have+size <= room {
					fine(t, w.Num(5, size))
					continue
				}
				failed(t, w.Num(5, size), api.ErrFull)
				writerStays(t, w, api.ErrFull)
			}
		}
	}
	w := writer(t, most)
	fine(t, w.Fill(most-8))
	fine(t, w.Num(math.MaxUint64, 8))
	failed(t, w.Num(0, 1), api.ErrFull)
}

func TestBytesRefusesMoreThanRoom(t *testing.T) {
	for _, room := range []int{0, 1, 2, 100, most - 1, most} {
		for _, have := range []int{0, 1, room / 2, room - 1, room} {
			if have < 0 || have > room {
				continue
			}
			w := writer(t, room)
			fine(t, w.Bytes(scattered(have)))
			fine(t, w.Bytes(scattered(room-have)))
			fine(t, w.Bytes(nil))
			holds(t, w, slices.Concat(scattered(have), scattered(room-have)))

			w = writer(t, room)
			fine(t, w.Bytes(scattered(have)))
			failed(t, w.Bytes(scattered(room-have+1)), api.ErrFull)
			writerStays(t, w, api.ErrFull)
		}
	}
	failed(t, writer(t, most).Bytes(make([]byte, most+1)), api.ErrFull)
	failed(t, writer(t, most).Bytes(make([]byte, 1<<20)), api.ErrFull)
	// What counts is how many bytes there are, not for how many there is room.
	w := writer(t, 3)
	fine(t, w.Bytes(make([]byte, 3, 100)))
	holds(t, w, make([]byte, 3))
}

func TestFill(t *testing.T) {
	for room := range 10 {
		for have := range room + 1 {
			for to := -2; to < 14; to++ {
				w := writer(t, room)
				b := scattered(have)
				fine(t, w.Bytes(b))
				e := w.Fill(to)
				switch {
				case to < have:
					failed(t, e, api.ErrArg)
					writerStays(t, w, api.ErrArg)
				case to > room:
					failed(t, e, api.ErrFull)
					writerStays(t, w, api.ErrFull)
				default:
					fine(t, e)
					holds(t, w, append(b, make([]byte, to-have)...))
				}
			}
		}
	}
}

func TestFillOfManyBytes(t *testing.T) {
	w := writer(t, most)
	fine(t, w.Fill(0))
	holds(t, w, nil)
	fine(t, w.Fill(most-1))
	fine(t, w.Num(3, 1))
	fine(t, w.Fill(most))
	holds(t, w, append(make([]byte, most-1), 3))
	failed(t, w.Fill(most-1), api.ErrArg)
	for _, to := range []int{most + 1, 1 << 32, 1 << 62, math.MaxInt} {
		failed(t, writer(t, most).Fill(to), api.ErrFull)
		failed(t, writer(t, 0).Fill(to), api.ErrFull)
	}
	for _, to := range []int{-1, -most, math.MinInt} {
		failed(t, writer(t, most).Fill(to), api.ErrArg)
		failed(t, writer(t, 0).Fill(to), api.ErrArg)
	}
}

// Fill lays noughts, though others lay in that memory ahead of it.
func TestFillLaysNoughtsAmongOthers(t *testing.T) {
	w := writer(t, 300)
	want := []byte{}
	for i := range 20 {
		fine(t, w.Bytes(scattered(i+1)))
		want = append(want, scattered(i+1)...)
		fine(t, w.Fill(len(want)+i%4))
		want = append(want, make([]byte, i%4)...)
	}
	holds(t, w, want)
}

func TestAllMayBeAskedAgain(t *testing.T) {
	w := writer(t, 10)
	holds(t, w, nil)
	fine(t, w.Bytes([]byte{1}))
	holds(t, w, []byte{1})
	holds(t, w, []byte{1})
	fine(t, w.Num(2, 2))
	holds(t, w, []byte{1, 0, 2})
}

func TestWriterThatNoCallMade(t *testing.T) {
	var none *octet.Writer
	writerStays(t, none, api.ErrNil)
	writerStays(t, new(octet.Writer), api.ErrNil)
	writerStays(t, octet.NewWriter(-1), api.ErrNil)
	writerStays(t, octet.NewWriter(most+1), api.ErrNil)
}

// The first error is answered, not that of a later call.
func TestFirstErrorOfAWriterStays(t *testing.T) {
	for _, c := range []struct {
		fail func(w *octet.Writer) api.Errno
		want api.Errno
	}{
		{func(w *octet.Writer) api.Errno { return w.Num(256, 1) }, api.ErrArg},
		{func(w *octet.Writer) api.Errno { return w.Num(1, 9) }, api.ErrArg},
		{func(w *octet.Writer) api.Errno { return w.Num(1, 8) }, api.ErrFull},
		{func(w *octet.Writer) api.Errno { return w.Bytes(make([]byte, 4)) }, api.ErrFull},
		{func(w *octet.Writer) api.Errno { return w.Fill(1) }, api.ErrArg},
		{func(w *octet.Writer) api.Errno { return w.Fill(6) }, api.ErrFull},
	} {
		w := writer(t, 5)
		fine(t, w.Bytes([]byte{1, 2}))
		failed(t, c.fail(w), c.want)
		writerStays(t, w, c.want)
	}
}

func TestWritersAreApart(t *testing.T) {
	one, other := writer(t, 5), writer(t, 5)
	fine(t, one.Bytes([]byte{1, 2}))
	fine(t, other.Bytes([]byte{3}))
	failed(t, one.Num(0, 0), api.ErrArg)
	fine(t, other.Num(4, 1))
	holds(t, other, []byte{3, 4})
	holds(t, writer(t, 5), nil)
}

// P7.2

func TestReaderOfTheChapter(t *testing.T) {
	r := reader(t, []byte{1, 2, 7, 0})
	number(t, r, 2, 258)
	taken(t, r, []byte{7})
	stands(t, r, 1, true)
}

func TestNewReader(t *testing.T) {
	for _, size := range []int{0, 1, 2, 255, 256, most - 1, most} {
		r := reader(t, scattered(size))
		stands(t, r, size, size == 0)
		taken(t, r, scattered(size))
		stands(t, r, 0, true)
	}
	for _, size := range []int{most + 1, most + 2, 1 << 20} {
		if octet.NewReader(make([]byte, size)) != nil {
			t.Errorf("there is a reader of %d bytes", size)
		}
	}
	// What counts is how many bytes there are, not for how many there is room.
	stands(t, reader(t, make([]byte, 5, 1<<20)), 5, true)
	for _, b := range [][]byte{nil, {}, scattered(5)[:0]} {
		r := reader(t, b)
		stands(t, r, 0, true)
		taken(t, r, nil)
		_, e := r.Num(1)
		failed(t, e, api.ErrShort)
		readerStays(t, r, api.ErrShort)
	}
}

func TestNumTakesTheHighestByteFirst(t *testing.T) {
	for size := 1; size <= 8; size++ {
		for i := range 200 {
			b := scattered(10 + i)
			r := reader(t, b)
			taken(t, r, b[:2])
			eight := slices.Concat(make([]byte, 8-size), b[2:2+size])
			number(t, r, size, binary.BigEndian.Uint64(eight))
			if r.Left() != len(b)-2-size {
				t.Fatalf("%d bytes: %d are left", size, r.Left())
			}
			taken(t, r, b[2+size:])
		}
		full := slices.Repeat([]byte{255}, size)
		number(t, reader(t, full), size, greatest(size))
		number(t, reader(t, make([]byte, size)), size, 0)
	}
}

func TestReaderNumRefusesSizes(t *testing.T) {
	for _, size := range []int{0, 9, 10, 64, -1, -8, math.MinInt, math.MaxInt, 1<<32 + 1} {
		// Of several errors it is the first one.
		for _, b := range [][]byte{nil, scattered(5), scattered(100)} {
			r := reader(t, b)
			n, e := r.Num(size)
			failed(t, e, api.ErrArg)
			if n != 0 {
				t.Errorf("%d bytes: %d", size, n)
			}
			readerStays(t, r, api.ErrArg)
		}
	}
}

func TestReaderNumRefusesFewBytes(t *testing.T) {
	for size := 1; size <= 8; size++ {
		for have := range 8 {
			for ahead := range 3 {
				r := reader(t, slices.Repeat([]byte{255}, ahead+have))
				taken(t, r, slices.Repeat([]byte{255}, ahead))
				n, e := r.Num(size)
				if size <= have {
					fine(t, e)
					continue
				}
				failed(t, e, api.ErrShort)
				if n != 0 {
					t.Errorf("%d bytes of %d: %d", size, have, n)
				}
				readerStays(t, r, api.ErrShort)
			}
		}
	}
}

func TestReaderBytes(t *testing.T) {
	for have := range 12 {
		for n := -3; n < 15; n++ {
			b := scattered(have + 1)
			r := reader(t, b)
			taken(t, r, b[:1])
			got, e := r.Bytes(n)
			switch {
			case n < 0:
				failed(t, e, api.ErrArg)
				readerStays(t, r, api.ErrArg)
			case n > have:
				failed(t, e, api.ErrShort)
				readerStays(t, r, api.ErrShort)
			default:
				fine(t, e)
				if !slices.Equal(got, b[1:1+n]) || r.Left() != have-n {
					t.Errorf("%d bytes of %d: %x, and %d are left", n, have, got, r.Left())
				}
			}
			if e != api.OK && got != nil {
				t.Errorf("%d bytes of %d: %x beside an error", n, have, got)
			}
		}
	}
}

func TestReaderBytesRefusesNumbersWithoutBounds(t *testing.T) {
	for _, size := range []int{0, 5, most} {
		for _, n := range []int{size + 1, most + 1, 1 << 32, 1 << 62, math.MaxInt} {
			r := reader(t, scattered(size))
			_, e := r.Bytes(n)
			failed(t, e, api.ErrShort)
			readerStays(t, r, api.ErrShort)
		}
		for _, n := range []int{-1, -most, math.MinInt} {
			r := reader(t, scattered(size))
			_, e := r.Bytes(n)
			failed(t, e, api.ErrArg)
			readerStays(t, r, api.ErrArg)
		}
	}
}

func TestDoneLooksAtEachByteThatIsLeft(t *testing.T) {
	for at := range 20 {
		for _, x := range []byte{1, 0x80, 255} {
			b := make([]byte, 20)
			b[at] = x
			r := reader(t, b)
			for i := range b {
				stands(t, r, 20-i, i > at)
				taken(t, r, b[i:i+1])
			}
			stands(t, r, 0, true)
		}
	}
	b := make([]byte, most)
	stands(t, reader(t, b), most, true)
	b[most-1] = 1
	stands(t, reader(t, b), most, false)
}

// Left and Done take nothing.
func TestLeftAndDoneMayBeAskedAgain(t *testing.T) {
	r := reader(t, []byte{0, 0, 5})
	for range 3 {
		stands(t, r, 3, false)
	}
	number(t, r, 3, 5)
	for range 3 {
		stands(t, r, 0, true)
	}
	taken(t, r, nil)
}

func TestReaderThatNoCallMade(t *testing.T) {
	var none *octet.Reader
	readerStays(t, none, api.ErrNil)
	readerStays(t, new(octet.Reader), api.ErrNil)
	readerStays(t, octet.NewReader(make([]byte, most+1)), api.ErrNil)
}

// A reader with an error is not done, though there are noughts alone.
func TestFirstErrorOfAReaderStays(t *testing.T) {
	for _, c := range []struct {
		num  bool
		size int
		want api.Errno
	}{
		{true, 0, api.ErrArg}, {true, 9, api.ErrArg}, {true, 4, api.ErrShort},
		{false, -1, api.ErrArg}, {false, 4, api.ErrShort},
	} {
		r := reader(t, make([]byte, 5))
		taken(t, r, make([]byte, 2))
		stands(t, r, 3, true)
		var e api.Errno
		if c.num {
			_, e = r.Num(c.size)
		} else {
			_, e = r.Bytes(c.size)
		}
		failed(t, e, c.want)
		readerStays(t, r, c.want)
	}
}

func TestReadersAreApart(t *testing.T) {
	b := []byte{1, 2, 3}
	one, other := reader(t, b), reader(t, b)
	number(t, one, 2, 258)
	_, e := one.Num(0)
	failed(t, e, api.ErrArg)
	stands(t, other, 3, false)
	taken(t, other, b)
}

// P7.3

// laid is one thing that was laid down.
type laid struct {
	kind, size int
	n          uint64
	b          []byte
}

// lay lays the thing of a kind behind the others, and tells it.
func lay(t *testing.T, w *octet.Writer, source *rand.Rand, at int) laid {
	t.Helper()
	x := laid{kind: source.IntN(3)}
	switch x.kind {
	case 0:
		x.size = 1 + source.IntN(8)
		x.n = source.Uint64() >> (64 - 8*x.size)
		fine(t, w.Num(x.n, x.size))
	case 1:
		x.size = source.IntN(40)
		x.b = scattered(x.size)
		fine(t, w.Bytes(x.b))
	case 2:
		x.size = source.IntN(5)
		x.b = make([]byte, x.size)
		fine(t, w.Fill(at+x.size))
	}
	return x
}

func TestWhatWasLaidDownComesBack(t *testing.T) {
	for i := range 300 {
		source := rand.New(rand.NewPCG(7, uint64(i)))
		w := writer(t, most)
		things := []laid{}
		at := 0
		for range source.IntN(60) {
			x := lay(t, w, source, at)
			things = append(things, x)
			at += x.size
		}
		b, e := w.All()
		fine(t, e)
		r := reader(t, b)
		for _, x := range things {
			if r.Left() != at {
				t.Fatalf("%d bytes are left, not %d", r.Left(), at)
			}
			if x.kind == 0 {
				number(t, r, x.size, x.n)
			} else {
				taken(t, r, x.b)
			}
			at -= x.size
		}
		stands(t, r, 0, true)
	}
}

func TestAsManyAsThereMayBeComeBack(t *testing.T) {
	w := writer(t, most)
	for i := range most / 2 {
		fine(t, w.Num(uint64(i), 2))
	}
	failed(t, writer(t, most).Fill(most+1), api.ErrFull)
	b, e := w.All()
	fine(t, e)
	r := reader(t, b)
	for i := range most / 2 {
		number(t, r, 2, uint64(i))
	}
	stands(t, r, 0, true)
}

// Bytes that are filled up are done when what was laid down was taken.
func TestFilledUpIsDone(t *testing.T) {
	for size := range 32 {
		w := writer(t, 32)
		b := slices.Repeat([]byte{255}, size)
		fine(t, w.Bytes(b))
		fine(t, w.Fill(32))
		all, e := w.All()
		fine(t, e)
		r := reader(t, all)
		stands(t, r, 32, size == 0)
		taken(t, r, b)
		stands(t, r, 32-size, true)
	}
}

// What holds in all calls: nothing is changed, nothing kept, all is new.

func TestWriterKeepsNothingThatIsHandedIn(t *testing.T) {
	w := writer(t, 300)
	// Behind the bytes stand others of the same memory, which are not the call's.
	room := scattered(100)
	before := slices.Clone(room)
	b := room[:50]
	fine(t, w.Bytes(b))
	fine(t, w.Num(1, 4))
	fine(t, w.Fill(100))
	if !slices.Equal(room, before) {
		t.Error("what was handed in was changed")
	}
	clear(room)
	holds(t, w, slices.Concat(before[:50], []byte{0, 0, 0, 1}, make([]byte, 46)))
}

func TestWhatAWriterAnswersIsNew(t *testing.T) {
	w := writer(t, 300)
	fine(t, w.Bytes(scattered(20)))
	first, e := w.All()
	fine(t, e)
	second, e := w.All()
	fine(t, e)
	clear(second)
	if !slices.Equal(first, scattered(20)) {
		t.Error("what was answered has changed")
	}
	holds(t, w, scattered(20))
	// Nor does what is laid down later stand behind what was answered.
	long := append(first, 1, 2, 3)
	fine(t, w.Bytes([]byte{7, 8, 9}))
	if !slices.Equal(long[20:], []byte{1, 2, 3}) {
		t.Error("what was laid behind the answer has changed")
	}
	holds(t, w, slices.Concat(scattered(20), []byte{7, 8, 9}))
}

func TestReaderKeepsNothingThatIsHandedIn(t *testing.T) {
	b := scattered(50)
	r := reader(t, b)
	got, e := r.Bytes(10)
	fine(t, e)
	r.Num(8)
	if !slices.Equal(b, scattered(50)) {
		t.Error("what was handed in was changed")
	}
	clear(b)
	if !slices.Equal(got, scattered(50)[:10]) {
		t.Error("what was answered has changed")
	}
	stands(t, r, 32, false)
	taken(t, r, scattered(50)[18:])
}

func TestWhatAReaderAnswersIsNew(t *testing.T) {
	b := scattered(50)
	r := reader(t, b)
	first, e := r.Bytes(10)
	fine(t, e)
	clear(first)
	// What is written behind the answer is not what is taken next.
	_ = append(first, slices.Repeat([]byte{255}, 40)...)
	second, e := r.Bytes(10)
	fine(t, e)
	_ = append(second, slices.Repeat([]byte{255}, 30)...)
	if !slices.Equal(second, b[10:20]) || !slices.Equal(b, scattered(50)) {
		t.Error("what was handed in or answered has changed")
	}
	taken(t, r, b[20:])
}
