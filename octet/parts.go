package octet

import "pigeonry/api"

// stopped tells the error that stays, also of no writer at all, which has no
// part that could tell it.
func (w *Writer) stopped() api.Errno {
	if w == nil {
		return api.ErrNil
	}
	return w.stays()
}

// lay puts bytes behind the others, all of them or none.
func (w *Writer) lay(b []byte) api.Errno {
	if len(b) > w.room-len(w.laid) {
		return w.fail(api.ErrFull)
	}
	w.laid = append(w.laid, b...)
	return api.OK
}

// stopped tells the error that stays, also of no reader at all.
func (r *Reader) stopped() api.Errno {
	if r == nil {
		return api.ErrNil
	}
	return r.stays()
}

// take tells the next n bytes, of the reader's own memory.
func (r *Reader) take(n int) ([]byte, api.Errno) {
	if n > len(r.left) {
		return nil, r.fail(api.ErrShort)
	}
	b := r.left[:n]
	r.left = r.left[n:]
	return b, api.OK
}

// split tells the lowest bytes of a number, the highest one of them first.
func split(n uint64, size int) []byte {
	b := make([]byte, size)
	for i := range b {
		b[i] = byte(n >> (8 * (size - 1 - i)))
	}
	return b
}

// joined tells the number of some bytes, the highest one first.
func joined(b []byte) uint64 {
	n := uint64(0)
	for _, x := range b {
		n = n<<8 | uint64(x)
	}
	return n
}
