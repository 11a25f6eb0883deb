package field

import "math/bits"

// number is a number in four words, the lowest one first. Those that the
// functions below take and answer are below p, unless they say otherwise.
// Nothing here branches on a number, for in the layers above these are secrets.
type number struct{ w0, w1, w2, w3 uint64 }

// prime tells p.
func prime() number { return number{1<<64 - 19, 1<<64 - 1, 1<<64 - 1, 1<<63 - 1} }

func sum(a, b number) number { return settle(add(a, b)) }

// difference takes p - b as what -b leaves.
func difference(a, b number) number { return settle(add(a, subtract(prime(), b))) }

func product(a, b number) number {
	row, high := multiplyAdd(a, b.w0, number{})
	w0 := row.w0
	row, high = multiplyAdd(a, b.w1, upper(row, high))
	w1 := row.w0
	row, high = multiplyAdd(a, b.w2, upper(row, high))
	w2 := row.w0
	row, high = multiplyAdd(a, b.w3, upper(row, high))
	w3 := row.w0
	// 2^256 leaves 38, so that is how often the upper half counts.
	return settle(multiplyAdd(upper(row, high), 38, number{w0, w1, w2, w3}))
}

// inverse tells a to the power p - 2, by Fermat's little theorem; 0 stays 0.
func inverse(a number) number {
	// p - 2 is 2^255 - 21: of its bits 254 to 0 only those at 4 and 2 are 0.
	r := number{w0: 1}
	for bit := 254; bit >= 0; bit-- {
		r = product(r, r)
		if bit != 4 && bit != 2 {
			r = product(r, a)
		}
	}
	return r
}

// settle tells what is left of low + high 2^256, where low is any number of
// four words and high at most 38.
func settle(low number, high uint64) number {
	// 2^255 leaves 19. What this makes is below 2 p.
	top := high<<1 | low.w3>>63
	low, _ = add(withoutTop(low), number{w0: 19 * top})
	// A number is p or more where 19 more make it 2^255 or more; and then it
	// is, with those 19 and without 2^255, the number less p.
	more, _ := add(low, number{w0: 19})
	low, _ = add(low, number{w0: 19 * (more.w3 >> 63)})
	return withoutTop(low)
}

// withoutTop tells any number without its bit 255.
func withoutTop(a number) number {
	a.w3 &= 1<<63 - 1
	return a
}

// upper tells the upper four words of five.
func upper(low number, high uint64) number { return number{low.w1, low.w2, low.w3, high} }

// add tells the sum of any two numbers, in four words and what is carried.
func add(a, b number) (number, uint64) {
	w0, carry := bits.Add64(a.w0, b.w0, 0)
	w1, carry := bits.Add64(a.w1, b.w1, carry)
	w2, carry := bits.Add64(a.w2, b.w2, carry)
	w3, carry := bits.Add64(a.w3, b.w3, carry)
	return number{w0, w1, w2, w3}, carry
}

// subtract tells a - b, for any a that is not below b.
func subtract(a, b number) number {
	w0, borrow := bits.Sub64(a.w0, b.w0, 0)
	w1, borrow := bits.Sub64(a.w1, b.w1, borrow)
	w2, borrow := bits.Sub64(a.w2, b.w2, borrow)
	w3, _ := bits.Sub64(a.w3, b.w3, borrow)
	return number{w0, w1, w2, w3}
}

// multiplyAdd tells a times a word, and any number more, in five words.
func multiplyAdd(a number, word uint64, more number) (low number, high uint64) {
	w0, high := multiplyWord(a.w0, word, more.w0, 0)
	w1, high := multiplyWord(a.w1, word, more.w1, high)
	w2, high := multiplyWord(a.w2, word, more.w2, high)
	w3, high := multiplyWord(a.w3, word, more.w3, high)
	return number{w0, w1, w2, w3}, high
}

// multiplyWord tells x y + z + carry in two words, which always hold it:
// (2^64 - 1)^2 + 2 (2^64 - 1) = 2^128 - 1.
func multiplyWord(x, y, z, carry uint64) (low, high uint64) {
	high, low = bits.Mul64(x, y)
	low, over := bits.Add64(low, z, 0)
	high += over
	low, over = bits.Add64(low, carry, 0)
	return low, high + over
}
