package curve

import (
	"pigeonry/api"
	"pigeonry/field"
)

// fraction is a point as x by z, so that only the last step has to divide; z
// is 0 where there is no such point.
type fraction struct{ x, z api.Key }

// pointOf tells the point of a key.
func pointOf(u api.Key) api.Key {
	u[31] &^= 128
	return field.Canon(u)
}

// unlessNought refuses the point 0. A point is below p, so nought has no other
// bytes than these.
func unlessNought(point api.Key) (api.Key, api.Errno) {
	if point == (api.Key{}) {
		return api.Key{}, api.ErrZero
	}
	return point, api.OK
}

// times tells a point times a scalar. It takes the same steps for all scalars,
// since these are secrets.
func times(point, scalar api.Key) api.Key {
	// With n as the bits so far, these are the point n times and n + 1 times.
	this, next := fraction{x: api.Key{1}}, fraction{point, api.Key{1}}
	for bit := 254; bit >= 0; bit-- {
		set := scalar[bit/8] >> (bit % 8) & 1
		this, next = swapIf(set, this, next)
		this, next = twice(this), sum(this, next, point)
		this, next = swapIf(set, this, next)
	}
	return field.Mul(this.x, field.Inv(this.z))
}

// swapIf tells a and b, in the other order if set is 1.
func swapIf(set byte, a, b fraction) (fraction, fraction) {
	mask := -set
	for i := range a.x {
		x, z := (a.x[i]^b.x[i])&mask, (a.z[i]^b.z[i])&mask
		a.x[i] ^= x
		b.x[i] ^= x
		a.z[i] ^= z
		b.z[i] ^= z
	}
	return a, b
}

// twice tells a point added to itself.
func twice(a fraction) fraction {
	more, less := square(field.Add(a.x, a.z)), square(field.Sub(a.x, a.z))
	apart := field.Sub(more, less)
	// The curve's own number, (486662 - 2) / 4 = 121665, lowest byte first.
	scaled := field.Mul(api.Key{0x41, 0xdb, 0x01}, apart)
	return fraction{field.Mul(more, less), field.Mul(apart, field.Add(more, scaled))}
}

// sum tells the sum of two points of which one less the other is the point apart.
func sum(a, b fraction, apart api.Key) fraction {
	d := field.Mul(field.Sub(b.x, b.z), field.Add(a.x, a.z))
	c := field.Mul(field.Add(b.x, b.z), field.Sub(a.x, a.z))
	return fraction{square(field.Add(d, c)), field.Mul(apart, square(field.Sub(d, c)))}
}

func square(a api.Key) api.Key { return field.Mul(a, a) }
