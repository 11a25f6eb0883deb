package header

import (
	"pigeonry/api"
	"pigeonry/chacha"
	"pigeonry/curve"
	"pigeonry/hmac"
)

// secrets tells what a builder with that first alpha shares with each hop, or
// that a point is nought.
func secrets(secret, alpha api.Key, hops []Hop) ([]api.Key, api.Errno) {
	// Each hop blinds the alpha that it sends on, so that what the next one
	// shares with the builder is its key times all blindings ahead of it, too.
	factors := []api.Key{secret}
	var all []api.Key
	for _, hop := range hops {
		s, err := curve.Chain(hop.Key, factors)
		if err != api.OK {
			return nil, err
		}
		b := blinding(s, alpha)
		alpha, err = curve.Shared(b, alpha)
		if err != api.OK {
			return nil, err
		}
		all = append(all, s)
		factors = append(factors, b)
	}
	return all, api.OK
}

// blinding tells by what an alpha is multiplied where it is sent on, so that
// nobody sees that it was the one that came.
func blinding(s, alpha api.Key) api.Key { return hmac.Mac(s[:], alpha[:]) }

// tag tells by what a packet of a shared secret is known again.
func tag(s api.Key) api.Tag { return hmac.Short(hmac.Derive(s, "tau")) }

// stream tells the bytes by which a hop turns what is wide.
func stream(s api.Key) wide {
	var w wide
	// A nonce of noughts will do, as long as no secret builds two headers.
	b, _ := chacha.Stream(hmac.Derive(s, "rho"), chacha.Nonce{}, 0, len(w))
	copy(w[:], b)
	return w
}
