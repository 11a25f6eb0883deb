package header

import (
	"pigeonry/api"
	"pigeonry/command"
)

// isRoute tells whether a header can lead along hops: all but the last one send
// it on.
func isRoute(hops []Hop) bool {
	if len(hops) < 1 || len(hops) > api.MaxHops {
		return false
	}
	for i, hop := range hops {
		last := i == len(hops)-1
		if !command.May(hop.Cmd) || (hop.Cmd.Kind == command.Forward) == last {
			return false
		}
	}
	return true
}

// firstBeta tells the first hop's beta. It is made from the last one's on, since
// each is hidden in that ahead of it.
func firstBeta(s []api.Key, hops []Hop) Beta {
	last := len(hops) - 1
	b := lastBeta(s, hops[last].Cmd)
	for i := last - 1; i >= 0; i-- {
		b = laid(hops[i].Cmd, Proof(s[i+1], b), b).turned(s[i]).beta()
	}
	return b
}

// lastBeta tells the last hop's beta, with the filler at its end.
func lastBeta(s []api.Key, cmd command.Command) Beta {
	last := len(s) - 1
	b := laid(cmd, api.Tag{}, Beta{}).turned(s[last]).beta()
	f := filler(s[:last])
	copy(b[len(b)-len(f):], f)
	return b
}

// filler tells what hops that share these secrets make of the noughts that they
// lay behind the beta. Nobody can choose it, but the proofs have to hold of it,
// too, so the builder has to know it.
func filler(s []api.Key) []byte {
	var f []byte
	for _, secret := range s {
		f = append(f, make([]byte, api.Block)...)
		by := stream(secret)
		xor(f, by[len(by)-len(f):])
	}
	return f
}
