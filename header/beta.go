package header

import (
	"pigeonry/api"
	"pigeonry/command"
)

// Where the parts of a block end.
const (
	commandEnd = len([16]byte{})
	gammaEnd   = commandEnd + len(api.Tag{})
)

// wide is a beta and a block behind it: turned, it is a hop's command, and the
// next gamma and beta.
type wide [len(Beta{}) + api.Block]byte

// widened tells a beta with a block of noughts, which makes up for the one that
// a hop takes off.
func widened(b Beta) wide {
	var w wide
	copy(w[:], b[:])
	return w
}

// laid tells what a hop has to find. The end of the next beta is lost with the
// block behind this one: the hop makes that again.
func laid(cmd command.Command, gamma api.Tag, b Beta) wide {
	var w wide
	// Of a route all commands have bytes.
	first, _ := command.Encode(cmd)
	copy(w[:], first[:])
	copy(w[commandEnd:], gamma[:])
	copy(w[gammaEnd:], b[:])
	return w
}

// turned tells what is hidden by a shared secret, and what was hidden.
func (w wide) turned(s api.Key) wide {
	by := stream(s)
	xor(w[:], by[:])
	return w
}

func (w wide) beta() Beta         { return Beta(w[:len(Beta{})]) }
func (w wide) command() [16]byte  { return [16]byte(w[:commandEnd]) }
func (w wide) nextGamma() api.Tag { return api.Tag(w[commandEnd:gammaEnd]) }
func (w wide) nextBeta() Beta     { return Beta(w[gammaEnd:]) }

// xor turns bytes by as many others.
func xor(b, by []byte) {
	for i, x := range by {
		b[i] ^= x
	}
}
