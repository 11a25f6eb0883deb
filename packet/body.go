package packet

import (
	"slices"

	"pigeonry/api"
	"pigeonry/command"
	"pigeonry/header"
	"pigeonry/lion"
)

// leadSize is how many noughts stand ahead of a room. Whatever is changed in a
// locked body changes all of it: these tell that nothing was.
const leadSize = api.BodySize - api.RoomSize

// bodyOf tells the body of a room.
func bodyOf(room []byte) []byte { return slices.Concat(make([]byte, leadSize), room) }

// roomOf tells the room of a body, if it is the body of one.
func roomOf(body []byte) ([]byte, api.Errno) {
	if [leadSize]byte(body) != [leadSize]byte{} {
		return nil, api.ErrForm
	}
	return body[leadSize:], api.OK
}

// locked tells a body, locked once more: lion refuses no block of its size.
func locked(key api.Key, body []byte) []byte {
	b, _ := lion.Lock(key, body)
	return b
}

// unlocked tells a body of which one lock is undone, likewise.
func unlocked(key api.Key, body []byte) []byte {
	b, _ := lion.Unlock(key, body)
	return b
}

// joined tells a packet of its parts.
func joined(h header.Header, body []byte) []byte { return slices.Concat(header.Encode(h), body) }

// found tells what a hop finds behind its layer of a body.
func found(step header.Step, body []byte) (Peeled, api.Errno) {
	x := Peeled{Cmd: step.Cmd, Tag: step.Tag}
	switch step.Cmd.Kind {
	case command.Forward:
		x.Next = joined(step.Next, body)
	case command.Deliver:
		room, err := roomOf(body)
		if err != api.OK {
			return Peeled{}, err
		}
		x.Room = room
	case command.Reply:
		// What a reply carries is still locked, by keys that no hop has: none can
		// tell whether it is whole.
		x.Room = body
	}
	return x, api.OK
}
