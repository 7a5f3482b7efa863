package binary

import "cloakroom/api"

// headSize is how many bytes stand ahead of a packet's body: its first byte, its kind, and how long the body is.
const headSize = 6

// Packet is a packet of a first byte, a kind and a body.
func Packet(first, kind uint8, body []byte) ([]byte, api.Errno) {
	if len(body) > api.MaxPacket {
		return nil, api.ErrText
	}
	n := uint32(len(body))
	head := []byte{first, kind, byte(n >> 24), byte(n >> 16), byte(n >> 8), byte(n)}
	return append(head, body...), api.OK
}

// Cut is the kind and the body of the packet that bytes begin with, and how many of them it has; 0, if it is not there whole.
func Cut(first uint8, b []byte) (uint8, []byte, int, api.Errno) {
	if len(b) > api.MaxText {
		return 0, nil, 0, api.ErrText
	}
	kind, body, many, e := cut(first, b)
	// A copy: by a piece of b the caller would write, or grow, into what was handed in.
	return kind, append([]byte(nil), body...), many, e
}

// cut leaves the body where it stands. How long it is counts as soon as that is there: a body that is too long is not waited for.
func cut(first uint8, b []byte) (uint8, []byte, int, api.Errno) {
	switch {
	case len(b) == 0:
		return 0, nil, 0, api.OK
	case b[0] != first:
		return 0, nil, 0, api.ErrBad
	case len(b) < headSize:
		return 0, nil, 0, api.OK
	}
	n := uint32(b[2])<<24 | uint32(b[3])<<16 | uint32(b[4])<<8 | uint32(b[5])
	if n > api.MaxPacket {
		return 0, nil, 0, api.ErrBad
	}
	whole := headSize + int(n)
	if len(b) < whole {
		return 0, nil, 0, api.OK
	}
	return b[1], b[headSize:whole], whole, api.OK
}
