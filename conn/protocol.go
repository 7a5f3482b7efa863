package conn

import (
	"cloakroom/api"
	"cloakroom/binary"
	"cloakroom/packed"
	"cloakroom/text"
	"cloakroom/words"
)

// Which protocol a connection has, by its Proto.
const (
	noneYet   = 0
	inLines   = 1
	inPackets = 2
)

// mark is the first byte of each request's packet, which tells the protocol of all that comes behind.
const mark = 177

// A protocol tells the first request of bytes, and how many of them it has (0, if none is there whole), and writes answers. What a connection may have to be read is never too much for either one.
type protocol interface {
	first(b []byte) (api.Request, int)
	write(a api.Answer) ([]byte, api.Errno)
}

type lines struct{}

func (lines) first(b []byte) (api.Request, int) {
	r, many, _ := text.Next(b)
	return r, many
}

func (lines) write(a api.Answer) ([]byte, api.Errno) {
	return words.Write(a)
}

type packets struct{}

func (packets) first(b []byte) (api.Request, int) {
	r, many, _ := binary.Next(b)
	return r, many
}

func (packets) write(a api.Answer) ([]byte, api.Errno) {
	return packed.Write(a)
}

// protocolOf is lines also while none is told yet, as somebody may be pushed to ahead of a first byte.
func protocolOf(proto uint8) protocol {
	if proto == inPackets {
		return packets{}
	}
	return lines{}
}

// told is the protocol of bytes, of which there is one at least.
func told(b []byte) uint8 {
	if b[0] == mark {
		return inPackets
	}
	return inLines
}
