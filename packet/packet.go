// Package packet makes and reads packets and frames, divides messages into packets and joins them again, and finds frames in a stream of bytes.
package packet

import (
	"slices"

	"perigee/api"
	"perigee/bigend"
)

// Packets and frames alike have six bytes before their contents and the sum behind.
const (
	headSize = 6
	sumSize  = 2
	around   = headSize + sumSize
)

const commandBit = 4096

// Sum returns the CRC of bytes with the polynomial x^16 + x^12 + x^5 + 1 and the beginning FFFF.
func Sum(b []byte) int {
	s := uint16(0xFFFF)
	for _, c := range b {
		// The eight doublings of a byte at once: each bit that leaves at the top comes back at the places 12, 5 and 0, and those of the upper four bits that come back at 12 leave once more.
		out := s>>8 ^ uint16(c)
		out ^= out >> 4
		s = s<<8 ^ out<<12 ^ out<<5 ^ out
	}
	return int(s)
}

// CheckPacket returns what is wrong with a packet.
func CheckPacket(p api.Packet) api.Fault {
	switch {
	case p.Stream < 0 || p.Stream > api.IdleStream:
		return api.ErrRange
	case p.Part < api.PartMiddle || p.Part > api.PartWhole:
		return api.ErrKind
	case p.Number < 0 || p.Number > api.MaxNumber:
		return api.ErrRange
	case len(p.Body) == 0:
		return api.ErrNone
	case len(p.Body) > api.MaxBody:
		return api.ErrLarge
	}
	return api.OK
}

func checkPackets(l []api.Packet) api.Fault {
	if len(l) > api.MaxPackets {
		return api.ErrLarge
	}
	for _, p := range l {
		if f := CheckPacket(p); f != api.OK {
			return f
		}
	}
	return api.OK
}

// Bytes returns the bytes of a packet.
func Bytes(p api.Packet) ([]byte, api.Fault) {
	if f := CheckPacket(p); f != api.OK {
		return nil, f
	}
	return packetBytes(p), api.OK
}

func packetBytes(p api.Packet) []byte {
	kind := p.Stream
	if p.Command {
		kind += commandBit
	}
	b := make([]byte, 0, packetSize(p))
	b = appendTwo(b, kind)
	b = appendTwo(b, p.Part<<14|p.Number)
	b = appendTwo(b, len(p.Body)+1)
	b = append(b, p.Body...)
	return appendTwo(b, Sum(b))
}

func packetSize(p api.Packet) int { return around + len(p.Body) }

// Read returns the packet at the beginning of bytes, and how many of them it has.
func Read(b []byte) (api.Packet, int, api.Fault) {
	if len(b) < headSize {
		return api.Packet{}, 0, api.ErrNone
	}
	kind, place, body := two(b), two(b[2:]), two(b[4:])-1
	if kind&^(commandBit|api.IdleStream) != 0 || body < 1 || body > api.MaxBody {
		return api.Packet{}, 0, api.ErrForm
	}
	size := around + body
	if len(b) < size {
		return api.Packet{}, 0, api.ErrNone
	}
	if !intact(b[:size]) {
		return api.Packet{}, 0, api.ErrDamaged
	}
	return api.Packet{
		Stream:  kind & api.IdleStream,
		Command: kind&commandBit != 0,
		Part:    place >> 14,
		Number:  place & api.MaxNumber,
		Body:    slices.Clone(b[headSize : headSize+body]),
	}, size, api.OK
}

// intact says whether the last two bytes are the sum of all before them.
func intact(b []byte) bool {
	end := len(b) - sumSize
	return Sum(b[:end]) == two(b[end:])
}

func appendTwo(b []byte, n int) []byte { return bigend.Append(b, n, 2) }

func two(b []byte) int { return bigend.Number(b[:2]) }

// following returns what comes behind n in numbers from 0 to most that go around.
func following(n, most int) int { return (n + 1) % (most + 1) }
