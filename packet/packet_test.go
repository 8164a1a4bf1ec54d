package packet_test

import (
	"bytes"
	"math/rand"
	"testing"

	"perigee/api"
	"perigee/packet"
)

// ruleSum is P1 to the letter, bit by bit.
func ruleSum(b []byte) int {
	s := 0xFFFF
	for _, c := range b {
		s ^= int(c) * 256
		for range 8 {
			high := s&0x8000 != 0
			s = s * 2 % 65536
			if high {
				s ^= 0x1021
			}
		}
	}
	return s
}

func TestSumOfExample(t *testing.T) {
	wantSame(t, "Sum", packet.Sum([]byte("123456789")), 0x29B1)
	wantSame(t, "Sum of nothing", packet.Sum(nil), 0xFFFF)
	wantSame(t, "Sum of an empty list", packet.Sum([]byte{}), 0xFFFF)
}

func TestSumIsTheRule(t *testing.T) {
	for a := range 256 {
		for b := range 256 {
			l := []byte{byte(a), byte(b)}
			if got, want := packet.Sum(l), ruleSum(l); got != want {
				t.Fatalf("Sum of %x: %x, want %x", l, got, want)
			}
		}
	}
	r := rand.New(rand.NewSource(1))
	for many := range 300 {
		l := randomBytes(r, many)
		if got, want := packet.Sum(l), ruleSum(l); got != want {
			t.Fatalf("Sum of %x: %x, want %x", l, got, want)
		}
	}
}

func TestCheckPacket(t *testing.T) {
	long, tooLong := make([]byte, api.MaxBody), make([]byte, api.MaxBody+1)
	one := []byte{1}
	for _, c := range []struct {
		name string
		p    api.Packet
		want api.Fault
	}{
		{"ordinary", whole(5, 7, "hi"), api.OK},
		{"least", api.Packet{Body: one}, api.OK},
		{"greatest", api.Packet{Stream: 2047, Command: true, Part: 3, Number: 16383, Body: long}, api.OK},
		{"stream below", api.Packet{Stream: -1, Body: one}, api.ErrRange},
		{"stream above", api.Packet{Stream: 2048, Body: one}, api.ErrRange},
		{"part below", api.Packet{Part: -1, Body: one}, api.ErrKind},
		{"part above", api.Packet{Part: 4, Body: one}, api.ErrKind},
		{"number below", api.Packet{Number: -1, Body: one}, api.ErrRange},
		{"number above", api.Packet{Number: 16384, Body: one}, api.ErrRange},
		{"no body", api.Packet{}, api.ErrNone},
		{"empty body", api.Packet{Body: []byte{}}, api.ErrNone},
		{"large body", api.Packet{Body: tooLong}, api.ErrLarge},
		{"stream before part", api.Packet{Stream: -1, Part: 4}, api.ErrRange},
		{"part before number", api.Packet{Part: 4, Number: -1}, api.ErrKind},
		{"number before body", api.Packet{Number: 16384}, api.ErrRange},
		{"number before large body", api.Packet{Number: 16384, Body: tooLong}, api.ErrRange},
	} {
		wantFault(t, c.name, packet.CheckPacket(c.p), c.want)
		b, f := packet.Bytes(c.p)
		wantFault(t, "Bytes: "+c.name, f, c.want)
		if f != api.OK {
			wantEmpty(t, "Bytes: "+c.name, b)
		}
	}
}

func TestBytesOfExample(t *testing.T) {
	b := mustBytes(t, whole(5, 7, "hi"))
	wantSame(t, "Bytes", b, sealed(0x00, 0x05, 0xC0, 0x07, 0x00, 0x03, 0x68, 0x69))
}

func TestBytesHaveEachField(t *testing.T) {
	long := bytes.Repeat([]byte{0xAB}, api.MaxBody)
	b := mustBytes(t, api.Packet{Stream: 0x6A5, Command: true, Part: api.PartLast, Number: 0x2345, Body: long})
	wantSame(t, "head", b[:6], []byte{0x16, 0xA5, 0xA3, 0x45, 0x03, 0xE9})
	wantSame(t, "whole", b, sealed(append([]byte{0x16, 0xA5, 0xA3, 0x45, 0x03, 0xE9}, long...)...))
}

func TestReadOfBytesIsThePacket(t *testing.T) {
	r := rand.New(rand.NewSource(2))
	l := randomPackets(r, 300, api.MaxBody)
	l = append(l, api.Packet{Body: []byte{0}}, api.Packet{Stream: 2047, Command: true, Part: 3, Number: 16383, Body: make([]byte, 1000)})
	for _, p := range l {
		b := mustBytes(t, p)
		for _, behind := range [][]byte{nil, {1}, randomBytes(r, 50)} {
			got, n, f := packet.Read(append(bytes.Clone(b), behind...))
			wantFault(t, "Read", f, api.OK)
			wantSame(t, "Read: how many", n, len(b))
			wantSame(t, "Read", got, p)
		}
	}
}

func TestReadFaults(t *testing.T) {
	for _, c := range []struct {
		name string
		b    []byte
		want api.Fault
	}{
		{"nothing", nil, api.ErrNone},
		{"five bytes of no form", []byte{255, 255, 255, 255, 255}, api.ErrNone},
		{"bit 11 of the stream", sealed(0x08, 0x05, 0xC0, 7, 0, 2, 1), api.ErrForm},
		{"bit 13 of the stream", sealed(0x20, 0x05, 0xC0, 7, 0, 2, 1), api.ErrForm},
		{"bit 15 of the stream", sealed(0x80, 0x05, 0xC0, 7, 0, 2, 1), api.ErrForm},
		{"length 0", sealed(0, 5, 0xC0, 7, 0, 0), api.ErrForm},
		{"length 1: no body", sealed(0, 5, 0xC0, 7, 0, 1), api.ErrForm},
		{"length 1002", sealed(append([]byte{0, 5, 0xC0, 7, 0x03, 0xEA}, make([]byte, 1001)...)...), api.ErrForm},
		{"form before how many there are: stream", []byte{0x08, 5, 0xC0, 7, 0, 3}, api.ErrForm},
		{"form before how many there are: length", []byte{0, 5, 0xC0, 7, 0xFF, 0xFF}, api.ErrForm},
		{"head alone", []byte{0, 5, 0xC0, 7, 0, 3}, api.ErrNone},
		{"one byte too few", sealed(0, 5, 0xC0, 7, 0, 3, 0x68, 0x69)[:9], api.ErrNone},
		{"another sum", []byte{0, 5, 0xC0, 7, 0, 3, 0x68, 0x69, 0, 0}, api.ErrDamaged},
	} {
		p, n, f := packet.Read(c.b)
		wantFault(t, c.name, f, c.want)
		wantEmpty(t, c.name, p)
		wantSame(t, c.name, n, 0)
	}
	_, n, f := packet.Read(sealed(append([]byte{0, 5, 0xC0, 7, 0x03, 0xE9}, make([]byte, 1000)...)...))
	wantFault(t, "length 1001", f, api.OK)
	wantSame(t, "length 1001", n, 1008)
}

func TestFlippedBitIsDamaged(t *testing.T) {
	b := mustBytes(t, whole(5, 7, "hello, ground"))
	for bit := 6 * 8; bit < len(b)*8; bit++ {
		d := bytes.Clone(b)
		d[bit/8] ^= 1 << (bit % 8)
		p, n, f := packet.Read(d)
		wantFault(t, "flipped", f, api.ErrDamaged)
		wantEmpty(t, "flipped", p)
		wantSame(t, "flipped", n, 0)
	}
}
