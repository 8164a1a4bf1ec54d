package packet_test

import (
	"bytes"
	"math/rand"
	"reflect"
	"testing"

	"perigee/api"
	"perigee/packet"
)

func wantFault(t *testing.T, name string, got, want api.Fault) {
	t.Helper()
	if got != want {
		t.Errorf("%s: fault %d, want %d", name, got, want)
	}
}

func wantSame(t *testing.T, name string, got, want any) {
	t.Helper()
	if !reflect.DeepEqual(got, want) {
		t.Errorf("%s: got %v, want %v", name, got, want)
	}
}

// wantEmpty accepts nil and empty lists alike.
func wantEmpty(t *testing.T, name string, got any) {
	t.Helper()
	v := reflect.ValueOf(got)
	if v.Kind() == reflect.Slice && v.Len() > 0 || v.Kind() != reflect.Slice && !v.IsZero() {
		t.Errorf("%s: got %v, want nothing", name, got)
	}
}

func wantPackets(t *testing.T, name string, got, want []api.Packet) {
	t.Helper()
	if len(got) != len(want) {
		t.Errorf("%s: %d packets, want %d", name, len(got), len(want))
		return
	}
	for i := range got {
		wantSame(t, name, got[i], want[i])
	}
}

func whole(stream, number int, body string) api.Packet {
	return piece(stream, api.PartWhole, number, body)
}

func piece(stream, part, number int, body string) api.Packet {
	return api.Packet{Stream: stream, Part: part, Number: number, Body: []byte(body)}
}

func mustBytes(t *testing.T, p api.Packet) []byte {
	t.Helper()
	b, f := packet.Bytes(p)
	wantFault(t, "Bytes", f, api.OK)
	return b
}

func mustPacked(t *testing.T, number, size int, l []api.Packet) []api.Frame {
	t.Helper()
	frames, f := packet.Packed(3, 1, number, size, l)
	wantFault(t, "Packed", f, api.OK)
	return frames
}

func mustStream(t *testing.T, l []api.Frame, size int) []byte {
	t.Helper()
	b, f := packet.Stream(l, size)
	wantFault(t, "Stream", f, api.OK)
	return b
}

// sealed returns bytes with the right sum behind.
func sealed(b ...byte) []byte {
	s := packet.Sum(b)
	return append(bytes.Clone(b), byte(s>>8), byte(s))
}

func randomBytes(r *rand.Rand, many int) []byte {
	b := make([]byte, many)
	r.Read(b)
	return b
}

func randomPackets(r *rand.Rand, many, most int) []api.Packet {
	var l []api.Packet
	for range many {
		l = append(l, api.Packet{
			Stream:  r.Intn(api.IdleStream),
			Command: r.Intn(2) == 0,
			Part:    r.Intn(4),
			Number:  r.Intn(api.MaxNumber + 1),
			Body:    randomBytes(r, 1+r.Intn(most)),
		})
	}
	return l
}
